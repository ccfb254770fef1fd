/-
  What the law knows of the program, and regions.
-/
import Derived.Test.YtchogpgifdkhbaaRyV
import Derived.Test.YtchogpgifdkhbaaRxO
import Derived.Test.YtchogpgifdkhbaaRyK
import Derived.Test.YtchogpgifdkhbaaRyM
import Derived.Test.YtchogpgifdkhbaaRyH
import Derived.Test.YtchogpgifdkhbaaProg
namespace Go.Proofs.Ytchogpgifdkhbaa
open Go.RowKit
set_option linter.unusedVariables false
set_option linter.unusedSimpArgs false
set_option linter.unusedSectionVars false
set_option maxRecDepth 100000
set_option maxHeartbeats 4000000
abbrev cu8 (x : BitVec 8) : List Value := [.int .u8 (nn x)]
theorem cu8_len (x : BitVec 8) : (cu8 x).length = 1 := rfl
theorem cu8_one (x : BitVec 8) : ((cu8 x).all fun u => u.oneCell') = true := rfl
noncomputable def zr33 : Value := (Try.prog.info? 5).bind TypeInfo.zero |>.getD undef
theorem rt33 : RowT Try.prog 33 5 ((Try.prog.info? 5).getD default) zr33 1 1 := ⟨by kernel_rfl, by kernel_rfl, by kernel_rfl, by kernel_rfl, by kernel_rfl, by kernel_rfl, by decide⟩
structure Xr71 where
  fwrite : Bool
  fhidden : Int
  fdead : Bool
abbrev c_Xr71 (x : Xr71) : List Value := [.bool (x.fwrite), .int .i64 (x.fhidden), .bool (x.fdead)]
structure Me42 where
  fk : ByteArray
  fv : Int
abbrev c_Me42 (x : Me42) : List Value := [.string x.fk, .int .i64 (x.fv)]
def kv_Me42 (x : Me42) : Value := .string x.fk
def vv_Me42 (x : Me42) : Value := .int .i64 (x.fv)
def sq0_region_New   : Spc := ⟨fun ls => .call 6 #[], fun ls => [], 2, .normal, fun ls => [.pointer (some ⟨(lget ls 0).n, 0, none⟩)], fun ls => [], fun ls => [.cells #[.map (some (lget ls 1).n), .int .i64 (0)] 50, .map #[] 0]⟩
section
variable {M : Nat → Prop} {B0 : Nat} {S : World → Prop} (hU : Up M B0 S)
include hU
theorem p0_region_New : SpcG Try.prog M B0 S (sq0_region_New  ) :=
  fn_specG hU (P := Try.prog) Try.func6 (fun xs w => by kernel_rfl) 0 _ _ (fun _ => rfl) _ _ _ [1, 0]
    [.o, .o, .o, .o, .o]
    [] (fun b => by kernel_rfl)
theorem ok_object_within : ConG Try.prog S 20 #[.int .i64 (1), .int .i64 (1), .int .i64 (16)] (.bool true) :=
  fn_conG hU (P := Try.prog) Try.func20 (fun xs w => by kernel_rfl) [.int .i64 (1), .int .i64 (1), .int .i64 (16)] (.bool true)
    [.o, .o, .o, .o, .o, .o, .o, .o, .o, .o]
    [] (fun b => by kernel_rfl)
theorem ok_object_within_v1 : ConG Try.prog S 20 #[.int .i64 (1), .int .i64 (1), .int .i64 (256)] (.bool true) :=
  fn_conG hU (P := Try.prog) Try.func20 (fun xs w => by kernel_rfl) [.int .i64 (1), .int .i64 (1), .int .i64 (256)] (.bool true)
    [.o, .o, .o, .o, .o, .o, .o, .o, .o, .o]
    [] (fun b => by kernel_rfl)
theorem ok_object_within_v2 : ConG Try.prog S 20 #[.int .i64 (1), .int .i64 (1), .int .i64 (64)] (.bool true) :=
  fn_conG hU (P := Try.prog) Try.func20 (fun xs w => by kernel_rfl) [.int .i64 (1), .int .i64 (1), .int .i64 (64)] (.bool true)
    [.o, .o, .o, .o, .o, .o, .o, .o, .o, .o]
    [] (fun b => by kernel_rfl)
theorem ok_object_rightValue : ConG Try.prog S 19 #[.agg #[.int .i64 (2), .int .i64 (1), .int .i64 (1), .int .i64 (1), .bool false, .int .i64 (0)], .slice none 0 0] (.bool true) :=
  fn_conG hU (P := Try.prog) Try.func19 (fun xs w => by kernel_rfl) [.agg #[.int .i64 (2), .int .i64 (1), .int .i64 (1), .int .i64 (1), .bool false, .int .i64 (0)], .slice none 0 0] (.bool true)
    [.o, .o, .o, .a 0, .cg (ok_object_within_v1 hU  ), .o, .o, .o, .a 0, .o, .o, .o, .o, .o, .a 0, .cg (ok_object_within_v2 hU  ), .o, .o, .o, .a 0, .o, .o]
    [] (fun b => by kernel_rfl)
theorem ok_object_Def : ConG Try.prog S 10 #[.agg #[.int .i64 (2), .int .i64 (1), .int .i64 (1), .int .i64 (1), .bool false, .int .i64 (0)], .slice none 0 0] (.int .i64 (0)) :=
  fn_conG hU (P := Try.prog) Try.func10 (fun xs w => by kernel_rfl) [.agg #[.int .i64 (2), .int .i64 (1), .int .i64 (1), .int .i64 (1), .bool false, .int .i64 (0)], .slice none 0 0] (.int .i64 (0))
    [.o, .o, .o, .o, .a 0, .o, .o, .o, .o, .o, .a 0, .cg (ok_object_within hU  ), .o, .a 0, .o, .cg (ok_object_rightValue hU  ), .o, .o, .o, .o, .o]
    [] (fun b => by kernel_rfl)
def sq0_maps_New   : Spc := ⟨fun ls => .call 5 #[.agg #[.int .i64 (2), .int .i64 (1), .int .i64 (1), .int .i64 (1), .bool false, .int .i64 (0)], .pointer (some ⟨(lget ls 0).n, 0, none⟩)], fun ls => [.cells #[.map (some (lget ls 1).n), .int .i64 (0)] 50, .map #[] 0], 2, .normal, fun ls => [.tuple #[.pointer (some ⟨(lget ls 2).n, 0, none⟩), .int .i64 (0)]], fun ls => [.cells #[.map (some (lget ls 1).n), .int .i64 (0)] 50, .map #[] 0], fun ls => [.cells #[.int .i64 (2), .int .i64 (1), .int .i64 (1), .int .i64 (1), .bool false, .int .i64 (0), .pointer (some ⟨(lget ls 0).n, 0, none⟩), .map (some (lget ls 3).n), .slice none 0 0] 45, .map #[] 0]⟩
theorem p0_maps_New : SpcG Try.prog M B0 S (sq0_maps_New  ) :=
  fn_specG hU (P := Try.prog) Try.func5 (fun xs w => by kernel_rfl) 2 _ _ (fun _ => rfl) _ _ _ [4, 3]
    [.o, .o, .o, .o, .a 2, .a 2, .cg (ok_object_Def hU  ), .o, .o, .o, .a 2, .o, .o, .a 2, .o, .o, .o, .o, .o, .o, .a 2, .o, .o, .o, .o, .o, .a 2, .o, .o, .o, .o, .o, .o, .o, .o, .o, .o]
    [] (fun b => by kernel_rfl)
def sq0_maps_Map_checkKey   : Spc := ⟨fun ls => .call 13 #[.pointer (some ⟨(lget ls 0).n, 0, none⟩), .slice (some ⟨(lget ls 4).n, 0, none⟩) 1 1], fun ls => [.cells #[.int .i64 (2), .int .i64 (1), .int .i64 (1), .int .i64 (1), .bool false, .int .i64 (0), .pointer (some ⟨(lget ls 1).n, 0, none⟩), .map (some (lget ls 3).n), .slice none 0 0] 45, .cells #[.map (some (lget ls 2).n), .int .i64 (0)] 50, .map #[] 0, .map #[] 0, .cells #[.int .u8 (1)] 5], 0, .normal, fun ls => [.int .i64 (0)], fun ls => [.cells #[.int .i64 (2), .int .i64 (1), .int .i64 (1), .int .i64 (1), .bool false, .int .i64 (0), .pointer (some ⟨(lget ls 1).n, 0, none⟩), .map (some (lget ls 3).n), .slice none 0 0] 45, .cells #[.map (some (lget ls 2).n), .int .i64 (0)] 50, .map #[] 0, .map #[] 0, .cells #[.int .u8 (1)] 5], fun ls => []⟩
theorem p0_maps_Map_checkKey : SpcG Try.prog M B0 S (sq0_maps_Map_checkKey  ) :=
  fn_specG hU (P := Try.prog) Try.func13 (fun xs w => by kernel_rfl) 5 _ _ (fun _ => rfl) _ _ _ []
    [.o, .o, .o, .o, .o, .a 0, .o, .o, .o, .o, .o, .o, .o, .o, .o, .o, .a 0, .o, .o]
    [] (fun b => by kernel_rfl)
def sq0_maps_Map_checkUpdate   : Spc := ⟨fun ls => .call 14 #[.pointer (some ⟨(lget ls 0).n, 0, none⟩), .bool false, .int .u64 (0)], fun ls => [.cells #[.int .i64 (2), .int .i64 (1), .int .i64 (1), .int .i64 (1), .bool false, .int .i64 (0), .pointer (some ⟨(lget ls 1).n, 0, none⟩), .map (some (lget ls 3).n), .slice none 0 0] 45, .cells #[.map (some (lget ls 2).n), .int .i64 (0)] 50, .map #[] 0, .map #[] 0], 0, .normal, fun ls => [.int .i64 (0)], fun ls => [.cells #[.int .i64 (2), .int .i64 (1), .int .i64 (1), .int .i64 (1), .bool false, .int .i64 (0), .pointer (some ⟨(lget ls 1).n, 0, none⟩), .map (some (lget ls 3).n), .slice none 0 0] 45, .cells #[.map (some (lget ls 2).n), .int .i64 (0)] 50, .map #[] 0, .map #[] 0], fun ls => []⟩
theorem p0_maps_Map_checkUpdate : SpcG Try.prog M B0 S (sq0_maps_Map_checkUpdate  ) :=
  fn_specG hU (P := Try.prog) Try.func14 (fun xs w => by kernel_rfl) 4 _ _ (fun _ => rfl) _ _ _ []
    [.o, .o, .o, .o, .o, .o, .o, .o, .o, .o, .o, .a 0, .o, .o, .o, .o, .o, .o, .o, .o, .o, .o, .o, .o, .o, .o, .r [0, 1, 2, 3, 4, 5, 6, 7, 8, 9, 10, 11, 12, 13, 14, 15] [] [], .o, .o, .o, .o, .o, .o, .a 0, .a 3, .o, .o, .o, .o, .a 0, .o, .o, .o, .o]
    [] (fun b => by kernel_rfl)
def sq0_maps_Map_hidden   : Spc := ⟨fun ls => .call 16 #[.pointer (some ⟨(lget ls 0).n, 0, none⟩)], fun ls => [.cells #[.int .i64 (2), .int .i64 (1), .int .i64 (1), .int .i64 (1), .bool false, .int .i64 (0), .pointer (some ⟨(lget ls 1).n, 0, none⟩), .map (some (lget ls 3).n), .slice none 0 0] 45, .cells #[.map (some (lget ls 2).n), .int .i64 (0)] 50, .map #[] 0, .map #[] 0], 0, .normal, fun ls => [.int .i64 (0)], fun ls => [.cells #[.int .i64 (2), .int .i64 (1), .int .i64 (1), .int .i64 (1), .bool false, .int .i64 (0), .pointer (some ⟨(lget ls 1).n, 0, none⟩), .map (some (lget ls 3).n), .slice none 0 0] 45, .cells #[.map (some (lget ls 2).n), .int .i64 (0)] 50, .map #[] 0, .map #[] 0], fun ls => []⟩
theorem p0_maps_Map_hidden : SpcG Try.prog M B0 S (sq0_maps_Map_hidden  ) :=
  fn_specG hU (P := Try.prog) Try.func16 (fun xs w => by kernel_rfl) 4 _ _ (fun _ => rfl) _ _ _ []
    [.o, .o, .o, .o, .o, .a 0, .o]
    [] (fun b => by kernel_rfl)
def sq0_slices_Clone_byte_byte   : Spc := ⟨fun ls => .call 25 #[.slice (some ⟨(lget ls 0).n, 0, none⟩) 1 1], fun ls => [.cells #[.int .u8 (5)] 5], 1, .normal, fun ls => [(rowV (lget ls 1) 1 1)], fun ls => [.cells #[.int .u8 (5)] 5], fun ls => [rowO (lget ls 1) [.int .u8 (5)] 5 1 1]⟩
theorem p0_slices_Clone_byte_byte : SpcG Try.prog M B0 S (sq0_slices_Clone_byte_byte  ) :=
  fn_specG hU (P := Try.prog) Try.func25 (fun xs w => by kernel_rfl) 1 _ _ (fun _ => rfl) _ _ _ [2]
    [.o, .o, .o, .o, .o, .x (sqAppL_ok (ty := 33) rt33 #[false, false] (f := cu8) (N := 0) (A := (fun _ => 0#8)) (c := 1) [5#8] (T' := 5) .plain cu8_len cu8_one (by decide) rfl (by decide)) [1, 0], .o]
    [] (fun b => by kernel_rfl)
def sq0_region_Mem_add   : Spc := ⟨fun ls => .call 27 #[.pointer (some ⟨(lget ls 0).n, 0, none⟩), .iface 65 (.pointer (some ⟨(lget ls 2).n, 0, none⟩))], fun ls => [.cells #[.map (some (lget ls 1).n), .int .i64 (0)] 50, .map #[] 0, .cells #[(rowV (lget ls 3) 1 1), .bool true, .int .i64 (0), .bool false] 71, rowO (lget ls 3) [.int .u8 (5)] 5 1 1], 0, .normal, fun ls => [.int .i64 (1)], fun ls => [.cells #[.map (some (lget ls 1).n), .int .i64 (1)] 50, .map #[⟨.int .i64 (1), .iface 65 (.pointer (some ⟨(lget ls 2).n, 0, none⟩)), 0⟩] 1, .cells #[(rowV (lget ls 3) 1 1), .bool true, .int .i64 (0), .bool false] 71, rowO (lget ls 3) [.int .u8 (5)] 5 1 1], fun ls => []⟩
theorem p0_region_Mem_add : SpcG Try.prog M B0 S (sq0_region_Mem_add  ) :=
  fn_specG hU (P := Try.prog) Try.func27 (fun xs w => by kernel_rfl) 4 _ _ (fun _ => rfl) _ _ _ []
    [.o, .o, .o, .o, .a 0, .o, .o, .o, .a 0, .r [0, 1, 2, 3, 4, 5, 6, 7, 8] [] [9], .o, .o, .o, .a 0, .o, .o, .o, .a 0, .o, .a 1, .o, .o, .o, .a 0, .o]
    [] (fun b => by kernel_rfl)
def sq0_region_Mem_Add   : Spc := ⟨fun ls => .call 22 #[.pointer (some ⟨(lget ls 0).n, 0, none⟩), .slice (some ⟨(lget ls 2).n, 0, none⟩) 1 1, .bool true, .int .i64 (0)], fun ls => [.cells #[.map (some (lget ls 1).n), .int .i64 (0)] 50, .map #[] 0, .cells #[.int .u8 (5)] 5], 2, .normal, fun ls => [.int .i64 (1)], fun ls => [.cells #[.map (some (lget ls 1).n), .int .i64 (1)] 50, .map #[⟨.int .i64 (1), .iface 65 (.pointer (some ⟨(lget ls 3).n, 0, none⟩)), 0⟩] 1, .cells #[.int .u8 (5)] 5], fun ls => [.cells #[(rowV (lget ls 4) 1 1), .bool true, .int .i64 (0), .bool false] 71, rowO (lget ls 4) [.int .u8 (5)] 5 1 1]⟩
theorem p0_region_Mem_Add : SpcG Try.prog M B0 S (sq0_region_Mem_Add  ) :=
  fn_specG hU (P := Try.prog) Try.func22 (fun xs w => by kernel_rfl) 3 _ _ (fun _ => rfl) _ _ _ [4, 3]
    [.o, .o, .o, .o, .o, .o, .o, .o, .o, .xg (p0_slices_Clone_byte_byte hU  ) [2], .o, .o, .o, .o, .o, .xg (p0_region_Mem_add hU  ) [0, 1, 4, 3], .o]
    [] (fun b => by kernel_rfl)
def sq0_maps_Map_add   : Spc := ⟨fun ls => .call 11 #[.pointer (some ⟨(lget ls 0).n, 0, none⟩), .slice (some ⟨(lget ls 4).n, 0, none⟩) 1 1], fun ls => [.cells #[.int .i64 (2), .int .i64 (1), .int .i64 (1), .int .i64 (1), .bool false, .int .i64 (0), .pointer (some ⟨(lget ls 1).n, 0, none⟩), .map (some (lget ls 3).n), .slice none 0 0] 45, .cells #[.map (some (lget ls 2).n), .int .i64 (0)] 50, .map #[] 0, .map #[] 0, .cells #[.int .u8 (5)] 5], 2, .normal, fun ls => [.int .i64 (1)], fun ls => [.cells #[.int .i64 (2), .int .i64 (1), .int .i64 (1), .int .i64 (1), .bool false, .int .i64 (0), .pointer (some ⟨(lget ls 1).n, 0, none⟩), .map (some (lget ls 3).n), .slice none 0 0] 45, .cells #[.map (some (lget ls 2).n), .int .i64 (1)] 50, .map #[⟨.int .i64 (1), .iface 65 (.pointer (some ⟨(lget ls 5).n, 0, none⟩)), 0⟩] 1, .map #[] 0, .cells #[.int .u8 (5)] 5], fun ls => [.cells #[(rowV (lget ls 6) 1 1), .bool true, .int .i64 (0), .bool false] 71, rowO (lget ls 6) [.int .u8 (5)] 5 1 1]⟩
theorem p0_maps_Map_add : SpcG Try.prog M B0 S (sq0_maps_Map_add  ) :=
  fn_specG hU (P := Try.prog) Try.func11 (fun xs w => by kernel_rfl) 5 _ _ (fun _ => rfl) _ _ _ [6, 7]
    [.o, .o, .o, .o, .o, .r [] [] [], .o, .o, .xg (p0_maps_Map_hidden hU  ) [0, 1, 2, 3], .o, .o, .o, .xg (p0_maps_Map_hidden hU  ) [0, 1, 2, 3], .o, .l (AccOk.blks [4, 5]), .r [0, 1, 2, 3, 4, 5] [] [6, 7, 8], .o, .o, .o, .a 0, .o, .o, .xr (p0_maps_Map_hidden hU  ) (fun _ => rfl) rfl (fun _ => rfl) [0, 1, 2, 3], .xg (p0_region_Mem_Add hU  ) [1, 2, 5], .o]
    [] (fun b => by kernel_rfl)
def sq0_maps_Map_Update   : Spc := ⟨fun ls => .call 7 #[.pointer (some ⟨(lget ls 0).n, 0, none⟩), .slice (some ⟨(lget ls 4).n, 0, none⟩) 1 1, .slice (some ⟨(lget ls 5).n, 0, none⟩) 1 1, .int .u64 (0)], fun ls => [.cells #[.int .i64 (2), .int .i64 (1), .int .i64 (1), .int .i64 (1), .bool false, .int .i64 (0), .pointer (some ⟨(lget ls 1).n, 0, none⟩), .map (some (lget ls 3).n), .slice none 0 0] 45, .cells #[.map (some (lget ls 2).n), .int .i64 (0)] 50, .map #[] 0, .map #[] 0, .cells #[.int .u8 (1)] 5, .cells #[.int .u8 (5)] 5], 2, .normal, fun ls => [.int .i64 (0)], fun ls => [.cells #[.int .i64 (2), .int .i64 (1), .int .i64 (1), .int .i64 (1), .bool false, .int .i64 (0), .pointer (some ⟨(lget ls 1).n, 0, none⟩), .map (some (lget ls 3).n), .slice none 0 0] 45, .cells #[.map (some (lget ls 2).n), .int .i64 (1)] 50, .map #[⟨.int .i64 (1), .iface 65 (.pointer (some ⟨(lget ls 6).n, 0, none⟩)), 0⟩] 1, .map #[⟨.string (⟨#[1]⟩ : ByteArray), .int .i64 (1), 0⟩] 1, .cells #[.int .u8 (1)] 5, .cells #[.int .u8 (5)] 5], fun ls => [.cells #[(rowV (lget ls 7) 1 1), .bool true, .int .i64 (0), .bool false] 71, rowO (lget ls 7) [.int .u8 (5)] 5 1 1]⟩
theorem p0_maps_Map_Update : SpcG Try.prog M B0 S (sq0_maps_Map_Update  ) :=
  fn_specG hU (P := Try.prog) Try.func7 (fun xs w => by kernel_rfl) 6 _ _ (fun _ => rfl) _ _ _ [6, 7]
    [.o, .o, .o, .xg (p0_maps_Map_checkKey hU  ) [0, 1, 2, 3, 4], .o, .o, .o, .o, .o, .o, .o, .o, .o, .a 0, .o, .r [0, 1, 2, 3, 4, 5, 6, 7, 8, 9, 10, 11] [] [], .o, .o, .o, .a 0, .o, .a 4, .a 3, .o, .o, .o, .o, .o, .o, .o, .o, .xg (p0_maps_Map_checkUpdate hU  ) [0, 1, 2, 3], .o, .o, .o, .o, .o, .r [0, 1, 2, 3, 4, 5, 6, 7] [] [8, 9], .o, .o, .o, .a 0, .o, .a 4, .o, .o, .xk (p0_maps_Map_add hU  ) [0, 3, 4] [0, 1, 2, 3, 5] (fun ls ms h1 h2 => match ls, ms, h1, h2 with | [a0, a1, a2, a3, a4], [b0, b1], _, _ => ⟨rfl, rfl, rfl, trivial⟩), .a 3, .o]
    [] (fun b => by kernel_rfl)
def sq0_maps_Map_checkKey_v1   : Spc := ⟨fun ls => .call 13 #[.pointer (some ⟨(lget ls 0).n, 0, none⟩), .slice (some ⟨(lget ls 6).n, 0, none⟩) 1 1], fun ls => [.cells #[.int .i64 (2), .int .i64 (1), .int .i64 (1), .int .i64 (1), .bool false, .int .i64 (0), .pointer (some ⟨(lget ls 1).n, 0, none⟩), .map (some (lget ls 5).n), .slice none 0 0] 45, .cells #[.map (some (lget ls 2).n), .int .i64 (1)] 50, .map #[⟨.int .i64 (1), .iface 65 (.pointer (some ⟨(lget ls 3).n, 0, none⟩)), 0⟩] 1, .cells #[(rowV (lget ls 4) 1 1), .bool true, .int .i64 (0), .bool false] 71, rowO (lget ls 4) [.int .u8 (5)] 5 1 1, .map #[⟨.string (⟨#[1]⟩ : ByteArray), .int .i64 (1), 0⟩] 1, .cells #[.int .u8 (1)] 5], 0, .normal, fun ls => [.int .i64 (0)], fun ls => [.cells #[.int .i64 (2), .int .i64 (1), .int .i64 (1), .int .i64 (1), .bool false, .int .i64 (0), .pointer (some ⟨(lget ls 1).n, 0, none⟩), .map (some (lget ls 5).n), .slice none 0 0] 45, .cells #[.map (some (lget ls 2).n), .int .i64 (1)] 50, .map #[⟨.int .i64 (1), .iface 65 (.pointer (some ⟨(lget ls 3).n, 0, none⟩)), 0⟩] 1, .cells #[(rowV (lget ls 4) 1 1), .bool true, .int .i64 (0), .bool false] 71, rowO (lget ls 4) [.int .u8 (5)] 5 1 1, .map #[⟨.string (⟨#[1]⟩ : ByteArray), .int .i64 (1), 0⟩] 1, .cells #[.int .u8 (1)] 5], fun ls => []⟩
theorem p0_maps_Map_checkKey_v1 : SpcG Try.prog M B0 S (sq0_maps_Map_checkKey_v1  ) :=
  fn_specG hU (P := Try.prog) Try.func13 (fun xs w => by kernel_rfl) 7 _ _ (fun _ => rfl) _ _ _ []
    [.o, .o, .o, .o, .o, .a 0, .o, .o, .o, .o, .o, .o, .o, .o, .o, .o, .a 0, .o, .o]
    [] (fun b => by kernel_rfl)
def sq0_maps_Map_Lookup   : Spc := ⟨fun ls => .call 17 #[.pointer (some ⟨(lget ls 0).n, 0, none⟩), .slice (some ⟨(lget ls 6).n, 0, none⟩) 1 1], fun ls => [.cells #[.int .i64 (2), .int .i64 (1), .int .i64 (1), .int .i64 (1), .bool false, .int .i64 (0), .pointer (some ⟨(lget ls 1).n, 0, none⟩), .map (some (lget ls 5).n), .slice none 0 0] 45, .cells #[.map (some (lget ls 2).n), .int .i64 (1)] 50, .map #[⟨.int .i64 (1), .iface 65 (.pointer (some ⟨(lget ls 3).n, 0, none⟩)), 0⟩] 1, .cells #[(rowV (lget ls 4) 1 1), .bool true, .int .i64 (0), .bool false] 71, rowO (lget ls 4) [.int .u8 (5)] 5 1 1, .map #[⟨.string (⟨#[1]⟩ : ByteArray), .int .i64 (1), 0⟩] 1, .cells #[.int .u8 (1)] 5], 0, .normal, fun ls => [.tuple #[.int .i64 (1), .bool true, .int .i64 (0)]], fun ls => [.cells #[.int .i64 (2), .int .i64 (1), .int .i64 (1), .int .i64 (1), .bool false, .int .i64 (0), .pointer (some ⟨(lget ls 1).n, 0, none⟩), .map (some (lget ls 5).n), .slice none 0 0] 45, .cells #[.map (some (lget ls 2).n), .int .i64 (1)] 50, .map #[⟨.int .i64 (1), .iface 65 (.pointer (some ⟨(lget ls 3).n, 0, none⟩)), 0⟩] 1, .cells #[(rowV (lget ls 4) 1 1), .bool true, .int .i64 (0), .bool false] 71, rowO (lget ls 4) [.int .u8 (5)] 5 1 1, .map #[⟨.string (⟨#[1]⟩ : ByteArray), .int .i64 (1), 0⟩] 1, .cells #[.int .u8 (1)] 5], fun ls => []⟩
theorem p0_maps_Map_Lookup : SpcG Try.prog M B0 S (sq0_maps_Map_Lookup  ) :=
  fn_specG hU (P := Try.prog) Try.func17 (fun xs w => by kernel_rfl) 7 _ _ (fun _ => rfl) _ _ _ []
    [.o, .o, .o, .o, .o, .xg (p0_maps_Map_checkKey_v1 hU  ) [0, 1, 2, 3, 4, 5, 6], .o, .o, .o, .r [0, 1, 2, 3, 4, 5, 6, 7, 8, 9, 10, 11] [] [], .o, .o, .o, .a 0, .o, .a 6, .a 5, .o, .o, .o, .o, .o, .o, .o, .o, .o, .o]
    [] (fun b => by kernel_rfl)
def sq0_slices_Clone_byte_byte_v1   : Spc := ⟨fun ls => .call 25 #[(rowV (lget ls 0) 1 1)], fun ls => [rowO (lget ls 0) [.int .u8 (5)] 5 1 1], 1, .normal, fun ls => [(rowV (lget ls 1) 1 1)], fun ls => [rowO (lget ls 0) [.int .u8 (5)] 5 1 1], fun ls => [rowO (lget ls 1) [.int .u8 (5)] 5 1 1]⟩
theorem p0_slices_Clone_byte_byte_v1 : SpcG Try.prog M B0 S (sq0_slices_Clone_byte_byte_v1  ) :=
  fn_specG hU (P := Try.prog) Try.func25 (fun xs w => by kernel_rfl) 1 _ _ (fun _ => rfl) _ _ _ [2]
    [.o, .o, .o, .o, .o, .x (sqApS_ok (ty := 33) rt33 #[false, false] (N := 0) (m := 1) (A := (fun _ => 0#8)) (B := (fun _ => 5#8)) (T' := 5) .plain cu8_len cu8_one (by decide) (by decide) (by decide) rfl) [1, 0], .o]
    [] (fun b => by kernel_rfl)
def sq0_region_Mem_Bytes   : Spc := ⟨fun ls => .call 18 #[.pointer (some ⟨(lget ls 0).n, 0, none⟩), .int .i64 (1)], fun ls => [.cells #[.map (some (lget ls 1).n), .int .i64 (1)] 50, .map #[⟨.int .i64 (1), .iface 65 (.pointer (some ⟨(lget ls 2).n, 0, none⟩)), 0⟩] 1, .cells #[(rowV (lget ls 3) 1 1), .bool true, .int .i64 (0), .bool false] 71, rowO (lget ls 3) [.int .u8 (5)] 5 1 1], 1, .normal, fun ls => [.tuple #[(rowV (lget ls 4) 1 1), .bool true]], fun ls => [.cells #[.map (some (lget ls 1).n), .int .i64 (1)] 50, .map #[⟨.int .i64 (1), .iface 65 (.pointer (some ⟨(lget ls 2).n, 0, none⟩)), 0⟩] 1, .cells #[(rowV (lget ls 3) 1 1), .bool true, .int .i64 (0), .bool false] 71, rowO (lget ls 3) [.int .u8 (5)] 5 1 1], fun ls => [rowO (lget ls 4) [.int .u8 (5)] 5 1 1]⟩
theorem p0_region_Mem_Bytes : SpcG Try.prog M B0 S (sq0_region_Mem_Bytes  ) :=
  fn_specG hU (P := Try.prog) Try.func18 (fun xs w => by kernel_rfl) 4 _ _ (fun _ => rfl) _ _ _ [4]
    [.o, .o, .o, .o, .o, .a 0, .o, .a 1, .o, .o, .o, .o, .o, .o, .o, .o, .o, .o, .o, .a 2, .xg (p0_slices_Clone_byte_byte_v1 hU  ) [3], .o, .o]
    [] (fun b => by kernel_rfl)
def sq0_maps_Map_Value   : Spc := ⟨fun ls => .call 9 #[.pointer (some ⟨(lget ls 0).n, 0, none⟩), .slice (some ⟨(lget ls 6).n, 0, none⟩) 1 1], fun ls => [.cells #[.int .i64 (2), .int .i64 (1), .int .i64 (1), .int .i64 (1), .bool false, .int .i64 (0), .pointer (some ⟨(lget ls 1).n, 0, none⟩), .map (some (lget ls 5).n), .slice none 0 0] 45, .cells #[.map (some (lget ls 2).n), .int .i64 (1)] 50, .map #[⟨.int .i64 (1), .iface 65 (.pointer (some ⟨(lget ls 3).n, 0, none⟩)), 0⟩] 1, .cells #[(rowV (lget ls 4) 1 1), .bool true, .int .i64 (0), .bool false] 71, rowO (lget ls 4) [.int .u8 (5)] 5 1 1, .map #[⟨.string (⟨#[1]⟩ : ByteArray), .int .i64 (1), 0⟩] 1, .cells #[.int .u8 (1)] 5], 1, .normal, fun ls => [.tuple #[(rowV (lget ls 7) 1 1), .int .i64 (0)]], fun ls => [.cells #[.int .i64 (2), .int .i64 (1), .int .i64 (1), .int .i64 (1), .bool false, .int .i64 (0), .pointer (some ⟨(lget ls 1).n, 0, none⟩), .map (some (lget ls 5).n), .slice none 0 0] 45, .cells #[.map (some (lget ls 2).n), .int .i64 (1)] 50, .map #[⟨.int .i64 (1), .iface 65 (.pointer (some ⟨(lget ls 3).n, 0, none⟩)), 0⟩] 1, .cells #[(rowV (lget ls 4) 1 1), .bool true, .int .i64 (0), .bool false] 71, rowO (lget ls 4) [.int .u8 (5)] 5 1 1, .map #[⟨.string (⟨#[1]⟩ : ByteArray), .int .i64 (1), 0⟩] 1, .cells #[.int .u8 (1)] 5], fun ls => [rowO (lget ls 7) [.int .u8 (5)] 5 1 1]⟩
theorem p0_maps_Map_Value : SpcG Try.prog M B0 S (sq0_maps_Map_Value  ) :=
  fn_specG hU (P := Try.prog) Try.func9 (fun xs w => by kernel_rfl) 7 _ _ (fun _ => rfl) _ _ _ [7]
    [.o, .o, .o, .o, .xg (p0_maps_Map_Lookup hU  ) [0, 1, 2, 3, 4, 5, 6], .o, .o, .o, .o, .o, .o, .o, .o, .o, .o, .o, .o, .o, .o, .a 0, .o, .xg (p0_region_Mem_Bytes hU  ) [1, 2, 3, 4], .o, .o, .o, .o, .o, .o, .o, .o]
    [] (fun b => by kernel_rfl)
def sq0_maps_Map_checkKey_v2   : Spc := ⟨fun ls => .call 13 #[.pointer (some ⟨(lget ls 0).n, 0, none⟩), .slice (some ⟨(lget ls 6).n, 0, none⟩) 1 1], fun ls => [.cells #[.int .i64 (2), .int .i64 (1), .int .i64 (1), .int .i64 (1), .bool false, .int .i64 (0), .pointer (some ⟨(lget ls 1).n, 0, none⟩), .map (some (lget ls 5).n), .slice none 0 0] 45, .cells #[.map (some (lget ls 2).n), .int .i64 (1)] 50, .map #[⟨.int .i64 (1), .iface 65 (.pointer (some ⟨(lget ls 3).n, 0, none⟩)), 0⟩] 1, .cells #[(rowV (lget ls 4) 1 1), .bool true, .int .i64 (0), .bool false] 71, rowO (lget ls 4) [.int .u8 (5)] 5 1 1, .map #[⟨.string (⟨#[1]⟩ : ByteArray), .int .i64 (1), 0⟩] 1, .cells #[.int .u8 (2)] 5], 0, .normal, fun ls => [.int .i64 (0)], fun ls => [.cells #[.int .i64 (2), .int .i64 (1), .int .i64 (1), .int .i64 (1), .bool false, .int .i64 (0), .pointer (some ⟨(lget ls 1).n, 0, none⟩), .map (some (lget ls 5).n), .slice none 0 0] 45, .cells #[.map (some (lget ls 2).n), .int .i64 (1)] 50, .map #[⟨.int .i64 (1), .iface 65 (.pointer (some ⟨(lget ls 3).n, 0, none⟩)), 0⟩] 1, .cells #[(rowV (lget ls 4) 1 1), .bool true, .int .i64 (0), .bool false] 71, rowO (lget ls 4) [.int .u8 (5)] 5 1 1, .map #[⟨.string (⟨#[1]⟩ : ByteArray), .int .i64 (1), 0⟩] 1, .cells #[.int .u8 (2)] 5], fun ls => []⟩
theorem p0_maps_Map_checkKey_v2 : SpcG Try.prog M B0 S (sq0_maps_Map_checkKey_v2  ) :=
  fn_specG hU (P := Try.prog) Try.func13 (fun xs w => by kernel_rfl) 7 _ _ (fun _ => rfl) _ _ _ []
    [.o, .o, .o, .o, .o, .a 0, .o, .o, .o, .o, .o, .o, .o, .o, .o, .o, .a 0, .o, .o]
    [] (fun b => by kernel_rfl)
def sq0_maps_Map_checkUpdate_v1   : Spc := ⟨fun ls => .call 14 #[.pointer (some ⟨(lget ls 0).n, 0, none⟩), .bool false, .int .u64 (0)], fun ls => [.cells #[.int .i64 (2), .int .i64 (1), .int .i64 (1), .int .i64 (1), .bool false, .int .i64 (0), .pointer (some ⟨(lget ls 1).n, 0, none⟩), .map (some (lget ls 5).n), .slice none 0 0] 45, .cells #[.map (some (lget ls 2).n), .int .i64 (1)] 50, .map #[⟨.int .i64 (1), .iface 65 (.pointer (some ⟨(lget ls 3).n, 0, none⟩)), 0⟩] 1, .cells #[(rowV (lget ls 4) 1 1), .bool true, .int .i64 (0), .bool false] 71, rowO (lget ls 4) [.int .u8 (5)] 5 1 1, .map #[⟨.string (⟨#[1]⟩ : ByteArray), .int .i64 (1), 0⟩] 1], 0, .normal, fun ls => [.int .i64 (93)], fun ls => [.cells #[.int .i64 (2), .int .i64 (1), .int .i64 (1), .int .i64 (1), .bool false, .int .i64 (0), .pointer (some ⟨(lget ls 1).n, 0, none⟩), .map (some (lget ls 5).n), .slice none 0 0] 45, .cells #[.map (some (lget ls 2).n), .int .i64 (1)] 50, .map #[⟨.int .i64 (1), .iface 65 (.pointer (some ⟨(lget ls 3).n, 0, none⟩)), 0⟩] 1, .cells #[(rowV (lget ls 4) 1 1), .bool true, .int .i64 (0), .bool false] 71, rowO (lget ls 4) [.int .u8 (5)] 5 1 1, .map #[⟨.string (⟨#[1]⟩ : ByteArray), .int .i64 (1), 0⟩] 1], fun ls => []⟩
theorem p0_maps_Map_checkUpdate_v1 : SpcG Try.prog M B0 S (sq0_maps_Map_checkUpdate_v1  ) :=
  fn_specG hU (P := Try.prog) Try.func14 (fun xs w => by kernel_rfl) 6 _ _ (fun _ => rfl) _ _ _ []
    [.o, .o, .o, .o, .o, .o, .o, .o, .o, .o, .o, .a 0, .o, .o, .o, .o, .o, .o, .o, .o, .o, .o, .o, .o, .o, .o, .r [0, 1, 2, 3, 4, 5, 6, 7, 8, 9, 10, 11, 12, 13, 14, 15] [] [], .o, .o, .o, .o, .o, .o, .a 0, .a 5, .o, .o, .o, .o, .a 0, .o, .o, .o, .o]
    [] (fun b => by kernel_rfl)
def sq0_maps_Map_Update_v1   : Spc := ⟨fun ls => .call 7 #[.pointer (some ⟨(lget ls 0).n, 0, none⟩), .slice (some ⟨(lget ls 6).n, 0, none⟩) 1 1, .slice (some ⟨(lget ls 7).n, 0, none⟩) 1 1, .int .u64 (0)], fun ls => [.cells #[.int .i64 (2), .int .i64 (1), .int .i64 (1), .int .i64 (1), .bool false, .int .i64 (0), .pointer (some ⟨(lget ls 1).n, 0, none⟩), .map (some (lget ls 5).n), .slice none 0 0] 45, .cells #[.map (some (lget ls 2).n), .int .i64 (1)] 50, .map #[⟨.int .i64 (1), .iface 65 (.pointer (some ⟨(lget ls 3).n, 0, none⟩)), 0⟩] 1, .cells #[(rowV (lget ls 4) 1 1), .bool true, .int .i64 (0), .bool false] 71, rowO (lget ls 4) [.int .u8 (5)] 5 1 1, .map #[⟨.string (⟨#[1]⟩ : ByteArray), .int .i64 (1), 0⟩] 1, .cells #[.int .u8 (2)] 5, .cells #[.int .u8 (5)] 5], 0, .normal, fun ls => [.int .i64 (93)], fun ls => [.cells #[.int .i64 (2), .int .i64 (1), .int .i64 (1), .int .i64 (1), .bool false, .int .i64 (0), .pointer (some ⟨(lget ls 1).n, 0, none⟩), .map (some (lget ls 5).n), .slice none 0 0] 45, .cells #[.map (some (lget ls 2).n), .int .i64 (1)] 50, .map #[⟨.int .i64 (1), .iface 65 (.pointer (some ⟨(lget ls 3).n, 0, none⟩)), 0⟩] 1, .cells #[(rowV (lget ls 4) 1 1), .bool true, .int .i64 (0), .bool false] 71, rowO (lget ls 4) [.int .u8 (5)] 5 1 1, .map #[⟨.string (⟨#[1]⟩ : ByteArray), .int .i64 (1), 0⟩] 1, .cells #[.int .u8 (2)] 5, .cells #[.int .u8 (5)] 5], fun ls => []⟩
theorem p0_maps_Map_Update_v1 : SpcG Try.prog M B0 S (sq0_maps_Map_Update_v1  ) :=
  fn_specG hU (P := Try.prog) Try.func7 (fun xs w => by kernel_rfl) 8 _ _ (fun _ => rfl) _ _ _ []
    [.o, .o, .o, .xg (p0_maps_Map_checkKey_v2 hU  ) [0, 1, 2, 3, 4, 5, 6], .o, .o, .o, .o, .o, .o, .o, .o, .o, .a 0, .o, .r [0, 1, 2, 3, 4, 5, 6, 7, 8, 9, 10, 11] [] [], .o, .o, .o, .a 0, .o, .a 6, .a 5, .o, .o, .o, .o, .o, .o, .o, .o, .xg (p0_maps_Map_checkUpdate_v1 hU  ) [0, 1, 2, 3, 4, 5], .o, .o, .o, .o, .o]
    [] (fun b => by kernel_rfl)
theorem ok_barbicanlaw9_known : ConG Try.prog S 4 #[] (.bool true) :=
  fn_conG hU (P := Try.prog) Try.func4 (fun xs w => by kernel_rfl) [] (.bool true)
    [.o, .xg (p0_region_New hU  ) [], .o, .o, .o, .xg (p0_maps_New hU  ) [0, 1], .o, .o, .o, .o, .o, .o, .o, .o, .o, .o, .o, .o, .o, .o, .o, .xg (p0_maps_Map_Update hU  ) [2, 0, 1, 3, 4, 5], .o, .o, .o, .o, .xg (p0_maps_Map_Value hU  ) [2, 0, 1, 6, 7, 3, 8], .o, .o, .o, .o, .o, .o, .o, .o, .o, .a 9, .o, .o, .o, .o, .o, .o, .xg (p0_maps_Map_Update_v1 hU  ) [2, 0, 1, 6, 7, 3, 10, 11], .o, .o, .o]
    [] (fun b => by kernel_rfl)
def sq0_region_New_v1   : Spc := ⟨fun ls => .call 6 #[], fun ls => [], 4, .normal, fun ls => [.pointer (some ⟨(lget ls 0).n, 0, none⟩)], fun ls => [], fun ls => [.cells #[.map (some (lget ls 1).n), .int .i64 (0)] 50, mapP 65 (lget ls 2) 0, arX 71 (lget ls 3) 0 c_Xr71 (fun _ => ((⟨false, 0, false⟩ : Xr71), 0, fun _ => 0#8)), byX 5 cu8 0 (fun _ => ((⟨false, 0, false⟩ : Xr71), 0, fun _ => 0#8))]⟩
theorem p0_region_New_v1 : SpcG Try.prog M B0 S (sq0_region_New_v1  ) :=
  fn_specG hU (P := Try.prog) Try.func6 (fun xs w => by kernel_rfl) 0 _ _ (fun _ => rfl) _ _ _ [3, 0, 1, 2]
    [.o, .xg (mkX_ok 48 65 71 5 cu8 c_Xr71 (fun _ => ((⟨false, 0, false⟩ : Xr71), 0, fun _ => 0#8))) [], .o, .o, .o]
    [] (fun b => by kernel_rfl)
noncomputable def m_object_within_v3 (y0 : Int) (y1 : Int) (y2 : Int) : Bool :=
  bif decide (y1 ≤ y0) then
    ((decide (y0 ≤ y2)))
  else (false)
theorem ok_object_within_v3 (y0 : Int) (y1 : Int) (y2 : Int) (r : Bool) (e : m_object_within_v3 y0 y1 y2 = r) : ConG Try.prog S 20 #[.int .i64 (y0), .int .i64 (y1), .int .i64 (y2)] (.bool (r)) := by
  unfold m_object_within_v3 at e
  replace e := cond_eq_or e
  rcases e with ⟨hq0, e⟩ | ⟨hq0, e⟩
  · subst e; exact fn_conG hU (P := Try.prog) Try.func20 (fun xs w => by kernel_rfl) _ _ [.o, .o, .o, .b (z_geqT hq0), .o, .o, .o, .o, .o, .o] [] (fun b => by kernel_rfl)
  · subst e; exact fn_conG hU (P := Try.prog) Try.func20 (fun xs w => by kernel_rfl) _ _ [.o, .o, .o, .b (z_geqF hq0), .o, .o, .o] [] (fun b => by kernel_rfl)
noncomputable def m_object_rightValue_v1 (w0 : Int) : Bool :=
  bif m_object_within_v3 2 1 256 then
    (bif m_object_within_v3 w0 1 64 then
      (true)
    else (false))
  else (false)
theorem ok_object_rightValue_v1 (w0 : Int) (r : Bool) (e : m_object_rightValue_v1 w0 = r) : ConG Try.prog S 19 #[.agg #[.int .i64 (1), .int .i64 (4), .int .i64 (2), .int .i64 (w0), .bool false, .int .i64 (0)], .slice none 0 0] (.bool (r)) := by
  unfold m_object_rightValue_v1 at e
  replace e := cond_eq_or e
  rcases e with ⟨hq0, e⟩ | ⟨hq0, e⟩
  · replace e := cond_eq_or e
    rcases e with ⟨hq1, e⟩ | ⟨hq1, e⟩
    · subst e; exact fn_conG hU (P := Try.prog) Try.func19 (fun xs w => by kernel_rfl) _ _ [.o, .o, .o, .a 0, .cg (ok_object_within_v3 hU 2 1 256 true hq0), .o, .o, .o, .a 0, .o, .o, .o, .o, .o, .a 0, .cg (ok_object_within_v3 hU w0 1 64 true hq1), .o, .o, .o, .a 0, .o, .o] [] (fun b => by kernel_rfl)
    · subst e; exact fn_conG hU (P := Try.prog) Try.func19 (fun xs w => by kernel_rfl) _ _ [.o, .o, .o, .a 0, .cg (ok_object_within_v3 hU 2 1 256 true hq0), .o, .o, .o, .a 0, .o, .o, .o, .o, .o, .a 0, .cg (ok_object_within_v3 hU w0 1 64 false hq1), .o, .o, .o] [] (fun b => by kernel_rfl)
  · subst e; exact fn_conG hU (P := Try.prog) Try.func19 (fun xs w => by kernel_rfl) _ _ [.o, .o, .o, .a 0, .cg (ok_object_within_v3 hU 2 1 256 false hq0), .o, .o, .o, .o, .o, .o] [] (fun b => by kernel_rfl)
noncomputable def m_object_Def_v1 (w0 : Int) : Int :=
  bif m_object_rightValue_v1 w0 then
    (0)
  else (51)
theorem ok_object_Def_v1 (w0 : Int) (r : Int) (e : m_object_Def_v1 w0 = r) : ConG Try.prog S 10 #[.agg #[.int .i64 (1), .int .i64 (4), .int .i64 (2), .int .i64 (w0), .bool false, .int .i64 (0)], .slice none 0 0] (.int .i64 (r)) := by
  unfold m_object_Def_v1 at e
  replace e := cond_eq_or e
  rcases e with ⟨hq0, e⟩ | ⟨hq0, e⟩
  · subst e; exact fn_conG hU (P := Try.prog) Try.func10 (fun xs w => by kernel_rfl) _ _ [.o, .o, .o, .o, .a 0, .o, .o, .o, .a 0, .o, .o, .a 0, .o, .cg (ok_object_rightValue_v1 hU w0 true hq0), .o, .o, .o, .o, .o] [] (fun b => by kernel_rfl)
  · subst e; exact fn_conG hU (P := Try.prog) Try.func10 (fun xs w => by kernel_rfl) _ _ [.o, .o, .o, .o, .a 0, .o, .o, .o, .a 0, .o, .o, .a 0, .o, .cg (ok_object_rightValue_v1 hU w0 false hq0), .o, .o, .o, .o, .o] [] (fun b => by kernel_rfl)
noncomputable def m_maps_index (y0 : Int) : ByteArray :=
  (bstr 4 (fun k => if k = 0 then (BitVec.ofInt 8 y0) else if k = 1 then (BitVec.ofInt 8 (zshr y0 8)) else if k = 2 then (BitVec.ofInt 8 (zshr y0 16)) else (BitVec.ofInt 8 (zshr y0 24))))
theorem ok_maps_index (y0 : Int) (r : ByteArray) (e : m_maps_index y0 = r) : ConG Try.prog S 12 #[.int .i64 (y0)] (.string r) := by
  unfold m_maps_index at e
  subst e; exact fn_conG hU (P := Try.prog) Try.func12 (fun xs w => by kernel_rfl) _ _ [.o, .o, .v .u8 (u8_of_z y0), .o, .ov (z_shr Try.prog 3 (.tmp 5) (.const (.int .u64 (8))) y0 8 .u64 rfl), .v .u8 (u8_of_z (zshr y0 8)), .o, .ov (z_shr Try.prog 3 (.tmp 8) (.const (.int .u64 (16))) y0 16 .u64 rfl), .v .u8 (u8_of_z (zshr y0 16)), .o, .ov (z_shr Try.prog 3 (.tmp 11) (.const (.int .u64 (24))) y0 24 .u64 rfl), .v .u8 (u8_of_z (zshr y0 24)), .o, .xg (sqStrO_ok hU (s := 33) (d := 9) (e := 5) (T := 5) (f := cu8) (N := 4) (A := (fun k => if k = 0 then (BitVec.ofInt 8 y0) else if k = 1 then (BitVec.ofInt 8 (zshr y0 8)) else if k = 2 then (BitVec.ofInt 8 (zshr y0 16)) else (BitVec.ofInt 8 (zshr y0 24)))) (by kernel_rfl) (by kernel_rfl) (by kernel_rfl) cu8_len (fun _ => rfl) (fun _ => []) (fun _ => 0)) [0], .o] [] (fun b => by kernel_rfl)
def sq0_maps_Map_hidden_v1 (w0 : Int) (w1 : Nat → (Xr71 × (Nat × (Nat → BitVec 8)))) (w2 : Nat → Me42)  : Spc := ⟨fun ls => .call 16 #[.pointer (some ⟨(lget ls 0).n, 0, none⟩)], fun ls => [.cells #[.int .i64 (1), .int .i64 (4), .int .i64 (2), .int .i64 (w0), .bool false, .int .i64 (0), .pointer (some ⟨(lget ls 1).n, 0, none⟩), .map (some (lget ls 5).n), .slice none 0 0] 45, .cells #[.map (some (lget ls 2).n), .int .i64 (0)] 50, mapP 65 (lget ls 3) 0, arX 71 (lget ls 4) 0 c_Xr71 w1, byX 5 cu8 0 w1, mapG kv_Me42 vv_Me42 0 w2], 0, .normal, fun ls => [.int .i64 (0)], fun ls => [.cells #[.int .i64 (1), .int .i64 (4), .int .i64 (2), .int .i64 (w0), .bool false, .int .i64 (0), .pointer (some ⟨(lget ls 1).n, 0, none⟩), .map (some (lget ls 5).n), .slice none 0 0] 45, .cells #[.map (some (lget ls 2).n), .int .i64 (0)] 50, mapP 65 (lget ls 3) 0, arX 71 (lget ls 4) 0 c_Xr71 w1, byX 5 cu8 0 w1, mapG kv_Me42 vv_Me42 0 w2], fun ls => []⟩
theorem p0_maps_Map_hidden_v1 (w0 : Int) (w1 : Nat → (Xr71 × (Nat × (Nat → BitVec 8)))) (w2 : Nat → Me42) : SpcG Try.prog M B0 S (sq0_maps_Map_hidden_v1 w0 w1 w2 ) :=
  fn_specG hU (P := Try.prog) Try.func16 (fun xs w => by kernel_rfl) 6 _ _ (fun _ => rfl) _ _ _ []
    [.o, .o, .o, .o, .o, .a 0, .o]
    [] (fun b => by kernel_rfl)
inductive R_slices_Clone_byte_byte_v2 where
  | e0 (c0_0 : Nat → BitVec 8)
noncomputable def m_slices_Clone_byte_byte_v2 (w0 : Nat) (w1 : Nat → BitVec 8) : Option R_slices_Clone_byte_byte_v2 :=
  bif decide (w0 ≤ 1000000) then
    (some (.e0 (catF (fun _ => 0#8) 0 w1)))
  else (none)
def sq0_slices_Clone_byte_byte_v2 (w0 : Nat) (w1 : Nat → BitVec 8) (c0_0 : Nat → BitVec 8) : Spc := ⟨fun ls => .call 25 #[(rowV (lget ls 0) w0 1)], fun ls => [rowO (lget ls 0) (esG cu8 w0 w1) 5 w0 1], 1, .normal, fun ls => [(rowV (lget ls 1) (0 + w0) 1)], fun ls => [rowO (lget ls 0) (esG cu8 w0 w1) 5 w0 1], fun ls => [rowO (lget ls 1) (esG cu8 (0 + w0) c0_0) 5 (0 + w0) 1]⟩
theorem ok0_slices_Clone_byte_byte_v2 (w0 : Nat) (w1 : Nat → BitVec 8) (c0_0 : Nat → BitVec 8) (e : m_slices_Clone_byte_byte_v2 w0 w1 = some (.e0 c0_0)) : SpcG Try.prog M B0 S (sq0_slices_Clone_byte_byte_v2 w0 w1 c0_0) := by
  unfold m_slices_Clone_byte_byte_v2 at e
  replace e := cond_eq_or e
  rcases e with ⟨hq0, e⟩ | ⟨hq0, e⟩
  · injection e with e; injection e with i0; subst i0; exact fn_specG hU (P := Try.prog) Try.func25 (fun xs w => by kernel_rfl) 1 _ _ (fun _ => rfl) _ _ _ [2] [.o, .o, .o, .o, .o, .x (sqApS_ok (ty := 33) rt33 #[false, false] (N := 0) (m := w0) (A := (fun _ => 0#8)) (B := w1) (T' := 5) .plain cu8_len cu8_one (by decide) hq0 (by decide) rfl) [1, 0], .o] [] (fun b => by kernel_rfl)
  · exact none_some e
inductive R_region_Mem_add_v1 where
  | e0 (c0_0 : Nat → (Xr71 × (Nat × (Nat → BitVec 8))))
noncomputable def m_region_Mem_add_v1 (w0 : Nat → (Xr71 × (Nat × (Nat → BitVec 8)))) (w1 : Nat) (w2 : Bool) (w3 : Int) (w4 : Nat → BitVec 8) : Option R_region_Mem_add_v1 :=
  bif decide (0 < w1) then
    (bif decide (w1 ≤ 1000000) then
      (some (.e0 (updF w0 0 ((⟨w2, w3, false⟩ : Xr71), w1, w4))))
    else (none))
  else (none)
def sq0_region_Mem_add_v1 (w0 : Nat → (Xr71 × (Nat × (Nat → BitVec 8)))) (w1 : Nat) (w2 : Bool) (w3 : Int) (w4 : Nat → BitVec 8) (c0_0 : Nat → (Xr71 × (Nat × (Nat → BitVec 8)))) : Spc := ⟨fun ls => .call 27 #[.pointer (some ⟨(lget ls 0).n, 0, none⟩), .iface 65 (.pointer (some ⟨(lget ls 4).n, 0, none⟩))], fun ls => [.cells #[.map (some (lget ls 1).n), .int .i64 (0)] 50, mapP 65 (lget ls 2) 0, arX 71 (lget ls 3) 0 c_Xr71 w0, byX 5 cu8 0 w0, .cells #[(rowV (lget ls 5) w1 1), .bool (w2), .int .i64 (w3), .bool false] 71, rowO (lget ls 5) (esG cu8 w1 w4) 5 w1 1], 2, .normal, fun ls => [.int .i64 (1)], fun ls => [.cells #[.map (some (lget ls 1).n), .int .i64 (1)] 50, mapP 65 (lget ls 6) 1, unb, unb, unb, unb], fun ls => [arX 71 (lget ls 7) 1 c_Xr71 c0_0, byX 5 cu8 1 c0_0]⟩
theorem ok0_region_Mem_add_v1 (w0 : Nat → (Xr71 × (Nat × (Nat → BitVec 8)))) (w1 : Nat) (w2 : Bool) (w3 : Int) (w4 : Nat → BitVec 8) (c0_0 : Nat → (Xr71 × (Nat × (Nat → BitVec 8)))) (e : m_region_Mem_add_v1 w0 w1 w2 w3 w4 = some (.e0 c0_0)) : SpcG Try.prog M B0 S (sq0_region_Mem_add_v1 w0 w1 w2 w3 w4 c0_0) := by
  unfold m_region_Mem_add_v1 at e
  replace e := cond_eq_or e
  rcases e with ⟨hq0, e⟩ | ⟨hq0, e⟩
  · replace e := cond_eq_or e
    rcases e with ⟨hq1, e⟩ | ⟨hq1, e⟩
    · injection e with e; injection e with i0; subst i0; exact fn_specG hU (P := Try.prog) Try.func27 (fun xs w => by kernel_rfl) 6 _ _ (fun _ => rfl) _ _ _ [6, 7] [.o, .o, .o, .o, .a 0, .o, .o, .o, .a 0, .r [0, 1, 2, 3, 4, 5, 6, 7, 8] [] [9], .o, .o, .o, .a 0, .o, .o, .o, .a 0, .o, .xg (adXk_ok (Tm := 48) (I := 65) (T := 71) (TB := 5) (f := cu8) (g := c_Xr71) (N := 0) (m := w1) (kt := 3) (el := 68) .row w0 (⟨w2, w3, false⟩ : Xr71) w4 (x := 1) (by kernel_rfl) (by kernel_rfl) (by decide) hq0 hq1) [1, 2, 3, 4, 5], .o, .o, .o, .a 0, .o] [] (fun b => by kernel_rfl)
    · exact none_some e
  · exact none_some e
inductive R_region_Mem_Add_v1 where
  | e0 (c0_0 : Nat → (Xr71 × (Nat × (Nat → BitVec 8))))
noncomputable def m_region_Mem_Add_v1 (y2 : Bool) (y3 : Int) (w0 : Nat) (w1 : Nat → (Xr71 × (Nat × (Nat → BitVec 8)))) (w2 : Nat → BitVec 8) : Option R_region_Mem_Add_v1 :=
  (m_slices_Clone_byte_byte_v2 w0 w2).bind fun g0 => match g0 with
  | .e0 g0_0 =>
  (m_region_Mem_add_v1 w1 (0 + w0) y2 (if (w0 : Int) < (if y3 < 0 then 0 else y3) then (w0 : Int) else (if y3 < 0 then 0 else y3)) g0_0).bind fun g1 => match g1 with
  | .e0 g1_0 =>
  some (.e0 g1_0)
def sq0_region_Mem_Add_v1 (y2 : Bool) (y3 : Int) (w0 : Nat) (w1 : Nat → (Xr71 × (Nat × (Nat → BitVec 8)))) (w2 : Nat → BitVec 8) (c0_0 : Nat → (Xr71 × (Nat × (Nat → BitVec 8)))) : Spc := ⟨fun ls => .call 22 #[.pointer (some ⟨(lget ls 0).n, 0, none⟩), (rowV (lget ls 4) w0 1), .bool (y2), .int .i64 (y3)], fun ls => [.cells #[.map (some (lget ls 1).n), .int .i64 (0)] 50, mapP 65 (lget ls 2) 0, arX 71 (lget ls 3) 0 c_Xr71 w1, byX 5 cu8 0 w1, rowO (lget ls 4) (esG cu8 w0 w2) 5 w0 1], 2, .normal, fun ls => [.int .i64 (1)], fun ls => [.cells #[.map (some (lget ls 1).n), .int .i64 (1)] 50, mapP 65 (lget ls 5) 1, unb, unb, rowO (lget ls 4) (esG cu8 w0 w2) 5 w0 1], fun ls => [arX 71 (lget ls 6) 1 c_Xr71 c0_0, byX 5 cu8 1 c0_0]⟩
theorem ok0_region_Mem_Add_v1 (y2 : Bool) (y3 : Int) (w0 : Nat) (w1 : Nat → (Xr71 × (Nat × (Nat → BitVec 8)))) (w2 : Nat → BitVec 8) (c0_0 : Nat → (Xr71 × (Nat × (Nat → BitVec 8)))) (e : m_region_Mem_Add_v1 y2 y3 w0 w1 w2 = some (.e0 c0_0)) : SpcG Try.prog M B0 S (sq0_region_Mem_Add_v1 y2 y3 w0 w1 w2 c0_0) := by
  unfold m_region_Mem_Add_v1 at e
  replace e := bindO_eq e
  obtain ⟨g0, e_g0, e⟩ := e
  obtain ⟨g0_0⟩ := g0
  try dsimp only at e
  replace e := bindO_eq e
  obtain ⟨g1, e_g1, e⟩ := e
  obtain ⟨g1_0⟩ := g1
  try dsimp only at e
  injection e with e; injection e with i0; subst i0; exact fn_specG hU (P := Try.prog) Try.func22 (fun xs w => by kernel_rfl) 5 _ _ (fun _ => rfl) _ _ _ [7, 8] [.o, .o, .o, .o, .o, .o, .o, .o, .o, .xg (ok0_slices_Clone_byte_byte_v2 hU w0 w2 g0_0 e_g0) [4], .o, .o, .o, .o, .o, .xg (ok0_region_Mem_add_v1 hU w1 (0 + w0) y2 (if (w0 : Int) < (if y3 < 0 then 0 else y3) then (w0 : Int) else (if y3 < 0 then 0 else y3)) g0_0 g1_0 e_g1) [0, 1, 2, 3, 6, 5], .o] [] (fun b => by kernel_rfl)
inductive R_maps_Map_add_v1 where
  | e0 (c0_0 : Nat → (Xr71 × (Nat × (Nat → BitVec 8))))
noncomputable def m_maps_Map_add_v1 (n0 : Nat) (A0 : Nat → BitVec 8) (w0 : Int) (w1 : Nat → (Xr71 × (Nat × (Nat → BitVec 8)))) (w2 : Nat → Me42) : Option R_maps_Map_add_v1 :=
  bif decide (n0 ≤ 1000000) then
    ((m_region_Mem_Add_v1 true 0 n0 w1 A0).bind fun g0 => match g0 with
    | .e0 g0_0 =>
    some (.e0 g0_0))
  else (none)
def sq0_maps_Map_add_v1 (a0 : Option Addr) (p0 : Nat) (q0 : Nat) (n0 : Nat) (k0 : Nat) (A0 : Nat → BitVec 8) (w0 : Int) (w1 : Nat → (Xr71 × (Nat × (Nat → BitVec 8)))) (w2 : Nat → Me42) (c0_0 : Nat → (Xr71 × (Nat × (Nat → BitVec 8)))) : Spc := ⟨fun ls => .call 11 #[.pointer (some ⟨(lget ls 0).n, 0, none⟩), .slice a0 n0 (n0 + k0)], fun ls => [.cells #[.int .i64 (1), .int .i64 (4), .int .i64 (2), .int .i64 (w0), .bool false, .int .i64 (0), .pointer (some ⟨(lget ls 1).n, 0, none⟩), .map (some (lget ls 5).n), .slice none 0 0] 45, .cells #[.map (some (lget ls 2).n), .int .i64 (0)] 50, mapP 65 (lget ls 3) 0, arX 71 (lget ls 4) 0 c_Xr71 w1, byX 5 cu8 0 w1, mapG kv_Me42 vv_Me42 0 w2], 2, .normal, fun ls => [.int .i64 (1)], fun ls => [.cells #[.int .i64 (1), .int .i64 (4), .int .i64 (2), .int .i64 (w0), .bool false, .int .i64 (0), .pointer (some ⟨(lget ls 1).n, 0, none⟩), .map (some (lget ls 5).n), .slice none 0 0] 45, .cells #[.map (some (lget ls 2).n), .int .i64 (1)] 50, mapP 65 (lget ls 6) 1, unb, unb, mapG kv_Me42 vv_Me42 0 w2], fun ls => [arX 71 (lget ls 7) 1 c_Xr71 c0_0, byX 5 cu8 1 c0_0]⟩
theorem ok0_maps_Map_add_v1 (a0 : Option Addr) (p0 : Nat) (q0 : Nat) (n0 : Nat) (k0 : Nat) (A0 : Nat → BitVec 8) (hR0 : Ro S cu8 1 a0 p0 q0 n0 A0) (w0 : Int) (w1 : Nat → (Xr71 × (Nat × (Nat → BitVec 8)))) (w2 : Nat → Me42) (c0_0 : Nat → (Xr71 × (Nat × (Nat → BitVec 8)))) (e : m_maps_Map_add_v1 n0 A0 w0 w1 w2 = some (.e0 c0_0)) : SpcG Try.prog M B0 S (sq0_maps_Map_add_v1 a0 p0 q0 n0 k0 A0 w0 w1 w2 c0_0) := by
  unfold m_maps_Map_add_v1 at e
  replace e := cond_eq_or e
  rcases e with ⟨hq0, e⟩ | ⟨hq0, e⟩
  · replace e := bindO_eq e
    obtain ⟨g0, e_g0, e⟩ := e
    obtain ⟨g0_0⟩ := g0
    try dsimp only at e
    injection e with e; injection e with i0; subst i0; exact fn_specG hU (P := Try.prog) Try.func11 (fun xs w => by kernel_rfl) 6 _ _ (fun _ => rfl) _ _ _ [7, 8] [.o, .o, .o, .x (sqMkN_ok rt33 (f := cu8) (a0 := 0#8) cu8_len (by kernel_rfl) hq0 (by decide)) [], .o, .r [] [] [], .o, .o, .xg (p0_maps_Map_hidden_v1 hU w0 w1 w2 ) [0, 1, 2, 3, 4, 5], .q (slc0_ok (T := 33) (e := 5) (sz := 1) (by kernel_rfl) (fun w => by kernel_rfl)), .o, .o, .xg (p0_maps_Map_hidden_v1 hU w0 w1 w2 ) [0, 1, 2, 3, 4, 5], .q (slc0_ok (T := 33) (e := 5) (sz := 1) (by kernel_rfl) (fun w => by kernel_rfl)), .x (sqCpR_ok (ty := 3) rt33 #[false, false] (f := cu8) (N := n0) (c := (n0 + k0)) (B := (fun _ => 0#8)) hR0 cu8_len cu8_one) [6], .r [0, 1, 2, 3, 4, 5] [] [6, 7, 8], .o, .o, .o, .a 0, .o, .o, .xr (p0_maps_Map_hidden_v1 hU w0 w1 w2 ) (fun _ => rfl) rfl (fun _ => rfl) [0, 1, 2, 3, 4, 5], .xg (ok0_region_Mem_Add_v1 hU true 0 n0 w1 A0 g0_0 e_g0) [1, 2, 3, 4, 6], .o] [] (fun b => by kernel_rfl)
  · exact none_some e
def sq0_maps_Map_hidden_v2 (w0 : Int) (w1 : Int) (w2 : Nat) (w3 : Nat → (Xr71 × (Nat × (Nat → BitVec 8)))) (w4 : Nat) (w5 : Nat → Me42)  : Spc := ⟨fun ls => .call 16 #[.pointer (some ⟨(lget ls 0).n, 0, none⟩)], fun ls => [.cells #[.int .i64 (1), .int .i64 (4), .int .i64 (2), .int .i64 (w0), .bool false, .int .i64 (0), .pointer (some ⟨(lget ls 1).n, 0, none⟩), .map (some (lget ls 5).n), .slice none 0 0] 45, .cells #[.map (some (lget ls 2).n), .int .i64 (w1)] 50, mapP 65 (lget ls 3) w2, arX 71 (lget ls 4) w2 c_Xr71 w3, byX 5 cu8 w2 w3, mapG kv_Me42 vv_Me42 w4 w5], 0, .normal, fun ls => [.int .i64 (0)], fun ls => [.cells #[.int .i64 (1), .int .i64 (4), .int .i64 (2), .int .i64 (w0), .bool false, .int .i64 (0), .pointer (some ⟨(lget ls 1).n, 0, none⟩), .map (some (lget ls 5).n), .slice none 0 0] 45, .cells #[.map (some (lget ls 2).n), .int .i64 (w1)] 50, mapP 65 (lget ls 3) w2, arX 71 (lget ls 4) w2 c_Xr71 w3, byX 5 cu8 w2 w3, mapG kv_Me42 vv_Me42 w4 w5], fun ls => []⟩
theorem p0_maps_Map_hidden_v2 (w0 : Int) (w1 : Int) (w2 : Nat) (w3 : Nat → (Xr71 × (Nat × (Nat → BitVec 8)))) (w4 : Nat) (w5 : Nat → Me42) : SpcG Try.prog M B0 S (sq0_maps_Map_hidden_v2 w0 w1 w2 w3 w4 w5 ) :=
  fn_specG hU (P := Try.prog) Try.func16 (fun xs w => by kernel_rfl) 6 _ _ (fun _ => rfl) _ _ _ []
    [.o, .o, .o, .o, .o, .a 0, .o]
    [] (fun b => by kernel_rfl)
inductive R_region_Mem_add_v2 where
  | e0 (c0_0 : Nat → (Xr71 × (Nat × (Nat → BitVec 8)))) (c0_1 : Int) (c0_2 : Int)
noncomputable def m_region_Mem_add_v2 (w0 : Int) (w1 : Nat) (w2 : Nat → (Xr71 × (Nat × (Nat → BitVec 8)))) (w3 : Nat) (w4 : Bool) (w5 : Int) (w6 : Nat → BitVec 8) : Option R_region_Mem_add_v2 :=
  bif decide (0 < w3) then
    (bif decide (w3 ≤ 1000000) then
      (bif (IntKind.i64.wrap (w0 + 1)) == ((w1 + 1 : Nat) : Int) then
        (some (.e0 (updF w2 w1 ((⟨w4, w5, false⟩ : Xr71), w3, w6)) (IntKind.i64.wrap (w0 + 1)) (IntKind.i64.wrap (w0 + 1))))
      else (none))
    else (none))
  else (none)
def sq0_region_Mem_add_v2 (w0 : Int) (w1 : Nat) (w2 : Nat → (Xr71 × (Nat × (Nat → BitVec 8)))) (w3 : Nat) (w4 : Bool) (w5 : Int) (w6 : Nat → BitVec 8) (c0_0 : Nat → (Xr71 × (Nat × (Nat → BitVec 8)))) (c0_1 : Int) (c0_2 : Int) : Spc := ⟨fun ls => .call 27 #[.pointer (some ⟨(lget ls 0).n, 0, none⟩), .iface 65 (.pointer (some ⟨(lget ls 4).n, 0, none⟩))], fun ls => [.cells #[.map (some (lget ls 1).n), .int .i64 (w0)] 50, mapP 65 (lget ls 2) w1, arX 71 (lget ls 3) w1 c_Xr71 w2, byX 5 cu8 w1 w2, .cells #[(rowV (lget ls 5) w3 1), .bool (w4), .int .i64 (w5), .bool false] 71, rowO (lget ls 5) (esG cu8 w3 w6) 5 w3 1], 2, .normal, fun ls => [.int .i64 (c0_2)], fun ls => [.cells #[.map (some (lget ls 1).n), .int .i64 (c0_1)] 50, mapP 65 (lget ls 6) (w1 + 1), unb, unb, unb, unb], fun ls => [arX 71 (lget ls 7) (w1 + 1) c_Xr71 c0_0, byX 5 cu8 (w1 + 1) c0_0]⟩
theorem ok0_region_Mem_add_v2 (w0 : Int) (w1 : Nat) (w2 : Nat → (Xr71 × (Nat × (Nat → BitVec 8)))) (w3 : Nat) (w4 : Bool) (w5 : Int) (w6 : Nat → BitVec 8) (c0_0 : Nat → (Xr71 × (Nat × (Nat → BitVec 8)))) (c0_1 : Int) (c0_2 : Int) (e : m_region_Mem_add_v2 w0 w1 w2 w3 w4 w5 w6 = some (.e0 c0_0 c0_1 c0_2)) : SpcG Try.prog M B0 S (sq0_region_Mem_add_v2 w0 w1 w2 w3 w4 w5 w6 c0_0 c0_1 c0_2) := by
  unfold m_region_Mem_add_v2 at e
  replace e := cond_eq_or e
  rcases e with ⟨hq0, e⟩ | ⟨hq0, e⟩
  · replace e := cond_eq_or e
    rcases e with ⟨hq1, e⟩ | ⟨hq1, e⟩
    · replace e := cond_eq_or e
      rcases e with ⟨hq2, e⟩ | ⟨hq2, e⟩
      · injection e with e; injection e with i0 i1 i2; subst i0 i1 i2; exact fn_specG hU (P := Try.prog) Try.func27 (fun xs w => by kernel_rfl) 6 _ _ (fun _ => rfl) _ _ _ [6, 7] [.o, .o, .o, .o, .a 0, .o, .o, .o, .a 0, .r [0, 1, 2, 3, 4, 5, 6, 7, 8] [] [9], .o, .o, .o, .a 0, .o, .o, .o, .a 0, .o, .xg (adXk_ok (Tm := 48) (I := 65) (T := 71) (TB := 5) (f := cu8) (g := c_Xr71) (N := w1) (m := w3) (kt := 3) (el := 68) .row w2 (⟨w4, w5, false⟩ : Xr71) w6 (x := (IntKind.i64.wrap (w0 + 1))) (by kernel_rfl) (by kernel_rfl) hq2 hq0 hq1) [1, 2, 3, 4, 5], .o, .o, .o, .a 0, .o] [] (fun b => by kernel_rfl)
      · exact none_some e
    · exact none_some e
  · exact none_some e
inductive R_region_Mem_Add_v2 where
  | e0 (c0_0 : Nat → (Xr71 × (Nat × (Nat → BitVec 8)))) (c0_1 : Int) (c0_2 : Int)
noncomputable def m_region_Mem_Add_v2 (y2 : Bool) (y3 : Int) (w0 : Nat) (w1 : Int) (w2 : Nat) (w3 : Nat → (Xr71 × (Nat × (Nat → BitVec 8)))) (w4 : Nat → BitVec 8) : Option R_region_Mem_Add_v2 :=
  (m_slices_Clone_byte_byte_v2 w0 w4).bind fun g0 => match g0 with
  | .e0 g0_0 =>
  (m_region_Mem_add_v2 w1 w2 w3 (0 + w0) y2 (if (w0 : Int) < (if y3 < 0 then 0 else y3) then (w0 : Int) else (if y3 < 0 then 0 else y3)) g0_0).bind fun g1 => match g1 with
  | .e0 g1_0 g1_1 g1_2 =>
  some (.e0 g1_0 g1_1 g1_2)
def sq0_region_Mem_Add_v2 (y2 : Bool) (y3 : Int) (w0 : Nat) (w1 : Int) (w2 : Nat) (w3 : Nat → (Xr71 × (Nat × (Nat → BitVec 8)))) (w4 : Nat → BitVec 8) (c0_0 : Nat → (Xr71 × (Nat × (Nat → BitVec 8)))) (c0_1 : Int) (c0_2 : Int) : Spc := ⟨fun ls => .call 22 #[.pointer (some ⟨(lget ls 0).n, 0, none⟩), (rowV (lget ls 4) w0 1), .bool (y2), .int .i64 (y3)], fun ls => [.cells #[.map (some (lget ls 1).n), .int .i64 (w1)] 50, mapP 65 (lget ls 2) w2, arX 71 (lget ls 3) w2 c_Xr71 w3, byX 5 cu8 w2 w3, rowO (lget ls 4) (esG cu8 w0 w4) 5 w0 1], 2, .normal, fun ls => [.int .i64 (c0_2)], fun ls => [.cells #[.map (some (lget ls 1).n), .int .i64 (c0_1)] 50, mapP 65 (lget ls 5) (w2 + 1), unb, unb, rowO (lget ls 4) (esG cu8 w0 w4) 5 w0 1], fun ls => [arX 71 (lget ls 6) (w2 + 1) c_Xr71 c0_0, byX 5 cu8 (w2 + 1) c0_0]⟩
theorem ok0_region_Mem_Add_v2 (y2 : Bool) (y3 : Int) (w0 : Nat) (w1 : Int) (w2 : Nat) (w3 : Nat → (Xr71 × (Nat × (Nat → BitVec 8)))) (w4 : Nat → BitVec 8) (c0_0 : Nat → (Xr71 × (Nat × (Nat → BitVec 8)))) (c0_1 : Int) (c0_2 : Int) (e : m_region_Mem_Add_v2 y2 y3 w0 w1 w2 w3 w4 = some (.e0 c0_0 c0_1 c0_2)) : SpcG Try.prog M B0 S (sq0_region_Mem_Add_v2 y2 y3 w0 w1 w2 w3 w4 c0_0 c0_1 c0_2) := by
  unfold m_region_Mem_Add_v2 at e
  replace e := bindO_eq e
  obtain ⟨g0, e_g0, e⟩ := e
  obtain ⟨g0_0⟩ := g0
  try dsimp only at e
  replace e := bindO_eq e
  obtain ⟨g1, e_g1, e⟩ := e
  obtain ⟨g1_0, g1_1, g1_2⟩ := g1
  try dsimp only at e
  injection e with e; injection e with i0 i1 i2; subst i0 i1 i2; exact fn_specG hU (P := Try.prog) Try.func22 (fun xs w => by kernel_rfl) 5 _ _ (fun _ => rfl) _ _ _ [7, 8] [.o, .o, .o, .o, .o, .o, .o, .o, .o, .xg (ok0_slices_Clone_byte_byte_v2 hU w0 w4 g0_0 e_g0) [4], .o, .o, .o, .o, .o, .xg (ok0_region_Mem_add_v2 hU w1 w2 w3 (0 + w0) y2 (if (w0 : Int) < (if y3 < 0 then 0 else y3) then (w0 : Int) else (if y3 < 0 then 0 else y3)) g0_0 g1_0 g1_1 g1_2 e_g1) [0, 1, 2, 3, 6, 5], .o] [] (fun b => by kernel_rfl)
inductive R_maps_Map_add_v2 where
  | e0 (c0_0 : Nat → (Xr71 × (Nat × (Nat → BitVec 8)))) (c0_1 : Int) (c0_2 : Int)
noncomputable def m_maps_Map_add_v2 (n0 : Nat) (A0 : Nat → BitVec 8) (w0 : Int) (w1 : Int) (w2 : Nat) (w3 : Nat → (Xr71 × (Nat × (Nat → BitVec 8)))) (w4 : Nat) (w5 : Nat → Me42) : Option R_maps_Map_add_v2 :=
  bif decide (n0 ≤ 1000000) then
    ((m_region_Mem_Add_v2 true 0 n0 w1 w2 w3 A0).bind fun g0 => match g0 with
    | .e0 g0_0 g0_1 g0_2 =>
    some (.e0 g0_0 g0_1 g0_2))
  else (none)
def sq0_maps_Map_add_v2 (a0 : Option Addr) (p0 : Nat) (q0 : Nat) (n0 : Nat) (k0 : Nat) (A0 : Nat → BitVec 8) (w0 : Int) (w1 : Int) (w2 : Nat) (w3 : Nat → (Xr71 × (Nat × (Nat → BitVec 8)))) (w4 : Nat) (w5 : Nat → Me42) (c0_0 : Nat → (Xr71 × (Nat × (Nat → BitVec 8)))) (c0_1 : Int) (c0_2 : Int) : Spc := ⟨fun ls => .call 11 #[.pointer (some ⟨(lget ls 0).n, 0, none⟩), .slice a0 n0 (n0 + k0)], fun ls => [.cells #[.int .i64 (1), .int .i64 (4), .int .i64 (2), .int .i64 (w0), .bool false, .int .i64 (0), .pointer (some ⟨(lget ls 1).n, 0, none⟩), .map (some (lget ls 5).n), .slice none 0 0] 45, .cells #[.map (some (lget ls 2).n), .int .i64 (w1)] 50, mapP 65 (lget ls 3) w2, arX 71 (lget ls 4) w2 c_Xr71 w3, byX 5 cu8 w2 w3, mapG kv_Me42 vv_Me42 w4 w5], 2, .normal, fun ls => [.int .i64 (c0_2)], fun ls => [.cells #[.int .i64 (1), .int .i64 (4), .int .i64 (2), .int .i64 (w0), .bool false, .int .i64 (0), .pointer (some ⟨(lget ls 1).n, 0, none⟩), .map (some (lget ls 5).n), .slice none 0 0] 45, .cells #[.map (some (lget ls 2).n), .int .i64 (c0_1)] 50, mapP 65 (lget ls 6) (w2 + 1), unb, unb, mapG kv_Me42 vv_Me42 w4 w5], fun ls => [arX 71 (lget ls 7) (w2 + 1) c_Xr71 c0_0, byX 5 cu8 (w2 + 1) c0_0]⟩
theorem ok0_maps_Map_add_v2 (a0 : Option Addr) (p0 : Nat) (q0 : Nat) (n0 : Nat) (k0 : Nat) (A0 : Nat → BitVec 8) (hR0 : Ro S cu8 1 a0 p0 q0 n0 A0) (w0 : Int) (w1 : Int) (w2 : Nat) (w3 : Nat → (Xr71 × (Nat × (Nat → BitVec 8)))) (w4 : Nat) (w5 : Nat → Me42) (c0_0 : Nat → (Xr71 × (Nat × (Nat → BitVec 8)))) (c0_1 : Int) (c0_2 : Int) (e : m_maps_Map_add_v2 n0 A0 w0 w1 w2 w3 w4 w5 = some (.e0 c0_0 c0_1 c0_2)) : SpcG Try.prog M B0 S (sq0_maps_Map_add_v2 a0 p0 q0 n0 k0 A0 w0 w1 w2 w3 w4 w5 c0_0 c0_1 c0_2) := by
  unfold m_maps_Map_add_v2 at e
  replace e := cond_eq_or e
  rcases e with ⟨hq0, e⟩ | ⟨hq0, e⟩
  · replace e := bindO_eq e
    obtain ⟨g0, e_g0, e⟩ := e
    obtain ⟨g0_0, g0_1, g0_2⟩ := g0
    try dsimp only at e
    injection e with e; injection e with i0 i1 i2; subst i0 i1 i2; exact fn_specG hU (P := Try.prog) Try.func11 (fun xs w => by kernel_rfl) 6 _ _ (fun _ => rfl) _ _ _ [7, 8] [.o, .o, .o, .x (sqMkN_ok rt33 (f := cu8) (a0 := 0#8) cu8_len (by kernel_rfl) hq0 (by decide)) [], .o, .r [] [] [], .o, .o, .xg (p0_maps_Map_hidden_v2 hU w0 w1 w2 w3 w4 w5 ) [0, 1, 2, 3, 4, 5], .q (slc0_ok (T := 33) (e := 5) (sz := 1) (by kernel_rfl) (fun w => by kernel_rfl)), .o, .o, .xg (p0_maps_Map_hidden_v2 hU w0 w1 w2 w3 w4 w5 ) [0, 1, 2, 3, 4, 5], .q (slc0_ok (T := 33) (e := 5) (sz := 1) (by kernel_rfl) (fun w => by kernel_rfl)), .x (sqCpR_ok (ty := 3) rt33 #[false, false] (f := cu8) (N := n0) (c := (n0 + k0)) (B := (fun _ => 0#8)) hR0 cu8_len cu8_one) [6], .r [0, 1, 2, 3, 4, 5] [] [6, 7, 8], .o, .o, .o, .a 0, .o, .o, .xr (p0_maps_Map_hidden_v2 hU w0 w1 w2 w3 w4 w5 ) (fun _ => rfl) rfl (fun _ => rfl) [0, 1, 2, 3, 4, 5], .xg (ok0_region_Mem_Add_v2 hU true 0 n0 w1 w2 w3 A0 g0_0 g0_1 g0_2 e_g0) [1, 2, 3, 4, 6], .o] [] (fun b => by kernel_rfl)
  · exact none_some e
inductive Sh_maps_New_v1_L0 where
  | c0 (s0_0 : Nat) (s0_1 : Nat → (Xr71 × (Nat × (Nat → BitVec 8)))) (s0_2 : Int) (s0_3 : Nat) (s0_4 : Nat → Me42) (s0_5 : Int)
inductive Ex_maps_New_v1_L0 where
  | e0 (c0_0 : Nat) (c0_1 : Nat → (Xr71 × (Nat × (Nat → BitVec 8)))) (c0_2 : Int) (c0_3 : Nat) (c0_4 : Nat → Me42)
noncomputable def st_maps_New_v1_L0 (w0 : Int) : Sh_maps_New_v1_L0 → Option (Sh_maps_New_v1_L0 ⊕ Ex_maps_New_v1_L0)
  | .c0 s0_0 s0_1 s0_2 s0_3 s0_4 s0_5 =>
    bif decide (s0_5 < w0) then
      (bindT (m_maps_index s0_5) fun rb0 =>
      (m_maps_Map_add_v2 2 (fun k => if k = 0 then 0#8 else 0#8) w0 s0_2 s0_0 s0_1 s0_3 s0_4).bind fun gb1 => match gb1 with
      | .e0 gb1_0 gb1_1 gb1_2 =>
      bif decide ((fdx (fun j => (rb0 == (s0_4 j).fk)) s0_3) < s0_3) then
        (some (.inl (.c0 (s0_0 + 1) gb1_0 gb1_1 s0_3 (updF s0_4 (fdx (fun j => (rb0 == (s0_4 j).fk)) s0_3) (⟨rb0, gb1_2⟩ : Me42)) (IntKind.i64.wrap (s0_5 + 1)))))
      else (some (.inl (.c0 (s0_0 + 1) gb1_0 gb1_1 (s0_3 + 1) (updF s0_4 s0_3 (⟨rb0, gb1_2⟩ : Me42)) (IntKind.i64.wrap (s0_5 + 1))))))
    else (some (.inr (.e0 s0_0 s0_1 s0_2 s0_3 s0_4)))
noncomputable def bd_maps_New_v1_L0 : Code := codeOf Try.f5 [1, 1, 1, 1, 0, 1, 0, 0]
def fl_maps_New_v1_L0 (w0 : Int) (w1 : Nat → (Xr71 × (Nat × (Nat → BitVec 8)))) (r0 : Int) : Sh_maps_New_v1_L0 → List L1 → List Value
  | .c0 s0_0 s0_1 s0_2 s0_3 s0_4 s0_5, ls => [.pointer (some ⟨(lget ls 2).n, 0, none⟩), .pointer (some ⟨(lget ls 4).n, 0, none⟩), .int .i64 (w0), .int .i64 (s0_5)]
def mf_maps_New_v1_L0 : Sh_maps_New_v1_L0 → List (Nat × Nat)
  | .c0 _ _ _ _ _ _ => [(0, 2), (1, 3), (1, 16), (2, 30)]
noncomputable def fr_maps_New_v1_L0 (w0 : Int) (w1 : Nat → (Xr71 × (Nat × (Nat → BitVec 8)))) (r0 : Int) (s : Sh_maps_New_v1_L0) : List L1 → List Value := mrgF (mf_maps_New_v1_L0 s) (fl_maps_New_v1_L0 w0 w1 r0 s) 7
def Hs_maps_New_v1_L0 (w0 : Int) (w1 : Nat → (Xr71 × (Nat × (Nat → BitVec 8)))) (r0 : Int) : Sh_maps_New_v1_L0 → List L1 → List Obj
  | .c0 s0_0 s0_1 s0_2 s0_3 s0_4 s0_5, ls => [.cells #[.map (some (lget ls 1).n), .int .i64 (s0_2)] 50, mapP 65 (lget ls 5) s0_0, .cells #[.int .i64 (1), .int .i64 (4), .int .i64 (2), .int .i64 (w0), .bool false, .int .i64 (0)] 29, mapG kv_Me42 vv_Me42 s0_3 s0_4, .cells #[.int .i64 (1), .int .i64 (4), .int .i64 (2), .int .i64 (w0), .bool false, .int .i64 (0), .pointer (some ⟨(lget ls 0).n, 0, none⟩), .map (some (lget ls 3).n), .slice none 0 0] 45, arX 71 (lget ls 6) s0_0 c_Xr71 s0_1, byX 5 cu8 s0_0 s0_1, unb]
def vl_maps_New_v1_L0 (w0 : Int) (w1 : Nat → (Xr71 × (Nat × (Nat → BitVec 8)))) (r0 : Int) : Ex_maps_New_v1_L0 → List L1 → List Value
  | .e0 c0_0 c0_1 c0_2 c0_3 c0_4, ls => [.pointer (some ⟨(lget ls 2).n, 0, none⟩), .pointer (some ⟨(lget ls 4).n, 0, none⟩), .int .i64 (w0)]
def mk_maps_New_v1_L0 : Ex_maps_New_v1_L0 → List (Nat × Nat)
  | .e0 _ _ _ _ _ => [(0, 2), (1, 3), (1, 16), (1, 31)]
noncomputable def vf_maps_New_v1_L0 (w0 : Int) (w1 : Nat → (Xr71 × (Nat × (Nat → BitVec 8)))) (r0 : Int) (r : Ex_maps_New_v1_L0) : List L1 → List Value := mrgF (mk_maps_New_v1_L0 r) (vl_maps_New_v1_L0 w0 w1 r0 r) 7
def Hf_maps_New_v1_L0 (w0 : Int) (w1 : Nat → (Xr71 × (Nat × (Nat → BitVec 8)))) (r0 : Int) : Ex_maps_New_v1_L0 → List L1 → List Obj
  | .e0 c0_0 c0_1 c0_2 c0_3 c0_4, ls => [.cells #[.map (some (lget ls 1).n), .int .i64 (c0_2)] 50, mapP 65 (lget ls 5) c0_0, .cells #[.int .i64 (1), .int .i64 (4), .int .i64 (2), .int .i64 (w0), .bool false, .int .i64 (0)] 29, mapG kv_Me42 vv_Me42 c0_3 c0_4, .cells #[.int .i64 (1), .int .i64 (4), .int .i64 (2), .int .i64 (w0), .bool false, .int .i64 (0), .pointer (some ⟨(lget ls 0).n, 0, none⟩), .map (some (lget ls 3).n), .slice none 0 0] 45, arX 71 (lget ls 6) c0_0 c_Xr71 c0_1, byX 5 cu8 c0_0 c0_1, unb]
def ex_maps_New_v1_L0 : Ex_maps_New_v1_L0 → Ex
  | .e0 _ _ _ _ _ => (.exit 0)
end
section
variable {M : Nat → Prop} {B0 : Nat} {S : World → Prop} (hU : Up M B0 S) (w0 : Int) (w1 : Nat → (Xr71 × (Nat × (Nat → BitVec 8)))) (r0 : Int)
include hU w0 w1 r0
theorem go_maps_New_v1_L0 (s : Sh_maps_New_v1_L0) (r : Ex_maps_New_v1_L0) (h : lpO (st_maps_New_v1_L0 w0) s = some r) : GoesG Try.prog M B0 S (.loop bd_maps_New_v1_L0) 8 (fr_maps_New_v1_L0 w0 w1 r0 s) (Hs_maps_New_v1_L0 w0 w1 r0 s) (ex_maps_New_v1_L0 r) 5 (vf_maps_New_v1_L0 w0 w1 r0 r) (Hf_maps_New_v1_L0 w0 w1 r0 r) 8 :=
  goes_lpO (fun s q e => by
    cases s with
    | c0 s0_0 s0_1 s0_2 s0_3 s0_4 s0_5 =>
      unfold st_maps_New_v1_L0 at e
      dsimp only at e
      replace e := cond_eq_or e
      rcases e with ⟨hq0, e⟩ | ⟨hq0, e⟩
      · replace e := bindT_eq e
        obtain ⟨rb0, e_rb0, e⟩ := e
        try dsimp only at e
        replace e := bindO_eq e
        obtain ⟨gb1, e_gb1, e⟩ := e
        obtain ⟨gb1_0, gb1_1, gb1_2⟩ := gb1
        try dsimp only at e
        replace e := cond_eq_or e
        rcases e with ⟨hq1, e⟩ | ⟨hq1, e⟩
        · cases e; exact goes_runM hU [.b (z_lssT hq0), .o, .o, .o, .a 2, .o, .o, .r [0, 1, 2, 3, 4, 5, 6, 7, 8] [] [9, 10, 11], .o, .o, .o, .a 4, .o, .cg (ok_maps_index hU s0_5 rb0 e_rb0), .o, .o, .a 2, .o, .xk (SpcG.own hU (f := cu8) cu8_len 2 (fun k => if k = 0 then 0#8 else 0#8) 5 (fun _ => []) (fun _ => 0) _ 2 .normal (by intros; rfl) (by intros; rfl) (by intros; rfl) (fun M0 B0 S0 x0 u0 v0 z0 hU0 hs0 hr0 => ok0_maps_Map_add_v2 hU0 x0 u0 v0 2 z0 (fun k => if k = 0 then 0#8 else 0#8) hr0 w0 s0_2 s0_0 s0_1 s0_3 s0_4 gb1_0 gb1_1 gb1_2 e_gb1)) [0, 1, 6] [8, 4, 0, 1, 5, 6, 3] (fun ls ms hq1 h2 => match ls, ms, hq1, h2 with | [a0, a1, a2, a3, a4, a5, a6], [b0, b1], _, _ => ⟨rfl, rfl, rfl, trivial⟩), .xg (upG_has (T := 42) (kf := kv_Me42) (vf := vv_Me42) (N := s0_3) (A := s0_4) (e := (fun j => (rb0 == (s0_4 j).fk))) (kt := 9) (el := 3) (d := .string) (⟨rb0, gb1_2⟩ : Me42) (by kernel_rfl) (by kernel_rfl) (fun _ => trivial) (fun _ => rfl) (of_decide_eq_true hq1)) [3], .o, .o] [0, 1, 2, 3, 4, 9, 10] (fun b => rfl) (by decide) rfl rfl (fun b => by kernel_rfl)
        · cases e; exact goes_runM hU [.b (z_lssT hq0), .o, .o, .o, .a 2, .o, .o, .r [0, 1, 2, 3, 4, 5, 6, 7, 8] [] [9, 10, 11], .o, .o, .o, .a 4, .o, .cg (ok_maps_index hU s0_5 rb0 e_rb0), .o, .o, .a 2, .o, .xk (SpcG.own hU (f := cu8) cu8_len 2 (fun k => if k = 0 then 0#8 else 0#8) 5 (fun _ => []) (fun _ => 0) _ 2 .normal (by intros; rfl) (by intros; rfl) (by intros; rfl) (fun M0 B0 S0 x0 u0 v0 z0 hU0 hs0 hr0 => ok0_maps_Map_add_v2 hU0 x0 u0 v0 2 z0 (fun k => if k = 0 then 0#8 else 0#8) hr0 w0 s0_2 s0_0 s0_1 s0_3 s0_4 gb1_0 gb1_1 gb1_2 e_gb1)) [0, 1, 6] [8, 4, 0, 1, 5, 6, 3] (fun ls ms hq1 h2 => match ls, ms, hq1, h2 with | [a0, a1, a2, a3, a4, a5, a6], [b0, b1], _, _ => ⟨rfl, rfl, rfl, trivial⟩), .xg (upG_new (T := 42) (kf := kv_Me42) (vf := vv_Me42) (N := s0_3) (A := s0_4) (e := (fun j => (rb0 == (s0_4 j).fk))) (kt := 9) (el := 3) (d := .string) (⟨rb0, gb1_2⟩ : Me42) (by kernel_rfl) (by kernel_rfl) trivial (fun _ => rfl) (of_decide_eq_false hq1)) [3], .o, .o] [0, 1, 2, 3, 4, 9, 10] (fun b => rfl) (by decide) rfl rfl (fun b => by kernel_rfl)
      · cases e; exact ⟨ne_exit 0, goes_runM hU [.b (z_lssF hq0)] [0, 1, 2, 3, 4, 5, 6] (fun b => rfl) (by decide) rfl rfl (fun b => by kernel_rfl)⟩) s r h
noncomputable def t0_maps_New_v1_L0_0 (w0 : Int) (w1 : Nat → (Xr71 × (Nat × (Nat → BitVec 8)))) (r0 : Int) (s0_0 : Nat) (s0_1 : Nat → (Xr71 × (Nat × (Nat → BitVec 8)))) (s0_2 : Int) (s0_3 : Nat) (s0_4 : Nat → Me42) (s0_5 : Int) (ls : List L1) : List Value := List.append [.agg #[.int .i64 (1), .int .i64 (4), .int .i64 (2), .int .i64 (w0), .bool false, .int .i64 (0)], .pointer (some ⟨(lget ls 0).n, 0, none⟩), .pointer (some ⟨(lget ls 2).n, 0, none⟩), undef, .pointer none, .int .i64 (0), .pointer (some ⟨(lget ls 4).n, 0, none⟩), undef, .pointer (some ⟨(lget ls 2).n, 5, none⟩), .agg #[.int .i64 (1), .int .i64 (4), .int .i64 (2), .int .i64 (w0), .bool false, .int .i64 (0)], .int .i64 (r0), .bool false, .bool false, .pointer (some ⟨(lget ls 2).n, 0, none⟩), .int .i64 (1), .bool false, .bool false, .agg #[.int .i64 (1), .int .i64 (4), .int .i64 (2), .int .i64 (w0), .bool false, .int .i64 (0)], .pointer (some ⟨(lget ls 0).n, 0, none⟩), .map (some (lget ls 3).n), .agg #[.int .i64 (1), .int .i64 (4), .int .i64 (2), .int .i64 (w0), .bool false, .int .i64 (0), .pointer (some ⟨(lget ls 0).n, 0, none⟩), .map (some (lget ls 3).n), .slice none 0 0], .pointer (some ⟨(lget ls 4).n, 0, none⟩), .pointer (some ⟨(lget ls 2).n, 3, none⟩), .int .i64 (w0), .int .i64 (s0_5)] (und 30)
def pre_maps_New_v1_L0_0 (w0 : Int) (w1 : Nat → (Xr71 × (Nat × (Nat → BitVec 8)))) (r0 : Int) (s0_0 : Nat) (s0_1 : Nat → (Xr71 × (Nat × (Nat → BitVec 8)))) (s0_2 : Int) (s0_3 : Nat) (s0_4 : Nat → Me42) (s0_5 : Int) (ls : List L1) : List Obj := [.cells #[.map (some (lget ls 1).n), .int .i64 (s0_2)] 50, mapP 65 (lget ls 5) s0_0, .cells #[.int .i64 (1), .int .i64 (4), .int .i64 (2), .int .i64 (w0), .bool false, .int .i64 (0)] 29, mapG kv_Me42 vv_Me42 s0_3 s0_4, .cells #[.int .i64 (1), .int .i64 (4), .int .i64 (2), .int .i64 (w0), .bool false, .int .i64 (0), .pointer (some ⟨(lget ls 0).n, 0, none⟩), .map (some (lget ls 3).n), .slice none 0 0] 45, arX 71 (lget ls 6) s0_0 c_Xr71 s0_1, byX 5 cu8 s0_0 s0_1]
theorem sp0_maps_New_v1_L0_0_ok (s0_0 : Nat) (s0_1 : Nat → (Xr71 × (Nat × (Nat → BitVec 8)))) (s0_2 : Int) (s0_3 : Nat) (s0_4 : Nat → Me42) (s0_5 : Int) (c0_0 : Nat) (c0_1 : Nat → (Xr71 × (Nat × (Nat → BitVec 8)))) (c0_2 : Int) (c0_3 : Nat) (c0_4 : Nat → Me42) (h : lpO (st_maps_New_v1_L0 w0) (.c0 s0_0 s0_1 s0_2 s0_3 s0_4 s0_5) = some (.e0 c0_0 c0_1 c0_2 c0_3 c0_4)) : SpcG Try.prog M B0 S ⟨fun ls => .code (.loop bd_maps_New_v1_L0) (t0_maps_New_v1_L0_0 w0 w1 r0 s0_0 s0_1 s0_2 s0_3 s0_4 s0_5 ls), pre_maps_New_v1_L0_0 w0 w1 r0 s0_0 s0_1 s0_2 s0_3 s0_4 s0_5, 3, (.exit 0), fun ls => vf_maps_New_v1_L0 w0 w1 r0 (.e0 c0_0 c0_1 c0_2 c0_3 c0_4) (ls.take 5 ++ ls.drop 7), fun ls => (Hf_maps_New_v1_L0 w0 w1 r0 (.e0 c0_0 c0_1 c0_2 c0_3 c0_4) (ls.take 5 ++ ls.drop 7)).take 5 ++ List.replicate 2 unb, fun ls => (Hf_maps_New_v1_L0 w0 w1 r0 (.e0 c0_0 c0_1 c0_2 c0_3 c0_4) (ls.take 5 ++ ls.drop 7)).drop 5⟩ :=
  spc_of_goesM hU 0 (k0 := 7) (go_maps_New_v1_L0 hU w0 w1 r0 _ _ h) (t0_maps_New_v1_L0_0 w0 w1 r0 s0_0 s0_1 s0_2 s0_3 s0_4 s0_5) (pre_maps_New_v1_L0_0 w0 w1 r0 s0_0 s0_1 s0_2 s0_3 s0_4 s0_5) (fun _ => rfl) (fun ls h => by match ls, h with | [l0, l1, l2, l3, l4, l5, l6], _ => exact ⟨by kernel_rfl, by kernel_rfl⟩) (fun ls h => by match ls, h with | [l0, l1, l2, l3, l4, l5, l6], _ => rfl) (by decide) (by decide) (fun ls => rfl)
inductive R_maps_New_v1 where
  | e0 (c0_0 : Nat) (c0_1 : Nat → (Xr71 × (Nat × (Nat → BitVec 8)))) (c0_2 : Int) (c0_3 : Nat) (c0_4 : Nat → Me42)
  | e1 
noncomputable def m_maps_New_v1 (w0 : Int) (w1 : Nat → (Xr71 × (Nat × (Nat → BitVec 8)))) : Option R_maps_New_v1 :=
  bindT (m_object_Def_v1 w0) fun r0 =>
  bif r0 == 0 then
    ((lpO (st_maps_New_v1_L0 w0) (.c0 0 w1 0 0 (fun _ => (⟨ByteArray.empty, 0⟩ : Me42)) 0)).bind fun g1 => match g1 with
    | .e0 g1_0 g1_1 g1_2 g1_3 g1_4 =>
    some (.e0 g1_0 g1_1 g1_2 g1_3 g1_4))
  else (some (.e1))
def sq0_maps_New_v1 (w0 : Int) (w1 : Nat → (Xr71 × (Nat × (Nat → BitVec 8)))) (c0_0 : Nat) (c0_1 : Nat → (Xr71 × (Nat × (Nat → BitVec 8)))) (c0_2 : Int) (c0_3 : Nat) (c0_4 : Nat → Me42) : Spc := ⟨fun ls => .call 5 #[.agg #[.int .i64 (1), .int .i64 (4), .int .i64 (2), .int .i64 (w0), .bool false, .int .i64 (0)], .pointer (some ⟨(lget ls 0).n, 0, none⟩)], fun ls => [.cells #[.map (some (lget ls 1).n), .int .i64 (0)] 50, mapP 65 (lget ls 2) 0, arX 71 (lget ls 3) 0 c_Xr71 w1, byX 5 cu8 0 w1], 4, .normal, fun ls => [.tuple #[.pointer (some ⟨(lget ls 6).n, 0, none⟩), .int .i64 (0)]], fun ls => [.cells #[.map (some (lget ls 1).n), .int .i64 (c0_2)] 50, mapP 65 (lget ls 4) c0_0, unb, unb], fun ls => [arX 71 (lget ls 5) c0_0 c_Xr71 c0_1, byX 5 cu8 c0_0 c0_1, .cells #[.int .i64 (1), .int .i64 (4), .int .i64 (2), .int .i64 (w0), .bool false, .int .i64 (0), .pointer (some ⟨(lget ls 0).n, 0, none⟩), .map (some (lget ls 7).n), .slice none 0 0] 45, mapG kv_Me42 vv_Me42 c0_3 c0_4]⟩
def sq1_maps_New_v1 (w0 : Int) (w1 : Nat → (Xr71 × (Nat × (Nat → BitVec 8))))  : Spc := ⟨fun ls => .call 5 #[.agg #[.int .i64 (1), .int .i64 (4), .int .i64 (2), .int .i64 (w0), .bool false, .int .i64 (0)], .pointer (some ⟨(lget ls 0).n, 0, none⟩)], fun ls => [.cells #[.map (some (lget ls 1).n), .int .i64 (0)] 50, mapP 65 (lget ls 2) 0, arX 71 (lget ls 3) 0 c_Xr71 w1, byX 5 cu8 0 w1], 0, .normal, fun ls => [.tuple #[.pointer none, .int .i64 (90)]], fun ls => [.cells #[.map (some (lget ls 1).n), .int .i64 (0)] 50, mapP 65 (lget ls 2) 0, arX 71 (lget ls 3) 0 c_Xr71 w1, byX 5 cu8 0 w1], fun ls => []⟩
end
section
variable {M : Nat → Prop} {B0 : Nat} {S : World → Prop} (hU : Up M B0 S) (w0 : Int) (w1 : Nat → (Xr71 × (Nat × (Nat → BitVec 8))))
include hU w0 w1
theorem ok0_maps_New_v1 (c0_0 : Nat) (c0_1 : Nat → (Xr71 × (Nat × (Nat → BitVec 8)))) (c0_2 : Int) (c0_3 : Nat) (c0_4 : Nat → Me42) (e : m_maps_New_v1 w0 w1 = some (.e0 c0_0 c0_1 c0_2 c0_3 c0_4)) : SpcG Try.prog M B0 S (sq0_maps_New_v1 w0 w1 c0_0 c0_1 c0_2 c0_3 c0_4) := by
  unfold m_maps_New_v1 at e
  replace e := bindT_eq e
  obtain ⟨r0, e_r0, e⟩ := e
  try dsimp only at e
  replace e := cond_eq_or e
  rcases e with ⟨hq0, e⟩ | ⟨hq0, e⟩
  · replace e := bindO_eq e
    obtain ⟨g1, e_g1, e⟩ := e
    obtain ⟨g1_0, g1_1, g1_2, g1_3, g1_4⟩ := g1
    try dsimp only at e
    injection e with e; injection e with i0 i1 i2 i3 i4; subst i0 i1 i2 i3 i4; exact fn_specG hU (P := Try.prog) Try.func5 (fun xs w => by kernel_rfl) 4 _ _ (fun _ => rfl) _ _ _ [7, 8, 6, 5] [.o, .o, .o, .o, .a 4, .a 4, .cg (ok_object_Def_v1 hU w0 r0 e_r0), .b (z_neqT hq0), .o, .o, .a 4, .o, .o, .a 4, .o, .o, .o, .o, .o, .o, .a 4, .o, .cp, .cx (sp0_maps_New_v1_L0_0_ok hU w0 w1 r0 0 w1 0 0 (fun _ => (⟨ByteArray.empty, 0⟩ : Me42)) 0 g1_0 g1_1 g1_2 g1_3 g1_4 e_g1) [0, 1, 4, 5, 6, 2, 3], .o, .o, .o] [] (fun b => by kernel_rfl)
  · cases e
theorem ok1_maps_New_v1 (e : m_maps_New_v1 w0 w1 = some (.e1 )) : SpcG Try.prog M B0 S (sq1_maps_New_v1 w0 w1 ) := by
  unfold m_maps_New_v1 at e
  replace e := bindT_eq e
  obtain ⟨r0, e_r0, e⟩ := e
  try dsimp only at e
  replace e := cond_eq_or e
  rcases e with ⟨hq0, e⟩ | ⟨hq0, e⟩
  · replace e := bindO_eq e
    obtain ⟨g1, e_g1, e⟩ := e
    obtain ⟨g1_0, g1_1, g1_2, g1_3, g1_4⟩ := g1
    try dsimp only at e
    cases e
  · exact fn_specG hU (P := Try.prog) Try.func5 (fun xs w => by kernel_rfl) 4 _ _ (fun _ => rfl) _ _ _ [] [.o, .o, .o, .o, .a 4, .a 4, .cg (ok_object_Def_v1 hU w0 r0 e_r0), .b (z_neqF hq0), .o, .o, .o, .o] [] (fun b => by kernel_rfl)
inductive R_maps_Map_checkKey_v3 where
  | e0 (c0_0 : Int)
noncomputable def m_maps_Map_checkKey_v3 (n0 : Nat) (A0 : Nat → BitVec 8) (w0 : Int) (w1 : Int) (w2 : Nat) (w3 : Nat → (Xr71 × (Nat × (Nat → BitVec 8)))) (w4 : Nat) (w5 : Nat → Me42) : Option R_maps_Map_checkKey_v3 :=
  bif (n0 : Int) == 4 then
    (some (.e0 0))
  else (some (.e0 91))
def sq0_maps_Map_checkKey_v3 (a0 : Option Addr) (p0 : Nat) (q0 : Nat) (n0 : Nat) (k0 : Nat) (A0 : Nat → BitVec 8) (w0 : Int) (w1 : Int) (w2 : Nat) (w3 : Nat → (Xr71 × (Nat × (Nat → BitVec 8)))) (w4 : Nat) (w5 : Nat → Me42) (c0_0 : Int) : Spc := ⟨fun ls => .call 13 #[.pointer (some ⟨(lget ls 0).n, 0, none⟩), .slice a0 n0 (n0 + k0)], fun ls => [.cells #[.int .i64 (1), .int .i64 (4), .int .i64 (2), .int .i64 (w0), .bool false, .int .i64 (0), .pointer (some ⟨(lget ls 1).n, 0, none⟩), .map (some (lget ls 5).n), .slice none 0 0] 45, .cells #[.map (some (lget ls 2).n), .int .i64 (w1)] 50, mapP 65 (lget ls 3) w2, arX 71 (lget ls 4) w2 c_Xr71 w3, byX 5 cu8 w2 w3, mapG kv_Me42 vv_Me42 w4 w5], 0, .normal, fun ls => [.int .i64 (c0_0)], fun ls => [.cells #[.int .i64 (1), .int .i64 (4), .int .i64 (2), .int .i64 (w0), .bool false, .int .i64 (0), .pointer (some ⟨(lget ls 1).n, 0, none⟩), .map (some (lget ls 5).n), .slice none 0 0] 45, .cells #[.map (some (lget ls 2).n), .int .i64 (w1)] 50, mapP 65 (lget ls 3) w2, arX 71 (lget ls 4) w2 c_Xr71 w3, byX 5 cu8 w2 w3, mapG kv_Me42 vv_Me42 w4 w5], fun ls => []⟩
end
section
variable {M : Nat → Prop} {B0 : Nat} {S : World → Prop} (hU : Up M B0 S)
include hU
theorem ok0_maps_Map_checkKey_v3 (a0 : Option Addr) (p0 : Nat) (q0 : Nat) (n0 : Nat) (k0 : Nat) (A0 : Nat → BitVec 8) (hR0 : Ro S cu8 1 a0 p0 q0 n0 A0) (w0 : Int) (w1 : Int) (w2 : Nat) (w3 : Nat → (Xr71 × (Nat × (Nat → BitVec 8)))) (w4 : Nat) (w5 : Nat → Me42) (c0_0 : Int) (e : m_maps_Map_checkKey_v3 n0 A0 w0 w1 w2 w3 w4 w5 = some (.e0 c0_0)) : SpcG Try.prog M B0 S (sq0_maps_Map_checkKey_v3 a0 p0 q0 n0 k0 A0 w0 w1 w2 w3 w4 w5 c0_0) := by
  unfold m_maps_Map_checkKey_v3 at e
  replace e := cond_eq_or e
  rcases e with ⟨hq0, e⟩ | ⟨hq0, e⟩
  · injection e with e; injection e with i0; subst i0; exact fn_specG hU (P := Try.prog) Try.func13 (fun xs w => by kernel_rfl) 6 _ _ (fun _ => rfl) _ _ _ [] [.o, .o, .o, .o, .o, .a 0, .o, .o, .o, .o, .o, .o, .o, .o, .a 0, .b (z_neqT hq0), .o] [] (fun b => by kernel_rfl)
  · injection e with e; injection e with i0; subst i0; exact fn_specG hU (P := Try.prog) Try.func13 (fun xs w => by kernel_rfl) 6 _ _ (fun _ => rfl) _ _ _ [] [.o, .o, .o, .o, .o, .a 0, .o, .o, .o, .o, .o, .o, .o, .o, .a 0, .b (z_neqF hq0), .o] [] (fun b => by kernel_rfl)
inductive R_maps_Map_checkUpdate_v2 where
  | e0 (c0_0 : Int)
noncomputable def m_maps_Map_checkUpdate_v2 (y1 : Bool) (y2 : BitVec 64) (w0 : Int) (w1 : Int) (w2 : Nat) (w3 : Nat → (Xr71 × (Nat × (Nat → BitVec 8)))) (w4 : Nat) (w5 : Nat → Me42) : Option R_maps_Map_checkUpdate_v2 :=
  bif BitVec.ult (2#64) y2 then
    (some (.e0 96))
  else (bif y1 then
    (bif y2 == 1#64 then
      (some (.e0 94))
    else (some (.e0 0)))
  else (some (.e0 93)))
def sq0_maps_Map_checkUpdate_v2 (y1 : Bool) (y2 : BitVec 64) (w0 : Int) (w1 : Int) (w2 : Nat) (w3 : Nat → (Xr71 × (Nat × (Nat → BitVec 8)))) (w4 : Nat) (w5 : Nat → Me42) (c0_0 : Int) : Spc := ⟨fun ls => .call 14 #[.pointer (some ⟨(lget ls 0).n, 0, none⟩), .bool (y1), .int .u64 (nn y2)], fun ls => [.cells #[.int .i64 (1), .int .i64 (4), .int .i64 (2), .int .i64 (w0), .bool false, .int .i64 (0), .pointer (some ⟨(lget ls 1).n, 0, none⟩), .map (some (lget ls 5).n), .slice none 0 0] 45, .cells #[.map (some (lget ls 2).n), .int .i64 (w1)] 50, mapP 65 (lget ls 3) w2, arX 71 (lget ls 4) w2 c_Xr71 w3, byX 5 cu8 w2 w3, mapG kv_Me42 vv_Me42 w4 w5], 0, .normal, fun ls => [.int .i64 (c0_0)], fun ls => [.cells #[.int .i64 (1), .int .i64 (4), .int .i64 (2), .int .i64 (w0), .bool false, .int .i64 (0), .pointer (some ⟨(lget ls 1).n, 0, none⟩), .map (some (lget ls 5).n), .slice none 0 0] 45, .cells #[.map (some (lget ls 2).n), .int .i64 (w1)] 50, mapP 65 (lget ls 3) w2, arX 71 (lget ls 4) w2 c_Xr71 w3, byX 5 cu8 w2 w3, mapG kv_Me42 vv_Me42 w4 w5], fun ls => []⟩
theorem ok0_maps_Map_checkUpdate_v2 (y1 : Bool) (y2 : BitVec 64) (w0 : Int) (w1 : Int) (w2 : Nat) (w3 : Nat → (Xr71 × (Nat × (Nat → BitVec 8)))) (w4 : Nat) (w5 : Nat → Me42) (c0_0 : Int) (e : m_maps_Map_checkUpdate_v2 y1 y2 w0 w1 w2 w3 w4 w5 = some (.e0 c0_0)) : SpcG Try.prog M B0 S (sq0_maps_Map_checkUpdate_v2 y1 y2 w0 w1 w2 w3 w4 w5 c0_0) := by
  unfold m_maps_Map_checkUpdate_v2 at e
  replace e := cond_eq_or e
  rcases e with ⟨hq0, e⟩ | ⟨hq0, e⟩
  · injection e with e; injection e with i0; subst i0; exact fn_specG hU (P := Try.prog) Try.func14 (fun xs w => by kernel_rfl) 6 _ _ (fun _ => rfl) _ _ _ [] [.o, .o, .t (u_gt y2 (2#64)) hq0, .o, .o] [] (fun b => by kernel_rfl)
  · replace e := cond_eq_or e
    rcases e with ⟨hq1, e⟩ | ⟨hq1, e⟩
    · replace e := cond_eq_or e
      rcases e with ⟨hq2, e⟩ | ⟨hq2, e⟩
      · injection e with e; injection e with i0; subst i0; exact fn_specG hU (P := Try.prog) Try.func14 (fun xs w => by kernel_rfl) 6 _ _ (fun _ => rfl) _ _ _ [] [.o, .o, .t (u_gt y2 (2#64)) hq0, .o, .b hq1, .o, .o, .o, .o, .b hq1, .o, .o, .t (u_eq y2 (1#64)) hq2, .o, .o, .o] [] (fun b => by kernel_rfl)
      · injection e with e; injection e with i0; subst i0; exact fn_specG hU (P := Try.prog) Try.func14 (fun xs w => by kernel_rfl) 6 _ _ (fun _ => rfl) _ _ _ [] [.o, .o, .t (u_gt y2 (2#64)) hq0, .o, .b hq1, .o, .o, .o, .o, .b hq1, .o, .o, .t (u_eq y2 (1#64)) hq2, .o, .o, .b hq1, .o, .o, .o, .o, .r [0, 1, 2, 3, 4, 5, 6, 7, 8, 9, 10, 11, 12, 13, 14, 15] [] [], .b hq1, .o, .o, .o, .o, .o] [] (fun b => by kernel_rfl)
    · injection e with e; injection e with i0; subst i0; exact fn_specG hU (P := Try.prog) Try.func14 (fun xs w => by kernel_rfl) 6 _ _ (fun _ => rfl) _ _ _ [] [.o, .o, .t (u_gt y2 (2#64)) hq0, .o, .b hq1, .o, .o, .o, .o, .o, .o, .a 0, .o, .o, .o, .o] [] (fun b => by kernel_rfl)
noncomputable def m_region_inside (y0 : Int) (y1 : Int) (y2 : Int) (y3 : Int) : Bool :=
  bif y1 == 0 then
    (true)
  else (bif decide (0 < y1) then
    (bif decide (y2 ≤ y0) then
      ((decide (y0 ≤ (IntKind.i64.wrap (y3 - y1)))))
    else (false))
  else (false))
theorem ok_region_inside (y0 : Int) (y1 : Int) (y2 : Int) (y3 : Int) (r : Bool) (e : m_region_inside y0 y1 y2 y3 = r) : ConG Try.prog S 23 #[.int .i64 (y0), .int .i64 (y1), .int .i64 (y2), .int .i64 (y3)] (.bool (r)) := by
  unfold m_region_inside at e
  replace e := cond_eq_or e
  rcases e with ⟨hq0, e⟩ | ⟨hq0, e⟩
  · subst e; exact fn_conG hU (P := Try.prog) Try.func23 (fun xs w => by kernel_rfl) _ _ [.o, .o, .b (z_eqlT hq0), .o, .o, .o] [] (fun b => by kernel_rfl)
  · replace e := cond_eq_or e
    rcases e with ⟨hq1, e⟩ | ⟨hq1, e⟩
    · replace e := cond_eq_or e
      rcases e with ⟨hq2, e⟩ | ⟨hq2, e⟩
      · subst e; exact fn_conG hU (P := Try.prog) Try.func23 (fun xs w => by kernel_rfl) _ _ [.o, .o, .b (z_eqlF hq0), .o, .o, .b (z_gtrT hq1), .o, .o, .o, .b (z_geqT hq2), .o, .o, .o, .o, .o, .o, .o, .o, .o, .o] [] (fun b => by kernel_rfl)
      · subst e; exact fn_conG hU (P := Try.prog) Try.func23 (fun xs w => by kernel_rfl) _ _ [.o, .o, .b (z_eqlF hq0), .o, .o, .b (z_gtrT hq1), .o, .o, .o, .b (z_geqF hq2), .o, .o, .o, .o, .o] [] (fun b => by kernel_rfl)
    · subst e; exact fn_conG hU (P := Try.prog) Try.func23 (fun xs w => by kernel_rfl) _ _ [.o, .o, .b (z_eqlF hq0), .o, .o, .b (z_gtrF hq1), .o, .o, .o, .o, .o, .o] [] (fun b => by kernel_rfl)
inductive R_region_area_put where
  | e0 (c0_0 : Nat → BitVec 8)
noncomputable def m_region_area_put (n0 : Nat) (A0 : Nat → BitVec 8) (w0 : Nat) (w1 : Bool) (w2 : Int) (w3 : Bool) (w4 : Nat → BitVec 8) : Option R_region_area_put :=
  bif decide (0 + n0 ≤ w0) then
    (some (.e0 (cpF w4 0 n0 A0)))
  else (none)
def sq0_region_area_put (a0 : Option Addr) (p0 : Nat) (q0 : Nat) (n0 : Nat) (k0 : Nat) (A0 : Nat → BitVec 8) (w0 : Nat) (w1 : Bool) (w2 : Int) (w3 : Bool) (w4 : Nat → BitVec 8) (c0_0 : Nat → BitVec 8) : Spc := ⟨fun ls => .call 24 #[.pointer (some ⟨(lget ls 0).n, 0, none⟩), .int .i64 (0), .slice a0 n0 (n0 + k0)], fun ls => [.cells #[(rowV (lget ls 1) w0 1), .bool (w1), .int .i64 (w2), .bool (w3)] 71, rowO (lget ls 1) (esG cu8 w0 w4) 5 w0 1], 0, .normal, fun ls => [.tuple #[]], fun ls => [.cells #[(rowV (lget ls 1) w0 1), .bool (w1), .int .i64 (w2), .bool (w3)] 71, rowO (lget ls 1) (esG cu8 w0 c0_0) 5 w0 1], fun ls => []⟩
theorem ok0_region_area_put (a0 : Option Addr) (p0 : Nat) (q0 : Nat) (n0 : Nat) (k0 : Nat) (A0 : Nat → BitVec 8) (hR0 : Ro S cu8 1 a0 p0 q0 n0 A0) (w0 : Nat) (w1 : Bool) (w2 : Int) (w3 : Bool) (w4 : Nat → BitVec 8) (c0_0 : Nat → BitVec 8) (e : m_region_area_put n0 A0 w0 w1 w2 w3 w4 = some (.e0 c0_0)) : SpcG Try.prog M B0 S (sq0_region_area_put a0 p0 q0 n0 k0 A0 w0 w1 w2 w3 w4 c0_0) := by
  unfold m_region_area_put at e
  replace e := cond_eq_or e
  rcases e with ⟨hq0, e⟩ | ⟨hq0, e⟩
  · injection e with e; injection e with i0; subst i0; exact fn_specG hU (P := Try.prog) Try.func24 (fun xs w => by kernel_rfl) 2 _ _ (fun _ => rfl) _ _ _ [] [.o, .o, .o, .a 0, .o, .q (slc0_ok (T := 33) (e := 5) (sz := 1) (by kernel_rfl) (fun w => by kernel_rfl)), .o, .x (sqCpA_ok rt33 3 #[false, false] (f := cu8) (N := w0) (n := n0) (p := 0) (c := (n0 + k0)) (A := w4) (cv := fun l => _) (dv := fun l => (rowV l w0 1)) hR0 cu8_len cu8_one (fun _ => rfl) hq0) [1]] [] (fun b => by kernel_rfl)
  · exact none_some e
inductive R_region_Mem_Set where
  | e0 (c0_0 : Nat → (Xr71 × (Nat × (Nat → BitVec 8)))) (c0_1 : Bool)
noncomputable def m_region_Mem_Set (y1 : Int) (n0 : Nat) (A0 : Nat → BitVec 8) (w0 : Int) (w1 : Nat) (w2 : Nat → (Xr71 × (Nat × (Nat → BitVec 8)))) : Option R_region_Mem_Set :=
  bif inR (y1 - 1) w1 then
    (bif decide (0 < (w2 (y1 - 1).toNat).2.1) then
      (bif m_region_inside 0 (n0 : Int) 0 ((w2 (y1 - 1).toNat).2.1 : Int) then
        (bif decide (0 < (n0 : Int)) then
          ((m_region_area_put n0 A0 (w2 (y1 - 1).toNat).2.1 ((w2 (y1 - 1).toNat).1).fwrite ((w2 (y1 - 1).toNat).1).fhidden ((w2 (y1 - 1).toNat).1).fdead (w2 (y1 - 1).toNat).2.2).bind fun g0 => match g0 with
          | .e0 g0_0 =>
          some (.e0 (updF w2 (y1 - 1).toNat (((w2 (y1 - 1).toNat).1), (w2 (y1 - 1).toNat).2.1, g0_0)) true))
        else (some (.e0 w2 true)))
      else (some (.e0 w2 false)))
    else (bif m_region_inside 0 (n0 : Int) 0 0 then
      (bif decide (0 < (n0 : Int)) then
        (none)
      else (some (.e0 w2 true)))
    else (some (.e0 w2 false))))
  else (some (.e0 w2 false))
def sq0_region_Mem_Set (y1 : Int) (a0 : Option Addr) (p0 : Nat) (q0 : Nat) (n0 : Nat) (k0 : Nat) (A0 : Nat → BitVec 8) (w0 : Int) (w1 : Nat) (w2 : Nat → (Xr71 × (Nat × (Nat → BitVec 8)))) (c0_0 : Nat → (Xr71 × (Nat × (Nat → BitVec 8)))) (c0_1 : Bool) : Spc := ⟨fun ls => .call 15 #[.pointer (some ⟨(lget ls 0).n, 0, none⟩), .int .i64 (y1), .int .i64 (0), .slice a0 n0 (n0 + k0)], fun ls => [.cells #[.map (some (lget ls 1).n), .int .i64 (w0)] 50, mapP 65 (lget ls 2) w1, arX 71 (lget ls 3) w1 c_Xr71 w2, byX 5 cu8 w1 w2], 0, .normal, fun ls => [.bool (c0_1)], fun ls => [.cells #[.map (some (lget ls 1).n), .int .i64 (w0)] 50, mapP 65 (lget ls 2) w1, arX 71 (lget ls 3) w1 c_Xr71 c0_0, byX 5 cu8 w1 c0_0], fun ls => []⟩
theorem ok0_region_Mem_Set (y1 : Int) (a0 : Option Addr) (p0 : Nat) (q0 : Nat) (n0 : Nat) (k0 : Nat) (A0 : Nat → BitVec 8) (hR0 : Ro S cu8 1 a0 p0 q0 n0 A0) (w0 : Int) (w1 : Nat) (w2 : Nat → (Xr71 × (Nat × (Nat → BitVec 8)))) (c0_0 : Nat → (Xr71 × (Nat × (Nat → BitVec 8)))) (c0_1 : Bool) (e : m_region_Mem_Set y1 n0 A0 w0 w1 w2 = some (.e0 c0_0 c0_1)) : SpcG Try.prog M B0 S (sq0_region_Mem_Set y1 a0 p0 q0 n0 k0 A0 w0 w1 w2 c0_0 c0_1) := by
  unfold m_region_Mem_Set at e
  replace e := cond_eq_or e
  rcases e with ⟨hq0, e⟩ | ⟨hq0, e⟩
  · replace e := cond_eq_or e
    rcases e with ⟨hq1, e⟩ | ⟨hq1, e⟩
    · replace e := cond_eq_or e
      rcases e with ⟨hq2, e⟩ | ⟨hq2, e⟩
      · replace e := cond_eq_or e
        rcases e with ⟨hq3, e⟩ | ⟨hq3, e⟩
        · replace e := bindO_eq e
          obtain ⟨g0, e_g0, e⟩ := e
          obtain ⟨g0_0⟩ := g0
          try dsimp only at e
          injection e with e; injection e with i0 i1; subst i0 i1; exact fn_specG hU (P := Try.prog) Try.func15 (fun xs w => by kernel_rfl) 4 _ _ (fun _ => rfl) _ _ _ [] [.o, .o, .o, .o, .a 0, .o, .xg (lkX_has (T := 71) (TB := 5) (f := cu8) (g := c_Xr71) (N := w1) (X := w2) (Tm := 48) (I := 65) (kt := 3) (el := 68) false (x := y1) (by kernel_rfl) (by kernel_rfl) hq0) [1, 2, 3], .o, .o, .o, .o, .o, .o, .o, .o, .o, .o, .o, .o, .o, .o, .o, .xg (ldXS_ok (T := 71) (TB := 5) (f := cu8) (g := c_Xr71) (N := w1) (X := w2) (T1 := 33) (k := (y1 - 1).toNat) (fun w => by kernel_rfl) (inR_nat hq0) hq1) [2, 3], .o, .cg (ok_region_inside hU 0 (n0 : Int) 0 ((w2 (y1 - 1).toNat).2.1 : Int) true hq2), .o, .o, .o, .o, .b (z_gtrT hq3), .o, .o, .o, .xg (memXh_ok (T := 71) (TB := 5) (f := cu8) (g := c_Xr71) (N := w1) (X := w2) (k := (y1 - 1).toNat) (a' := ((w2 (y1 - 1).toNat).1)) (B' := g0_0) (ok0_region_area_put hU a0 p0 q0 n0 k0 A0 hR0 (w2 (y1 - 1).toNat).2.1 ((w2 (y1 - 1).toNat).1).fwrite ((w2 (y1 - 1).toNat).1).fhidden ((w2 (y1 - 1).toNat).1).fdead (w2 (y1 - 1).toNat).2.2 g0_0 e_g0) (fun _ => rfl) (fun _ => rfl) (inR_nat hq0) hq1) [2, 3], .o] [] (fun b => by kernel_rfl)
        · injection e with e; injection e with i0 i1; subst i0 i1; exact fn_specG hU (P := Try.prog) Try.func15 (fun xs w => by kernel_rfl) 4 _ _ (fun _ => rfl) _ _ _ [] [.o, .o, .o, .o, .a 0, .o, .xg (lkX_has (T := 71) (TB := 5) (f := cu8) (g := c_Xr71) (N := w1) (X := w2) (Tm := 48) (I := 65) (kt := 3) (el := 68) false (x := y1) (by kernel_rfl) (by kernel_rfl) hq0) [1, 2, 3], .o, .o, .o, .o, .o, .o, .o, .o, .o, .o, .o, .o, .o, .o, .o, .xg (ldXS_ok (T := 71) (TB := 5) (f := cu8) (g := c_Xr71) (N := w1) (X := w2) (T1 := 33) (k := (y1 - 1).toNat) (fun w => by kernel_rfl) (inR_nat hq0) hq1) [2, 3], .o, .cg (ok_region_inside hU 0 (n0 : Int) 0 ((w2 (y1 - 1).toNat).2.1 : Int) true hq2), .o, .o, .o, .o, .b (z_gtrF hq3), .o] [] (fun b => by kernel_rfl)
      · injection e with e; injection e with i0 i1; subst i0 i1; exact fn_specG hU (P := Try.prog) Try.func15 (fun xs w => by kernel_rfl) 4 _ _ (fun _ => rfl) _ _ _ [] [.o, .o, .o, .o, .a 0, .o, .xg (lkX_has (T := 71) (TB := 5) (f := cu8) (g := c_Xr71) (N := w1) (X := w2) (Tm := 48) (I := 65) (kt := 3) (el := 68) false (x := y1) (by kernel_rfl) (by kernel_rfl) hq0) [1, 2, 3], .o, .o, .o, .o, .o, .o, .o, .o, .o, .o, .o, .o, .o, .o, .o, .xg (ldXS_ok (T := 71) (TB := 5) (f := cu8) (g := c_Xr71) (N := w1) (X := w2) (T1 := 33) (k := (y1 - 1).toNat) (fun w => by kernel_rfl) (inR_nat hq0) hq1) [2, 3], .o, .cg (ok_region_inside hU 0 (n0 : Int) 0 ((w2 (y1 - 1).toNat).2.1 : Int) false hq2), .o, .o, .o] [] (fun b => by kernel_rfl)
    · replace e := cond_eq_or e
      rcases e with ⟨hq2, e⟩ | ⟨hq2, e⟩
      · replace e := cond_eq_or e
        rcases e with ⟨hq3, e⟩ | ⟨hq3, e⟩
        · exact none_some e
        · injection e with e; injection e with i0 i1; subst i0 i1; exact fn_specG hU (P := Try.prog) Try.func15 (fun xs w => by kernel_rfl) 4 _ _ (fun _ => rfl) _ _ _ [] [.o, .o, .o, .o, .a 0, .o, .xg (lkX_has (T := 71) (TB := 5) (f := cu8) (g := c_Xr71) (N := w1) (X := w2) (Tm := 48) (I := 65) (kt := 3) (el := 68) false (x := y1) (by kernel_rfl) (by kernel_rfl) hq0) [1, 2, 3], .o, .o, .o, .o, .o, .o, .o, .o, .o, .o, .o, .o, .o, .o, .o, .xg (ldXS0_ok (T := 71) (TB := 5) (f := cu8) (g := c_Xr71) (N := w1) (X := w2) (T1 := 33) (k := (y1 - 1).toNat) (fun w => by kernel_rfl) (inR_nat hq0) hq1) [2, 3], .o, .cg (ok_region_inside hU 0 (n0 : Int) 0 0 true hq2), .o, .o, .o, .o, .b (z_gtrF hq3), .o] [] (fun b => by kernel_rfl)
      · injection e with e; injection e with i0 i1; subst i0 i1; exact fn_specG hU (P := Try.prog) Try.func15 (fun xs w => by kernel_rfl) 4 _ _ (fun _ => rfl) _ _ _ [] [.o, .o, .o, .o, .a 0, .o, .xg (lkX_has (T := 71) (TB := 5) (f := cu8) (g := c_Xr71) (N := w1) (X := w2) (Tm := 48) (I := 65) (kt := 3) (el := 68) false (x := y1) (by kernel_rfl) (by kernel_rfl) hq0) [1, 2, 3], .o, .o, .o, .o, .o, .o, .o, .o, .o, .o, .o, .o, .o, .o, .o, .xg (ldXS0_ok (T := 71) (TB := 5) (f := cu8) (g := c_Xr71) (N := w1) (X := w2) (T1 := 33) (k := (y1 - 1).toNat) (fun w => by kernel_rfl) (inR_nat hq0) hq1) [2, 3], .o, .cg (ok_region_inside hU 0 (n0 : Int) 0 0 false hq2), .o, .o, .o] [] (fun b => by kernel_rfl)
  · injection e with e; injection e with i0 i1; subst i0 i1; exact fn_specG hU (P := Try.prog) Try.func15 (fun xs w => by kernel_rfl) 4 _ _ (fun _ => rfl) _ _ _ [] [.o, .o, .o, .o, .a 0, .o, .xg (lkX_none (T := 71) (TB := 5) (f := cu8) (g := c_Xr71) (N := w1) (X := w2) (Tm := 48) (I := 65) (kt := 3) (el := 68) false (.nilIface) (x := y1) (by kernel_rfl) (by kernel_rfl) (fun w => by kernel_rfl) hq0) [1, 2, 3], .o, .o, .o, .o, .o, .o, .o, .o, .o, .o, .o] [] (fun b => by kernel_rfl)
inductive R_maps_Map_Update_v2 where
  | e0 (c0_0 : Nat → (Xr71 × (Nat × (Nat → BitVec 8)))) (c0_1 : Int)
  | e1 (c1_0 : Nat → (Xr71 × (Nat × (Nat → BitVec 8)))) (c1_1 : Int) (c1_2 : Nat → Me42)
noncomputable def m_maps_Map_Update_v2 (n0 : Nat) (A0 : Nat → BitVec 8) (n1 : Nat) (A1 : Nat → BitVec 8) (y3 : BitVec 64) (w0 : Int) (w1 : Int) (w2 : Nat) (w3 : Nat → (Xr71 × (Nat × (Nat → BitVec 8)))) (w4 : Nat) (w5 : Nat → Me42) : Option R_maps_Map_Update_v2 :=
  (m_maps_Map_checkKey_v3 n0 A0 w0 w1 w2 w3 w4 w5).bind fun g0 => match g0 with
  | .e0 g0_0 =>
  bif g0_0 == 0 then
    (bif (n1 : Int) == 2 then
      (bif decide ((fdx (fun j => ((bstr n0 A0) == (w5 j).fk)) w4) < w4) then
        ((m_maps_Map_checkUpdate_v2 true y3 w0 w1 w2 w3 w4 w5).bind fun g1 => match g1 with
        | .e0 g1_0 =>
        bif g1_0 == 0 then
          ((m_region_Mem_Set (w5 (fdx (fun j => ((bstr n0 A0) == (w5 j).fk)) w4)).fv n1 A1 w1 w2 w3).bind fun g2 => match g2 with
          | .e0 g2_0 g2_1 =>
          some (.e0 g2_0 0))
        else (some (.e0 w3 g1_0)))
      else ((m_maps_Map_checkUpdate_v2 false y3 w0 w1 w2 w3 w4 w5).bind fun g1 => match g1 with
      | .e0 g1_0 =>
      bif g1_0 == 0 then
        ((m_maps_Map_add_v2 n1 A1 w0 w1 w2 w3 w4 w5).bind fun g2 => match g2 with
        | .e0 g2_0 g2_1 g2_2 =>
        some (.e1 g2_0 g2_1 (updF w5 w4 (⟨(bstr n0 A0), g2_2⟩ : Me42))))
      else (some (.e0 w3 g1_0))))
    else (some (.e0 w3 91)))
  else (some (.e0 w3 g0_0))
def sq0_maps_Map_Update_v2 (a0 : Option Addr) (p0 : Nat) (q0 : Nat) (n0 : Nat) (k0 : Nat) (A0 : Nat → BitVec 8) (a1 : Option Addr) (p1 : Nat) (q1 : Nat) (n1 : Nat) (k1 : Nat) (A1 : Nat → BitVec 8) (y3 : BitVec 64) (w0 : Int) (w1 : Int) (w2 : Nat) (w3 : Nat → (Xr71 × (Nat × (Nat → BitVec 8)))) (w4 : Nat) (w5 : Nat → Me42) (c0_0 : Nat → (Xr71 × (Nat × (Nat → BitVec 8)))) (c0_1 : Int) : Spc := ⟨fun ls => .call 7 #[.pointer (some ⟨(lget ls 0).n, 0, none⟩), .slice a0 n0 (n0 + k0), .slice a1 n1 (n1 + k1), .int .u64 (nn y3)], fun ls => [.cells #[.int .i64 (1), .int .i64 (4), .int .i64 (2), .int .i64 (w0), .bool false, .int .i64 (0), .pointer (some ⟨(lget ls 1).n, 0, none⟩), .map (some (lget ls 5).n), .slice none 0 0] 45, .cells #[.map (some (lget ls 2).n), .int .i64 (w1)] 50, mapP 65 (lget ls 3) w2, arX 71 (lget ls 4) w2 c_Xr71 w3, byX 5 cu8 w2 w3, mapG kv_Me42 vv_Me42 w4 w5], 0, .normal, fun ls => [.int .i64 (c0_1)], fun ls => [.cells #[.int .i64 (1), .int .i64 (4), .int .i64 (2), .int .i64 (w0), .bool false, .int .i64 (0), .pointer (some ⟨(lget ls 1).n, 0, none⟩), .map (some (lget ls 5).n), .slice none 0 0] 45, .cells #[.map (some (lget ls 2).n), .int .i64 (w1)] 50, mapP 65 (lget ls 3) w2, arX 71 (lget ls 4) w2 c_Xr71 c0_0, byX 5 cu8 w2 c0_0, mapG kv_Me42 vv_Me42 w4 w5], fun ls => []⟩
def sq1_maps_Map_Update_v2 (a0 : Option Addr) (p0 : Nat) (q0 : Nat) (n0 : Nat) (k0 : Nat) (A0 : Nat → BitVec 8) (a1 : Option Addr) (p1 : Nat) (q1 : Nat) (n1 : Nat) (k1 : Nat) (A1 : Nat → BitVec 8) (y3 : BitVec 64) (w0 : Int) (w1 : Int) (w2 : Nat) (w3 : Nat → (Xr71 × (Nat × (Nat → BitVec 8)))) (w4 : Nat) (w5 : Nat → Me42) (c1_0 : Nat → (Xr71 × (Nat × (Nat → BitVec 8)))) (c1_1 : Int) (c1_2 : Nat → Me42) : Spc := ⟨fun ls => .call 7 #[.pointer (some ⟨(lget ls 0).n, 0, none⟩), .slice a0 n0 (n0 + k0), .slice a1 n1 (n1 + k1), .int .u64 (nn y3)], fun ls => [.cells #[.int .i64 (1), .int .i64 (4), .int .i64 (2), .int .i64 (w0), .bool false, .int .i64 (0), .pointer (some ⟨(lget ls 1).n, 0, none⟩), .map (some (lget ls 5).n), .slice none 0 0] 45, .cells #[.map (some (lget ls 2).n), .int .i64 (w1)] 50, mapP 65 (lget ls 3) w2, arX 71 (lget ls 4) w2 c_Xr71 w3, byX 5 cu8 w2 w3, mapG kv_Me42 vv_Me42 w4 w5], 2, .normal, fun ls => [.int .i64 (0)], fun ls => [.cells #[.int .i64 (1), .int .i64 (4), .int .i64 (2), .int .i64 (w0), .bool false, .int .i64 (0), .pointer (some ⟨(lget ls 1).n, 0, none⟩), .map (some (lget ls 5).n), .slice none 0 0] 45, .cells #[.map (some (lget ls 2).n), .int .i64 (c1_1)] 50, mapP 65 (lget ls 6) (w2 + 1), unb, unb, mapG kv_Me42 vv_Me42 (w4 + 1) c1_2], fun ls => [arX 71 (lget ls 7) (w2 + 1) c_Xr71 c1_0, byX 5 cu8 (w2 + 1) c1_0]⟩
end
section
variable {M : Nat → Prop} {B0 : Nat} {S : World → Prop} (hU : Up M B0 S) (a0 : Option Addr) (p0 : Nat) (q0 : Nat) (n0 : Nat) (k0 : Nat) (A0 : Nat → BitVec 8) (hR0 : Ro S cu8 1 a0 p0 q0 n0 A0) (a1 : Option Addr) (p1 : Nat) (q1 : Nat) (n1 : Nat) (k1 : Nat) (A1 : Nat → BitVec 8) (hR1 : Ro S cu8 1 a1 p1 q1 n1 A1) (y3 : BitVec 64) (w0 : Int) (w1 : Int) (w2 : Nat) (w3 : Nat → (Xr71 × (Nat × (Nat → BitVec 8)))) (w4 : Nat) (w5 : Nat → Me42)
include hU a0 p0 q0 n0 k0 A0 hR0 a1 p1 q1 n1 k1 A1 hR1 y3 w0 w1 w2 w3 w4 w5
theorem ok0_maps_Map_Update_v2 (c0_0 : Nat → (Xr71 × (Nat × (Nat → BitVec 8)))) (c0_1 : Int) (e : m_maps_Map_Update_v2 n0 A0 n1 A1 y3 w0 w1 w2 w3 w4 w5 = some (.e0 c0_0 c0_1)) : SpcG Try.prog M B0 S (sq0_maps_Map_Update_v2 a0 p0 q0 n0 k0 A0 a1 p1 q1 n1 k1 A1 y3 w0 w1 w2 w3 w4 w5 c0_0 c0_1) := by
  unfold m_maps_Map_Update_v2 at e
  replace e := bindO_eq e
  obtain ⟨g0, e_g0, e⟩ := e
  obtain ⟨g0_0⟩ := g0
  try dsimp only at e
  replace e := cond_eq_or e
  rcases e with ⟨hq0, e⟩ | ⟨hq0, e⟩
  · replace e := cond_eq_or e
    rcases e with ⟨hq1, e⟩ | ⟨hq1, e⟩
    · replace e := cond_eq_or e
      rcases e with ⟨hq2, e⟩ | ⟨hq2, e⟩
      · replace e := bindO_eq e
        obtain ⟨g1, e_g1, e⟩ := e
        obtain ⟨g1_0⟩ := g1
        try dsimp only at e
        replace e := cond_eq_or e
        rcases e with ⟨hq3, e⟩ | ⟨hq3, e⟩
        · replace e := bindO_eq e
          obtain ⟨g2, e_g2, e⟩ := e
          obtain ⟨g2_0, g2_1⟩ := g2
          try dsimp only at e
          injection e with e; injection e with i0 i1; subst i0 i1; exact fn_specG hU (P := Try.prog) Try.func7 (fun xs w => by kernel_rfl) 6 _ _ (fun _ => rfl) _ _ _ [] [.o, .o, .o, .xg (ok0_maps_Map_checkKey_v3 hU a0 p0 q0 n0 k0 A0 hR0 w0 w1 w2 w3 w4 w5 g0_0 e_g0) [0, 1, 2, 3, 4, 5], .o, .o, .b (z_neqT hq0), .o, .o, .o, .o, .o, .o, .a 0, .b (z_neqT hq1), .r [] [] [], .o, .o, .o, .a 0, .o, .qs (strRo_ok (s := 33) (d := 9) (e := 5) (f := cu8) (c := (n0 + k0)) (by kernel_rfl) (by kernel_rfl) (by kernel_rfl) (fun _ => rfl) hR0), .xg (lkG_has (T := 42) (kf := kv_Me42) (vf := vv_Me42) (N := w4) (A := w5) (e := (fun j => ((bstr n0 A0) == (w5 j).fk))) (kt := 9) (el := 3) (d := .string) true (x := .string (bstr n0 A0)) (by kernel_rfl) (by kernel_rfl) trivial (fun _ => rfl) (of_decide_eq_true hq2)) [5], .o, .o, .o, .o, .o, .o, .o, .o, .xg (ok0_maps_Map_checkUpdate_v2 hU true y3 w0 w1 w2 w3 w4 w5 g1_0 e_g1) [0, 1, 2, 3, 4, 5], .o, .o, .b (z_neqT hq3), .o, .o, .r [0, 1, 2, 3, 4, 5, 7, 8] [] [6, 9, 10, 11], .o, .o, .o, .a 0, .o, .o, .o, .o, .xr (p0_maps_Map_hidden_v2 hU w0 w1 w2 w3 w4 w5 ) (fun _ => rfl) rfl (fun _ => rfl) [0, 1, 2, 3, 4, 5], .xr (p0_maps_Map_hidden_v2 hU w0 w1 w2 w3 w4 w5 ) (fun _ => rfl) rfl (fun _ => rfl) [0, 1, 2, 3, 4, 5], .q (slc0_ok (T := 33) (e := 5) (sz := 1) (by kernel_rfl) (fun w => by kernel_rfl)), .xg (ok0_region_Mem_Set hU (w5 (fdx (fun j => ((bstr n0 A0) == (w5 j).fk)) w4)).fv a1 p1 q1 n1 k1 A1 hR1 w1 w2 w3 g2_0 g2_1 e_g2) [1, 2, 3, 4], .o] [] (fun b => by kernel_rfl)
        · injection e with e; injection e with i0 i1; subst i0 i1; exact fn_specG hU (P := Try.prog) Try.func7 (fun xs w => by kernel_rfl) 6 _ _ (fun _ => rfl) _ _ _ [] [.o, .o, .o, .xg (ok0_maps_Map_checkKey_v3 hU a0 p0 q0 n0 k0 A0 hR0 w0 w1 w2 w3 w4 w5 g0_0 e_g0) [0, 1, 2, 3, 4, 5], .o, .o, .b (z_neqT hq0), .o, .o, .o, .o, .o, .o, .a 0, .b (z_neqT hq1), .r [] [] [], .o, .o, .o, .a 0, .o, .qs (strRo_ok (s := 33) (d := 9) (e := 5) (f := cu8) (c := (n0 + k0)) (by kernel_rfl) (by kernel_rfl) (by kernel_rfl) (fun _ => rfl) hR0), .xg (lkG_has (T := 42) (kf := kv_Me42) (vf := vv_Me42) (N := w4) (A := w5) (e := (fun j => ((bstr n0 A0) == (w5 j).fk))) (kt := 9) (el := 3) (d := .string) true (x := .string (bstr n0 A0)) (by kernel_rfl) (by kernel_rfl) trivial (fun _ => rfl) (of_decide_eq_true hq2)) [5], .o, .o, .o, .o, .o, .o, .o, .o, .xg (ok0_maps_Map_checkUpdate_v2 hU true y3 w0 w1 w2 w3 w4 w5 g1_0 e_g1) [0, 1, 2, 3, 4, 5], .o, .o, .b (z_neqF hq3), .o, .o] [] (fun b => by kernel_rfl)
      · replace e := bindO_eq e
        obtain ⟨g1, e_g1, e⟩ := e
        obtain ⟨g1_0⟩ := g1
        try dsimp only at e
        replace e := cond_eq_or e
        rcases e with ⟨hq3, e⟩ | ⟨hq3, e⟩
        · replace e := bindO_eq e
          obtain ⟨g2, e_g2, e⟩ := e
          obtain ⟨g2_0, g2_1, g2_2⟩ := g2
          try dsimp only at e
          cases e
        · injection e with e; injection e with i0 i1; subst i0 i1; exact fn_specG hU (P := Try.prog) Try.func7 (fun xs w => by kernel_rfl) 6 _ _ (fun _ => rfl) _ _ _ [] [.o, .o, .o, .xg (ok0_maps_Map_checkKey_v3 hU a0 p0 q0 n0 k0 A0 hR0 w0 w1 w2 w3 w4 w5 g0_0 e_g0) [0, 1, 2, 3, 4, 5], .o, .o, .b (z_neqT hq0), .o, .o, .o, .o, .o, .o, .a 0, .b (z_neqT hq1), .r [] [] [], .o, .o, .o, .a 0, .o, .qs (strRo_ok (s := 33) (d := 9) (e := 5) (f := cu8) (c := (n0 + k0)) (by kernel_rfl) (by kernel_rfl) (by kernel_rfl) (fun _ => rfl) hR0), .xg (lkG_none (T := 42) (kf := kv_Me42) (vf := vv_Me42) (N := w4) (A := w5) (e := (fun j => ((bstr n0 A0) == (w5 j).fk))) (kt := 9) (el := 3) (d := .string) true (.int .i64 (0)) (x := .string (bstr n0 A0)) (by kernel_rfl) (by kernel_rfl) trivial (fun w => by kernel_rfl) (fun _ => rfl) (of_decide_eq_false hq2)) [5], .o, .o, .o, .o, .o, .o, .o, .o, .xg (ok0_maps_Map_checkUpdate_v2 hU false y3 w0 w1 w2 w3 w4 w5 g1_0 e_g1) [0, 1, 2, 3, 4, 5], .o, .o, .b (z_neqF hq3), .o, .o] [] (fun b => by kernel_rfl)
    · injection e with e; injection e with i0 i1; subst i0 i1; exact fn_specG hU (P := Try.prog) Try.func7 (fun xs w => by kernel_rfl) 6 _ _ (fun _ => rfl) _ _ _ [] [.o, .o, .o, .xg (ok0_maps_Map_checkKey_v3 hU a0 p0 q0 n0 k0 A0 hR0 w0 w1 w2 w3 w4 w5 g0_0 e_g0) [0, 1, 2, 3, 4, 5], .o, .o, .b (z_neqT hq0), .o, .o, .o, .o, .o, .o, .a 0, .b (z_neqF hq1), .o] [] (fun b => by kernel_rfl)
  · injection e with e; injection e with i0 i1; subst i0 i1; exact fn_specG hU (P := Try.prog) Try.func7 (fun xs w => by kernel_rfl) 6 _ _ (fun _ => rfl) _ _ _ [] [.o, .o, .o, .xg (ok0_maps_Map_checkKey_v3 hU a0 p0 q0 n0 k0 A0 hR0 w0 w1 w2 w3 w4 w5 g0_0 e_g0) [0, 1, 2, 3, 4, 5], .o, .o, .b (z_neqF hq0), .o, .o] [] (fun b => by kernel_rfl)
theorem ok1_maps_Map_Update_v2 (c1_0 : Nat → (Xr71 × (Nat × (Nat → BitVec 8)))) (c1_1 : Int) (c1_2 : Nat → Me42) (e : m_maps_Map_Update_v2 n0 A0 n1 A1 y3 w0 w1 w2 w3 w4 w5 = some (.e1 c1_0 c1_1 c1_2)) : SpcG Try.prog M B0 S (sq1_maps_Map_Update_v2 a0 p0 q0 n0 k0 A0 a1 p1 q1 n1 k1 A1 y3 w0 w1 w2 w3 w4 w5 c1_0 c1_1 c1_2) := by
  unfold m_maps_Map_Update_v2 at e
  replace e := bindO_eq e
  obtain ⟨g0, e_g0, e⟩ := e
  obtain ⟨g0_0⟩ := g0
  try dsimp only at e
  replace e := cond_eq_or e
  rcases e with ⟨hq0, e⟩ | ⟨hq0, e⟩
  · replace e := cond_eq_or e
    rcases e with ⟨hq1, e⟩ | ⟨hq1, e⟩
    · replace e := cond_eq_or e
      rcases e with ⟨hq2, e⟩ | ⟨hq2, e⟩
      · replace e := bindO_eq e
        obtain ⟨g1, e_g1, e⟩ := e
        obtain ⟨g1_0⟩ := g1
        try dsimp only at e
        replace e := cond_eq_or e
        rcases e with ⟨hq3, e⟩ | ⟨hq3, e⟩
        · replace e := bindO_eq e
          obtain ⟨g2, e_g2, e⟩ := e
          obtain ⟨g2_0, g2_1⟩ := g2
          try dsimp only at e
          cases e
        · cases e
      · replace e := bindO_eq e
        obtain ⟨g1, e_g1, e⟩ := e
        obtain ⟨g1_0⟩ := g1
        try dsimp only at e
        replace e := cond_eq_or e
        rcases e with ⟨hq3, e⟩ | ⟨hq3, e⟩
        · replace e := bindO_eq e
          obtain ⟨g2, e_g2, e⟩ := e
          obtain ⟨g2_0, g2_1, g2_2⟩ := g2
          try dsimp only at e
          injection e with e; injection e with i0 i1 i2; subst i0 i1 i2; exact fn_specG hU (P := Try.prog) Try.func7 (fun xs w => by kernel_rfl) 6 _ _ (fun _ => rfl) _ _ _ [6, 7] [.o, .o, .o, .xg (ok0_maps_Map_checkKey_v3 hU a0 p0 q0 n0 k0 A0 hR0 w0 w1 w2 w3 w4 w5 g0_0 e_g0) [0, 1, 2, 3, 4, 5], .o, .o, .b (z_neqT hq0), .o, .o, .o, .o, .o, .o, .a 0, .b (z_neqT hq1), .r [] [] [], .o, .o, .o, .a 0, .o, .qs (strRo_ok (s := 33) (d := 9) (e := 5) (f := cu8) (c := (n0 + k0)) (by kernel_rfl) (by kernel_rfl) (by kernel_rfl) (fun _ => rfl) hR0), .xg (lkG_none (T := 42) (kf := kv_Me42) (vf := vv_Me42) (N := w4) (A := w5) (e := (fun j => ((bstr n0 A0) == (w5 j).fk))) (kt := 9) (el := 3) (d := .string) true (.int .i64 (0)) (x := .string (bstr n0 A0)) (by kernel_rfl) (by kernel_rfl) trivial (fun w => by kernel_rfl) (fun _ => rfl) (of_decide_eq_false hq2)) [5], .o, .o, .o, .o, .o, .o, .o, .o, .xg (ok0_maps_Map_checkUpdate_v2 hU false y3 w0 w1 w2 w3 w4 w5 g1_0 e_g1) [0, 1, 2, 3, 4, 5], .o, .o, .b (z_neqT hq3), .o, .o, .r [0, 1, 2, 3, 4, 5, 6, 7] [] [8, 9], .o, .o, .o, .a 0, .o, .qs (strRo_ok (s := 33) (d := 9) (e := 5) (f := cu8) (c := (n0 + k0)) (by kernel_rfl) (by kernel_rfl) (by kernel_rfl) (fun _ => rfl) hR0), .o, .o, .xk (ok0_maps_Map_add_v2 hU a1 p1 q1 n1 k1 A1 hR1 w0 w1 w2 w3 w4 w5 g2_0 g2_1 g2_2 e_g2) [0, 5] [0, 1, 2, 3, 4, 5] (fun ls ms hq1 hq2 => match ls, ms, hq1, hq2 with | [a0, a1, a2, a3, a4, a5], [b0, b1], _, _ => ⟨rfl, rfl, trivial⟩), .xg (upG_new (T := 42) (kf := kv_Me42) (vf := vv_Me42) (N := w4) (A := w5) (e := (fun j => ((bstr n0 A0) == (w5 j).fk))) (kt := 9) (el := 3) (d := .string) (⟨(bstr n0 A0), g2_2⟩ : Me42) (by kernel_rfl) (by kernel_rfl) trivial (fun _ => rfl) (of_decide_eq_false hq2)) [5], .o] [] (fun b => by kernel_rfl)
        · cases e
    · cases e
  · cases e
inductive R_maps_Map_Delete where
  | e0 (c0_0 : Int)
noncomputable def m_maps_Map_Delete (n0 : Nat) (A0 : Nat → BitVec 8) (w0 : Int) (w1 : Int) (w2 : Nat) (w3 : Nat → (Xr71 × (Nat × (Nat → BitVec 8)))) (w4 : Nat) (w5 : Nat → Me42) : Option R_maps_Map_Delete :=
  (m_maps_Map_checkKey_v3 n0 A0 w0 w1 w2 w3 w4 w5).bind fun g0 => match g0 with
  | .e0 g0_0 =>
  bif g0_0 == 0 then
    (bif decide ((fdx (fun j => ((bstr n0 A0) == (w5 j).fk)) w4) < w4) then
      (some (.e0 95))
    else (some (.e0 95)))
  else (some (.e0 g0_0))
def sq0_maps_Map_Delete (a0 : Option Addr) (p0 : Nat) (q0 : Nat) (n0 : Nat) (k0 : Nat) (A0 : Nat → BitVec 8) (w0 : Int) (w1 : Int) (w2 : Nat) (w3 : Nat → (Xr71 × (Nat × (Nat → BitVec 8)))) (w4 : Nat) (w5 : Nat → Me42) (c0_0 : Int) : Spc := ⟨fun ls => .call 8 #[.pointer (some ⟨(lget ls 0).n, 0, none⟩), .slice a0 n0 (n0 + k0)], fun ls => [.cells #[.int .i64 (1), .int .i64 (4), .int .i64 (2), .int .i64 (w0), .bool false, .int .i64 (0), .pointer (some ⟨(lget ls 1).n, 0, none⟩), .map (some (lget ls 5).n), .slice none 0 0] 45, .cells #[.map (some (lget ls 2).n), .int .i64 (w1)] 50, mapP 65 (lget ls 3) w2, arX 71 (lget ls 4) w2 c_Xr71 w3, byX 5 cu8 w2 w3, mapG kv_Me42 vv_Me42 w4 w5], 0, .normal, fun ls => [.tuple #[.int .i64 (0), .int .i64 (c0_0)]], fun ls => [.cells #[.int .i64 (1), .int .i64 (4), .int .i64 (2), .int .i64 (w0), .bool false, .int .i64 (0), .pointer (some ⟨(lget ls 1).n, 0, none⟩), .map (some (lget ls 5).n), .slice none 0 0] 45, .cells #[.map (some (lget ls 2).n), .int .i64 (w1)] 50, mapP 65 (lget ls 3) w2, arX 71 (lget ls 4) w2 c_Xr71 w3, byX 5 cu8 w2 w3, mapG kv_Me42 vv_Me42 w4 w5], fun ls => []⟩
end
section
variable {M : Nat → Prop} {B0 : Nat} {S : World → Prop} (hU : Up M B0 S) (a0 : Option Addr) (p0 : Nat) (q0 : Nat) (n0 : Nat) (k0 : Nat) (A0 : Nat → BitVec 8) (hR0 : Ro S cu8 1 a0 p0 q0 n0 A0) (w0 : Int) (w1 : Int) (w2 : Nat) (w3 : Nat → (Xr71 × (Nat × (Nat → BitVec 8)))) (w4 : Nat) (w5 : Nat → Me42) (c0_0 : Int)
include hU a0 p0 q0 n0 k0 A0 hR0 w0 w1 w2 w3 w4 w5 c0_0
theorem ok0_maps_Map_Delete (e : m_maps_Map_Delete n0 A0 w0 w1 w2 w3 w4 w5 = some (.e0 c0_0)) : SpcG Try.prog M B0 S (sq0_maps_Map_Delete a0 p0 q0 n0 k0 A0 w0 w1 w2 w3 w4 w5 c0_0) := by
  unfold m_maps_Map_Delete at e
  replace e := bindO_eq e
  obtain ⟨g0, e_g0, e⟩ := e
  obtain ⟨g0_0⟩ := g0
  try dsimp only at e
  replace e := cond_eq_or e
  rcases e with ⟨hq0, e⟩ | ⟨hq0, e⟩
  · replace e := cond_eq_or e
    rcases e with ⟨hq1, e⟩ | ⟨hq1, e⟩
    · injection e with e; injection e with i0; subst i0; exact fn_specG hU (P := Try.prog) Try.func8 (fun xs w => by kernel_rfl) 6 _ _ (fun _ => rfl) _ _ _ [] [.o, .o, .o, .o, .xg (ok0_maps_Map_checkKey_v3 hU a0 p0 q0 n0 k0 A0 hR0 w0 w1 w2 w3 w4 w5 g0_0 e_g0) [0, 1, 2, 3, 4, 5], .o, .o, .b (z_neqT hq0), .r [] [] [], .o, .o, .o, .a 0, .o, .qs (strRo_ok (s := 33) (d := 9) (e := 5) (f := cu8) (c := (n0 + k0)) (by kernel_rfl) (by kernel_rfl) (by kernel_rfl) (fun _ => rfl) hR0), .xg (lkG_has (T := 42) (kf := kv_Me42) (vf := vv_Me42) (N := w4) (A := w5) (e := (fun j => ((bstr n0 A0) == (w5 j).fk))) (kt := 9) (el := 3) (d := .string) true (x := .string (bstr n0 A0)) (by kernel_rfl) (by kernel_rfl) trivial (fun _ => rfl) (of_decide_eq_true hq1)) [5], .o, .o, .o, .o, .o, .o, .o, .o, .o, .a 0, .o, .o, .o, .o] [] (fun b => by kernel_rfl)
    · injection e with e; injection e with i0; subst i0; exact fn_specG hU (P := Try.prog) Try.func8 (fun xs w => by kernel_rfl) 6 _ _ (fun _ => rfl) _ _ _ [] [.o, .o, .o, .o, .xg (ok0_maps_Map_checkKey_v3 hU a0 p0 q0 n0 k0 A0 hR0 w0 w1 w2 w3 w4 w5 g0_0 e_g0) [0, 1, 2, 3, 4, 5], .o, .o, .b (z_neqT hq0), .r [] [] [], .o, .o, .o, .a 0, .o, .qs (strRo_ok (s := 33) (d := 9) (e := 5) (f := cu8) (c := (n0 + k0)) (by kernel_rfl) (by kernel_rfl) (by kernel_rfl) (fun _ => rfl) hR0), .xg (lkG_none (T := 42) (kf := kv_Me42) (vf := vv_Me42) (N := w4) (A := w5) (e := (fun j => ((bstr n0 A0) == (w5 j).fk))) (kt := 9) (el := 3) (d := .string) true (.int .i64 (0)) (x := .string (bstr n0 A0)) (by kernel_rfl) (by kernel_rfl) trivial (fun w => by kernel_rfl) (fun _ => rfl) (of_decide_eq_false hq1)) [5], .o, .o, .o, .o, .o, .o, .o, .o, .o, .a 0, .o, .o, .o, .o] [] (fun b => by kernel_rfl)
  · injection e with e; injection e with i0; subst i0; exact fn_specG hU (P := Try.prog) Try.func8 (fun xs w => by kernel_rfl) 6 _ _ (fun _ => rfl) _ _ _ [] [.o, .o, .o, .o, .xg (ok0_maps_Map_checkKey_v3 hU a0 p0 q0 n0 k0 A0 hR0 w0 w1 w2 w3 w4 w5 g0_0 e_g0) [0, 1, 2, 3, 4, 5], .o, .o, .b (z_neqF hq0), .o, .o, .o] [] (fun b => by kernel_rfl)
inductive R_maps_Map_Lookup_v1 where
  | e0 (c0_0 : Int) (c0_1 : Bool) (c0_2 : Int)
noncomputable def m_maps_Map_Lookup_v1 (n0 : Nat) (A0 : Nat → BitVec 8) (w0 : Int) (w1 : Int) (w2 : Nat) (w3 : Nat → (Xr71 × (Nat × (Nat → BitVec 8)))) (w4 : Nat) (w5 : Nat → Me42) : Option R_maps_Map_Lookup_v1 :=
  (m_maps_Map_checkKey_v3 n0 A0 w0 w1 w2 w3 w4 w5).bind fun g0 => match g0 with
  | .e0 g0_0 =>
  bif g0_0 == 0 then
    (bif decide ((fdx (fun j => ((bstr n0 A0) == (w5 j).fk)) w4) < w4) then
      (some (.e0 (w5 (fdx (fun j => ((bstr n0 A0) == (w5 j).fk)) w4)).fv true 0))
    else (some (.e0 0 false 0)))
  else (some (.e0 0 false g0_0))
def sq0_maps_Map_Lookup_v1 (a0 : Option Addr) (p0 : Nat) (q0 : Nat) (n0 : Nat) (k0 : Nat) (A0 : Nat → BitVec 8) (w0 : Int) (w1 : Int) (w2 : Nat) (w3 : Nat → (Xr71 × (Nat × (Nat → BitVec 8)))) (w4 : Nat) (w5 : Nat → Me42) (c0_0 : Int) (c0_1 : Bool) (c0_2 : Int) : Spc := ⟨fun ls => .call 17 #[.pointer (some ⟨(lget ls 0).n, 0, none⟩), .slice a0 n0 (n0 + k0)], fun ls => [.cells #[.int .i64 (1), .int .i64 (4), .int .i64 (2), .int .i64 (w0), .bool false, .int .i64 (0), .pointer (some ⟨(lget ls 1).n, 0, none⟩), .map (some (lget ls 5).n), .slice none 0 0] 45, .cells #[.map (some (lget ls 2).n), .int .i64 (w1)] 50, mapP 65 (lget ls 3) w2, arX 71 (lget ls 4) w2 c_Xr71 w3, byX 5 cu8 w2 w3, mapG kv_Me42 vv_Me42 w4 w5], 0, .normal, fun ls => [.tuple #[.int .i64 (c0_0), .bool (c0_1), .int .i64 (c0_2)]], fun ls => [.cells #[.int .i64 (1), .int .i64 (4), .int .i64 (2), .int .i64 (w0), .bool false, .int .i64 (0), .pointer (some ⟨(lget ls 1).n, 0, none⟩), .map (some (lget ls 5).n), .slice none 0 0] 45, .cells #[.map (some (lget ls 2).n), .int .i64 (w1)] 50, mapP 65 (lget ls 3) w2, arX 71 (lget ls 4) w2 c_Xr71 w3, byX 5 cu8 w2 w3, mapG kv_Me42 vv_Me42 w4 w5], fun ls => []⟩
theorem ok0_maps_Map_Lookup_v1 (c0_1 : Bool) (c0_2 : Int) (e : m_maps_Map_Lookup_v1 n0 A0 w0 w1 w2 w3 w4 w5 = some (.e0 c0_0 c0_1 c0_2)) : SpcG Try.prog M B0 S (sq0_maps_Map_Lookup_v1 a0 p0 q0 n0 k0 A0 w0 w1 w2 w3 w4 w5 c0_0 c0_1 c0_2) := by
  unfold m_maps_Map_Lookup_v1 at e
  replace e := bindO_eq e
  obtain ⟨g0, e_g0, e⟩ := e
  obtain ⟨g0_0⟩ := g0
  try dsimp only at e
  replace e := cond_eq_or e
  rcases e with ⟨hq0, e⟩ | ⟨hq0, e⟩
  · replace e := cond_eq_or e
    rcases e with ⟨hq1, e⟩ | ⟨hq1, e⟩
    · injection e with e; injection e with i0 i1 i2; subst i0 i1 i2; exact fn_specG hU (P := Try.prog) Try.func17 (fun xs w => by kernel_rfl) 6 _ _ (fun _ => rfl) _ _ _ [] [.o, .o, .o, .o, .o, .xg (ok0_maps_Map_checkKey_v3 hU a0 p0 q0 n0 k0 A0 hR0 w0 w1 w2 w3 w4 w5 g0_0 e_g0) [0, 1, 2, 3, 4, 5], .o, .o, .b (z_neqT hq0), .r [] [] [], .o, .o, .o, .a 0, .o, .qs (strRo_ok (s := 33) (d := 9) (e := 5) (f := cu8) (c := (n0 + k0)) (by kernel_rfl) (by kernel_rfl) (by kernel_rfl) (fun _ => rfl) hR0), .xg (lkG_has (T := 42) (kf := kv_Me42) (vf := vv_Me42) (N := w4) (A := w5) (e := (fun j => ((bstr n0 A0) == (w5 j).fk))) (kt := 9) (el := 3) (d := .string) true (x := .string (bstr n0 A0)) (by kernel_rfl) (by kernel_rfl) trivial (fun _ => rfl) (of_decide_eq_true hq1)) [5], .o, .o, .o, .o, .o, .o, .o, .o, .o, .o] [] (fun b => by kernel_rfl)
    · injection e with e; injection e with i0 i1 i2; subst i0 i1 i2; exact fn_specG hU (P := Try.prog) Try.func17 (fun xs w => by kernel_rfl) 6 _ _ (fun _ => rfl) _ _ _ [] [.o, .o, .o, .o, .o, .xg (ok0_maps_Map_checkKey_v3 hU a0 p0 q0 n0 k0 A0 hR0 w0 w1 w2 w3 w4 w5 g0_0 e_g0) [0, 1, 2, 3, 4, 5], .o, .o, .b (z_neqT hq0), .r [] [] [], .o, .o, .o, .a 0, .o, .qs (strRo_ok (s := 33) (d := 9) (e := 5) (f := cu8) (c := (n0 + k0)) (by kernel_rfl) (by kernel_rfl) (by kernel_rfl) (fun _ => rfl) hR0), .xg (lkG_none (T := 42) (kf := kv_Me42) (vf := vv_Me42) (N := w4) (A := w5) (e := (fun j => ((bstr n0 A0) == (w5 j).fk))) (kt := 9) (el := 3) (d := .string) true (.int .i64 (0)) (x := .string (bstr n0 A0)) (by kernel_rfl) (by kernel_rfl) trivial (fun w => by kernel_rfl) (fun _ => rfl) (of_decide_eq_false hq1)) [5], .o, .o, .o, .o, .o, .o, .o, .o, .o, .o] [] (fun b => by kernel_rfl)
  · injection e with e; injection e with i0 i1 i2; subst i0 i1 i2; exact fn_specG hU (P := Try.prog) Try.func17 (fun xs w => by kernel_rfl) 6 _ _ (fun _ => rfl) _ _ _ [] [.o, .o, .o, .o, .o, .xg (ok0_maps_Map_checkKey_v3 hU a0 p0 q0 n0 k0 A0 hR0 w0 w1 w2 w3 w4 w5 g0_0 e_g0) [0, 1, 2, 3, 4, 5], .o, .o, .b (z_neqF hq0), .o, .o, .o, .o] [] (fun b => by kernel_rfl)
def sq0_slices_Clone_byte_byte_v3   : Spc := ⟨fun ls => .call 25 #[.slice none 0 0], fun ls => [], 0, .normal, fun ls => [.slice none 0 0], fun ls => [], fun ls => []⟩
end
section
variable {M : Nat → Prop} {B0 : Nat} {S : World → Prop} (hU : Up M B0 S)
include hU
theorem p0_slices_Clone_byte_byte_v3 : SpcG Try.prog M B0 S (sq0_slices_Clone_byte_byte_v3  ) :=
  fn_specG hU (P := Try.prog) Try.func25 (fun xs w => by kernel_rfl) 0 _ _ (fun _ => rfl) _ _ _ []
    [.o, .o, .o, .o]
    [] (fun b => by kernel_rfl)
inductive R_region_Mem_Bytes_v1 where
  | e0 (c0_0 : Nat → BitVec 8)
  | e1 (c1_0 : Bool)
noncomputable def m_region_Mem_Bytes_v1 (y1 : Int) (w0 : Int) (w1 : Nat) (w2 : Nat → (Xr71 × (Nat × (Nat → BitVec 8)))) : Option R_region_Mem_Bytes_v1 :=
  bif inR (y1 - 1) w1 then
    (bif decide (0 < (w2 (y1 - 1).toNat).2.1) then
      ((m_slices_Clone_byte_byte_v2 (w2 (y1 - 1).toNat).2.1 (w2 (y1 - 1).toNat).2.2).bind fun g0 => match g0 with
      | .e0 g0_0 =>
      some (.e0 g0_0))
    else (some (.e1 true)))
  else (some (.e1 false))
def sq0_region_Mem_Bytes_v1 (y1 : Int) (w0 : Int) (w1 : Nat) (w2 : Nat → (Xr71 × (Nat × (Nat → BitVec 8)))) (c0_0 : Nat → BitVec 8) : Spc := ⟨fun ls => .call 18 #[.pointer (some ⟨(lget ls 0).n, 0, none⟩), .int .i64 (y1)], fun ls => [.cells #[.map (some (lget ls 1).n), .int .i64 (w0)] 50, mapP 65 (lget ls 2) w1, arX 71 (lget ls 3) w1 c_Xr71 w2, byX 5 cu8 w1 w2], 1, .normal, fun ls => [.tuple #[(rowV (lget ls 4) (0 + (w2 (y1 - 1).toNat).2.1) 1), .bool true]], fun ls => [.cells #[.map (some (lget ls 1).n), .int .i64 (w0)] 50, mapP 65 (lget ls 2) w1, arX 71 (lget ls 3) w1 c_Xr71 w2, byX 5 cu8 w1 w2], fun ls => [rowO (lget ls 4) (esG cu8 (0 + (w2 (y1 - 1).toNat).2.1) c0_0) 5 (0 + (w2 (y1 - 1).toNat).2.1) 1]⟩
def sq1_region_Mem_Bytes_v1 (y1 : Int) (w0 : Int) (w1 : Nat) (w2 : Nat → (Xr71 × (Nat × (Nat → BitVec 8)))) (c1_0 : Bool) : Spc := ⟨fun ls => .call 18 #[.pointer (some ⟨(lget ls 0).n, 0, none⟩), .int .i64 (y1)], fun ls => [.cells #[.map (some (lget ls 1).n), .int .i64 (w0)] 50, mapP 65 (lget ls 2) w1, arX 71 (lget ls 3) w1 c_Xr71 w2, byX 5 cu8 w1 w2], 0, .normal, fun ls => [.tuple #[.slice none 0 0, .bool (c1_0)]], fun ls => [.cells #[.map (some (lget ls 1).n), .int .i64 (w0)] 50, mapP 65 (lget ls 2) w1, arX 71 (lget ls 3) w1 c_Xr71 w2, byX 5 cu8 w1 w2], fun ls => []⟩
end
section
variable {M : Nat → Prop} {B0 : Nat} {S : World → Prop} (hU : Up M B0 S) (y1 : Int) (w0 : Int) (w1 : Nat) (w2 : Nat → (Xr71 × (Nat × (Nat → BitVec 8))))
include hU y1 w0 w1 w2
theorem ok0_region_Mem_Bytes_v1 (c0_0 : Nat → BitVec 8) (e : m_region_Mem_Bytes_v1 y1 w0 w1 w2 = some (.e0 c0_0)) : SpcG Try.prog M B0 S (sq0_region_Mem_Bytes_v1 y1 w0 w1 w2 c0_0) := by
  unfold m_region_Mem_Bytes_v1 at e
  replace e := cond_eq_or e
  rcases e with ⟨hq0, e⟩ | ⟨hq0, e⟩
  · replace e := cond_eq_or e
    rcases e with ⟨hq1, e⟩ | ⟨hq1, e⟩
    · replace e := bindO_eq e
      obtain ⟨g0, e_g0, e⟩ := e
      obtain ⟨g0_0⟩ := g0
      try dsimp only at e
      injection e with e; injection e with i0; subst i0; exact fn_specG hU (P := Try.prog) Try.func18 (fun xs w => by kernel_rfl) 4 _ _ (fun _ => rfl) _ _ _ [4] [.o, .o, .o, .o, .o, .a 0, .o, .xg (lkX_has (T := 71) (TB := 5) (f := cu8) (g := c_Xr71) (N := w1) (X := w2) (Tm := 48) (I := 65) (kt := 3) (el := 68) false (x := y1) (by kernel_rfl) (by kernel_rfl) hq0) [1, 2, 3], .o, .o, .o, .o, .o, .o, .o, .o, .o, .o, .o, .xg (ldXS_ok (T := 71) (TB := 5) (f := cu8) (g := c_Xr71) (N := w1) (X := w2) (T1 := 33) (k := (y1 - 1).toNat) (fun w => by kernel_rfl) (inR_nat hq0) hq1) [2, 3], .xg (memXBh0_ok (TB := 5) (f := cu8) (N := w1) (X := w2) (k := (y1 - 1).toNat) (ok0_slices_Clone_byte_byte_v2 hU (w2 (y1 - 1).toNat).2.1 (w2 (y1 - 1).toNat).2.2 g0_0 e_g0) (fun _ => rfl) (fun _ => rfl) (inR_nat hq0) hq1) [3], .o, .o] [] (fun b => by kernel_rfl)
    · cases e
  · cases e
theorem ok1_region_Mem_Bytes_v1 (c1_0 : Bool) (e : m_region_Mem_Bytes_v1 y1 w0 w1 w2 = some (.e1 c1_0)) : SpcG Try.prog M B0 S (sq1_region_Mem_Bytes_v1 y1 w0 w1 w2 c1_0) := by
  unfold m_region_Mem_Bytes_v1 at e
  replace e := cond_eq_or e
  rcases e with ⟨hq0, e⟩ | ⟨hq0, e⟩
  · replace e := cond_eq_or e
    rcases e with ⟨hq1, e⟩ | ⟨hq1, e⟩
    · replace e := bindO_eq e
      obtain ⟨g0, e_g0, e⟩ := e
      obtain ⟨g0_0⟩ := g0
      try dsimp only at e
      cases e
    · injection e with e; injection e with i0; subst i0; exact fn_specG hU (P := Try.prog) Try.func18 (fun xs w => by kernel_rfl) 4 _ _ (fun _ => rfl) _ _ _ [] [.o, .o, .o, .o, .o, .a 0, .o, .xg (lkX_has (T := 71) (TB := 5) (f := cu8) (g := c_Xr71) (N := w1) (X := w2) (Tm := 48) (I := 65) (kt := 3) (el := 68) false (x := y1) (by kernel_rfl) (by kernel_rfl) hq0) [1, 2, 3], .o, .o, .o, .o, .o, .o, .o, .o, .o, .o, .o, .xg (ldXS0_ok (T := 71) (TB := 5) (f := cu8) (g := c_Xr71) (N := w1) (X := w2) (T1 := 33) (k := (y1 - 1).toNat) (fun w => by kernel_rfl) (inR_nat hq0) hq1) [2, 3], .xg (p0_slices_Clone_byte_byte_v3 hU  ) [], .o, .o] [] (fun b => by kernel_rfl)
  · injection e with e; injection e with i0; subst i0; exact fn_specG hU (P := Try.prog) Try.func18 (fun xs w => by kernel_rfl) 4 _ _ (fun _ => rfl) _ _ _ [] [.o, .o, .o, .o, .o, .a 0, .o, .xg (lkX_none (T := 71) (TB := 5) (f := cu8) (g := c_Xr71) (N := w1) (X := w2) (Tm := 48) (I := 65) (kt := 3) (el := 68) false (.nilIface) (x := y1) (by kernel_rfl) (by kernel_rfl) (fun w => by kernel_rfl) hq0) [1, 2, 3], .o, .o, .o, .o, .o, .o, .o, .o, .o, .o] [] (fun b => by kernel_rfl)
inductive R_maps_Map_Value_v1 where
  | e0 (c0_0 : Nat) (c0_1 : Nat → BitVec 8)
  | e1 (c1_0 : Int)
noncomputable def m_maps_Map_Value_v1 (n0 : Nat) (A0 : Nat → BitVec 8) (w0 : Int) (w1 : Int) (w2 : Nat) (w3 : Nat → (Xr71 × (Nat × (Nat → BitVec 8)))) (w4 : Nat) (w5 : Nat → Me42) : Option R_maps_Map_Value_v1 :=
  (m_maps_Map_Lookup_v1 n0 A0 w0 w1 w2 w3 w4 w5).bind fun g0 => match g0 with
  | .e0 g0_0 g0_1 g0_2 =>
  bif g0_1 then
    (bif g0_2 == 0 then
      ((m_region_Mem_Bytes_v1 g0_0 w1 w2 w3).bind fun g1 => match g1 with
      | .e0 g1_0 => (some (.e0 (0 + (w3 (g0_0 - 1).toNat).2.1) g1_0))
      | .e1 g1_0 => (some (.e1 0)))
    else (some (.e1 g0_2)))
  else (bif g0_2 == 0 then
    (some (.e1 92))
  else (some (.e1 g0_2)))
def sq0_maps_Map_Value_v1 (a0 : Option Addr) (p0 : Nat) (q0 : Nat) (n0 : Nat) (k0 : Nat) (A0 : Nat → BitVec 8) (w0 : Int) (w1 : Int) (w2 : Nat) (w3 : Nat → (Xr71 × (Nat × (Nat → BitVec 8)))) (w4 : Nat) (w5 : Nat → Me42) (c0_0 : Nat) (c0_1 : Nat → BitVec 8) : Spc := ⟨fun ls => .call 9 #[.pointer (some ⟨(lget ls 0).n, 0, none⟩), .slice a0 n0 (n0 + k0)], fun ls => [.cells #[.int .i64 (1), .int .i64 (4), .int .i64 (2), .int .i64 (w0), .bool false, .int .i64 (0), .pointer (some ⟨(lget ls 1).n, 0, none⟩), .map (some (lget ls 5).n), .slice none 0 0] 45, .cells #[.map (some (lget ls 2).n), .int .i64 (w1)] 50, mapP 65 (lget ls 3) w2, arX 71 (lget ls 4) w2 c_Xr71 w3, byX 5 cu8 w2 w3, mapG kv_Me42 vv_Me42 w4 w5], 1, .normal, fun ls => [.tuple #[(rowV (lget ls 6) c0_0 1), .int .i64 (0)]], fun ls => [.cells #[.int .i64 (1), .int .i64 (4), .int .i64 (2), .int .i64 (w0), .bool false, .int .i64 (0), .pointer (some ⟨(lget ls 1).n, 0, none⟩), .map (some (lget ls 5).n), .slice none 0 0] 45, .cells #[.map (some (lget ls 2).n), .int .i64 (w1)] 50, mapP 65 (lget ls 3) w2, arX 71 (lget ls 4) w2 c_Xr71 w3, byX 5 cu8 w2 w3, mapG kv_Me42 vv_Me42 w4 w5], fun ls => [rowO (lget ls 6) (esG cu8 c0_0 c0_1) 5 c0_0 1]⟩
def sq1_maps_Map_Value_v1 (a0 : Option Addr) (p0 : Nat) (q0 : Nat) (n0 : Nat) (k0 : Nat) (A0 : Nat → BitVec 8) (w0 : Int) (w1 : Int) (w2 : Nat) (w3 : Nat → (Xr71 × (Nat × (Nat → BitVec 8)))) (w4 : Nat) (w5 : Nat → Me42) (c1_0 : Int) : Spc := ⟨fun ls => .call 9 #[.pointer (some ⟨(lget ls 0).n, 0, none⟩), .slice a0 n0 (n0 + k0)], fun ls => [.cells #[.int .i64 (1), .int .i64 (4), .int .i64 (2), .int .i64 (w0), .bool false, .int .i64 (0), .pointer (some ⟨(lget ls 1).n, 0, none⟩), .map (some (lget ls 5).n), .slice none 0 0] 45, .cells #[.map (some (lget ls 2).n), .int .i64 (w1)] 50, mapP 65 (lget ls 3) w2, arX 71 (lget ls 4) w2 c_Xr71 w3, byX 5 cu8 w2 w3, mapG kv_Me42 vv_Me42 w4 w5], 0, .normal, fun ls => [.tuple #[.slice none 0 0, .int .i64 (c1_0)]], fun ls => [.cells #[.int .i64 (1), .int .i64 (4), .int .i64 (2), .int .i64 (w0), .bool false, .int .i64 (0), .pointer (some ⟨(lget ls 1).n, 0, none⟩), .map (some (lget ls 5).n), .slice none 0 0] 45, .cells #[.map (some (lget ls 2).n), .int .i64 (w1)] 50, mapP 65 (lget ls 3) w2, arX 71 (lget ls 4) w2 c_Xr71 w3, byX 5 cu8 w2 w3, mapG kv_Me42 vv_Me42 w4 w5], fun ls => []⟩
end
section
variable {M : Nat → Prop} {B0 : Nat} {S : World → Prop} (hU : Up M B0 S) (a0 : Option Addr) (p0 : Nat) (q0 : Nat) (n0 : Nat) (k0 : Nat) (A0 : Nat → BitVec 8) (hR0 : Ro S cu8 1 a0 p0 q0 n0 A0) (w0 : Int) (w1 : Int) (w2 : Nat) (w3 : Nat → (Xr71 × (Nat × (Nat → BitVec 8)))) (w4 : Nat) (w5 : Nat → Me42)
include hU a0 p0 q0 n0 k0 A0 hR0 w0 w1 w2 w3 w4 w5
theorem ok0_maps_Map_Value_v1 (c0_0 : Nat) (c0_1 : Nat → BitVec 8) (e : m_maps_Map_Value_v1 n0 A0 w0 w1 w2 w3 w4 w5 = some (.e0 c0_0 c0_1)) : SpcG Try.prog M B0 S (sq0_maps_Map_Value_v1 a0 p0 q0 n0 k0 A0 w0 w1 w2 w3 w4 w5 c0_0 c0_1) := by
  unfold m_maps_Map_Value_v1 at e
  replace e := bindO_eq e
  obtain ⟨g0, e_g0, e⟩ := e
  obtain ⟨g0_0, g0_1, g0_2⟩ := g0
  try dsimp only at e
  replace e := cond_eq_or e
  rcases e with ⟨hq0, e⟩ | ⟨hq0, e⟩
  · replace e := cond_eq_or e
    rcases e with ⟨hq1, e⟩ | ⟨hq1, e⟩
    · replace e := bindO_eq e
      obtain ⟨g1, e_g1, e⟩ := e
      rcases g1 with ⟨g1_0⟩ | ⟨g1_0⟩
      · try dsimp only at e
        injection e with e; injection e with i0 i1; subst i0 i1; exact fn_specG hU (P := Try.prog) Try.func9 (fun xs w => by kernel_rfl) 6 _ _ (fun _ => rfl) _ _ _ [6] [.o, .o, .o, .o, .xg (ok0_maps_Map_Lookup_v1 hU a0 p0 q0 n0 k0 A0 hR0 w0 w1 w2 w3 w4 w5 g0_0 g0_1 g0_2 e_g0) [0, 1, 2, 3, 4, 5], .o, .o, .b hq0, .o, .o, .o, .o, .o, .b (z_neqT hq1), .o, .o, .o, .o, .o, .a 0, .o, .xg (ok0_region_Mem_Bytes_v1 hU g0_0 w1 w2 w3 g1_0 e_g1) [1, 2, 3, 4], .o, .o, .o, .o, .o, .o, .o, .o] [] (fun b => by kernel_rfl)
      · try dsimp only at e
        cases e
    · cases e
  · replace e := cond_eq_or e
    rcases e with ⟨hq1, e⟩ | ⟨hq1, e⟩
    · cases e
    · cases e
theorem ok1_maps_Map_Value_v1 (c1_0 : Int) (e : m_maps_Map_Value_v1 n0 A0 w0 w1 w2 w3 w4 w5 = some (.e1 c1_0)) : SpcG Try.prog M B0 S (sq1_maps_Map_Value_v1 a0 p0 q0 n0 k0 A0 w0 w1 w2 w3 w4 w5 c1_0) := by
  unfold m_maps_Map_Value_v1 at e
  replace e := bindO_eq e
  obtain ⟨g0, e_g0, e⟩ := e
  obtain ⟨g0_0, g0_1, g0_2⟩ := g0
  try dsimp only at e
  replace e := cond_eq_or e
  rcases e with ⟨hq0, e⟩ | ⟨hq0, e⟩
  · replace e := cond_eq_or e
    rcases e with ⟨hq1, e⟩ | ⟨hq1, e⟩
    · replace e := bindO_eq e
      obtain ⟨g1, e_g1, e⟩ := e
      rcases g1 with ⟨g1_0⟩ | ⟨g1_0⟩
      · try dsimp only at e
        cases e
      · try dsimp only at e
        injection e with e; injection e with i0; subst i0; exact fn_specG hU (P := Try.prog) Try.func9 (fun xs w => by kernel_rfl) 6 _ _ (fun _ => rfl) _ _ _ [] [.o, .o, .o, .o, .xg (ok0_maps_Map_Lookup_v1 hU a0 p0 q0 n0 k0 A0 hR0 w0 w1 w2 w3 w4 w5 g0_0 g0_1 g0_2 e_g0) [0, 1, 2, 3, 4, 5], .o, .o, .b hq0, .o, .o, .o, .o, .o, .b (z_neqT hq1), .o, .o, .o, .o, .o, .a 0, .o, .xg (ok1_region_Mem_Bytes_v1 hU g0_0 w1 w2 w3 g1_0 e_g1) [1, 2, 3, 4], .o, .o, .o, .o, .o, .o, .o, .o] [] (fun b => by kernel_rfl)
    · injection e with e; injection e with i0; subst i0; exact fn_specG hU (P := Try.prog) Try.func9 (fun xs w => by kernel_rfl) 6 _ _ (fun _ => rfl) _ _ _ [] [.o, .o, .o, .o, .xg (ok0_maps_Map_Lookup_v1 hU a0 p0 q0 n0 k0 A0 hR0 w0 w1 w2 w3 w4 w5 g0_0 g0_1 g0_2 e_g0) [0, 1, 2, 3, 4, 5], .o, .o, .b hq0, .o, .o, .o, .o, .o, .b (z_neqF hq1), .o, .o, .o] [] (fun b => by kernel_rfl)
  · replace e := cond_eq_or e
    rcases e with ⟨hq1, e⟩ | ⟨hq1, e⟩
    · injection e with e; injection e with i0; subst i0; exact fn_specG hU (P := Try.prog) Try.func9 (fun xs w => by kernel_rfl) 6 _ _ (fun _ => rfl) _ _ _ [] [.o, .o, .o, .o, .xg (ok0_maps_Map_Lookup_v1 hU a0 p0 q0 n0 k0 A0 hR0 w0 w1 w2 w3 w4 w5 g0_0 g0_1 g0_2 e_g0) [0, 1, 2, 3, 4, 5], .o, .o, .b hq0, .o, .o, .o, .o, .o, .b (z_neqT hq1), .o, .o, .o, .o] [] (fun b => by kernel_rfl)
    · injection e with e; injection e with i0; subst i0; exact fn_specG hU (P := Try.prog) Try.func9 (fun xs w => by kernel_rfl) 6 _ _ (fun _ => rfl) _ _ _ [] [.o, .o, .o, .o, .xg (ok0_maps_Map_Lookup_v1 hU a0 p0 q0 n0 k0 A0 hR0 w0 w1 w2 w3 w4 w5 g0_0 g0_1 g0_2 e_g0) [0, 1, 2, 3, 4, 5], .o, .o, .b hq0, .o, .o, .o, .o, .o, .b (z_neqF hq1), .o, .o, .o] [] (fun b => by kernel_rfl)
inductive Sh_barbicanlaw9_MapsArray_L0 where
  | c0 (s0_0 : Int)
inductive Ex_barbicanlaw9_MapsArray_L0 where
  | e0 (c0_0 : BitVec 8) (c0_1 : BitVec 8) (c0_2 : BitVec 8) (c0_3 : BitVec 8)
  | e1 (c1_0 : BitVec 8) (c1_1 : BitVec 8) (c1_2 : BitVec 8) (c1_3 : BitVec 8)
noncomputable def st_barbicanlaw9_MapsArray_L0 (y0 : Int) (y1 : BitVec 32) (y2 : BitVec 8) (g0_0 : Nat) (g0_2 : Int) (g0_3 : Nat) (g0_4 : Nat → Me42) (g1_0 : Nat → (Xr71 × (Nat × (Nat → BitVec 8)))) : Sh_barbicanlaw9_MapsArray_L0 → Option (Sh_barbicanlaw9_MapsArray_L0 ⊕ Ex_barbicanlaw9_MapsArray_L0)
  | .c0 s0_0 =>
    bif decide (s0_0 < y0) then
      ((m_maps_Map_Value_v1 4 (fun k => if k = 0 then (BitVec.ofInt 8 s0_0) else if k = 1 then 0#8 else if k = 2 then 0#8 else 0#8) y0 g0_2 g0_0 g1_0 g0_3 g0_4).bind fun gb0 => match gb0 with
      | .e0 gb0_0 gb0_1 => (bif (gb0_0 : Int) == 2 then
          (bif (BitVec.ofInt 32 s0_0) == y1 then
            (bif inR 0 gb0_0 then
              (bif (gb0_1 0) == y2 then
                (bif inR 1 gb0_0 then
                  (bif (gb0_1 1) == 1#8 then
                    (some (.inl (.c0 (IntKind.i64.wrap (s0_0 + 1)))))
                  else (some (.inr (.e1 (y1.setWidth 8) ((y1 >>> 8).setWidth 8) ((y1 >>> 16).setWidth 8) ((y1 >>> 24).setWidth 8)))))
                else (none))
              else (some (.inr (.e1 (y1.setWidth 8) ((y1 >>> 8).setWidth 8) ((y1 >>> 16).setWidth 8) ((y1 >>> 24).setWidth 8)))))
            else (none))
          else (bif inR 0 gb0_0 then
            (bif (gb0_1 0) == 0#8 then
              (bif inR 1 gb0_0 then
                (bif (gb0_1 1) == 0#8 then
                  (some (.inl (.c0 (IntKind.i64.wrap (s0_0 + 1)))))
                else (some (.inr (.e1 (y1.setWidth 8) ((y1 >>> 8).setWidth 8) ((y1 >>> 16).setWidth 8) ((y1 >>> 24).setWidth 8)))))
              else (none))
            else (some (.inr (.e1 (y1.setWidth 8) ((y1 >>> 8).setWidth 8) ((y1 >>> 16).setWidth 8) ((y1 >>> 24).setWidth 8)))))
          else (none)))
        else (some (.inr (.e1 (y1.setWidth 8) ((y1 >>> 8).setWidth 8) ((y1 >>> 16).setWidth 8) ((y1 >>> 24).setWidth 8)))))
      | .e1 gb0_0 => (bif gb0_0 == 0 then
          (some (.inr (.e1 (y1.setWidth 8) ((y1 >>> 8).setWidth 8) ((y1 >>> 16).setWidth 8) ((y1 >>> 24).setWidth 8))))
        else (some (.inr (.e1 (y1.setWidth 8) ((y1 >>> 8).setWidth 8) ((y1 >>> 16).setWidth 8) ((y1 >>> 24).setWidth 8))))))
    else (some (.inr (.e0 (y1.setWidth 8) ((y1 >>> 8).setWidth 8) ((y1 >>> 16).setWidth 8) ((y1 >>> 24).setWidth 8))))
noncomputable def bd_barbicanlaw9_MapsArray_L0 : Code := codeOf Try.f3 [1, 1, 1, 1, 1, 1, 1, 1, 1, 1, 0, 1, 0, 0]
def fl_barbicanlaw9_MapsArray_L0 (y0 : Int) (y1 : BitVec 32) (y2 : BitVec 8) (g0_0 : Nat) (g0_1 : Nat → (Xr71 × (Nat × (Nat → BitVec 8)))) (g0_2 : Int) (g0_3 : Nat) (g0_4 : Nat → Me42) (g1_0 : Nat → (Xr71 × (Nat × (Nat → BitVec 8)))) (g1_1 : Int) (g2_0 : Int) : Sh_barbicanlaw9_MapsArray_L0 → List L1 → List Value
  | .c0 s0_0, ls => [.int .i64 (y0), .int .u32 (nn y1), .int .u8 (nn y2), .bool false, .pointer (some ⟨(lget ls 6).n, 0, none⟩), .int .i64 (s0_0)]
def mf_barbicanlaw9_MapsArray_L0 : Sh_barbicanlaw9_MapsArray_L0 → List (Nat × Nat)
  | .c0 _ => [(3, 3), (2, 5), (1, 123)]
noncomputable def fr_barbicanlaw9_MapsArray_L0 (y0 : Int) (y1 : BitVec 32) (y2 : BitVec 8) (g0_0 : Nat) (g0_1 : Nat → (Xr71 × (Nat × (Nat → BitVec 8)))) (g0_2 : Int) (g0_3 : Nat) (g0_4 : Nat → Me42) (g1_0 : Nat → (Xr71 × (Nat × (Nat → BitVec 8)))) (g1_1 : Int) (g2_0 : Int) (s : Sh_barbicanlaw9_MapsArray_L0) : List L1 → List Value := mrgF (mf_barbicanlaw9_MapsArray_L0 s) (fl_barbicanlaw9_MapsArray_L0 y0 y1 y2 g0_0 g0_1 g0_2 g0_3 g0_4 g1_0 g1_1 g2_0 s) 10
def Hs_barbicanlaw9_MapsArray_L0 (y0 : Int) (y1 : BitVec 32) (y2 : BitVec 8) (g0_0 : Nat) (g0_1 : Nat → (Xr71 × (Nat × (Nat → BitVec 8)))) (g0_2 : Int) (g0_3 : Nat) (g0_4 : Nat → Me42) (g1_0 : Nat → (Xr71 × (Nat × (Nat → BitVec 8)))) (g1_1 : Int) (g2_0 : Int) : Sh_barbicanlaw9_MapsArray_L0 → List L1 → List Obj
  | .c0 s0_0, ls => [.cells #[.map (some (lget ls 1).n), .int .i64 (g0_2)] 50, mapP 65 (lget ls 4) g0_0, unb, unb, arX 71 (lget ls 5) g0_0 c_Xr71 g1_0, byX 5 cu8 g0_0 g1_0, .cells #[.int .i64 (1), .int .i64 (4), .int .i64 (2), .int .i64 (y0), .bool false, .int .i64 (0), .pointer (some ⟨(lget ls 0).n, 0, none⟩), .map (some (lget ls 7).n), .slice none 0 0] 45, mapG kv_Me42 vv_Me42 g0_3 g0_4, .cells #[.int .u8 (nn (y1.setWidth 8)), .int .u8 (nn ((y1 >>> 8).setWidth 8)), .int .u8 (nn ((y1 >>> 16).setWidth 8)), .int .u8 (nn ((y1 >>> 24).setWidth 8))] 5, .cells #[.int .u8 (nn y2), .int .u8 (1)] 5, unb]
def vl_barbicanlaw9_MapsArray_L0 (y0 : Int) (y1 : BitVec 32) (y2 : BitVec 8) (g0_0 : Nat) (g0_1 : Nat → (Xr71 × (Nat × (Nat → BitVec 8)))) (g0_2 : Int) (g0_3 : Nat) (g0_4 : Nat → Me42) (g1_0 : Nat → (Xr71 × (Nat × (Nat → BitVec 8)))) (g1_1 : Int) (g2_0 : Int) : Ex_barbicanlaw9_MapsArray_L0 → List L1 → List Value
  | .e0 c0_0 c0_1 c0_2 c0_3, ls => [.int .i64 (y0), .int .u32 (nn y1), .int .u8 (nn y2), .bool false, .pointer (some ⟨(lget ls 6).n, 0, none⟩)]
  | .e1 c1_0 c1_1 c1_2 c1_3, ls => [.int .i64 (y0), .int .u32 (nn y1), .int .u8 (nn y2), .bool false, .pointer (some ⟨(lget ls 6).n, 0, none⟩)]
def mk_barbicanlaw9_MapsArray_L0 : Ex_barbicanlaw9_MapsArray_L0 → List (Nat × Nat)
  | .e0 _ _ _ _ => [(3, 3), (2, 129)]
  | .e1 _ _ _ _ => [(3, 3), (2, 129)]
noncomputable def vf_barbicanlaw9_MapsArray_L0 (y0 : Int) (y1 : BitVec 32) (y2 : BitVec 8) (g0_0 : Nat) (g0_1 : Nat → (Xr71 × (Nat × (Nat → BitVec 8)))) (g0_2 : Int) (g0_3 : Nat) (g0_4 : Nat → Me42) (g1_0 : Nat → (Xr71 × (Nat × (Nat → BitVec 8)))) (g1_1 : Int) (g2_0 : Int) (r : Ex_barbicanlaw9_MapsArray_L0) : List L1 → List Value := mrgF (mk_barbicanlaw9_MapsArray_L0 r) (vl_barbicanlaw9_MapsArray_L0 y0 y1 y2 g0_0 g0_1 g0_2 g0_3 g0_4 g1_0 g1_1 g2_0 r) 10
def Hf_barbicanlaw9_MapsArray_L0 (y0 : Int) (y1 : BitVec 32) (y2 : BitVec 8) (g0_0 : Nat) (g0_1 : Nat → (Xr71 × (Nat × (Nat → BitVec 8)))) (g0_2 : Int) (g0_3 : Nat) (g0_4 : Nat → Me42) (g1_0 : Nat → (Xr71 × (Nat × (Nat → BitVec 8)))) (g1_1 : Int) (g2_0 : Int) : Ex_barbicanlaw9_MapsArray_L0 → List L1 → List Obj
  | .e0 c0_0 c0_1 c0_2 c0_3, ls => [.cells #[.map (some (lget ls 1).n), .int .i64 (g0_2)] 50, mapP 65 (lget ls 4) g0_0, unb, unb, arX 71 (lget ls 5) g0_0 c_Xr71 g1_0, byX 5 cu8 g0_0 g1_0, .cells #[.int .i64 (1), .int .i64 (4), .int .i64 (2), .int .i64 (y0), .bool false, .int .i64 (0), .pointer (some ⟨(lget ls 0).n, 0, none⟩), .map (some (lget ls 7).n), .slice none 0 0] 45, mapG kv_Me42 vv_Me42 g0_3 g0_4, .cells #[.int .u8 (nn c0_0), .int .u8 (nn c0_1), .int .u8 (nn c0_2), .int .u8 (nn c0_3)] 5, .cells #[.int .u8 (nn y2), .int .u8 (1)] 5, unb]
  | .e1 c1_0 c1_1 c1_2 c1_3, ls => [.cells #[.map (some (lget ls 1).n), .int .i64 (g0_2)] 50, mapP 65 (lget ls 4) g0_0, unb, unb, arX 71 (lget ls 5) g0_0 c_Xr71 g1_0, byX 5 cu8 g0_0 g1_0, .cells #[.int .i64 (1), .int .i64 (4), .int .i64 (2), .int .i64 (y0), .bool false, .int .i64 (0), .pointer (some ⟨(lget ls 0).n, 0, none⟩), .map (some (lget ls 7).n), .slice none 0 0] 45, mapG kv_Me42 vv_Me42 g0_3 g0_4, .cells #[.int .u8 (nn c1_0), .int .u8 (nn c1_1), .int .u8 (nn c1_2), .int .u8 (nn c1_3)] 5, .cells #[.int .u8 (nn y2), .int .u8 (1)] 5, unb]
def ex_barbicanlaw9_MapsArray_L0 : Ex_barbicanlaw9_MapsArray_L0 → Ex
  | .e0 _ _ _ _ => (.exit 0)
  | .e1 _ _ _ _ => .ret
end
section
variable {M : Nat → Prop} {B0 : Nat} {S : World → Prop} (hU : Up M B0 S) (y0 : Int) (y1 : BitVec 32) (y2 : BitVec 8) (g0_0 : Nat) (g0_1 : Nat → (Xr71 × (Nat × (Nat → BitVec 8)))) (g0_2 : Int) (g0_3 : Nat) (g0_4 : Nat → Me42) (g1_0 : Nat → (Xr71 × (Nat × (Nat → BitVec 8)))) (g1_1 : Int) (g2_0 : Int)
include hU y0 y1 y2 g0_0 g0_1 g0_2 g0_3 g0_4 g1_0 g1_1 g2_0
theorem go_barbicanlaw9_MapsArray_L0 (s : Sh_barbicanlaw9_MapsArray_L0) (r : Ex_barbicanlaw9_MapsArray_L0) (h : lpO (st_barbicanlaw9_MapsArray_L0 y0 y1 y2 g0_0 g0_2 g0_3 g0_4 g1_0) s = some r) : GoesG Try.prog M B0 S (.loop bd_barbicanlaw9_MapsArray_L0) 11 (fr_barbicanlaw9_MapsArray_L0 y0 y1 y2 g0_0 g0_1 g0_2 g0_3 g0_4 g1_0 g1_1 g2_0 s) (Hs_barbicanlaw9_MapsArray_L0 y0 y1 y2 g0_0 g0_1 g0_2 g0_3 g0_4 g1_0 g1_1 g2_0 s) (ex_barbicanlaw9_MapsArray_L0 r) 10 (vf_barbicanlaw9_MapsArray_L0 y0 y1 y2 g0_0 g0_1 g0_2 g0_3 g0_4 g1_0 g1_1 g2_0 r) (Hf_barbicanlaw9_MapsArray_L0 y0 y1 y2 g0_0 g0_1 g0_2 g0_3 g0_4 g1_0 g1_1 g2_0 r) 11 :=
  goes_lpO (fun s q e => by
    cases s with
    | c0 s0_0 =>
      unfold st_barbicanlaw9_MapsArray_L0 at e
      dsimp only at e
      replace e := cond_eq_or e
      rcases e with ⟨hq0, e⟩ | ⟨hq0, e⟩
      · replace e := bindO_eq e
        obtain ⟨gb0, e_gb0, e⟩ := e
        rcases gb0 with ⟨gb0_0, gb0_1⟩ | ⟨gb0_0⟩
        · try dsimp only at e
          replace e := cond_eq_or e
          rcases e with ⟨hq1, e⟩ | ⟨hq1, e⟩
          · replace e := cond_eq_or e
            rcases e with ⟨hq2, e⟩ | ⟨hq2, e⟩
            · replace e := cond_eq_or e
              rcases e with ⟨hq3, e⟩ | ⟨hq3, e⟩
              · replace e := cond_eq_or e
                rcases e with ⟨hq4, e⟩ | ⟨hq4, e⟩
                · replace e := cond_eq_or e
                  rcases e with ⟨hq5, e⟩ | ⟨hq5, e⟩
                  · replace e := cond_eq_or e
                    rcases e with ⟨hq6, e⟩ | ⟨hq6, e⟩
                    · cases e; exact goes_runM hU [.o, .o, .b (z_lssT hq0), .o, .o, .v .u8 (u8_of_z s0_0), .o, .xg (SpcG.own hU (f := cu8) cu8_len 4 (fun k => if k = 0 then (BitVec.ofInt 8 s0_0) else if k = 1 then 0#8 else if k = 2 then 0#8 else 0#8) 5 (fun _ => []) (fun _ => 0) _ 1 .normal (by intros; rfl) (by intros; rfl) (by intros; rfl) (fun M0 B0 S0 x0 u0 v0 z0 hU0 hs0 hr0 => ok0_maps_Map_Value_v1 hU0 x0 u0 v0 4 z0 (fun k => if k = 0 then (BitVec.ofInt 8 s0_0) else if k = 1 then 0#8 else if k = 2 then 0#8 else 0#8) hr0 y0 g0_2 g0_0 g1_0 g0_3 g0_4 gb0_0 gb0_1 e_gb0)) [11, 6, 0, 1, 4, 5, 7], .o, .o, .o, .o, .o, .o, .o, .o, .o, .o, .b (z_neqT hq1), .o, .o, .o, .v .u32 (u32_of_z s0_0), .o, .t (u_eq (BitVec.ofInt 32 s0_0) y1) hq2, .o, .o, .q (ixM_ok (kd := .i64) (T := 33) (x := 0) (N := gb0_0) (sz := 1) rfl (fun w => by kernel_rfl) hq3), .l (accG (i := 12) (f := cu8) (A := gb0_1) (k := 0) 0 [.int .u8 (nn (gb0_1 0))] cu8_len (inR_nat hq3) rfl), .o, .tn (u_ne (gb0_1 0) y2) hq4, .o, .o, .q (ixM_ok (kd := .i64) (T := 33) (x := 1) (N := gb0_0) (sz := 1) rfl (fun w => by kernel_rfl) hq5), .l (accG (i := 12) (f := cu8) (A := gb0_1) (k := 1) 0 [.int .u8 (nn (gb0_1 1))] cu8_len (inR_nat hq5) rfl), .tn (u_ne (gb0_1 1) (1#8)) hq6, .o, .o, .o, .o, .o, .v .u32 (u32_of_z s0_0), .o, .tn (u_ne (BitVec.ofInt 32 s0_0) y1) hq2, .o, .o, .o, .o, .o, .o] [0, 1, 2, 3, 4, 5, 6, 7, 8, 9] (fun b => rfl) (by decide) rfl rfl (fun b => by kernel_rfl)
                    · cases e; exact ⟨ne_ret, goes_runM hU [.o, .o, .b (z_lssT hq0), .o, .o, .v .u8 (u8_of_z s0_0), .o, .xg (SpcG.own hU (f := cu8) cu8_len 4 (fun k => if k = 0 then (BitVec.ofInt 8 s0_0) else if k = 1 then 0#8 else if k = 2 then 0#8 else 0#8) 5 (fun _ => []) (fun _ => 0) _ 1 .normal (by intros; rfl) (by intros; rfl) (by intros; rfl) (fun M0 B0 S0 x0 u0 v0 z0 hU0 hs0 hr0 => ok0_maps_Map_Value_v1 hU0 x0 u0 v0 4 z0 (fun k => if k = 0 then (BitVec.ofInt 8 s0_0) else if k = 1 then 0#8 else if k = 2 then 0#8 else 0#8) hr0 y0 g0_2 g0_0 g1_0 g0_3 g0_4 gb0_0 gb0_1 e_gb0)) [11, 6, 0, 1, 4, 5, 7], .o, .o, .o, .o, .o, .o, .o, .o, .o, .o, .b (z_neqT hq1), .o, .o, .o, .v .u32 (u32_of_z s0_0), .o, .t (u_eq (BitVec.ofInt 32 s0_0) y1) hq2, .o, .o, .q (ixM_ok (kd := .i64) (T := 33) (x := 0) (N := gb0_0) (sz := 1) rfl (fun w => by kernel_rfl) hq3), .l (accG (i := 12) (f := cu8) (A := gb0_1) (k := 0) 0 [.int .u8 (nn (gb0_1 0))] cu8_len (inR_nat hq3) rfl), .o, .tn (u_ne (gb0_1 0) y2) hq4, .o, .o, .q (ixM_ok (kd := .i64) (T := 33) (x := 1) (N := gb0_0) (sz := 1) rfl (fun w => by kernel_rfl) hq5), .l (accG (i := 12) (f := cu8) (A := gb0_1) (k := 1) 0 [.int .u8 (nn (gb0_1 1))] cu8_len (inR_nat hq5) rfl), .tn (u_ne (gb0_1 1) (1#8)) hq6, .o, .o, .o, .o, .o, .o] [0, 1, 2, 3, 4, 5, 6, 7, 8, 9] (fun b => rfl) (by decide) rfl rfl (fun b => by kernel_rfl)⟩
                  · exact none_some e
                · cases e; exact ⟨ne_ret, goes_runM hU [.o, .o, .b (z_lssT hq0), .o, .o, .v .u8 (u8_of_z s0_0), .o, .xg (SpcG.own hU (f := cu8) cu8_len 4 (fun k => if k = 0 then (BitVec.ofInt 8 s0_0) else if k = 1 then 0#8 else if k = 2 then 0#8 else 0#8) 5 (fun _ => []) (fun _ => 0) _ 1 .normal (by intros; rfl) (by intros; rfl) (by intros; rfl) (fun M0 B0 S0 x0 u0 v0 z0 hU0 hs0 hr0 => ok0_maps_Map_Value_v1 hU0 x0 u0 v0 4 z0 (fun k => if k = 0 then (BitVec.ofInt 8 s0_0) else if k = 1 then 0#8 else if k = 2 then 0#8 else 0#8) hr0 y0 g0_2 g0_0 g1_0 g0_3 g0_4 gb0_0 gb0_1 e_gb0)) [11, 6, 0, 1, 4, 5, 7], .o, .o, .o, .o, .o, .o, .o, .o, .o, .o, .b (z_neqT hq1), .o, .o, .o, .v .u32 (u32_of_z s0_0), .o, .t (u_eq (BitVec.ofInt 32 s0_0) y1) hq2, .o, .o, .q (ixM_ok (kd := .i64) (T := 33) (x := 0) (N := gb0_0) (sz := 1) rfl (fun w => by kernel_rfl) hq3), .l (accG (i := 12) (f := cu8) (A := gb0_1) (k := 0) 0 [.int .u8 (nn (gb0_1 0))] cu8_len (inR_nat hq3) rfl), .o, .tn (u_ne (gb0_1 0) y2) hq4, .o, .o, .o, .o, .o, .o, .o] [0, 1, 2, 3, 4, 5, 6, 7, 8, 9] (fun b => rfl) (by decide) rfl rfl (fun b => by kernel_rfl)⟩
              · exact none_some e
            · replace e := cond_eq_or e
              rcases e with ⟨hq3, e⟩ | ⟨hq3, e⟩
              · replace e := cond_eq_or e
                rcases e with ⟨hq4, e⟩ | ⟨hq4, e⟩
                · replace e := cond_eq_or e
                  rcases e with ⟨hq5, e⟩ | ⟨hq5, e⟩
                  · replace e := cond_eq_or e
                    rcases e with ⟨hq6, e⟩ | ⟨hq6, e⟩
                    · cases e; exact goes_runM hU [.o, .o, .b (z_lssT hq0), .o, .o, .v .u8 (u8_of_z s0_0), .o, .xg (SpcG.own hU (f := cu8) cu8_len 4 (fun k => if k = 0 then (BitVec.ofInt 8 s0_0) else if k = 1 then 0#8 else if k = 2 then 0#8 else 0#8) 5 (fun _ => []) (fun _ => 0) _ 1 .normal (by intros; rfl) (by intros; rfl) (by intros; rfl) (fun M0 B0 S0 x0 u0 v0 z0 hU0 hs0 hr0 => ok0_maps_Map_Value_v1 hU0 x0 u0 v0 4 z0 (fun k => if k = 0 then (BitVec.ofInt 8 s0_0) else if k = 1 then 0#8 else if k = 2 then 0#8 else 0#8) hr0 y0 g0_2 g0_0 g1_0 g0_3 g0_4 gb0_0 gb0_1 e_gb0)) [11, 6, 0, 1, 4, 5, 7], .o, .o, .o, .o, .o, .o, .o, .o, .o, .o, .b (z_neqT hq1), .o, .o, .o, .v .u32 (u32_of_z s0_0), .o, .t (u_eq (BitVec.ofInt 32 s0_0) y1) hq2, .o, .o, .o, .o, .o, .v .u32 (u32_of_z s0_0), .o, .tn (u_ne (BitVec.ofInt 32 s0_0) y1) hq2, .o, .o, .q (ixM_ok (kd := .i64) (T := 33) (x := 0) (N := gb0_0) (sz := 1) rfl (fun w => by kernel_rfl) hq3), .l (accG (i := 12) (f := cu8) (A := gb0_1) (k := 0) 0 [.int .u8 (nn (gb0_1 0))] cu8_len (inR_nat hq3) rfl), .tn (u_ne (gb0_1 0) (0#8)) hq4, .o, .o, .q (ixM_ok (kd := .i64) (T := 33) (x := 1) (N := gb0_0) (sz := 1) rfl (fun w => by kernel_rfl) hq5), .l (accG (i := 12) (f := cu8) (A := gb0_1) (k := 1) 0 [.int .u8 (nn (gb0_1 1))] cu8_len (inR_nat hq5) rfl), .tn (u_ne (gb0_1 1) (0#8)) hq6, .o, .o, .o, .o, .o, .o] [0, 1, 2, 3, 4, 5, 6, 7, 8, 9] (fun b => rfl) (by decide) rfl rfl (fun b => by kernel_rfl)
                    · cases e; exact ⟨ne_ret, goes_runM hU [.o, .o, .b (z_lssT hq0), .o, .o, .v .u8 (u8_of_z s0_0), .o, .xg (SpcG.own hU (f := cu8) cu8_len 4 (fun k => if k = 0 then (BitVec.ofInt 8 s0_0) else if k = 1 then 0#8 else if k = 2 then 0#8 else 0#8) 5 (fun _ => []) (fun _ => 0) _ 1 .normal (by intros; rfl) (by intros; rfl) (by intros; rfl) (fun M0 B0 S0 x0 u0 v0 z0 hU0 hs0 hr0 => ok0_maps_Map_Value_v1 hU0 x0 u0 v0 4 z0 (fun k => if k = 0 then (BitVec.ofInt 8 s0_0) else if k = 1 then 0#8 else if k = 2 then 0#8 else 0#8) hr0 y0 g0_2 g0_0 g1_0 g0_3 g0_4 gb0_0 gb0_1 e_gb0)) [11, 6, 0, 1, 4, 5, 7], .o, .o, .o, .o, .o, .o, .o, .o, .o, .o, .b (z_neqT hq1), .o, .o, .o, .v .u32 (u32_of_z s0_0), .o, .t (u_eq (BitVec.ofInt 32 s0_0) y1) hq2, .o, .o, .o, .o, .o, .v .u32 (u32_of_z s0_0), .o, .tn (u_ne (BitVec.ofInt 32 s0_0) y1) hq2, .o, .o, .q (ixM_ok (kd := .i64) (T := 33) (x := 0) (N := gb0_0) (sz := 1) rfl (fun w => by kernel_rfl) hq3), .l (accG (i := 12) (f := cu8) (A := gb0_1) (k := 0) 0 [.int .u8 (nn (gb0_1 0))] cu8_len (inR_nat hq3) rfl), .tn (u_ne (gb0_1 0) (0#8)) hq4, .o, .o, .q (ixM_ok (kd := .i64) (T := 33) (x := 1) (N := gb0_0) (sz := 1) rfl (fun w => by kernel_rfl) hq5), .l (accG (i := 12) (f := cu8) (A := gb0_1) (k := 1) 0 [.int .u8 (nn (gb0_1 1))] cu8_len (inR_nat hq5) rfl), .tn (u_ne (gb0_1 1) (0#8)) hq6, .o, .o, .o, .o] [0, 1, 2, 3, 4, 5, 6, 7, 8, 9] (fun b => rfl) (by decide) rfl rfl (fun b => by kernel_rfl)⟩
                  · exact none_some e
                · cases e; exact ⟨ne_ret, goes_runM hU [.o, .o, .b (z_lssT hq0), .o, .o, .v .u8 (u8_of_z s0_0), .o, .xg (SpcG.own hU (f := cu8) cu8_len 4 (fun k => if k = 0 then (BitVec.ofInt 8 s0_0) else if k = 1 then 0#8 else if k = 2 then 0#8 else 0#8) 5 (fun _ => []) (fun _ => 0) _ 1 .normal (by intros; rfl) (by intros; rfl) (by intros; rfl) (fun M0 B0 S0 x0 u0 v0 z0 hU0 hs0 hr0 => ok0_maps_Map_Value_v1 hU0 x0 u0 v0 4 z0 (fun k => if k = 0 then (BitVec.ofInt 8 s0_0) else if k = 1 then 0#8 else if k = 2 then 0#8 else 0#8) hr0 y0 g0_2 g0_0 g1_0 g0_3 g0_4 gb0_0 gb0_1 e_gb0)) [11, 6, 0, 1, 4, 5, 7], .o, .o, .o, .o, .o, .o, .o, .o, .o, .o, .b (z_neqT hq1), .o, .o, .o, .v .u32 (u32_of_z s0_0), .o, .t (u_eq (BitVec.ofInt 32 s0_0) y1) hq2, .o, .o, .o, .o, .o, .v .u32 (u32_of_z s0_0), .o, .tn (u_ne (BitVec.ofInt 32 s0_0) y1) hq2, .o, .o, .q (ixM_ok (kd := .i64) (T := 33) (x := 0) (N := gb0_0) (sz := 1) rfl (fun w => by kernel_rfl) hq3), .l (accG (i := 12) (f := cu8) (A := gb0_1) (k := 0) 0 [.int .u8 (nn (gb0_1 0))] cu8_len (inR_nat hq3) rfl), .tn (u_ne (gb0_1 0) (0#8)) hq4, .o, .o, .o, .o, .o] [0, 1, 2, 3, 4, 5, 6, 7, 8, 9] (fun b => rfl) (by decide) rfl rfl (fun b => by kernel_rfl)⟩
              · exact none_some e
          · cases e; exact ⟨ne_ret, goes_runM hU [.o, .o, .b (z_lssT hq0), .o, .o, .v .u8 (u8_of_z s0_0), .o, .xg (SpcG.own hU (f := cu8) cu8_len 4 (fun k => if k = 0 then (BitVec.ofInt 8 s0_0) else if k = 1 then 0#8 else if k = 2 then 0#8 else 0#8) 5 (fun _ => []) (fun _ => 0) _ 1 .normal (by intros; rfl) (by intros; rfl) (by intros; rfl) (fun M0 B0 S0 x0 u0 v0 z0 hU0 hs0 hr0 => ok0_maps_Map_Value_v1 hU0 x0 u0 v0 4 z0 (fun k => if k = 0 then (BitVec.ofInt 8 s0_0) else if k = 1 then 0#8 else if k = 2 then 0#8 else 0#8) hr0 y0 g0_2 g0_0 g1_0 g0_3 g0_4 gb0_0 gb0_1 e_gb0)) [11, 6, 0, 1, 4, 5, 7], .o, .o, .o, .o, .o, .o, .o, .o, .o, .o, .b (z_neqF hq1), .o, .o, .o, .o, .o, .o] [0, 1, 2, 3, 4, 5, 6, 7, 8, 9] (fun b => rfl) (by decide) rfl rfl (fun b => by kernel_rfl)⟩
        · try dsimp only at e
          replace e := cond_eq_or e
          rcases e with ⟨hq1, e⟩ | ⟨hq1, e⟩
          · cases e; exact ⟨ne_ret, goes_runM hU [.o, .o, .b (z_lssT hq0), .o, .o, .v .u8 (u8_of_z s0_0), .o, .xg (SpcG.own hU (f := cu8) cu8_len 4 (fun k => if k = 0 then (BitVec.ofInt 8 s0_0) else if k = 1 then 0#8 else if k = 2 then 0#8 else 0#8) 5 (fun _ => []) (fun _ => 0) _ 0 .normal (by intros; rfl) (by intros; rfl) (by intros; rfl) (fun M0 B0 S0 x0 u0 v0 z0 hU0 hs0 hr0 => ok1_maps_Map_Value_v1 hU0 x0 u0 v0 4 z0 (fun k => if k = 0 then (BitVec.ofInt 8 s0_0) else if k = 1 then 0#8 else if k = 2 then 0#8 else 0#8) hr0 y0 g0_2 g0_0 g1_0 g0_3 g0_4 gb0_0 e_gb0)) [11, 6, 0, 1, 4, 5, 7], .o, .o, .o, .o, .o, .o, .b (z_neqT hq1), .o, .o, .o, .o, .o, .o, .o, .o, .o, .o] [0, 1, 2, 3, 4, 5, 6, 7, 8, 9] (fun b => rfl) (by decide) rfl rfl (fun b => by kernel_rfl)⟩
          · cases e; exact ⟨ne_ret, goes_runM hU [.o, .o, .b (z_lssT hq0), .o, .o, .v .u8 (u8_of_z s0_0), .o, .xg (SpcG.own hU (f := cu8) cu8_len 4 (fun k => if k = 0 then (BitVec.ofInt 8 s0_0) else if k = 1 then 0#8 else if k = 2 then 0#8 else 0#8) 5 (fun _ => []) (fun _ => 0) _ 0 .normal (by intros; rfl) (by intros; rfl) (by intros; rfl) (fun M0 B0 S0 x0 u0 v0 z0 hU0 hs0 hr0 => ok1_maps_Map_Value_v1 hU0 x0 u0 v0 4 z0 (fun k => if k = 0 then (BitVec.ofInt 8 s0_0) else if k = 1 then 0#8 else if k = 2 then 0#8 else 0#8) hr0 y0 g0_2 g0_0 g1_0 g0_3 g0_4 gb0_0 e_gb0)) [11, 6, 0, 1, 4, 5, 7], .o, .o, .o, .o, .o, .o, .b (z_neqF hq1), .o, .o, .o, .o, .o, .o, .o] [0, 1, 2, 3, 4, 5, 6, 7, 8, 9] (fun b => rfl) (by decide) rfl rfl (fun b => by kernel_rfl)⟩
      · cases e; exact ⟨ne_exit 0, goes_runM hU [.o, .o, .b (z_lssF hq0)] [0, 1, 2, 3, 4, 5, 6, 7, 8, 9] (fun b => rfl) (by decide) rfl rfl (fun b => by kernel_rfl)⟩) s r h
noncomputable def t0_barbicanlaw9_MapsArray_L0_0 (y0 : Int) (y1 : BitVec 32) (y2 : BitVec 8) (g0_0 : Nat) (g0_1 : Nat → (Xr71 × (Nat × (Nat → BitVec 8)))) (g0_2 : Int) (g0_3 : Nat) (g0_4 : Nat → Me42) (g1_0 : Nat → (Xr71 × (Nat × (Nat → BitVec 8)))) (g1_1 : Int) (g2_0 : Int) (s0_0 : Int) (ls : List L1) : List Value := List.append [.int .i64 (y0), .int .u32 (nn y1), .int .u8 (nn y2), undef, undef, undef, .bool false, .pointer (some ⟨(lget ls 6).n, 0, none⟩), .int .i64 (g1_1), .slice (some ⟨(lget ls 8).n, 0, none⟩) 4 4, .bool true, .int .i64 (0), .int .i64 (g2_0), .int .i64 (s0_0), undef, undef, .bool true, .bool false, .int .i64 (y0), .bool false, .bool false, .int .i64 (y0), .bool false, .bool false, .tuple #[.pointer (some ⟨(lget ls 6).n, 0, none⟩), .int .i64 (0)], .int .i64 (y0), .agg #[.int .i64 (1), .int .i64 (4), .int .i64 (2), .int .i64 (y0), .bool false, .int .i64 (0)], .pointer (some ⟨(lget ls 0).n, 0, none⟩), .tuple #[.pointer (some ⟨(lget ls 6).n, 0, none⟩), .int .i64 (0)], .pointer (some ⟨(lget ls 6).n, 0, none⟩), .int .i64 (0), .int .i64 (0), .bool false, .bool false, .pointer (some ⟨(lget ls 6).n, 0, none⟩), .bool false, .bool false, .int .u32 (nn y1), .int .u8 (nn (y1.setWidth 8)), .int .u32 (nn y1), .int .u32 (nn (y1 >>> 8)), .int .u8 (nn ((y1 >>> 8).setWidth 8)), .int .u32 (nn y1), .int .u32 (nn (y1 >>> 16)), .int .u8 (nn ((y1 >>> 16).setWidth 8)), .int .u32 (nn y1), .int .u32 (nn (y1 >>> 24)), .int .u8 (nn ((y1 >>> 24).setWidth 8)), .slice (some ⟨(lget ls 8).n, 0, none⟩) 4 4, .int .u32 (nn y1), .int .i64 (y0), .int .u32 (nn (BitVec.ofInt 32 y0)), .bool true, .pointer (some ⟨(lget ls 6).n, 0, none⟩), .slice (some ⟨(lget ls 8).n, 0, none⟩) 4 4, .int .u8 (nn y2), .slice (some ⟨(lget ls 9).n, 0, none⟩) 2 2, .int .i64 (g1_1), .tuple #[.int .i64 (0), .int .i64 (g2_0)], .pointer (some ⟨(lget ls 6).n, 0, none⟩), .slice (some ⟨(lget ls 8).n, 0, none⟩) 4 4, .tuple #[.int .i64 (0), .int .i64 (g2_0)], .int .i64 (0), .int .i64 (g2_0), .bool true, .int .i64 (g1_1), .bool ((g1_1 == 0)), .bool false, .bool false, .bool true, .bool false, .bool false, undef, undef, .bool false, .bool false, .bool false, .int .i64 (g2_0), .bool false, .bool false] (und 57)
def pre_barbicanlaw9_MapsArray_L0_0 (y0 : Int) (y1 : BitVec 32) (y2 : BitVec 8) (g0_0 : Nat) (g0_1 : Nat → (Xr71 × (Nat × (Nat → BitVec 8)))) (g0_2 : Int) (g0_3 : Nat) (g0_4 : Nat → Me42) (g1_0 : Nat → (Xr71 × (Nat × (Nat → BitVec 8)))) (g1_1 : Int) (g2_0 : Int) (s0_0 : Int) (ls : List L1) : List Obj := [.cells #[.map (some (lget ls 1).n), .int .i64 (g0_2)] 50, mapP 65 (lget ls 4) g0_0, unb, unb, arX 71 (lget ls 5) g0_0 c_Xr71 g1_0, byX 5 cu8 g0_0 g1_0, .cells #[.int .i64 (1), .int .i64 (4), .int .i64 (2), .int .i64 (y0), .bool false, .int .i64 (0), .pointer (some ⟨(lget ls 0).n, 0, none⟩), .map (some (lget ls 7).n), .slice none 0 0] 45, mapG kv_Me42 vv_Me42 g0_3 g0_4, .cells #[.int .u8 (nn (y1.setWidth 8)), .int .u8 (nn ((y1 >>> 8).setWidth 8)), .int .u8 (nn ((y1 >>> 16).setWidth 8)), .int .u8 (nn ((y1 >>> 24).setWidth 8))] 5, .cells #[.int .u8 (nn y2), .int .u8 (1)] 5]
theorem sp0_barbicanlaw9_MapsArray_L0_0_ok (s0_0 : Int) (c0_0 : BitVec 8) (c0_1 : BitVec 8) (c0_2 : BitVec 8) (c0_3 : BitVec 8) (h : lpO (st_barbicanlaw9_MapsArray_L0 y0 y1 y2 g0_0 g0_2 g0_3 g0_4 g1_0) (.c0 s0_0) = some (.e0 c0_0 c0_1 c0_2 c0_3)) : SpcG Try.prog M B0 S ⟨fun ls => .code (.loop bd_barbicanlaw9_MapsArray_L0) (t0_barbicanlaw9_MapsArray_L0_0 y0 y1 y2 g0_0 g0_1 g0_2 g0_3 g0_4 g1_0 g1_1 g2_0 s0_0 ls), pre_barbicanlaw9_MapsArray_L0_0 y0 y1 y2 g0_0 g0_1 g0_2 g0_3 g0_4 g1_0 g1_1 g2_0 s0_0, 1, (.exit 0), fun ls => vf_barbicanlaw9_MapsArray_L0 y0 y1 y2 g0_0 g0_1 g0_2 g0_3 g0_4 g1_0 g1_1 g2_0 (.e0 c0_0 c0_1 c0_2 c0_3) (ls.take 10 ++ ls.drop 10), fun ls => (Hf_barbicanlaw9_MapsArray_L0 y0 y1 y2 g0_0 g0_1 g0_2 g0_3 g0_4 g1_0 g1_1 g2_0 (.e0 c0_0 c0_1 c0_2 c0_3) (ls.take 10 ++ ls.drop 10)).take 10 ++ List.replicate 0 unb, fun ls => (Hf_barbicanlaw9_MapsArray_L0 y0 y1 y2 g0_0 g0_1 g0_2 g0_3 g0_4 g1_0 g1_1 g2_0 (.e0 c0_0 c0_1 c0_2 c0_3) (ls.take 10 ++ ls.drop 10)).drop 10⟩ :=
  spc_of_goesM hU 0 (k0 := 10) (go_barbicanlaw9_MapsArray_L0 hU y0 y1 y2 g0_0 g0_1 g0_2 g0_3 g0_4 g1_0 g1_1 g2_0 _ _ h) (t0_barbicanlaw9_MapsArray_L0_0 y0 y1 y2 g0_0 g0_1 g0_2 g0_3 g0_4 g1_0 g1_1 g2_0 s0_0) (pre_barbicanlaw9_MapsArray_L0_0 y0 y1 y2 g0_0 g0_1 g0_2 g0_3 g0_4 g1_0 g1_1 g2_0 s0_0) (fun _ => rfl) (fun ls h => by match ls, h with | [l0, l1, l2, l3, l4, l5, l6, l7, l8, l9], _ => exact ⟨by kernel_rfl, by kernel_rfl⟩) (fun ls h => by match ls, h with | [l0, l1, l2, l3, l4, l5, l6, l7, l8, l9], _ => rfl) (by decide) (by decide) (fun ls => rfl)
theorem sp1_barbicanlaw9_MapsArray_L0_0_ok (s0_0 : Int) (c1_0 : BitVec 8) (c1_1 : BitVec 8) (c1_2 : BitVec 8) (c1_3 : BitVec 8) (h : lpO (st_barbicanlaw9_MapsArray_L0 y0 y1 y2 g0_0 g0_2 g0_3 g0_4 g1_0) (.c0 s0_0) = some (.e1 c1_0 c1_1 c1_2 c1_3)) : SpcG Try.prog M B0 S ⟨fun ls => .code (.loop bd_barbicanlaw9_MapsArray_L0) (t0_barbicanlaw9_MapsArray_L0_0 y0 y1 y2 g0_0 g0_1 g0_2 g0_3 g0_4 g1_0 g1_1 g2_0 s0_0 ls), pre_barbicanlaw9_MapsArray_L0_0 y0 y1 y2 g0_0 g0_1 g0_2 g0_3 g0_4 g1_0 g1_1 g2_0 s0_0, 1, .ret, fun ls => vf_barbicanlaw9_MapsArray_L0 y0 y1 y2 g0_0 g0_1 g0_2 g0_3 g0_4 g1_0 g1_1 g2_0 (.e1 c1_0 c1_1 c1_2 c1_3) (ls.take 10 ++ ls.drop 10), fun ls => (Hf_barbicanlaw9_MapsArray_L0 y0 y1 y2 g0_0 g0_1 g0_2 g0_3 g0_4 g1_0 g1_1 g2_0 (.e1 c1_0 c1_1 c1_2 c1_3) (ls.take 10 ++ ls.drop 10)).take 10 ++ List.replicate 0 unb, fun ls => (Hf_barbicanlaw9_MapsArray_L0 y0 y1 y2 g0_0 g0_1 g0_2 g0_3 g0_4 g1_0 g1_1 g2_0 (.e1 c1_0 c1_1 c1_2 c1_3) (ls.take 10 ++ ls.drop 10)).drop 10⟩ :=
  spc_of_goesM hU 0 (k0 := 10) (go_barbicanlaw9_MapsArray_L0 hU y0 y1 y2 g0_0 g0_1 g0_2 g0_3 g0_4 g1_0 g1_1 g2_0 _ _ h) (t0_barbicanlaw9_MapsArray_L0_0 y0 y1 y2 g0_0 g0_1 g0_2 g0_3 g0_4 g1_0 g1_1 g2_0 s0_0) (pre_barbicanlaw9_MapsArray_L0_0 y0 y1 y2 g0_0 g0_1 g0_2 g0_3 g0_4 g1_0 g1_1 g2_0 s0_0) (fun _ => rfl) (fun ls h => by match ls, h with | [l0, l1, l2, l3, l4, l5, l6, l7, l8, l9], _ => exact ⟨by kernel_rfl, by kernel_rfl⟩) (fun ls h => by match ls, h with | [l0, l1, l2, l3, l4, l5, l6, l7, l8, l9], _ => rfl) (by decide) (by decide) (fun ls => rfl)
inductive Sh_barbicanlaw9_MapsArray_L0v1 where
  | c0 (s0_0 : Int)
inductive Ex_barbicanlaw9_MapsArray_L0v1 where
  | e0 (c0_0 : BitVec 8) (c0_1 : BitVec 8) (c0_2 : BitVec 8) (c0_3 : BitVec 8)
  | e1 (c1_0 : BitVec 8) (c1_1 : BitVec 8) (c1_2 : BitVec 8) (c1_3 : BitVec 8)
noncomputable def st_barbicanlaw9_MapsArray_L0v1 (y0 : Int) (y1 : BitVec 32) (y2 : BitVec 8) (g0_0 : Nat) (g0_3 : Nat) (g1_0 : Nat → (Xr71 × (Nat × (Nat → BitVec 8)))) (g1_1 : Int) (g1_2 : Nat → Me42) : Sh_barbicanlaw9_MapsArray_L0v1 → Option (Sh_barbicanlaw9_MapsArray_L0v1 ⊕ Ex_barbicanlaw9_MapsArray_L0v1)
  | .c0 s0_0 =>
    bif decide (s0_0 < y0) then
      ((m_maps_Map_Value_v1 4 (fun k => if k = 0 then (BitVec.ofInt 8 s0_0) else if k = 1 then 0#8 else if k = 2 then 0#8 else 0#8) y0 g1_1 (g0_0 + 1) g1_0 (g0_3 + 1) g1_2).bind fun gb0 => match gb0 with
      | .e0 gb0_0 gb0_1 => (bif (gb0_0 : Int) == 2 then
          (bif (BitVec.ofInt 32 s0_0) == y1 then
            (bif inR 0 gb0_0 then
              (bif (gb0_1 0) == y2 then
                (bif inR 1 gb0_0 then
                  (bif (gb0_1 1) == 1#8 then
                    (some (.inl (.c0 (IntKind.i64.wrap (s0_0 + 1)))))
                  else (some (.inr (.e1 (y1.setWidth 8) ((y1 >>> 8).setWidth 8) ((y1 >>> 16).setWidth 8) ((y1 >>> 24).setWidth 8)))))
                else (none))
              else (some (.inr (.e1 (y1.setWidth 8) ((y1 >>> 8).setWidth 8) ((y1 >>> 16).setWidth 8) ((y1 >>> 24).setWidth 8)))))
            else (none))
          else (bif inR 0 gb0_0 then
            (bif (gb0_1 0) == 0#8 then
              (bif inR 1 gb0_0 then
                (bif (gb0_1 1) == 0#8 then
                  (some (.inl (.c0 (IntKind.i64.wrap (s0_0 + 1)))))
                else (some (.inr (.e1 (y1.setWidth 8) ((y1 >>> 8).setWidth 8) ((y1 >>> 16).setWidth 8) ((y1 >>> 24).setWidth 8)))))
              else (none))
            else (some (.inr (.e1 (y1.setWidth 8) ((y1 >>> 8).setWidth 8) ((y1 >>> 16).setWidth 8) ((y1 >>> 24).setWidth 8)))))
          else (none)))
        else (some (.inr (.e1 (y1.setWidth 8) ((y1 >>> 8).setWidth 8) ((y1 >>> 16).setWidth 8) ((y1 >>> 24).setWidth 8)))))
      | .e1 gb0_0 => (bif gb0_0 == 0 then
          (some (.inr (.e1 (y1.setWidth 8) ((y1 >>> 8).setWidth 8) ((y1 >>> 16).setWidth 8) ((y1 >>> 24).setWidth 8))))
        else (some (.inr (.e1 (y1.setWidth 8) ((y1 >>> 8).setWidth 8) ((y1 >>> 16).setWidth 8) ((y1 >>> 24).setWidth 8))))))
    else (some (.inr (.e0 (y1.setWidth 8) ((y1 >>> 8).setWidth 8) ((y1 >>> 16).setWidth 8) ((y1 >>> 24).setWidth 8))))
noncomputable def bd_barbicanlaw9_MapsArray_L0v1 : Code := codeOf Try.f3 [1, 1, 1, 1, 1, 1, 1, 1, 1, 1, 0, 1, 0, 0]
def fl_barbicanlaw9_MapsArray_L0v1 (y0 : Int) (y1 : BitVec 32) (y2 : BitVec 8) (g0_0 : Nat) (g0_1 : Nat → (Xr71 × (Nat × (Nat → BitVec 8)))) (g0_2 : Int) (g0_3 : Nat) (g0_4 : Nat → Me42) (g1_0 : Nat → (Xr71 × (Nat × (Nat → BitVec 8)))) (g1_1 : Int) (g1_2 : Nat → Me42) (g2_0 : Int) : Sh_barbicanlaw9_MapsArray_L0v1 → List L1 → List Value
  | .c0 s0_0, ls => [.int .i64 (y0), .int .u32 (nn y1), .int .u8 (nn y2), .bool false, .pointer (some ⟨(lget ls 6).n, 0, none⟩), .int .i64 (s0_0)]
def mf_barbicanlaw9_MapsArray_L0v1 : Sh_barbicanlaw9_MapsArray_L0v1 → List (Nat × Nat)
  | .c0 _ => [(3, 3), (2, 5), (1, 123)]
noncomputable def fr_barbicanlaw9_MapsArray_L0v1 (y0 : Int) (y1 : BitVec 32) (y2 : BitVec 8) (g0_0 : Nat) (g0_1 : Nat → (Xr71 × (Nat × (Nat → BitVec 8)))) (g0_2 : Int) (g0_3 : Nat) (g0_4 : Nat → Me42) (g1_0 : Nat → (Xr71 × (Nat × (Nat → BitVec 8)))) (g1_1 : Int) (g1_2 : Nat → Me42) (g2_0 : Int) (s : Sh_barbicanlaw9_MapsArray_L0v1) : List L1 → List Value := mrgF (mf_barbicanlaw9_MapsArray_L0v1 s) (fl_barbicanlaw9_MapsArray_L0v1 y0 y1 y2 g0_0 g0_1 g0_2 g0_3 g0_4 g1_0 g1_1 g1_2 g2_0 s) 12
def Hs_barbicanlaw9_MapsArray_L0v1 (y0 : Int) (y1 : BitVec 32) (y2 : BitVec 8) (g0_0 : Nat) (g0_1 : Nat → (Xr71 × (Nat × (Nat → BitVec 8)))) (g0_2 : Int) (g0_3 : Nat) (g0_4 : Nat → Me42) (g1_0 : Nat → (Xr71 × (Nat × (Nat → BitVec 8)))) (g1_1 : Int) (g1_2 : Nat → Me42) (g2_0 : Int) : Sh_barbicanlaw9_MapsArray_L0v1 → List L1 → List Obj
  | .c0 s0_0, ls => [.cells #[.map (some (lget ls 1).n), .int .i64 (g1_1)] 50, mapP 65 (lget ls 10) (g0_0 + 1), unb, unb, unb, unb, .cells #[.int .i64 (1), .int .i64 (4), .int .i64 (2), .int .i64 (y0), .bool false, .int .i64 (0), .pointer (some ⟨(lget ls 0).n, 0, none⟩), .map (some (lget ls 7).n), .slice none 0 0] 45, mapG kv_Me42 vv_Me42 (g0_3 + 1) g1_2, .cells #[.int .u8 (nn (y1.setWidth 8)), .int .u8 (nn ((y1 >>> 8).setWidth 8)), .int .u8 (nn ((y1 >>> 16).setWidth 8)), .int .u8 (nn ((y1 >>> 24).setWidth 8))] 5, .cells #[.int .u8 (nn y2), .int .u8 (1)] 5, arX 71 (lget ls 11) (g0_0 + 1) c_Xr71 g1_0, byX 5 cu8 (g0_0 + 1) g1_0, unb]
def vl_barbicanlaw9_MapsArray_L0v1 (y0 : Int) (y1 : BitVec 32) (y2 : BitVec 8) (g0_0 : Nat) (g0_1 : Nat → (Xr71 × (Nat × (Nat → BitVec 8)))) (g0_2 : Int) (g0_3 : Nat) (g0_4 : Nat → Me42) (g1_0 : Nat → (Xr71 × (Nat × (Nat → BitVec 8)))) (g1_1 : Int) (g1_2 : Nat → Me42) (g2_0 : Int) : Ex_barbicanlaw9_MapsArray_L0v1 → List L1 → List Value
  | .e0 c0_0 c0_1 c0_2 c0_3, ls => [.int .i64 (y0), .int .u32 (nn y1), .int .u8 (nn y2), .bool false, .pointer (some ⟨(lget ls 6).n, 0, none⟩)]
  | .e1 c1_0 c1_1 c1_2 c1_3, ls => [.int .i64 (y0), .int .u32 (nn y1), .int .u8 (nn y2), .bool false, .pointer (some ⟨(lget ls 6).n, 0, none⟩)]
def mk_barbicanlaw9_MapsArray_L0v1 : Ex_barbicanlaw9_MapsArray_L0v1 → List (Nat × Nat)
  | .e0 _ _ _ _ => [(3, 3), (2, 129)]
  | .e1 _ _ _ _ => [(3, 3), (2, 129)]
noncomputable def vf_barbicanlaw9_MapsArray_L0v1 (y0 : Int) (y1 : BitVec 32) (y2 : BitVec 8) (g0_0 : Nat) (g0_1 : Nat → (Xr71 × (Nat × (Nat → BitVec 8)))) (g0_2 : Int) (g0_3 : Nat) (g0_4 : Nat → Me42) (g1_0 : Nat → (Xr71 × (Nat × (Nat → BitVec 8)))) (g1_1 : Int) (g1_2 : Nat → Me42) (g2_0 : Int) (r : Ex_barbicanlaw9_MapsArray_L0v1) : List L1 → List Value := mrgF (mk_barbicanlaw9_MapsArray_L0v1 r) (vl_barbicanlaw9_MapsArray_L0v1 y0 y1 y2 g0_0 g0_1 g0_2 g0_3 g0_4 g1_0 g1_1 g1_2 g2_0 r) 12
def Hf_barbicanlaw9_MapsArray_L0v1 (y0 : Int) (y1 : BitVec 32) (y2 : BitVec 8) (g0_0 : Nat) (g0_1 : Nat → (Xr71 × (Nat × (Nat → BitVec 8)))) (g0_2 : Int) (g0_3 : Nat) (g0_4 : Nat → Me42) (g1_0 : Nat → (Xr71 × (Nat × (Nat → BitVec 8)))) (g1_1 : Int) (g1_2 : Nat → Me42) (g2_0 : Int) : Ex_barbicanlaw9_MapsArray_L0v1 → List L1 → List Obj
  | .e0 c0_0 c0_1 c0_2 c0_3, ls => [.cells #[.map (some (lget ls 1).n), .int .i64 (g1_1)] 50, mapP 65 (lget ls 10) (g0_0 + 1), unb, unb, unb, unb, .cells #[.int .i64 (1), .int .i64 (4), .int .i64 (2), .int .i64 (y0), .bool false, .int .i64 (0), .pointer (some ⟨(lget ls 0).n, 0, none⟩), .map (some (lget ls 7).n), .slice none 0 0] 45, mapG kv_Me42 vv_Me42 (g0_3 + 1) g1_2, .cells #[.int .u8 (nn c0_0), .int .u8 (nn c0_1), .int .u8 (nn c0_2), .int .u8 (nn c0_3)] 5, .cells #[.int .u8 (nn y2), .int .u8 (1)] 5, arX 71 (lget ls 11) (g0_0 + 1) c_Xr71 g1_0, byX 5 cu8 (g0_0 + 1) g1_0, unb]
  | .e1 c1_0 c1_1 c1_2 c1_3, ls => [.cells #[.map (some (lget ls 1).n), .int .i64 (g1_1)] 50, mapP 65 (lget ls 10) (g0_0 + 1), unb, unb, unb, unb, .cells #[.int .i64 (1), .int .i64 (4), .int .i64 (2), .int .i64 (y0), .bool false, .int .i64 (0), .pointer (some ⟨(lget ls 0).n, 0, none⟩), .map (some (lget ls 7).n), .slice none 0 0] 45, mapG kv_Me42 vv_Me42 (g0_3 + 1) g1_2, .cells #[.int .u8 (nn c1_0), .int .u8 (nn c1_1), .int .u8 (nn c1_2), .int .u8 (nn c1_3)] 5, .cells #[.int .u8 (nn y2), .int .u8 (1)] 5, arX 71 (lget ls 11) (g0_0 + 1) c_Xr71 g1_0, byX 5 cu8 (g0_0 + 1) g1_0, unb]
def ex_barbicanlaw9_MapsArray_L0v1 : Ex_barbicanlaw9_MapsArray_L0v1 → Ex
  | .e0 _ _ _ _ => (.exit 0)
  | .e1 _ _ _ _ => .ret
end
section
variable {M : Nat → Prop} {B0 : Nat} {S : World → Prop} (hU : Up M B0 S) (y0 : Int) (y1 : BitVec 32) (y2 : BitVec 8) (g0_0 : Nat) (g0_1 : Nat → (Xr71 × (Nat × (Nat → BitVec 8)))) (g0_2 : Int) (g0_3 : Nat) (g0_4 : Nat → Me42) (g1_0 : Nat → (Xr71 × (Nat × (Nat → BitVec 8)))) (g1_1 : Int) (g1_2 : Nat → Me42) (g2_0 : Int)
include hU y0 y1 y2 g0_0 g0_1 g0_2 g0_3 g0_4 g1_0 g1_1 g1_2 g2_0
theorem go_barbicanlaw9_MapsArray_L0v1 (s : Sh_barbicanlaw9_MapsArray_L0v1) (r : Ex_barbicanlaw9_MapsArray_L0v1) (h : lpO (st_barbicanlaw9_MapsArray_L0v1 y0 y1 y2 g0_0 g0_3 g1_0 g1_1 g1_2) s = some r) : GoesG Try.prog M B0 S (.loop bd_barbicanlaw9_MapsArray_L0v1) 13 (fr_barbicanlaw9_MapsArray_L0v1 y0 y1 y2 g0_0 g0_1 g0_2 g0_3 g0_4 g1_0 g1_1 g1_2 g2_0 s) (Hs_barbicanlaw9_MapsArray_L0v1 y0 y1 y2 g0_0 g0_1 g0_2 g0_3 g0_4 g1_0 g1_1 g1_2 g2_0 s) (ex_barbicanlaw9_MapsArray_L0v1 r) 12 (vf_barbicanlaw9_MapsArray_L0v1 y0 y1 y2 g0_0 g0_1 g0_2 g0_3 g0_4 g1_0 g1_1 g1_2 g2_0 r) (Hf_barbicanlaw9_MapsArray_L0v1 y0 y1 y2 g0_0 g0_1 g0_2 g0_3 g0_4 g1_0 g1_1 g1_2 g2_0 r) 13 :=
  goes_lpO (fun s q e => by
    cases s with
    | c0 s0_0 =>
      unfold st_barbicanlaw9_MapsArray_L0v1 at e
      dsimp only at e
      replace e := cond_eq_or e
      rcases e with ⟨hq0, e⟩ | ⟨hq0, e⟩
      · replace e := bindO_eq e
        obtain ⟨gb0, e_gb0, e⟩ := e
        rcases gb0 with ⟨gb0_0, gb0_1⟩ | ⟨gb0_0⟩
        · try dsimp only at e
          replace e := cond_eq_or e
          rcases e with ⟨hq1, e⟩ | ⟨hq1, e⟩
          · replace e := cond_eq_or e
            rcases e with ⟨hq2, e⟩ | ⟨hq2, e⟩
            · replace e := cond_eq_or e
              rcases e with ⟨hq3, e⟩ | ⟨hq3, e⟩
              · replace e := cond_eq_or e
                rcases e with ⟨hq4, e⟩ | ⟨hq4, e⟩
                · replace e := cond_eq_or e
                  rcases e with ⟨hq5, e⟩ | ⟨hq5, e⟩
                  · replace e := cond_eq_or e
                    rcases e with ⟨hq6, e⟩ | ⟨hq6, e⟩
                    · cases e; exact goes_runM hU [.o, .o, .b (z_lssT hq0), .o, .o, .v .u8 (u8_of_z s0_0), .o, .xg (SpcG.own hU (f := cu8) cu8_len 4 (fun k => if k = 0 then (BitVec.ofInt 8 s0_0) else if k = 1 then 0#8 else if k = 2 then 0#8 else 0#8) 5 (fun _ => []) (fun _ => 0) _ 1 .normal (by intros; rfl) (by intros; rfl) (by intros; rfl) (fun M0 B0 S0 x0 u0 v0 z0 hU0 hs0 hr0 => ok0_maps_Map_Value_v1 hU0 x0 u0 v0 4 z0 (fun k => if k = 0 then (BitVec.ofInt 8 s0_0) else if k = 1 then 0#8 else if k = 2 then 0#8 else 0#8) hr0 y0 g1_1 (g0_0 + 1) g1_0 (g0_3 + 1) g1_2 gb0_0 gb0_1 e_gb0)) [13, 6, 0, 1, 10, 11, 7], .o, .o, .o, .o, .o, .o, .o, .o, .o, .o, .b (z_neqT hq1), .o, .o, .o, .v .u32 (u32_of_z s0_0), .o, .t (u_eq (BitVec.ofInt 32 s0_0) y1) hq2, .o, .o, .q (ixM_ok (kd := .i64) (T := 33) (x := 0) (N := gb0_0) (sz := 1) rfl (fun w => by kernel_rfl) hq3), .l (accG (i := 14) (f := cu8) (A := gb0_1) (k := 0) 0 [.int .u8 (nn (gb0_1 0))] cu8_len (inR_nat hq3) rfl), .o, .tn (u_ne (gb0_1 0) y2) hq4, .o, .o, .q (ixM_ok (kd := .i64) (T := 33) (x := 1) (N := gb0_0) (sz := 1) rfl (fun w => by kernel_rfl) hq5), .l (accG (i := 14) (f := cu8) (A := gb0_1) (k := 1) 0 [.int .u8 (nn (gb0_1 1))] cu8_len (inR_nat hq5) rfl), .tn (u_ne (gb0_1 1) (1#8)) hq6, .o, .o, .o, .o, .o, .v .u32 (u32_of_z s0_0), .o, .tn (u_ne (BitVec.ofInt 32 s0_0) y1) hq2, .o, .o, .o, .o, .o, .o] [0, 1, 2, 3, 4, 5, 6, 7, 8, 9, 10, 11] (fun b => rfl) (by decide) rfl rfl (fun b => by kernel_rfl)
                    · cases e; exact ⟨ne_ret, goes_runM hU [.o, .o, .b (z_lssT hq0), .o, .o, .v .u8 (u8_of_z s0_0), .o, .xg (SpcG.own hU (f := cu8) cu8_len 4 (fun k => if k = 0 then (BitVec.ofInt 8 s0_0) else if k = 1 then 0#8 else if k = 2 then 0#8 else 0#8) 5 (fun _ => []) (fun _ => 0) _ 1 .normal (by intros; rfl) (by intros; rfl) (by intros; rfl) (fun M0 B0 S0 x0 u0 v0 z0 hU0 hs0 hr0 => ok0_maps_Map_Value_v1 hU0 x0 u0 v0 4 z0 (fun k => if k = 0 then (BitVec.ofInt 8 s0_0) else if k = 1 then 0#8 else if k = 2 then 0#8 else 0#8) hr0 y0 g1_1 (g0_0 + 1) g1_0 (g0_3 + 1) g1_2 gb0_0 gb0_1 e_gb0)) [13, 6, 0, 1, 10, 11, 7], .o, .o, .o, .o, .o, .o, .o, .o, .o, .o, .b (z_neqT hq1), .o, .o, .o, .v .u32 (u32_of_z s0_0), .o, .t (u_eq (BitVec.ofInt 32 s0_0) y1) hq2, .o, .o, .q (ixM_ok (kd := .i64) (T := 33) (x := 0) (N := gb0_0) (sz := 1) rfl (fun w => by kernel_rfl) hq3), .l (accG (i := 14) (f := cu8) (A := gb0_1) (k := 0) 0 [.int .u8 (nn (gb0_1 0))] cu8_len (inR_nat hq3) rfl), .o, .tn (u_ne (gb0_1 0) y2) hq4, .o, .o, .q (ixM_ok (kd := .i64) (T := 33) (x := 1) (N := gb0_0) (sz := 1) rfl (fun w => by kernel_rfl) hq5), .l (accG (i := 14) (f := cu8) (A := gb0_1) (k := 1) 0 [.int .u8 (nn (gb0_1 1))] cu8_len (inR_nat hq5) rfl), .tn (u_ne (gb0_1 1) (1#8)) hq6, .o, .o, .o, .o, .o, .o] [0, 1, 2, 3, 4, 5, 6, 7, 8, 9, 10, 11] (fun b => rfl) (by decide) rfl rfl (fun b => by kernel_rfl)⟩
                  · exact none_some e
                · cases e; exact ⟨ne_ret, goes_runM hU [.o, .o, .b (z_lssT hq0), .o, .o, .v .u8 (u8_of_z s0_0), .o, .xg (SpcG.own hU (f := cu8) cu8_len 4 (fun k => if k = 0 then (BitVec.ofInt 8 s0_0) else if k = 1 then 0#8 else if k = 2 then 0#8 else 0#8) 5 (fun _ => []) (fun _ => 0) _ 1 .normal (by intros; rfl) (by intros; rfl) (by intros; rfl) (fun M0 B0 S0 x0 u0 v0 z0 hU0 hs0 hr0 => ok0_maps_Map_Value_v1 hU0 x0 u0 v0 4 z0 (fun k => if k = 0 then (BitVec.ofInt 8 s0_0) else if k = 1 then 0#8 else if k = 2 then 0#8 else 0#8) hr0 y0 g1_1 (g0_0 + 1) g1_0 (g0_3 + 1) g1_2 gb0_0 gb0_1 e_gb0)) [13, 6, 0, 1, 10, 11, 7], .o, .o, .o, .o, .o, .o, .o, .o, .o, .o, .b (z_neqT hq1), .o, .o, .o, .v .u32 (u32_of_z s0_0), .o, .t (u_eq (BitVec.ofInt 32 s0_0) y1) hq2, .o, .o, .q (ixM_ok (kd := .i64) (T := 33) (x := 0) (N := gb0_0) (sz := 1) rfl (fun w => by kernel_rfl) hq3), .l (accG (i := 14) (f := cu8) (A := gb0_1) (k := 0) 0 [.int .u8 (nn (gb0_1 0))] cu8_len (inR_nat hq3) rfl), .o, .tn (u_ne (gb0_1 0) y2) hq4, .o, .o, .o, .o, .o, .o, .o] [0, 1, 2, 3, 4, 5, 6, 7, 8, 9, 10, 11] (fun b => rfl) (by decide) rfl rfl (fun b => by kernel_rfl)⟩
              · exact none_some e
            · replace e := cond_eq_or e
              rcases e with ⟨hq3, e⟩ | ⟨hq3, e⟩
              · replace e := cond_eq_or e
                rcases e with ⟨hq4, e⟩ | ⟨hq4, e⟩
                · replace e := cond_eq_or e
                  rcases e with ⟨hq5, e⟩ | ⟨hq5, e⟩
                  · replace e := cond_eq_or e
                    rcases e with ⟨hq6, e⟩ | ⟨hq6, e⟩
                    · cases e; exact goes_runM hU [.o, .o, .b (z_lssT hq0), .o, .o, .v .u8 (u8_of_z s0_0), .o, .xg (SpcG.own hU (f := cu8) cu8_len 4 (fun k => if k = 0 then (BitVec.ofInt 8 s0_0) else if k = 1 then 0#8 else if k = 2 then 0#8 else 0#8) 5 (fun _ => []) (fun _ => 0) _ 1 .normal (by intros; rfl) (by intros; rfl) (by intros; rfl) (fun M0 B0 S0 x0 u0 v0 z0 hU0 hs0 hr0 => ok0_maps_Map_Value_v1 hU0 x0 u0 v0 4 z0 (fun k => if k = 0 then (BitVec.ofInt 8 s0_0) else if k = 1 then 0#8 else if k = 2 then 0#8 else 0#8) hr0 y0 g1_1 (g0_0 + 1) g1_0 (g0_3 + 1) g1_2 gb0_0 gb0_1 e_gb0)) [13, 6, 0, 1, 10, 11, 7], .o, .o, .o, .o, .o, .o, .o, .o, .o, .o, .b (z_neqT hq1), .o, .o, .o, .v .u32 (u32_of_z s0_0), .o, .t (u_eq (BitVec.ofInt 32 s0_0) y1) hq2, .o, .o, .o, .o, .o, .v .u32 (u32_of_z s0_0), .o, .tn (u_ne (BitVec.ofInt 32 s0_0) y1) hq2, .o, .o, .q (ixM_ok (kd := .i64) (T := 33) (x := 0) (N := gb0_0) (sz := 1) rfl (fun w => by kernel_rfl) hq3), .l (accG (i := 14) (f := cu8) (A := gb0_1) (k := 0) 0 [.int .u8 (nn (gb0_1 0))] cu8_len (inR_nat hq3) rfl), .tn (u_ne (gb0_1 0) (0#8)) hq4, .o, .o, .q (ixM_ok (kd := .i64) (T := 33) (x := 1) (N := gb0_0) (sz := 1) rfl (fun w => by kernel_rfl) hq5), .l (accG (i := 14) (f := cu8) (A := gb0_1) (k := 1) 0 [.int .u8 (nn (gb0_1 1))] cu8_len (inR_nat hq5) rfl), .tn (u_ne (gb0_1 1) (0#8)) hq6, .o, .o, .o, .o, .o, .o] [0, 1, 2, 3, 4, 5, 6, 7, 8, 9, 10, 11] (fun b => rfl) (by decide) rfl rfl (fun b => by kernel_rfl)
                    · cases e; exact ⟨ne_ret, goes_runM hU [.o, .o, .b (z_lssT hq0), .o, .o, .v .u8 (u8_of_z s0_0), .o, .xg (SpcG.own hU (f := cu8) cu8_len 4 (fun k => if k = 0 then (BitVec.ofInt 8 s0_0) else if k = 1 then 0#8 else if k = 2 then 0#8 else 0#8) 5 (fun _ => []) (fun _ => 0) _ 1 .normal (by intros; rfl) (by intros; rfl) (by intros; rfl) (fun M0 B0 S0 x0 u0 v0 z0 hU0 hs0 hr0 => ok0_maps_Map_Value_v1 hU0 x0 u0 v0 4 z0 (fun k => if k = 0 then (BitVec.ofInt 8 s0_0) else if k = 1 then 0#8 else if k = 2 then 0#8 else 0#8) hr0 y0 g1_1 (g0_0 + 1) g1_0 (g0_3 + 1) g1_2 gb0_0 gb0_1 e_gb0)) [13, 6, 0, 1, 10, 11, 7], .o, .o, .o, .o, .o, .o, .o, .o, .o, .o, .b (z_neqT hq1), .o, .o, .o, .v .u32 (u32_of_z s0_0), .o, .t (u_eq (BitVec.ofInt 32 s0_0) y1) hq2, .o, .o, .o, .o, .o, .v .u32 (u32_of_z s0_0), .o, .tn (u_ne (BitVec.ofInt 32 s0_0) y1) hq2, .o, .o, .q (ixM_ok (kd := .i64) (T := 33) (x := 0) (N := gb0_0) (sz := 1) rfl (fun w => by kernel_rfl) hq3), .l (accG (i := 14) (f := cu8) (A := gb0_1) (k := 0) 0 [.int .u8 (nn (gb0_1 0))] cu8_len (inR_nat hq3) rfl), .tn (u_ne (gb0_1 0) (0#8)) hq4, .o, .o, .q (ixM_ok (kd := .i64) (T := 33) (x := 1) (N := gb0_0) (sz := 1) rfl (fun w => by kernel_rfl) hq5), .l (accG (i := 14) (f := cu8) (A := gb0_1) (k := 1) 0 [.int .u8 (nn (gb0_1 1))] cu8_len (inR_nat hq5) rfl), .tn (u_ne (gb0_1 1) (0#8)) hq6, .o, .o, .o, .o] [0, 1, 2, 3, 4, 5, 6, 7, 8, 9, 10, 11] (fun b => rfl) (by decide) rfl rfl (fun b => by kernel_rfl)⟩
                  · exact none_some e
                · cases e; exact ⟨ne_ret, goes_runM hU [.o, .o, .b (z_lssT hq0), .o, .o, .v .u8 (u8_of_z s0_0), .o, .xg (SpcG.own hU (f := cu8) cu8_len 4 (fun k => if k = 0 then (BitVec.ofInt 8 s0_0) else if k = 1 then 0#8 else if k = 2 then 0#8 else 0#8) 5 (fun _ => []) (fun _ => 0) _ 1 .normal (by intros; rfl) (by intros; rfl) (by intros; rfl) (fun M0 B0 S0 x0 u0 v0 z0 hU0 hs0 hr0 => ok0_maps_Map_Value_v1 hU0 x0 u0 v0 4 z0 (fun k => if k = 0 then (BitVec.ofInt 8 s0_0) else if k = 1 then 0#8 else if k = 2 then 0#8 else 0#8) hr0 y0 g1_1 (g0_0 + 1) g1_0 (g0_3 + 1) g1_2 gb0_0 gb0_1 e_gb0)) [13, 6, 0, 1, 10, 11, 7], .o, .o, .o, .o, .o, .o, .o, .o, .o, .o, .b (z_neqT hq1), .o, .o, .o, .v .u32 (u32_of_z s0_0), .o, .t (u_eq (BitVec.ofInt 32 s0_0) y1) hq2, .o, .o, .o, .o, .o, .v .u32 (u32_of_z s0_0), .o, .tn (u_ne (BitVec.ofInt 32 s0_0) y1) hq2, .o, .o, .q (ixM_ok (kd := .i64) (T := 33) (x := 0) (N := gb0_0) (sz := 1) rfl (fun w => by kernel_rfl) hq3), .l (accG (i := 14) (f := cu8) (A := gb0_1) (k := 0) 0 [.int .u8 (nn (gb0_1 0))] cu8_len (inR_nat hq3) rfl), .tn (u_ne (gb0_1 0) (0#8)) hq4, .o, .o, .o, .o, .o] [0, 1, 2, 3, 4, 5, 6, 7, 8, 9, 10, 11] (fun b => rfl) (by decide) rfl rfl (fun b => by kernel_rfl)⟩
              · exact none_some e
          · cases e; exact ⟨ne_ret, goes_runM hU [.o, .o, .b (z_lssT hq0), .o, .o, .v .u8 (u8_of_z s0_0), .o, .xg (SpcG.own hU (f := cu8) cu8_len 4 (fun k => if k = 0 then (BitVec.ofInt 8 s0_0) else if k = 1 then 0#8 else if k = 2 then 0#8 else 0#8) 5 (fun _ => []) (fun _ => 0) _ 1 .normal (by intros; rfl) (by intros; rfl) (by intros; rfl) (fun M0 B0 S0 x0 u0 v0 z0 hU0 hs0 hr0 => ok0_maps_Map_Value_v1 hU0 x0 u0 v0 4 z0 (fun k => if k = 0 then (BitVec.ofInt 8 s0_0) else if k = 1 then 0#8 else if k = 2 then 0#8 else 0#8) hr0 y0 g1_1 (g0_0 + 1) g1_0 (g0_3 + 1) g1_2 gb0_0 gb0_1 e_gb0)) [13, 6, 0, 1, 10, 11, 7], .o, .o, .o, .o, .o, .o, .o, .o, .o, .o, .b (z_neqF hq1), .o, .o, .o, .o, .o, .o] [0, 1, 2, 3, 4, 5, 6, 7, 8, 9, 10, 11] (fun b => rfl) (by decide) rfl rfl (fun b => by kernel_rfl)⟩
        · try dsimp only at e
          replace e := cond_eq_or e
          rcases e with ⟨hq1, e⟩ | ⟨hq1, e⟩
          · cases e; exact ⟨ne_ret, goes_runM hU [.o, .o, .b (z_lssT hq0), .o, .o, .v .u8 (u8_of_z s0_0), .o, .xg (SpcG.own hU (f := cu8) cu8_len 4 (fun k => if k = 0 then (BitVec.ofInt 8 s0_0) else if k = 1 then 0#8 else if k = 2 then 0#8 else 0#8) 5 (fun _ => []) (fun _ => 0) _ 0 .normal (by intros; rfl) (by intros; rfl) (by intros; rfl) (fun M0 B0 S0 x0 u0 v0 z0 hU0 hs0 hr0 => ok1_maps_Map_Value_v1 hU0 x0 u0 v0 4 z0 (fun k => if k = 0 then (BitVec.ofInt 8 s0_0) else if k = 1 then 0#8 else if k = 2 then 0#8 else 0#8) hr0 y0 g1_1 (g0_0 + 1) g1_0 (g0_3 + 1) g1_2 gb0_0 e_gb0)) [13, 6, 0, 1, 10, 11, 7], .o, .o, .o, .o, .o, .o, .b (z_neqT hq1), .o, .o, .o, .o, .o, .o, .o, .o, .o, .o] [0, 1, 2, 3, 4, 5, 6, 7, 8, 9, 10, 11] (fun b => rfl) (by decide) rfl rfl (fun b => by kernel_rfl)⟩
          · cases e; exact ⟨ne_ret, goes_runM hU [.o, .o, .b (z_lssT hq0), .o, .o, .v .u8 (u8_of_z s0_0), .o, .xg (SpcG.own hU (f := cu8) cu8_len 4 (fun k => if k = 0 then (BitVec.ofInt 8 s0_0) else if k = 1 then 0#8 else if k = 2 then 0#8 else 0#8) 5 (fun _ => []) (fun _ => 0) _ 0 .normal (by intros; rfl) (by intros; rfl) (by intros; rfl) (fun M0 B0 S0 x0 u0 v0 z0 hU0 hs0 hr0 => ok1_maps_Map_Value_v1 hU0 x0 u0 v0 4 z0 (fun k => if k = 0 then (BitVec.ofInt 8 s0_0) else if k = 1 then 0#8 else if k = 2 then 0#8 else 0#8) hr0 y0 g1_1 (g0_0 + 1) g1_0 (g0_3 + 1) g1_2 gb0_0 e_gb0)) [13, 6, 0, 1, 10, 11, 7], .o, .o, .o, .o, .o, .o, .b (z_neqF hq1), .o, .o, .o, .o, .o, .o, .o] [0, 1, 2, 3, 4, 5, 6, 7, 8, 9, 10, 11] (fun b => rfl) (by decide) rfl rfl (fun b => by kernel_rfl)⟩
      · cases e; exact ⟨ne_exit 0, goes_runM hU [.o, .o, .b (z_lssF hq0)] [0, 1, 2, 3, 4, 5, 6, 7, 8, 9, 10, 11] (fun b => rfl) (by decide) rfl rfl (fun b => by kernel_rfl)⟩) s r h
noncomputable def t0_barbicanlaw9_MapsArray_L0v1_0 (y0 : Int) (y1 : BitVec 32) (y2 : BitVec 8) (g0_0 : Nat) (g0_1 : Nat → (Xr71 × (Nat × (Nat → BitVec 8)))) (g0_2 : Int) (g0_3 : Nat) (g0_4 : Nat → Me42) (g1_0 : Nat → (Xr71 × (Nat × (Nat → BitVec 8)))) (g1_1 : Int) (g1_2 : Nat → Me42) (g2_0 : Int) (s0_0 : Int) (ls : List L1) : List Value := List.append [.int .i64 (y0), .int .u32 (nn y1), .int .u8 (nn y2), undef, undef, undef, .bool false, .pointer (some ⟨(lget ls 6).n, 0, none⟩), .int .i64 (0), .slice (some ⟨(lget ls 8).n, 0, none⟩) 4 4, .bool true, .int .i64 (0), .int .i64 (g2_0), .int .i64 (s0_0), undef, undef, .bool true, .bool false, .int .i64 (y0), .bool false, .bool false, .int .i64 (y0), .bool false, .bool false, .tuple #[.pointer (some ⟨(lget ls 6).n, 0, none⟩), .int .i64 (0)], .int .i64 (y0), .agg #[.int .i64 (1), .int .i64 (4), .int .i64 (2), .int .i64 (y0), .bool false, .int .i64 (0)], .pointer (some ⟨(lget ls 0).n, 0, none⟩), .tuple #[.pointer (some ⟨(lget ls 6).n, 0, none⟩), .int .i64 (0)], .pointer (some ⟨(lget ls 6).n, 0, none⟩), .int .i64 (0), .int .i64 (0), .bool false, .bool false, .pointer (some ⟨(lget ls 6).n, 0, none⟩), .bool false, .bool false, .int .u32 (nn y1), .int .u8 (nn (y1.setWidth 8)), .int .u32 (nn y1), .int .u32 (nn (y1 >>> 8)), .int .u8 (nn ((y1 >>> 8).setWidth 8)), .int .u32 (nn y1), .int .u32 (nn (y1 >>> 16)), .int .u8 (nn ((y1 >>> 16).setWidth 8)), .int .u32 (nn y1), .int .u32 (nn (y1 >>> 24)), .int .u8 (nn ((y1 >>> 24).setWidth 8)), .slice (some ⟨(lget ls 8).n, 0, none⟩) 4 4, .int .u32 (nn y1), .int .i64 (y0), .int .u32 (nn (BitVec.ofInt 32 y0)), .bool true, .pointer (some ⟨(lget ls 6).n, 0, none⟩), .slice (some ⟨(lget ls 8).n, 0, none⟩) 4 4, .int .u8 (nn y2), .slice (some ⟨(lget ls 9).n, 0, none⟩) 2 2, .int .i64 (0), .tuple #[.int .i64 (0), .int .i64 (g2_0)], .pointer (some ⟨(lget ls 6).n, 0, none⟩), .slice (some ⟨(lget ls 8).n, 0, none⟩) 4 4, .tuple #[.int .i64 (0), .int .i64 (g2_0)], .int .i64 (0), .int .i64 (g2_0), .bool true, .int .i64 (0), .bool true, .bool false, .bool false, .bool true, .bool false, .bool false, undef, undef, .bool false, .bool false, .bool false, .int .i64 (g2_0), .bool false, .bool false] (und 57)
def pre_barbicanlaw9_MapsArray_L0v1_0 (y0 : Int) (y1 : BitVec 32) (y2 : BitVec 8) (g0_0 : Nat) (g0_1 : Nat → (Xr71 × (Nat × (Nat → BitVec 8)))) (g0_2 : Int) (g0_3 : Nat) (g0_4 : Nat → Me42) (g1_0 : Nat → (Xr71 × (Nat × (Nat → BitVec 8)))) (g1_1 : Int) (g1_2 : Nat → Me42) (g2_0 : Int) (s0_0 : Int) (ls : List L1) : List Obj := [.cells #[.map (some (lget ls 1).n), .int .i64 (g1_1)] 50, mapP 65 (lget ls 10) (g0_0 + 1), unb, unb, unb, unb, .cells #[.int .i64 (1), .int .i64 (4), .int .i64 (2), .int .i64 (y0), .bool false, .int .i64 (0), .pointer (some ⟨(lget ls 0).n, 0, none⟩), .map (some (lget ls 7).n), .slice none 0 0] 45, mapG kv_Me42 vv_Me42 (g0_3 + 1) g1_2, .cells #[.int .u8 (nn (y1.setWidth 8)), .int .u8 (nn ((y1 >>> 8).setWidth 8)), .int .u8 (nn ((y1 >>> 16).setWidth 8)), .int .u8 (nn ((y1 >>> 24).setWidth 8))] 5, .cells #[.int .u8 (nn y2), .int .u8 (1)] 5, arX 71 (lget ls 11) (g0_0 + 1) c_Xr71 g1_0, byX 5 cu8 (g0_0 + 1) g1_0]
theorem sp0_barbicanlaw9_MapsArray_L0v1_0_ok (s0_0 : Int) (c0_0 : BitVec 8) (c0_1 : BitVec 8) (c0_2 : BitVec 8) (c0_3 : BitVec 8) (h : lpO (st_barbicanlaw9_MapsArray_L0v1 y0 y1 y2 g0_0 g0_3 g1_0 g1_1 g1_2) (.c0 s0_0) = some (.e0 c0_0 c0_1 c0_2 c0_3)) : SpcG Try.prog M B0 S ⟨fun ls => .code (.loop bd_barbicanlaw9_MapsArray_L0v1) (t0_barbicanlaw9_MapsArray_L0v1_0 y0 y1 y2 g0_0 g0_1 g0_2 g0_3 g0_4 g1_0 g1_1 g1_2 g2_0 s0_0 ls), pre_barbicanlaw9_MapsArray_L0v1_0 y0 y1 y2 g0_0 g0_1 g0_2 g0_3 g0_4 g1_0 g1_1 g1_2 g2_0 s0_0, 1, (.exit 0), fun ls => vf_barbicanlaw9_MapsArray_L0v1 y0 y1 y2 g0_0 g0_1 g0_2 g0_3 g0_4 g1_0 g1_1 g1_2 g2_0 (.e0 c0_0 c0_1 c0_2 c0_3) (ls.take 12 ++ ls.drop 12), fun ls => (Hf_barbicanlaw9_MapsArray_L0v1 y0 y1 y2 g0_0 g0_1 g0_2 g0_3 g0_4 g1_0 g1_1 g1_2 g2_0 (.e0 c0_0 c0_1 c0_2 c0_3) (ls.take 12 ++ ls.drop 12)).take 12 ++ List.replicate 0 unb, fun ls => (Hf_barbicanlaw9_MapsArray_L0v1 y0 y1 y2 g0_0 g0_1 g0_2 g0_3 g0_4 g1_0 g1_1 g1_2 g2_0 (.e0 c0_0 c0_1 c0_2 c0_3) (ls.take 12 ++ ls.drop 12)).drop 12⟩ :=
  spc_of_goesM hU 0 (k0 := 12) (go_barbicanlaw9_MapsArray_L0v1 hU y0 y1 y2 g0_0 g0_1 g0_2 g0_3 g0_4 g1_0 g1_1 g1_2 g2_0 _ _ h) (t0_barbicanlaw9_MapsArray_L0v1_0 y0 y1 y2 g0_0 g0_1 g0_2 g0_3 g0_4 g1_0 g1_1 g1_2 g2_0 s0_0) (pre_barbicanlaw9_MapsArray_L0v1_0 y0 y1 y2 g0_0 g0_1 g0_2 g0_3 g0_4 g1_0 g1_1 g1_2 g2_0 s0_0) (fun _ => rfl) (fun ls h => by match ls, h with | [l0, l1, l2, l3, l4, l5, l6, l7, l8, l9, l10, l11], _ => exact ⟨by kernel_rfl, by kernel_rfl⟩) (fun ls h => by match ls, h with | [l0, l1, l2, l3, l4, l5, l6, l7, l8, l9, l10, l11], _ => rfl) (by decide) (by decide) (fun ls => rfl)
theorem sp1_barbicanlaw9_MapsArray_L0v1_0_ok (s0_0 : Int) (c1_0 : BitVec 8) (c1_1 : BitVec 8) (c1_2 : BitVec 8) (c1_3 : BitVec 8) (h : lpO (st_barbicanlaw9_MapsArray_L0v1 y0 y1 y2 g0_0 g0_3 g1_0 g1_1 g1_2) (.c0 s0_0) = some (.e1 c1_0 c1_1 c1_2 c1_3)) : SpcG Try.prog M B0 S ⟨fun ls => .code (.loop bd_barbicanlaw9_MapsArray_L0v1) (t0_barbicanlaw9_MapsArray_L0v1_0 y0 y1 y2 g0_0 g0_1 g0_2 g0_3 g0_4 g1_0 g1_1 g1_2 g2_0 s0_0 ls), pre_barbicanlaw9_MapsArray_L0v1_0 y0 y1 y2 g0_0 g0_1 g0_2 g0_3 g0_4 g1_0 g1_1 g1_2 g2_0 s0_0, 1, .ret, fun ls => vf_barbicanlaw9_MapsArray_L0v1 y0 y1 y2 g0_0 g0_1 g0_2 g0_3 g0_4 g1_0 g1_1 g1_2 g2_0 (.e1 c1_0 c1_1 c1_2 c1_3) (ls.take 12 ++ ls.drop 12), fun ls => (Hf_barbicanlaw9_MapsArray_L0v1 y0 y1 y2 g0_0 g0_1 g0_2 g0_3 g0_4 g1_0 g1_1 g1_2 g2_0 (.e1 c1_0 c1_1 c1_2 c1_3) (ls.take 12 ++ ls.drop 12)).take 12 ++ List.replicate 0 unb, fun ls => (Hf_barbicanlaw9_MapsArray_L0v1 y0 y1 y2 g0_0 g0_1 g0_2 g0_3 g0_4 g1_0 g1_1 g1_2 g2_0 (.e1 c1_0 c1_1 c1_2 c1_3) (ls.take 12 ++ ls.drop 12)).drop 12⟩ :=
  spc_of_goesM hU 0 (k0 := 12) (go_barbicanlaw9_MapsArray_L0v1 hU y0 y1 y2 g0_0 g0_1 g0_2 g0_3 g0_4 g1_0 g1_1 g1_2 g2_0 _ _ h) (t0_barbicanlaw9_MapsArray_L0v1_0 y0 y1 y2 g0_0 g0_1 g0_2 g0_3 g0_4 g1_0 g1_1 g1_2 g2_0 s0_0) (pre_barbicanlaw9_MapsArray_L0v1_0 y0 y1 y2 g0_0 g0_1 g0_2 g0_3 g0_4 g1_0 g1_1 g1_2 g2_0 s0_0) (fun _ => rfl) (fun ls h => by match ls, h with | [l0, l1, l2, l3, l4, l5, l6, l7, l8, l9, l10, l11], _ => exact ⟨by kernel_rfl, by kernel_rfl⟩) (fun ls h => by match ls, h with | [l0, l1, l2, l3, l4, l5, l6, l7, l8, l9, l10, l11], _ => rfl) (by decide) (by decide) (fun ls => rfl)
inductive Sh_barbicanlaw9_MapsArray_L0v2 where
  | c0 (s0_0 : Int)
inductive Ex_barbicanlaw9_MapsArray_L0v2 where
  | e0 (c0_0 : BitVec 8) (c0_1 : BitVec 8) (c0_2 : BitVec 8) (c0_3 : BitVec 8)
  | e1 (c1_0 : BitVec 8) (c1_1 : BitVec 8) (c1_2 : BitVec 8) (c1_3 : BitVec 8)
noncomputable def st_barbicanlaw9_MapsArray_L0v2 (y0 : Int) (y1 : BitVec 32) (y2 : BitVec 8) (g0_0 : Nat) (g0_2 : Int) (g0_3 : Nat) (g0_4 : Nat → Me42) (g1_0 : Nat → (Xr71 × (Nat × (Nat → BitVec 8)))) : Sh_barbicanlaw9_MapsArray_L0v2 → Option (Sh_barbicanlaw9_MapsArray_L0v2 ⊕ Ex_barbicanlaw9_MapsArray_L0v2)
  | .c0 s0_0 =>
    bif decide (s0_0 < y0) then
      ((m_maps_Map_Value_v1 4 (fun k => if k = 0 then (BitVec.ofInt 8 s0_0) else if k = 1 then 0#8 else if k = 2 then 0#8 else 0#8) y0 g0_2 g0_0 g1_0 g0_3 g0_4).bind fun gb0 => match gb0 with
      | .e0 gb0_0 gb0_1 => (bif (gb0_0 : Int) == 2 then
          (bif (BitVec.ofInt 32 s0_0) == y1 then
            (bif inR 0 gb0_0 then
              (bif (gb0_1 0) == y2 then
                (bif inR 1 gb0_0 then
                  (bif (gb0_1 1) == 1#8 then
                    (some (.inl (.c0 (IntKind.i64.wrap (s0_0 + 1)))))
                  else (some (.inr (.e1 (y1.setWidth 8) ((y1 >>> 8).setWidth 8) ((y1 >>> 16).setWidth 8) ((y1 >>> 24).setWidth 8)))))
                else (none))
              else (some (.inr (.e1 (y1.setWidth 8) ((y1 >>> 8).setWidth 8) ((y1 >>> 16).setWidth 8) ((y1 >>> 24).setWidth 8)))))
            else (none))
          else (bif inR 0 gb0_0 then
            (bif (gb0_1 0) == 0#8 then
              (bif inR 1 gb0_0 then
                (bif (gb0_1 1) == 0#8 then
                  (some (.inl (.c0 (IntKind.i64.wrap (s0_0 + 1)))))
                else (some (.inr (.e1 (y1.setWidth 8) ((y1 >>> 8).setWidth 8) ((y1 >>> 16).setWidth 8) ((y1 >>> 24).setWidth 8)))))
              else (none))
            else (some (.inr (.e1 (y1.setWidth 8) ((y1 >>> 8).setWidth 8) ((y1 >>> 16).setWidth 8) ((y1 >>> 24).setWidth 8)))))
          else (none)))
        else (some (.inr (.e1 (y1.setWidth 8) ((y1 >>> 8).setWidth 8) ((y1 >>> 16).setWidth 8) ((y1 >>> 24).setWidth 8)))))
      | .e1 gb0_0 => (bif gb0_0 == 0 then
          (some (.inr (.e1 (y1.setWidth 8) ((y1 >>> 8).setWidth 8) ((y1 >>> 16).setWidth 8) ((y1 >>> 24).setWidth 8))))
        else (some (.inr (.e1 (y1.setWidth 8) ((y1 >>> 8).setWidth 8) ((y1 >>> 16).setWidth 8) ((y1 >>> 24).setWidth 8))))))
    else (some (.inr (.e0 (y1.setWidth 8) ((y1 >>> 8).setWidth 8) ((y1 >>> 16).setWidth 8) ((y1 >>> 24).setWidth 8))))
noncomputable def bd_barbicanlaw9_MapsArray_L0v2 : Code := codeOf Try.f3 [1, 1, 1, 1, 1, 1, 1, 1, 1, 1, 0, 1, 0, 0]
def fl_barbicanlaw9_MapsArray_L0v2 (y0 : Int) (y1 : BitVec 32) (y2 : BitVec 8) (g0_0 : Nat) (g0_1 : Nat → (Xr71 × (Nat × (Nat → BitVec 8)))) (g0_2 : Int) (g0_3 : Nat) (g0_4 : Nat → Me42) (g1_0 : Nat → (Xr71 × (Nat × (Nat → BitVec 8)))) (g1_1 : Int) (g2_0 : Int) : Sh_barbicanlaw9_MapsArray_L0v2 → List L1 → List Value
  | .c0 s0_0, ls => [.int .i64 (y0), .int .u32 (nn y1), .int .u8 (nn y2), .bool false, .pointer (some ⟨(lget ls 6).n, 0, none⟩), .int .i64 (s0_0)]
def mf_barbicanlaw9_MapsArray_L0v2 : Sh_barbicanlaw9_MapsArray_L0v2 → List (Nat × Nat)
  | .c0 _ => [(3, 3), (2, 5), (1, 123)]
noncomputable def fr_barbicanlaw9_MapsArray_L0v2 (y0 : Int) (y1 : BitVec 32) (y2 : BitVec 8) (g0_0 : Nat) (g0_1 : Nat → (Xr71 × (Nat × (Nat → BitVec 8)))) (g0_2 : Int) (g0_3 : Nat) (g0_4 : Nat → Me42) (g1_0 : Nat → (Xr71 × (Nat × (Nat → BitVec 8)))) (g1_1 : Int) (g2_0 : Int) (s : Sh_barbicanlaw9_MapsArray_L0v2) : List L1 → List Value := mrgF (mf_barbicanlaw9_MapsArray_L0v2 s) (fl_barbicanlaw9_MapsArray_L0v2 y0 y1 y2 g0_0 g0_1 g0_2 g0_3 g0_4 g1_0 g1_1 g2_0 s) 10
def Hs_barbicanlaw9_MapsArray_L0v2 (y0 : Int) (y1 : BitVec 32) (y2 : BitVec 8) (g0_0 : Nat) (g0_1 : Nat → (Xr71 × (Nat × (Nat → BitVec 8)))) (g0_2 : Int) (g0_3 : Nat) (g0_4 : Nat → Me42) (g1_0 : Nat → (Xr71 × (Nat × (Nat → BitVec 8)))) (g1_1 : Int) (g2_0 : Int) : Sh_barbicanlaw9_MapsArray_L0v2 → List L1 → List Obj
  | .c0 s0_0, ls => [.cells #[.map (some (lget ls 1).n), .int .i64 (g0_2)] 50, mapP 65 (lget ls 4) g0_0, unb, unb, arX 71 (lget ls 5) g0_0 c_Xr71 g1_0, byX 5 cu8 g0_0 g1_0, .cells #[.int .i64 (1), .int .i64 (4), .int .i64 (2), .int .i64 (y0), .bool false, .int .i64 (0), .pointer (some ⟨(lget ls 0).n, 0, none⟩), .map (some (lget ls 7).n), .slice none 0 0] 45, mapG kv_Me42 vv_Me42 g0_3 g0_4, .cells #[.int .u8 (nn (y1.setWidth 8)), .int .u8 (nn ((y1 >>> 8).setWidth 8)), .int .u8 (nn ((y1 >>> 16).setWidth 8)), .int .u8 (nn ((y1 >>> 24).setWidth 8))] 5, .cells #[.int .u8 (nn y2), .int .u8 (1)] 5, unb]
def vl_barbicanlaw9_MapsArray_L0v2 (y0 : Int) (y1 : BitVec 32) (y2 : BitVec 8) (g0_0 : Nat) (g0_1 : Nat → (Xr71 × (Nat × (Nat → BitVec 8)))) (g0_2 : Int) (g0_3 : Nat) (g0_4 : Nat → Me42) (g1_0 : Nat → (Xr71 × (Nat × (Nat → BitVec 8)))) (g1_1 : Int) (g2_0 : Int) : Ex_barbicanlaw9_MapsArray_L0v2 → List L1 → List Value
  | .e0 c0_0 c0_1 c0_2 c0_3, ls => [.int .i64 (y0), .int .u32 (nn y1), .int .u8 (nn y2), .bool false, .pointer (some ⟨(lget ls 6).n, 0, none⟩)]
  | .e1 c1_0 c1_1 c1_2 c1_3, ls => [.int .i64 (y0), .int .u32 (nn y1), .int .u8 (nn y2), .bool false, .pointer (some ⟨(lget ls 6).n, 0, none⟩)]
def mk_barbicanlaw9_MapsArray_L0v2 : Ex_barbicanlaw9_MapsArray_L0v2 → List (Nat × Nat)
  | .e0 _ _ _ _ => [(3, 3), (2, 129)]
  | .e1 _ _ _ _ => [(3, 3), (2, 129)]
noncomputable def vf_barbicanlaw9_MapsArray_L0v2 (y0 : Int) (y1 : BitVec 32) (y2 : BitVec 8) (g0_0 : Nat) (g0_1 : Nat → (Xr71 × (Nat × (Nat → BitVec 8)))) (g0_2 : Int) (g0_3 : Nat) (g0_4 : Nat → Me42) (g1_0 : Nat → (Xr71 × (Nat × (Nat → BitVec 8)))) (g1_1 : Int) (g2_0 : Int) (r : Ex_barbicanlaw9_MapsArray_L0v2) : List L1 → List Value := mrgF (mk_barbicanlaw9_MapsArray_L0v2 r) (vl_barbicanlaw9_MapsArray_L0v2 y0 y1 y2 g0_0 g0_1 g0_2 g0_3 g0_4 g1_0 g1_1 g2_0 r) 10
def Hf_barbicanlaw9_MapsArray_L0v2 (y0 : Int) (y1 : BitVec 32) (y2 : BitVec 8) (g0_0 : Nat) (g0_1 : Nat → (Xr71 × (Nat × (Nat → BitVec 8)))) (g0_2 : Int) (g0_3 : Nat) (g0_4 : Nat → Me42) (g1_0 : Nat → (Xr71 × (Nat × (Nat → BitVec 8)))) (g1_1 : Int) (g2_0 : Int) : Ex_barbicanlaw9_MapsArray_L0v2 → List L1 → List Obj
  | .e0 c0_0 c0_1 c0_2 c0_3, ls => [.cells #[.map (some (lget ls 1).n), .int .i64 (g0_2)] 50, mapP 65 (lget ls 4) g0_0, unb, unb, arX 71 (lget ls 5) g0_0 c_Xr71 g1_0, byX 5 cu8 g0_0 g1_0, .cells #[.int .i64 (1), .int .i64 (4), .int .i64 (2), .int .i64 (y0), .bool false, .int .i64 (0), .pointer (some ⟨(lget ls 0).n, 0, none⟩), .map (some (lget ls 7).n), .slice none 0 0] 45, mapG kv_Me42 vv_Me42 g0_3 g0_4, .cells #[.int .u8 (nn c0_0), .int .u8 (nn c0_1), .int .u8 (nn c0_2), .int .u8 (nn c0_3)] 5, .cells #[.int .u8 (nn y2), .int .u8 (1)] 5, unb]
  | .e1 c1_0 c1_1 c1_2 c1_3, ls => [.cells #[.map (some (lget ls 1).n), .int .i64 (g0_2)] 50, mapP 65 (lget ls 4) g0_0, unb, unb, arX 71 (lget ls 5) g0_0 c_Xr71 g1_0, byX 5 cu8 g0_0 g1_0, .cells #[.int .i64 (1), .int .i64 (4), .int .i64 (2), .int .i64 (y0), .bool false, .int .i64 (0), .pointer (some ⟨(lget ls 0).n, 0, none⟩), .map (some (lget ls 7).n), .slice none 0 0] 45, mapG kv_Me42 vv_Me42 g0_3 g0_4, .cells #[.int .u8 (nn c1_0), .int .u8 (nn c1_1), .int .u8 (nn c1_2), .int .u8 (nn c1_3)] 5, .cells #[.int .u8 (nn y2), .int .u8 (1)] 5, unb]
def ex_barbicanlaw9_MapsArray_L0v2 : Ex_barbicanlaw9_MapsArray_L0v2 → Ex
  | .e0 _ _ _ _ => (.exit 0)
  | .e1 _ _ _ _ => .ret
end
section
variable {M : Nat → Prop} {B0 : Nat} {S : World → Prop} (hU : Up M B0 S) (y0 : Int) (y1 : BitVec 32) (y2 : BitVec 8) (g0_0 : Nat) (g0_1 : Nat → (Xr71 × (Nat × (Nat → BitVec 8)))) (g0_2 : Int) (g0_3 : Nat) (g0_4 : Nat → Me42) (g1_0 : Nat → (Xr71 × (Nat × (Nat → BitVec 8)))) (g1_1 : Int) (g2_0 : Int)
include hU y0 y1 y2 g0_0 g0_1 g0_2 g0_3 g0_4 g1_0 g1_1 g2_0
theorem go_barbicanlaw9_MapsArray_L0v2 (s : Sh_barbicanlaw9_MapsArray_L0v2) (r : Ex_barbicanlaw9_MapsArray_L0v2) (h : lpO (st_barbicanlaw9_MapsArray_L0v2 y0 y1 y2 g0_0 g0_2 g0_3 g0_4 g1_0) s = some r) : GoesG Try.prog M B0 S (.loop bd_barbicanlaw9_MapsArray_L0v2) 11 (fr_barbicanlaw9_MapsArray_L0v2 y0 y1 y2 g0_0 g0_1 g0_2 g0_3 g0_4 g1_0 g1_1 g2_0 s) (Hs_barbicanlaw9_MapsArray_L0v2 y0 y1 y2 g0_0 g0_1 g0_2 g0_3 g0_4 g1_0 g1_1 g2_0 s) (ex_barbicanlaw9_MapsArray_L0v2 r) 10 (vf_barbicanlaw9_MapsArray_L0v2 y0 y1 y2 g0_0 g0_1 g0_2 g0_3 g0_4 g1_0 g1_1 g2_0 r) (Hf_barbicanlaw9_MapsArray_L0v2 y0 y1 y2 g0_0 g0_1 g0_2 g0_3 g0_4 g1_0 g1_1 g2_0 r) 11 :=
  goes_lpO (fun s q e => by
    cases s with
    | c0 s0_0 =>
      unfold st_barbicanlaw9_MapsArray_L0v2 at e
      dsimp only at e
      replace e := cond_eq_or e
      rcases e with ⟨hq0, e⟩ | ⟨hq0, e⟩
      · replace e := bindO_eq e
        obtain ⟨gb0, e_gb0, e⟩ := e
        rcases gb0 with ⟨gb0_0, gb0_1⟩ | ⟨gb0_0⟩
        · try dsimp only at e
          replace e := cond_eq_or e
          rcases e with ⟨hq1, e⟩ | ⟨hq1, e⟩
          · replace e := cond_eq_or e
            rcases e with ⟨hq2, e⟩ | ⟨hq2, e⟩
            · replace e := cond_eq_or e
              rcases e with ⟨hq3, e⟩ | ⟨hq3, e⟩
              · replace e := cond_eq_or e
                rcases e with ⟨hq4, e⟩ | ⟨hq4, e⟩
                · replace e := cond_eq_or e
                  rcases e with ⟨hq5, e⟩ | ⟨hq5, e⟩
                  · replace e := cond_eq_or e
                    rcases e with ⟨hq6, e⟩ | ⟨hq6, e⟩
                    · cases e; exact goes_runM hU [.o, .o, .b (z_lssT hq0), .o, .o, .v .u8 (u8_of_z s0_0), .o, .xg (SpcG.own hU (f := cu8) cu8_len 4 (fun k => if k = 0 then (BitVec.ofInt 8 s0_0) else if k = 1 then 0#8 else if k = 2 then 0#8 else 0#8) 5 (fun _ => []) (fun _ => 0) _ 1 .normal (by intros; rfl) (by intros; rfl) (by intros; rfl) (fun M0 B0 S0 x0 u0 v0 z0 hU0 hs0 hr0 => ok0_maps_Map_Value_v1 hU0 x0 u0 v0 4 z0 (fun k => if k = 0 then (BitVec.ofInt 8 s0_0) else if k = 1 then 0#8 else if k = 2 then 0#8 else 0#8) hr0 y0 g0_2 g0_0 g1_0 g0_3 g0_4 gb0_0 gb0_1 e_gb0)) [11, 6, 0, 1, 4, 5, 7], .o, .o, .o, .o, .o, .o, .o, .o, .o, .o, .b (z_neqT hq1), .o, .o, .o, .v .u32 (u32_of_z s0_0), .o, .t (u_eq (BitVec.ofInt 32 s0_0) y1) hq2, .o, .o, .q (ixM_ok (kd := .i64) (T := 33) (x := 0) (N := gb0_0) (sz := 1) rfl (fun w => by kernel_rfl) hq3), .l (accG (i := 12) (f := cu8) (A := gb0_1) (k := 0) 0 [.int .u8 (nn (gb0_1 0))] cu8_len (inR_nat hq3) rfl), .o, .tn (u_ne (gb0_1 0) y2) hq4, .o, .o, .q (ixM_ok (kd := .i64) (T := 33) (x := 1) (N := gb0_0) (sz := 1) rfl (fun w => by kernel_rfl) hq5), .l (accG (i := 12) (f := cu8) (A := gb0_1) (k := 1) 0 [.int .u8 (nn (gb0_1 1))] cu8_len (inR_nat hq5) rfl), .tn (u_ne (gb0_1 1) (1#8)) hq6, .o, .o, .o, .o, .o, .v .u32 (u32_of_z s0_0), .o, .tn (u_ne (BitVec.ofInt 32 s0_0) y1) hq2, .o, .o, .o, .o, .o, .o] [0, 1, 2, 3, 4, 5, 6, 7, 8, 9] (fun b => rfl) (by decide) rfl rfl (fun b => by kernel_rfl)
                    · cases e; exact ⟨ne_ret, goes_runM hU [.o, .o, .b (z_lssT hq0), .o, .o, .v .u8 (u8_of_z s0_0), .o, .xg (SpcG.own hU (f := cu8) cu8_len 4 (fun k => if k = 0 then (BitVec.ofInt 8 s0_0) else if k = 1 then 0#8 else if k = 2 then 0#8 else 0#8) 5 (fun _ => []) (fun _ => 0) _ 1 .normal (by intros; rfl) (by intros; rfl) (by intros; rfl) (fun M0 B0 S0 x0 u0 v0 z0 hU0 hs0 hr0 => ok0_maps_Map_Value_v1 hU0 x0 u0 v0 4 z0 (fun k => if k = 0 then (BitVec.ofInt 8 s0_0) else if k = 1 then 0#8 else if k = 2 then 0#8 else 0#8) hr0 y0 g0_2 g0_0 g1_0 g0_3 g0_4 gb0_0 gb0_1 e_gb0)) [11, 6, 0, 1, 4, 5, 7], .o, .o, .o, .o, .o, .o, .o, .o, .o, .o, .b (z_neqT hq1), .o, .o, .o, .v .u32 (u32_of_z s0_0), .o, .t (u_eq (BitVec.ofInt 32 s0_0) y1) hq2, .o, .o, .q (ixM_ok (kd := .i64) (T := 33) (x := 0) (N := gb0_0) (sz := 1) rfl (fun w => by kernel_rfl) hq3), .l (accG (i := 12) (f := cu8) (A := gb0_1) (k := 0) 0 [.int .u8 (nn (gb0_1 0))] cu8_len (inR_nat hq3) rfl), .o, .tn (u_ne (gb0_1 0) y2) hq4, .o, .o, .q (ixM_ok (kd := .i64) (T := 33) (x := 1) (N := gb0_0) (sz := 1) rfl (fun w => by kernel_rfl) hq5), .l (accG (i := 12) (f := cu8) (A := gb0_1) (k := 1) 0 [.int .u8 (nn (gb0_1 1))] cu8_len (inR_nat hq5) rfl), .tn (u_ne (gb0_1 1) (1#8)) hq6, .o, .o, .o, .o, .o, .o] [0, 1, 2, 3, 4, 5, 6, 7, 8, 9] (fun b => rfl) (by decide) rfl rfl (fun b => by kernel_rfl)⟩
                  · exact none_some e
                · cases e; exact ⟨ne_ret, goes_runM hU [.o, .o, .b (z_lssT hq0), .o, .o, .v .u8 (u8_of_z s0_0), .o, .xg (SpcG.own hU (f := cu8) cu8_len 4 (fun k => if k = 0 then (BitVec.ofInt 8 s0_0) else if k = 1 then 0#8 else if k = 2 then 0#8 else 0#8) 5 (fun _ => []) (fun _ => 0) _ 1 .normal (by intros; rfl) (by intros; rfl) (by intros; rfl) (fun M0 B0 S0 x0 u0 v0 z0 hU0 hs0 hr0 => ok0_maps_Map_Value_v1 hU0 x0 u0 v0 4 z0 (fun k => if k = 0 then (BitVec.ofInt 8 s0_0) else if k = 1 then 0#8 else if k = 2 then 0#8 else 0#8) hr0 y0 g0_2 g0_0 g1_0 g0_3 g0_4 gb0_0 gb0_1 e_gb0)) [11, 6, 0, 1, 4, 5, 7], .o, .o, .o, .o, .o, .o, .o, .o, .o, .o, .b (z_neqT hq1), .o, .o, .o, .v .u32 (u32_of_z s0_0), .o, .t (u_eq (BitVec.ofInt 32 s0_0) y1) hq2, .o, .o, .q (ixM_ok (kd := .i64) (T := 33) (x := 0) (N := gb0_0) (sz := 1) rfl (fun w => by kernel_rfl) hq3), .l (accG (i := 12) (f := cu8) (A := gb0_1) (k := 0) 0 [.int .u8 (nn (gb0_1 0))] cu8_len (inR_nat hq3) rfl), .o, .tn (u_ne (gb0_1 0) y2) hq4, .o, .o, .o, .o, .o, .o, .o] [0, 1, 2, 3, 4, 5, 6, 7, 8, 9] (fun b => rfl) (by decide) rfl rfl (fun b => by kernel_rfl)⟩
              · exact none_some e
            · replace e := cond_eq_or e
              rcases e with ⟨hq3, e⟩ | ⟨hq3, e⟩
              · replace e := cond_eq_or e
                rcases e with ⟨hq4, e⟩ | ⟨hq4, e⟩
                · replace e := cond_eq_or e
                  rcases e with ⟨hq5, e⟩ | ⟨hq5, e⟩
                  · replace e := cond_eq_or e
                    rcases e with ⟨hq6, e⟩ | ⟨hq6, e⟩
                    · cases e; exact goes_runM hU [.o, .o, .b (z_lssT hq0), .o, .o, .v .u8 (u8_of_z s0_0), .o, .xg (SpcG.own hU (f := cu8) cu8_len 4 (fun k => if k = 0 then (BitVec.ofInt 8 s0_0) else if k = 1 then 0#8 else if k = 2 then 0#8 else 0#8) 5 (fun _ => []) (fun _ => 0) _ 1 .normal (by intros; rfl) (by intros; rfl) (by intros; rfl) (fun M0 B0 S0 x0 u0 v0 z0 hU0 hs0 hr0 => ok0_maps_Map_Value_v1 hU0 x0 u0 v0 4 z0 (fun k => if k = 0 then (BitVec.ofInt 8 s0_0) else if k = 1 then 0#8 else if k = 2 then 0#8 else 0#8) hr0 y0 g0_2 g0_0 g1_0 g0_3 g0_4 gb0_0 gb0_1 e_gb0)) [11, 6, 0, 1, 4, 5, 7], .o, .o, .o, .o, .o, .o, .o, .o, .o, .o, .b (z_neqT hq1), .o, .o, .o, .v .u32 (u32_of_z s0_0), .o, .t (u_eq (BitVec.ofInt 32 s0_0) y1) hq2, .o, .o, .o, .o, .o, .v .u32 (u32_of_z s0_0), .o, .tn (u_ne (BitVec.ofInt 32 s0_0) y1) hq2, .o, .o, .q (ixM_ok (kd := .i64) (T := 33) (x := 0) (N := gb0_0) (sz := 1) rfl (fun w => by kernel_rfl) hq3), .l (accG (i := 12) (f := cu8) (A := gb0_1) (k := 0) 0 [.int .u8 (nn (gb0_1 0))] cu8_len (inR_nat hq3) rfl), .tn (u_ne (gb0_1 0) (0#8)) hq4, .o, .o, .q (ixM_ok (kd := .i64) (T := 33) (x := 1) (N := gb0_0) (sz := 1) rfl (fun w => by kernel_rfl) hq5), .l (accG (i := 12) (f := cu8) (A := gb0_1) (k := 1) 0 [.int .u8 (nn (gb0_1 1))] cu8_len (inR_nat hq5) rfl), .tn (u_ne (gb0_1 1) (0#8)) hq6, .o, .o, .o, .o, .o, .o] [0, 1, 2, 3, 4, 5, 6, 7, 8, 9] (fun b => rfl) (by decide) rfl rfl (fun b => by kernel_rfl)
                    · cases e; exact ⟨ne_ret, goes_runM hU [.o, .o, .b (z_lssT hq0), .o, .o, .v .u8 (u8_of_z s0_0), .o, .xg (SpcG.own hU (f := cu8) cu8_len 4 (fun k => if k = 0 then (BitVec.ofInt 8 s0_0) else if k = 1 then 0#8 else if k = 2 then 0#8 else 0#8) 5 (fun _ => []) (fun _ => 0) _ 1 .normal (by intros; rfl) (by intros; rfl) (by intros; rfl) (fun M0 B0 S0 x0 u0 v0 z0 hU0 hs0 hr0 => ok0_maps_Map_Value_v1 hU0 x0 u0 v0 4 z0 (fun k => if k = 0 then (BitVec.ofInt 8 s0_0) else if k = 1 then 0#8 else if k = 2 then 0#8 else 0#8) hr0 y0 g0_2 g0_0 g1_0 g0_3 g0_4 gb0_0 gb0_1 e_gb0)) [11, 6, 0, 1, 4, 5, 7], .o, .o, .o, .o, .o, .o, .o, .o, .o, .o, .b (z_neqT hq1), .o, .o, .o, .v .u32 (u32_of_z s0_0), .o, .t (u_eq (BitVec.ofInt 32 s0_0) y1) hq2, .o, .o, .o, .o, .o, .v .u32 (u32_of_z s0_0), .o, .tn (u_ne (BitVec.ofInt 32 s0_0) y1) hq2, .o, .o, .q (ixM_ok (kd := .i64) (T := 33) (x := 0) (N := gb0_0) (sz := 1) rfl (fun w => by kernel_rfl) hq3), .l (accG (i := 12) (f := cu8) (A := gb0_1) (k := 0) 0 [.int .u8 (nn (gb0_1 0))] cu8_len (inR_nat hq3) rfl), .tn (u_ne (gb0_1 0) (0#8)) hq4, .o, .o, .q (ixM_ok (kd := .i64) (T := 33) (x := 1) (N := gb0_0) (sz := 1) rfl (fun w => by kernel_rfl) hq5), .l (accG (i := 12) (f := cu8) (A := gb0_1) (k := 1) 0 [.int .u8 (nn (gb0_1 1))] cu8_len (inR_nat hq5) rfl), .tn (u_ne (gb0_1 1) (0#8)) hq6, .o, .o, .o, .o] [0, 1, 2, 3, 4, 5, 6, 7, 8, 9] (fun b => rfl) (by decide) rfl rfl (fun b => by kernel_rfl)⟩
                  · exact none_some e
                · cases e; exact ⟨ne_ret, goes_runM hU [.o, .o, .b (z_lssT hq0), .o, .o, .v .u8 (u8_of_z s0_0), .o, .xg (SpcG.own hU (f := cu8) cu8_len 4 (fun k => if k = 0 then (BitVec.ofInt 8 s0_0) else if k = 1 then 0#8 else if k = 2 then 0#8 else 0#8) 5 (fun _ => []) (fun _ => 0) _ 1 .normal (by intros; rfl) (by intros; rfl) (by intros; rfl) (fun M0 B0 S0 x0 u0 v0 z0 hU0 hs0 hr0 => ok0_maps_Map_Value_v1 hU0 x0 u0 v0 4 z0 (fun k => if k = 0 then (BitVec.ofInt 8 s0_0) else if k = 1 then 0#8 else if k = 2 then 0#8 else 0#8) hr0 y0 g0_2 g0_0 g1_0 g0_3 g0_4 gb0_0 gb0_1 e_gb0)) [11, 6, 0, 1, 4, 5, 7], .o, .o, .o, .o, .o, .o, .o, .o, .o, .o, .b (z_neqT hq1), .o, .o, .o, .v .u32 (u32_of_z s0_0), .o, .t (u_eq (BitVec.ofInt 32 s0_0) y1) hq2, .o, .o, .o, .o, .o, .v .u32 (u32_of_z s0_0), .o, .tn (u_ne (BitVec.ofInt 32 s0_0) y1) hq2, .o, .o, .q (ixM_ok (kd := .i64) (T := 33) (x := 0) (N := gb0_0) (sz := 1) rfl (fun w => by kernel_rfl) hq3), .l (accG (i := 12) (f := cu8) (A := gb0_1) (k := 0) 0 [.int .u8 (nn (gb0_1 0))] cu8_len (inR_nat hq3) rfl), .tn (u_ne (gb0_1 0) (0#8)) hq4, .o, .o, .o, .o, .o] [0, 1, 2, 3, 4, 5, 6, 7, 8, 9] (fun b => rfl) (by decide) rfl rfl (fun b => by kernel_rfl)⟩
              · exact none_some e
          · cases e; exact ⟨ne_ret, goes_runM hU [.o, .o, .b (z_lssT hq0), .o, .o, .v .u8 (u8_of_z s0_0), .o, .xg (SpcG.own hU (f := cu8) cu8_len 4 (fun k => if k = 0 then (BitVec.ofInt 8 s0_0) else if k = 1 then 0#8 else if k = 2 then 0#8 else 0#8) 5 (fun _ => []) (fun _ => 0) _ 1 .normal (by intros; rfl) (by intros; rfl) (by intros; rfl) (fun M0 B0 S0 x0 u0 v0 z0 hU0 hs0 hr0 => ok0_maps_Map_Value_v1 hU0 x0 u0 v0 4 z0 (fun k => if k = 0 then (BitVec.ofInt 8 s0_0) else if k = 1 then 0#8 else if k = 2 then 0#8 else 0#8) hr0 y0 g0_2 g0_0 g1_0 g0_3 g0_4 gb0_0 gb0_1 e_gb0)) [11, 6, 0, 1, 4, 5, 7], .o, .o, .o, .o, .o, .o, .o, .o, .o, .o, .b (z_neqF hq1), .o, .o, .o, .o, .o, .o] [0, 1, 2, 3, 4, 5, 6, 7, 8, 9] (fun b => rfl) (by decide) rfl rfl (fun b => by kernel_rfl)⟩
        · try dsimp only at e
          replace e := cond_eq_or e
          rcases e with ⟨hq1, e⟩ | ⟨hq1, e⟩
          · cases e; exact ⟨ne_ret, goes_runM hU [.o, .o, .b (z_lssT hq0), .o, .o, .v .u8 (u8_of_z s0_0), .o, .xg (SpcG.own hU (f := cu8) cu8_len 4 (fun k => if k = 0 then (BitVec.ofInt 8 s0_0) else if k = 1 then 0#8 else if k = 2 then 0#8 else 0#8) 5 (fun _ => []) (fun _ => 0) _ 0 .normal (by intros; rfl) (by intros; rfl) (by intros; rfl) (fun M0 B0 S0 x0 u0 v0 z0 hU0 hs0 hr0 => ok1_maps_Map_Value_v1 hU0 x0 u0 v0 4 z0 (fun k => if k = 0 then (BitVec.ofInt 8 s0_0) else if k = 1 then 0#8 else if k = 2 then 0#8 else 0#8) hr0 y0 g0_2 g0_0 g1_0 g0_3 g0_4 gb0_0 e_gb0)) [11, 6, 0, 1, 4, 5, 7], .o, .o, .o, .o, .o, .o, .b (z_neqT hq1), .o, .o, .o, .o, .o, .o, .o, .o, .o, .o] [0, 1, 2, 3, 4, 5, 6, 7, 8, 9] (fun b => rfl) (by decide) rfl rfl (fun b => by kernel_rfl)⟩
          · cases e; exact ⟨ne_ret, goes_runM hU [.o, .o, .b (z_lssT hq0), .o, .o, .v .u8 (u8_of_z s0_0), .o, .xg (SpcG.own hU (f := cu8) cu8_len 4 (fun k => if k = 0 then (BitVec.ofInt 8 s0_0) else if k = 1 then 0#8 else if k = 2 then 0#8 else 0#8) 5 (fun _ => []) (fun _ => 0) _ 0 .normal (by intros; rfl) (by intros; rfl) (by intros; rfl) (fun M0 B0 S0 x0 u0 v0 z0 hU0 hs0 hr0 => ok1_maps_Map_Value_v1 hU0 x0 u0 v0 4 z0 (fun k => if k = 0 then (BitVec.ofInt 8 s0_0) else if k = 1 then 0#8 else if k = 2 then 0#8 else 0#8) hr0 y0 g0_2 g0_0 g1_0 g0_3 g0_4 gb0_0 e_gb0)) [11, 6, 0, 1, 4, 5, 7], .o, .o, .o, .o, .o, .o, .b (z_neqF hq1), .o, .o, .o, .o, .o, .o, .o] [0, 1, 2, 3, 4, 5, 6, 7, 8, 9] (fun b => rfl) (by decide) rfl rfl (fun b => by kernel_rfl)⟩
      · cases e; exact ⟨ne_exit 0, goes_runM hU [.o, .o, .b (z_lssF hq0)] [0, 1, 2, 3, 4, 5, 6, 7, 8, 9] (fun b => rfl) (by decide) rfl rfl (fun b => by kernel_rfl)⟩) s r h
noncomputable def t0_barbicanlaw9_MapsArray_L0v2_0 (y0 : Int) (y1 : BitVec 32) (y2 : BitVec 8) (g0_0 : Nat) (g0_1 : Nat → (Xr71 × (Nat × (Nat → BitVec 8)))) (g0_2 : Int) (g0_3 : Nat) (g0_4 : Nat → Me42) (g1_0 : Nat → (Xr71 × (Nat × (Nat → BitVec 8)))) (g1_1 : Int) (g2_0 : Int) (s0_0 : Int) (ls : List L1) : List Value := List.append [.int .i64 (y0), .int .u32 (nn y1), .int .u8 (nn y2), undef, undef, undef, .bool false, .pointer (some ⟨(lget ls 6).n, 0, none⟩), .int .i64 (g1_1), .slice (some ⟨(lget ls 8).n, 0, none⟩) 4 4, .bool false, .int .i64 (0), .int .i64 (g2_0), .int .i64 (s0_0), undef, undef, .bool true, .bool false, .int .i64 (y0), .bool false, .bool false, .int .i64 (y0), .bool false, .bool false, .tuple #[.pointer (some ⟨(lget ls 6).n, 0, none⟩), .int .i64 (0)], .int .i64 (y0), .agg #[.int .i64 (1), .int .i64 (4), .int .i64 (2), .int .i64 (y0), .bool false, .int .i64 (0)], .pointer (some ⟨(lget ls 0).n, 0, none⟩), .tuple #[.pointer (some ⟨(lget ls 6).n, 0, none⟩), .int .i64 (0)], .pointer (some ⟨(lget ls 6).n, 0, none⟩), .int .i64 (0), .int .i64 (0), .bool false, .bool false, .pointer (some ⟨(lget ls 6).n, 0, none⟩), .bool false, .bool false, .int .u32 (nn y1), .int .u8 (nn (y1.setWidth 8)), .int .u32 (nn y1), .int .u32 (nn (y1 >>> 8)), .int .u8 (nn ((y1 >>> 8).setWidth 8)), .int .u32 (nn y1), .int .u32 (nn (y1 >>> 16)), .int .u8 (nn ((y1 >>> 16).setWidth 8)), .int .u32 (nn y1), .int .u32 (nn (y1 >>> 24)), .int .u8 (nn ((y1 >>> 24).setWidth 8)), .slice (some ⟨(lget ls 8).n, 0, none⟩) 4 4, .int .u32 (nn y1), .int .i64 (y0), .int .u32 (nn (BitVec.ofInt 32 y0)), .bool false, .pointer (some ⟨(lget ls 6).n, 0, none⟩), .slice (some ⟨(lget ls 8).n, 0, none⟩) 4 4, .int .u8 (nn y2), .slice (some ⟨(lget ls 9).n, 0, none⟩) 2 2, .int .i64 (g1_1), .tuple #[.int .i64 (0), .int .i64 (g2_0)], .pointer (some ⟨(lget ls 6).n, 0, none⟩), .slice (some ⟨(lget ls 8).n, 0, none⟩) 4 4, .tuple #[.int .i64 (0), .int .i64 (g2_0)], .int .i64 (0), .int .i64 (g2_0), .bool false, .int .i64 (g1_1), .bool ((g1_1 == 0)), .bool false, .bool false, .bool false, .bool true, .bool true, .int .i64 (g1_1), .bool false, .bool false, .bool false, .bool false, .int .i64 (g2_0), .bool false, .bool false] (und 57)
def pre_barbicanlaw9_MapsArray_L0v2_0 (y0 : Int) (y1 : BitVec 32) (y2 : BitVec 8) (g0_0 : Nat) (g0_1 : Nat → (Xr71 × (Nat × (Nat → BitVec 8)))) (g0_2 : Int) (g0_3 : Nat) (g0_4 : Nat → Me42) (g1_0 : Nat → (Xr71 × (Nat × (Nat → BitVec 8)))) (g1_1 : Int) (g2_0 : Int) (s0_0 : Int) (ls : List L1) : List Obj := [.cells #[.map (some (lget ls 1).n), .int .i64 (g0_2)] 50, mapP 65 (lget ls 4) g0_0, unb, unb, arX 71 (lget ls 5) g0_0 c_Xr71 g1_0, byX 5 cu8 g0_0 g1_0, .cells #[.int .i64 (1), .int .i64 (4), .int .i64 (2), .int .i64 (y0), .bool false, .int .i64 (0), .pointer (some ⟨(lget ls 0).n, 0, none⟩), .map (some (lget ls 7).n), .slice none 0 0] 45, mapG kv_Me42 vv_Me42 g0_3 g0_4, .cells #[.int .u8 (nn (y1.setWidth 8)), .int .u8 (nn ((y1 >>> 8).setWidth 8)), .int .u8 (nn ((y1 >>> 16).setWidth 8)), .int .u8 (nn ((y1 >>> 24).setWidth 8))] 5, .cells #[.int .u8 (nn y2), .int .u8 (1)] 5]
theorem sp0_barbicanlaw9_MapsArray_L0v2_0_ok (s0_0 : Int) (c0_0 : BitVec 8) (c0_1 : BitVec 8) (c0_2 : BitVec 8) (c0_3 : BitVec 8) (h : lpO (st_barbicanlaw9_MapsArray_L0v2 y0 y1 y2 g0_0 g0_2 g0_3 g0_4 g1_0) (.c0 s0_0) = some (.e0 c0_0 c0_1 c0_2 c0_3)) : SpcG Try.prog M B0 S ⟨fun ls => .code (.loop bd_barbicanlaw9_MapsArray_L0v2) (t0_barbicanlaw9_MapsArray_L0v2_0 y0 y1 y2 g0_0 g0_1 g0_2 g0_3 g0_4 g1_0 g1_1 g2_0 s0_0 ls), pre_barbicanlaw9_MapsArray_L0v2_0 y0 y1 y2 g0_0 g0_1 g0_2 g0_3 g0_4 g1_0 g1_1 g2_0 s0_0, 1, (.exit 0), fun ls => vf_barbicanlaw9_MapsArray_L0v2 y0 y1 y2 g0_0 g0_1 g0_2 g0_3 g0_4 g1_0 g1_1 g2_0 (.e0 c0_0 c0_1 c0_2 c0_3) (ls.take 10 ++ ls.drop 10), fun ls => (Hf_barbicanlaw9_MapsArray_L0v2 y0 y1 y2 g0_0 g0_1 g0_2 g0_3 g0_4 g1_0 g1_1 g2_0 (.e0 c0_0 c0_1 c0_2 c0_3) (ls.take 10 ++ ls.drop 10)).take 10 ++ List.replicate 0 unb, fun ls => (Hf_barbicanlaw9_MapsArray_L0v2 y0 y1 y2 g0_0 g0_1 g0_2 g0_3 g0_4 g1_0 g1_1 g2_0 (.e0 c0_0 c0_1 c0_2 c0_3) (ls.take 10 ++ ls.drop 10)).drop 10⟩ :=
  spc_of_goesM hU 0 (k0 := 10) (go_barbicanlaw9_MapsArray_L0v2 hU y0 y1 y2 g0_0 g0_1 g0_2 g0_3 g0_4 g1_0 g1_1 g2_0 _ _ h) (t0_barbicanlaw9_MapsArray_L0v2_0 y0 y1 y2 g0_0 g0_1 g0_2 g0_3 g0_4 g1_0 g1_1 g2_0 s0_0) (pre_barbicanlaw9_MapsArray_L0v2_0 y0 y1 y2 g0_0 g0_1 g0_2 g0_3 g0_4 g1_0 g1_1 g2_0 s0_0) (fun _ => rfl) (fun ls h => by match ls, h with | [l0, l1, l2, l3, l4, l5, l6, l7, l8, l9], _ => exact ⟨by kernel_rfl, by kernel_rfl⟩) (fun ls h => by match ls, h with | [l0, l1, l2, l3, l4, l5, l6, l7, l8, l9], _ => rfl) (by decide) (by decide) (fun ls => rfl)
theorem sp1_barbicanlaw9_MapsArray_L0v2_0_ok (s0_0 : Int) (c1_0 : BitVec 8) (c1_1 : BitVec 8) (c1_2 : BitVec 8) (c1_3 : BitVec 8) (h : lpO (st_barbicanlaw9_MapsArray_L0v2 y0 y1 y2 g0_0 g0_2 g0_3 g0_4 g1_0) (.c0 s0_0) = some (.e1 c1_0 c1_1 c1_2 c1_3)) : SpcG Try.prog M B0 S ⟨fun ls => .code (.loop bd_barbicanlaw9_MapsArray_L0v2) (t0_barbicanlaw9_MapsArray_L0v2_0 y0 y1 y2 g0_0 g0_1 g0_2 g0_3 g0_4 g1_0 g1_1 g2_0 s0_0 ls), pre_barbicanlaw9_MapsArray_L0v2_0 y0 y1 y2 g0_0 g0_1 g0_2 g0_3 g0_4 g1_0 g1_1 g2_0 s0_0, 1, .ret, fun ls => vf_barbicanlaw9_MapsArray_L0v2 y0 y1 y2 g0_0 g0_1 g0_2 g0_3 g0_4 g1_0 g1_1 g2_0 (.e1 c1_0 c1_1 c1_2 c1_3) (ls.take 10 ++ ls.drop 10), fun ls => (Hf_barbicanlaw9_MapsArray_L0v2 y0 y1 y2 g0_0 g0_1 g0_2 g0_3 g0_4 g1_0 g1_1 g2_0 (.e1 c1_0 c1_1 c1_2 c1_3) (ls.take 10 ++ ls.drop 10)).take 10 ++ List.replicate 0 unb, fun ls => (Hf_barbicanlaw9_MapsArray_L0v2 y0 y1 y2 g0_0 g0_1 g0_2 g0_3 g0_4 g1_0 g1_1 g2_0 (.e1 c1_0 c1_1 c1_2 c1_3) (ls.take 10 ++ ls.drop 10)).drop 10⟩ :=
  spc_of_goesM hU 0 (k0 := 10) (go_barbicanlaw9_MapsArray_L0v2 hU y0 y1 y2 g0_0 g0_1 g0_2 g0_3 g0_4 g1_0 g1_1 g2_0 _ _ h) (t0_barbicanlaw9_MapsArray_L0v2_0 y0 y1 y2 g0_0 g0_1 g0_2 g0_3 g0_4 g1_0 g1_1 g2_0 s0_0) (pre_barbicanlaw9_MapsArray_L0v2_0 y0 y1 y2 g0_0 g0_1 g0_2 g0_3 g0_4 g1_0 g1_1 g2_0 s0_0) (fun _ => rfl) (fun ls h => by match ls, h with | [l0, l1, l2, l3, l4, l5, l6, l7, l8, l9], _ => exact ⟨by kernel_rfl, by kernel_rfl⟩) (fun ls h => by match ls, h with | [l0, l1, l2, l3, l4, l5, l6, l7, l8, l9], _ => rfl) (by decide) (by decide) (fun ls => rfl)
noncomputable def m_barbicanlaw9_MapsArray (y0 : Int) (y1 : BitVec 32) (y2 : BitVec 8) : Option (Bool) :=
  bif decide (y0 < 1) then
    (some true)
  else (bif decide (64 < y0) then
    (some true)
  else ((m_maps_New_v1 y0 (fun _ => ((⟨false, 0, false⟩ : Xr71), 0, fun _ => 0#8))).bind fun g0 => match g0 with
  | .e0 g0_0 g0_1 g0_2 g0_3 g0_4 => (bif BitVec.ult y1 (BitVec.ofInt 32 y0) then
      ((m_maps_Map_Update_v2 4 (fun k => if k = 0 then (y1.setWidth 8) else if k = 1 then ((y1 >>> 8).setWidth 8) else if k = 2 then ((y1 >>> 16).setWidth 8) else ((y1 >>> 24).setWidth 8)) 2 (fun k => if k = 0 then y2 else 1#8) (0#64) y0 g0_2 g0_0 g0_1 g0_3 g0_4).bind fun g1 => match g1 with
      | .e0 g1_0 g1_1 => ((m_maps_Map_Delete 4 (fun k => if k = 0 then (y1.setWidth 8) else if k = 1 then ((y1 >>> 8).setWidth 8) else if k = 2 then ((y1 >>> 16).setWidth 8) else ((y1 >>> 24).setWidth 8)) y0 g0_2 g0_0 g1_0 g0_3 g0_4).bind fun g2 => match g2 with
        | .e0 g2_0 =>
        bif true != (g1_1 == 0) then
          (some false)
        else (bif g2_0 == 95 then
          ((lpO (st_barbicanlaw9_MapsArray_L0 y0 y1 y2 g0_0 g0_2 g0_3 g0_4 g1_0) (.c0 0)).bind fun g3 => match g3 with
          | .e0 g3_0 g3_1 g3_2 g3_3 => (some true)
          | .e1 g3_0 g3_1 g3_2 g3_3 => (some false))
        else (some false)))
      | .e1 g1_0 g1_1 g1_2 => ((m_maps_Map_Delete 4 (fun k => if k = 0 then (y1.setWidth 8) else if k = 1 then ((y1 >>> 8).setWidth 8) else if k = 2 then ((y1 >>> 16).setWidth 8) else ((y1 >>> 24).setWidth 8)) y0 g1_1 (g0_0 + 1) g1_0 (g0_3 + 1) g1_2).bind fun g2 => match g2 with
        | .e0 g2_0 =>
        bif g2_0 == 95 then
          ((lpO (st_barbicanlaw9_MapsArray_L0v1 y0 y1 y2 g0_0 g0_3 g1_0 g1_1 g1_2) (.c0 0)).bind fun g3 => match g3 with
          | .e0 g3_0 g3_1 g3_2 g3_3 => (some true)
          | .e1 g3_0 g3_1 g3_2 g3_3 => (some false))
        else (some false)))
    else ((m_maps_Map_Update_v2 4 (fun k => if k = 0 then (y1.setWidth 8) else if k = 1 then ((y1 >>> 8).setWidth 8) else if k = 2 then ((y1 >>> 16).setWidth 8) else ((y1 >>> 24).setWidth 8)) 2 (fun k => if k = 0 then y2 else 1#8) (0#64) y0 g0_2 g0_0 g0_1 g0_3 g0_4).bind fun g1 => match g1 with
    | .e0 g1_0 g1_1 => ((m_maps_Map_Delete 4 (fun k => if k = 0 then (y1.setWidth 8) else if k = 1 then ((y1 >>> 8).setWidth 8) else if k = 2 then ((y1 >>> 16).setWidth 8) else ((y1 >>> 24).setWidth 8)) y0 g0_2 g0_0 g1_0 g0_3 g0_4).bind fun g2 => match g2 with
      | .e0 g2_0 =>
      bif false != (g1_1 == 0) then
        (some false)
      else (bif g1_1 == 93 then
        (bif g2_0 == 95 then
          ((lpO (st_barbicanlaw9_MapsArray_L0v2 y0 y1 y2 g0_0 g0_2 g0_3 g0_4 g1_0) (.c0 0)).bind fun g3 => match g3 with
          | .e0 g3_0 g3_1 g3_2 g3_3 => (some true)
          | .e1 g3_0 g3_1 g3_2 g3_3 => (some false))
        else (some false))
      else (some false)))
    | .e1 g1_0 g1_1 g1_2 => ((m_maps_Map_Delete 4 (fun k => if k = 0 then (y1.setWidth 8) else if k = 1 then ((y1 >>> 8).setWidth 8) else if k = 2 then ((y1 >>> 16).setWidth 8) else ((y1 >>> 24).setWidth 8)) y0 g1_1 (g0_0 + 1) g1_0 (g0_3 + 1) g1_2).bind fun g2 => match g2 with
      | .e0 g2_0 =>
      some false)))
  | .e1  => (some false)))
end

end Go.Proofs.Ytchogpgifdkhbaa
