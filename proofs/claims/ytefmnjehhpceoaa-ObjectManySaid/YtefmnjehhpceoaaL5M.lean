/-
  The law on many maps and programs, by the program's text.
-/
import Derived.Test.YtefmnjehhpceoaaL5K
import Derived.Test.YtefmnjehhpceoaaRyQ
namespace Go.Proofs.Ytefmnjehhpceoaa
open Go.RowKit
set_option linter.unusedVariables false
set_option linter.unusedSimpArgs false
set_option linter.unusedSectionVars false
set_option maxRecDepth 100000
set_option maxHeartbeats 4000000
noncomputable def zr24 : Value := (Try.prog.info? 29).bind TypeInfo.zero |>.getD undef
theorem rt24 : RowT Try.prog 24 29 ((Try.prog.info? 29).getD default) zr24 6 48 := ⟨by kernel_rfl, by kernel_rfl, by kernel_rfl, by kernel_rfl, by kernel_rfl, by kernel_rfl, by decide⟩
structure MapDef where
  fKind : Int
  fKey : Int
  fValue : Int
  fEntries : Int
  fTimer : Bool
  fType : Int
abbrev c_MapDef (x : MapDef) : List Value := [.int .i64 (x.fKind), .int .i64 (x.fKey), .int .i64 (x.fValue), .int .i64 (x.fEntries), .bool (x.fTimer), .int .i64 (x.fType)]
def v_MapDef (x : MapDef) : Value := .agg #[.int .i64 (x.fKind), .int .i64 (x.fKey), .int .i64 (x.fValue), .int .i64 (x.fEntries), .bool (x.fTimer), .int .i64 (x.fType)]
theorem c_MapDef_len (x : MapDef) : (c_MapDef x).length = 6 := rfl
theorem c_MapDef_one (x : MapDef) : ((c_MapDef x).all fun u => u.oneCell') = true := rfl
section
variable {M : Nat → Prop} {B0 : Nat} {S : World → Prop} (hU : Up M B0 S)
include hU
theorem ok_btf_tooMany_v2 : ConG Try.prog S 22 #[.slice none 0 0] (.bool false) :=
  fn_conG hU (P := Try.prog) Try.func22 (fun xs w => by kernel_rfl) [.slice none 0 0] (.bool false)
    [.o, .o, .o, .o, .o, .o, .o, .o, .o]
    [] (fun b => by kernel_rfl)
theorem ok_btf_holdsItself_v2 : ConG Try.prog S 24 #[.slice none 0 0] (.int .i64 (0)) :=
  fn_conG hU (P := Try.prog) Try.func24 (fun xs w => by kernel_rfl) [.slice none 0 0] (.int .i64 (0))
    [.o, .o, .o, .a 1, .a 1, .a 0, .o, .o, .o]
    [] (fun b => by kernel_rfl)
theorem ok_btf_Check_v2 : ConG Try.prog S 9 #[.slice none 0 0] (.tuple #[.int .i64 (0), .int .i64 (0)]) :=
  fn_conG hU (P := Try.prog) Try.func9 (fun xs w => by kernel_rfl) [.slice none 0 0] (.tuple #[.int .i64 (0), .int .i64 (0)])
    [.o, .o, .o, .cg (ok_btf_tooMany_v2 hU  ), .o, .o, .o, .o, .o, .o, .o, .cg (ok_btf_holdsItself_v2 hU  ), .o, .o, .o, .o, .o, .o, .o, .o, .o, .o, .o, .o, .o]
    [] (fun b => by kernel_rfl)
theorem ok_object_Check_v2 : ConG Try.prog S 5 #[.agg #[.slice none 0 0, .slice none 0 0, .slice none 0 0]] (.tuple #[.int .i64 (0), .int .i64 (52)]) :=
  fn_conG hU (P := Try.prog) Try.func5 (fun xs w => by kernel_rfl) [.agg #[.slice none 0 0, .slice none 0 0, .slice none 0 0]] (.tuple #[.int .i64 (0), .int .i64 (52)])
    [.o, .o, .o, .o, .a 0, .cg (ok_btf_Check_v2 hU  ), .o, .o, .o, .o, .o, .o, .o, .o, .a 0, .o, .o, .o, .o, .a 0, .o, .o, .o, .o, .o, .o]
    [] (fun b => by kernel_rfl)
def sq0_btf_tooMany_v3   : Spc := ⟨fun ls => .call 22 #[.slice (some ⟨(lget ls 0).n, 0, none⟩) 1 1], fun ls => [.cells #[.int .i64 (1), .string (⟨#[97]⟩ : ByteArray), .int .i64 (1), .bool false, .int .i64 (0), .int .i64 (0), .slice none 0 0] 74], 0, .normal, fun ls => [.bool false], fun ls => [.cells #[.int .i64 (1), .string (⟨#[97]⟩ : ByteArray), .int .i64 (1), .bool false, .int .i64 (0), .int .i64 (0), .slice none 0 0] 74], fun ls => []⟩
theorem p0_btf_tooMany_v3 : SpcG Try.prog M B0 S (sq0_btf_tooMany_v3  ) :=
  fn_specG hU (P := Try.prog) Try.func22 (fun xs w => by kernel_rfl) 1 _ _ (fun _ => rfl) _ _ _ []
    [.o, .o, .o, .o, .o, .o, .o, .o, .o, .a 0, .o, .a 1, .o, .a 1, .o, .o, .o, .o, .o, .o]
    [] (fun b => by kernel_rfl)
theorem ok_btf_isName_v1 : ConG Try.prog S 59 #[.string (⟨#[97]⟩ : ByteArray)] (.bool true) :=
  fn_conG hU (P := Try.prog) Try.func59 (fun xs w => by kernel_rfl) [.string (⟨#[97]⟩ : ByteArray)] (.bool true)
    [.o, .o, .o, .o, .o, .o, .o, .o, .o, .o, .o, .o, .o, .o, .o, .o, .o, .o, .o, .o, .o, .o, .o, .o, .o, .o, .o, .o, .o, .o, .o, .o, .o, .o, .o, .o, .o, .o, .o, .o]
    [] (fun b => by kernel_rfl)
def sq0_btf_rightName_v1   : Spc := ⟨fun ls => .call 38 #[.agg #[.int .i64 (1), .string (⟨#[97]⟩ : ByteArray), .int .i64 (1), .bool false, .int .i64 (0), .int .i64 (0), .slice none 0 0], .map (some (lget ls 0).n)], fun ls => [.map #[] 0], 0, .normal, fun ls => [.bool true], fun ls => [.map #[⟨.agg #[.int .i64 (1), .string (⟨#[97]⟩ : ByteArray)], .int .i64 (1), 0⟩] 1], fun ls => []⟩
theorem p0_btf_rightName_v1 : SpcG Try.prog M B0 S (sq0_btf_rightName_v1  ) :=
  fn_specG hU (P := Try.prog) Try.func38 (fun xs w => by kernel_rfl) 1 _ _ (fun _ => rfl) _ _ _ []
    [.o, .o, .o, .a 1, .o, .o, .o, .a 1, .o, .a 1, .o, .o, .a 2, .r [] [] [], .o, .a 2, .a 0, .o, .a 0, .o, .a 0, .o, .a 1, .cg (ok_btf_isName_v1 hU  ), .o, .o, .a 2, .a 0, .o, .o, .o]
    [] (fun b => by kernel_rfl)
theorem ok_btf_rightSize_v1 : ConG Try.prog S 39 #[.agg #[.int .i64 (1), .string (⟨#[97]⟩ : ByteArray), .int .i64 (1), .bool false, .int .i64 (0), .int .i64 (0), .slice none 0 0]] (.bool true) :=
  fn_conG hU (P := Try.prog) Try.func39 (fun xs w => by kernel_rfl) [.agg #[.int .i64 (1), .string (⟨#[97]⟩ : ByteArray), .int .i64 (1), .bool false, .int .i64 (0), .int .i64 (0), .slice none 0 0]] (.bool true)
    [.o, .o, .o, .a 0, .o, .o, .o, .a 0, .o, .o, .o, .o, .o, .o, .o, .o]
    [] (fun b => by kernel_rfl)
theorem ok_btf_rightMemberNames_v1 : ConG Try.prog S 40 #[.agg #[.int .i64 (1), .string (⟨#[97]⟩ : ByteArray), .int .i64 (1), .bool false, .int .i64 (0), .int .i64 (0), .slice none 0 0]] (.bool true) :=
  fn_conG hU (P := Try.prog) Try.func40 (fun xs w => by kernel_rfl) [.agg #[.int .i64 (1), .string (⟨#[97]⟩ : ByteArray), .int .i64 (1), .bool false, .int .i64 (0), .int .i64 (0), .slice none 0 0]] (.bool true)
    [.o, .o, .o, .o, .o, .a 0, .o, .o, .o, .o]
    [] (fun b => by kernel_rfl)
theorem ok_btf_rightReferences_v1 (y1 : Int) : ConG Try.prog S 41 #[.agg #[.int .i64 (1), .string (⟨#[97]⟩ : ByteArray), .int .i64 (1), .bool false, .int .i64 (0), .int .i64 (0), .slice none 0 0], .int .i64 (y1)] (.bool true) :=
  fn_conG hU (P := Try.prog) Try.func41 (fun xs w => by kernel_rfl) [.agg #[.int .i64 (1), .string (⟨#[97]⟩ : ByteArray), .int .i64 (1), .bool false, .int .i64 (0), .int .i64 (0), .slice none 0 0], .int .i64 (y1)] (.bool true)
    [.o, .o, .o, .o, .o, .o, .a 0, .o, .o, .o, .o, .o, .a 0, .o, .o, .o, .o, .a 0, .o, .o, .o, .o, .a 0, .o, .o, .o, .o]
    [] (fun b => by kernel_rfl)
theorem ok_btf_onlyOwnFields_v1 : ConG Try.prog S 42 #[.agg #[.int .i64 (1), .string (⟨#[97]⟩ : ByteArray), .int .i64 (1), .bool false, .int .i64 (0), .int .i64 (0), .slice none 0 0]] (.bool true) :=
  fn_conG hU (P := Try.prog) Try.func42 (fun xs w => by kernel_rfl) [.agg #[.int .i64 (1), .string (⟨#[97]⟩ : ByteArray), .int .i64 (1), .bool false, .int .i64 (0), .int .i64 (0), .slice none 0 0]] (.bool true)
    [.o, .o, .o, .a 0, .o, .o, .o, .o, .o, .a 0, .o, .o, .o, .a 0, .o, .o, .o, .o, .a 0, .o, .o, .o, .a 0, .o, .o, .o]
    [] (fun b => by kernel_rfl)
def sq0_btf_checkType_v1 (y1 : Int)  : Spc := ⟨fun ls => .call 23 #[.agg #[.int .i64 (1), .string (⟨#[97]⟩ : ByteArray), .int .i64 (1), .bool false, .int .i64 (0), .int .i64 (0), .slice none 0 0], .int .i64 (y1), .map (some (lget ls 0).n)], fun ls => [.map #[] 0], 0, .normal, fun ls => [.int .i64 (0)], fun ls => [.map #[⟨.agg #[.int .i64 (1), .string (⟨#[97]⟩ : ByteArray)], .int .i64 (1), 0⟩] 1], fun ls => []⟩
theorem p0_btf_checkType_v1 (y1 : Int) : SpcG Try.prog M B0 S (sq0_btf_checkType_v1 y1 ) :=
  fn_specG hU (P := Try.prog) Try.func23 (fun xs w => by kernel_rfl) 1 _ _ (fun _ => rfl) _ _ _ []
    [.o, .o, .o, .a 1, .o, .o, .o, .a 1, .o, .o, .o, .a 1, .o, .xg (p0_btf_rightName_v1 hU  ) [0], .o, .o, .a 1, .cg (ok_btf_rightSize_v1 hU  ), .o, .o, .a 1, .cg (ok_btf_rightMemberNames_v1 hU  ), .o, .o, .a 1, .o, .cg (ok_btf_rightReferences_v1 hU y1 ), .o, .o, .a 1, .cg (ok_btf_onlyOwnFields_v1 hU  ), .o, .o, .o, .o]
    [] (fun b => by kernel_rfl)
def sq0_btf_held_v1   : Spc := ⟨fun ls => .call 44 #[.agg #[.int .i64 (1), .string (⟨#[97]⟩ : ByteArray), .int .i64 (1), .bool false, .int .i64 (0), .int .i64 (0), .slice none 0 0]], fun ls => [], 0, .normal, fun ls => [.slice none 0 0], fun ls => [], fun ls => []⟩
theorem p0_btf_held_v1 : SpcG Try.prog M B0 S (sq0_btf_held_v1  ) :=
  fn_specG hU (P := Try.prog) Try.func44 (fun xs w => by kernel_rfl) 0 _ _ (fun _ => rfl) _ _ _ []
    [.o, .o, .o, .o, .a 0, .o, .o, .o, .o, .o, .o, .o, .o]
    [] (fun b => by kernel_rfl)
def sq0_btf_holdsItself_1_v1 (w0 : Nat → Bool)  : Spc := ⟨fun ls => .call 43 #[.int .i64 (1), .pointer (some ⟨(lget ls 0).n, 0, none⟩), .pointer (some ⟨(lget ls 2).n, 0, none⟩), .pointer (some ⟨(lget ls 3).n, 0, none⟩), .pointer (some ⟨(lget ls 4).n, 0, none⟩)], fun ls => [.cells #[.slice (some ⟨(lget ls 1).n, 0, none⟩) 1 1] 23, .cells #[.int .i64 (1), .string (⟨#[97]⟩ : ByteArray), .int .i64 (1), .bool false, .int .i64 (0), .int .i64 (0), .slice none 0 0] 74, .cells #[.int .i64 (1)] 3, .cells ⟨esG cB 257 w0⟩ 91, .cells #[.func (.func 43) #[] #[.pointer (some ⟨(lget ls 0).n, 0, none⟩), .pointer (some ⟨(lget ls 2).n, 0, none⟩), .pointer (some ⟨(lget ls 3).n, 0, none⟩), .pointer (some ⟨(lget ls 4).n, 0, none⟩)]] 92], 0, .normal, fun ls => [.bool false], fun ls => [.cells #[.slice (some ⟨(lget ls 1).n, 0, none⟩) 1 1] 23, .cells #[.int .i64 (1), .string (⟨#[97]⟩ : ByteArray), .int .i64 (1), .bool false, .int .i64 (0), .int .i64 (0), .slice none 0 0] 74, .cells #[.int .i64 (1)] 3, .cells ⟨esG cB 257 w0⟩ 91, .cells #[.func (.func 43) #[] #[.pointer (some ⟨(lget ls 0).n, 0, none⟩), .pointer (some ⟨(lget ls 2).n, 0, none⟩), .pointer (some ⟨(lget ls 3).n, 0, none⟩), .pointer (some ⟨(lget ls 4).n, 0, none⟩)]] 92], fun ls => []⟩
theorem p0_btf_holdsItself_1_v1 (w0 : Nat → Bool) : SpcG Try.prog M B0 S (sq0_btf_holdsItself_1_v1 w0 ) :=
  fn_specG hU (P := Try.prog) Try.func43 (fun xs w => by kernel_rfl) 5 _ _ (fun _ => rfl) _ _ _ []
    [.o, .a 0, .o, .o, .o, .a 1, .xg (p0_btf_held_v1 hU  ) [], .o, .o, .o, .o]
    [] (fun b => by kernel_rfl)
def sq0_btf_holdsItself_v3   : Spc := ⟨fun ls => .call 24 #[.slice (some ⟨(lget ls 0).n, 0, none⟩) 1 1], fun ls => [.cells #[.int .i64 (1), .string (⟨#[97]⟩ : ByteArray), .int .i64 (1), .bool false, .int .i64 (0), .int .i64 (0), .slice none 0 0] 74], 0, .normal, fun ls => [.int .i64 (0)], fun ls => [.cells #[.int .i64 (1), .string (⟨#[97]⟩ : ByteArray), .int .i64 (1), .bool false, .int .i64 (0), .int .i64 (0), .slice none 0 0] 74], fun ls => []⟩
theorem p0_btf_holdsItself_v3 : SpcG Try.prog M B0 S (sq0_btf_holdsItself_v3  ) :=
  fn_specG hU (P := Try.prog) Try.func24 (fun xs w => by kernel_rfl) 1 _ _ (fun _ => rfl) _ _ _ []
    [.o, .o, .o, .a 2, .a 2, .a 1, .o, .o, .o, .o, .o, .a 4, .a 4, .a 2, .xg (p0_btf_holdsItself_1_v1 hU (fun _ => false) ) [1, 0, 2, 3, 4], .a 2, .o, .a 5, .a 5, .o, .a 5, .a 5, .a 1, .o, .o, .o]
    [] (fun b => by kernel_rfl)
def sq0_btf_holdsFunction_v1   : Spc := ⟨fun ls => .call 25 #[.slice (some ⟨(lget ls 0).n, 0, none⟩) 1 1, .agg #[.int .i64 (1), .string (⟨#[97]⟩ : ByteArray), .int .i64 (1), .bool false, .int .i64 (0), .int .i64 (0), .slice none 0 0]], fun ls => [.cells #[.int .i64 (1), .string (⟨#[97]⟩ : ByteArray), .int .i64 (1), .bool false, .int .i64 (0), .int .i64 (0), .slice none 0 0] 74], 0, .normal, fun ls => [.bool false], fun ls => [.cells #[.int .i64 (1), .string (⟨#[97]⟩ : ByteArray), .int .i64 (1), .bool false, .int .i64 (0), .int .i64 (0), .slice none 0 0] 74], fun ls => []⟩
theorem p0_btf_holdsFunction_v1 : SpcG Try.prog M B0 S (sq0_btf_holdsFunction_v1  ) :=
  fn_specG hU (P := Try.prog) Try.func25 (fun xs w => by kernel_rfl) 1 _ _ (fun _ => rfl) _ _ _ []
    [.o, .o, .o, .a 1, .o, .o, .o, .o, .a 1, .o, .o, .o, .o]
    [] (fun b => by kernel_rfl)
def sq0_btf_fits_v1   : Spc := ⟨fun ls => .call 26 #[.slice (some ⟨(lget ls 0).n, 0, none⟩) 1 1, .int .i64 (1)], fun ls => [.cells #[.int .i64 (1), .string (⟨#[97]⟩ : ByteArray), .int .i64 (1), .bool false, .int .i64 (0), .int .i64 (0), .slice none 0 0] 74], 0, .normal, fun ls => [.bool true], fun ls => [.cells #[.int .i64 (1), .string (⟨#[97]⟩ : ByteArray), .int .i64 (1), .bool false, .int .i64 (0), .int .i64 (0), .slice none 0 0] 74], fun ls => []⟩
theorem p0_btf_fits_v1 : SpcG Try.prog M B0 S (sq0_btf_fits_v1  ) :=
  fn_specG hU (P := Try.prog) Try.func26 (fun xs w => by kernel_rfl) 1 _ _ (fun _ => rfl) _ _ _ []
    [.o, .o, .o, .o, .o, .a 0, .o, .a 1, .o, .a 1, .o, .o, .o, .o, .o]
    [] (fun b => by kernel_rfl)
def sq0_btf_Check_v3   : Spc := ⟨fun ls => .call 9 #[.slice (some ⟨(lget ls 0).n, 0, none⟩) 1 1], fun ls => [.cells #[.int .i64 (1), .string (⟨#[97]⟩ : ByteArray), .int .i64 (1), .bool false, .int .i64 (0), .int .i64 (0), .slice none 0 0] 74], 0, .normal, fun ls => [.tuple #[.int .i64 (0), .int .i64 (0)]], fun ls => [.cells #[.int .i64 (1), .string (⟨#[97]⟩ : ByteArray), .int .i64 (1), .bool false, .int .i64 (0), .int .i64 (0), .slice none 0 0] 74], fun ls => []⟩
theorem p0_btf_Check_v3 : SpcG Try.prog M B0 S (sq0_btf_Check_v3  ) :=
  fn_specG hU (P := Try.prog) Try.func9 (fun xs w => by kernel_rfl) 1 _ _ (fun _ => rfl) _ _ _ []
    [.o, .o, .o, .xg (p0_btf_tooMany_v3 hU  ) [0], .o, .o, .o, .o, .o, .o, .o, .o, .a 0, .o, .o, .a 2, .a 2, .o, .o, .o, .xg (p0_btf_checkType_v1 hU 1 ) [1], .o, .o, .o, .o, .o, .o, .o, .xg (p0_btf_holdsItself_v3 hU  ) [0], .o, .o, .o, .o, .o, .o, .o, .o, .o, .a 0, .o, .o, .a 3, .o, .a 3, .xg (p0_btf_holdsFunction_v1 hU  ) [0], .o, .o, .o, .o, .o, .o, .o, .o, .o, .o, .o, .o, .xg (p0_btf_fits_v1 hU  ) [0], .o, .o, .o, .o, .o, .o]
    [] (fun b => by kernel_rfl)
theorem ok_object_isName_v1 : ConG Try.prog S 11 #[.string (⟨#[97]⟩ : ByteArray)] (.bool true) :=
  fn_conG hU (P := Try.prog) Try.func11 (fun xs w => by kernel_rfl) [.string (⟨#[97]⟩ : ByteArray)] (.bool true)
    [.o, .o, .o, .o, .xg (p0_btf_Check_v3 hU  ) [0], .o, .o, .o, .o, .o, .o, .o, .o]
    [] (fun b => by kernel_rfl)
def sq0_insn_checkSlot_v2   : Spc := ⟨fun ls => .call 63 #[(rowV (lget ls 0) 2 5), .int .i64 (0)], fun ls => [rowO (lget ls 0) [.int .u8 (183), .int .u8 (0), .int .u8 (0), .int .i16 (0), .int .i32 (0), .int .u8 (149), .int .u8 (0), .int .u8 (0), .int .i16 (0), .int .i32 (0)] 32 2 5], 0, .normal, fun ls => [.int .i64 (0)], fun ls => [rowO (lget ls 0) [.int .u8 (183), .int .u8 (0), .int .u8 (0), .int .i16 (0), .int .i32 (0), .int .u8 (149), .int .u8 (0), .int .u8 (0), .int .i16 (0), .int .i32 (0)] 32 2 5], fun ls => []⟩
theorem p0_insn_checkSlot_v2 : SpcG Try.prog M B0 S (sq0_insn_checkSlot_v2  ) :=
  fn_specG hU (P := Try.prog) Try.func63 (fun xs w => by kernel_rfl) 1 _ _ (fun _ => rfl) _ _ _ []
    [.o, .o, .o, .o, .a 0, .o, .a 1, .a 1, .cg (ok_insn_known hU  ), .o, .o, .o, .a 1, .o, .o, .o, .a 1, .o, .o, .o, .o, .a 1, .o, .o, .o, .o, .o, .o, .a 1, .o, .o, .o, .o, .o, .a 1, .o, .o, .o, .o, .o, .o, .a 1, .cg (ok_insn_names hU  ), .o, .o, .o, .o]
    [] (fun b => by kernel_rfl)
def sq0_insn_checkSlot_v3   : Spc := ⟨fun ls => .call 63 #[(rowV (lget ls 0) 2 5), .int .i64 (1)], fun ls => [rowO (lget ls 0) [.int .u8 (183), .int .u8 (0), .int .u8 (0), .int .i16 (0), .int .i32 (0), .int .u8 (149), .int .u8 (0), .int .u8 (0), .int .i16 (0), .int .i32 (0)] 32 2 5], 0, .normal, fun ls => [.int .i64 (0)], fun ls => [rowO (lget ls 0) [.int .u8 (183), .int .u8 (0), .int .u8 (0), .int .i16 (0), .int .i32 (0), .int .u8 (149), .int .u8 (0), .int .u8 (0), .int .i16 (0), .int .i32 (0)] 32 2 5], fun ls => []⟩
theorem p0_insn_checkSlot_v3 : SpcG Try.prog M B0 S (sq0_insn_checkSlot_v3  ) :=
  fn_specG hU (P := Try.prog) Try.func63 (fun xs w => by kernel_rfl) 1 _ _ (fun _ => rfl) _ _ _ []
    [.o, .o, .o, .o, .a 0, .o, .a 1, .a 1, .cg (ok_insn_known_v1 hU  ), .o, .o, .o, .a 1, .o, .o, .o, .a 1, .o, .o, .o, .o, .a 1, .o, .o, .o, .o, .o, .o, .a 1, .o, .o, .o, .o, .o, .a 1, .o, .o, .o, .o, .o, .o, .a 1, .cg (ok_insn_names_v1 hU  ), .o, .o, .o, .o]
    [] (fun b => by kernel_rfl)
def sq0_insn_split_v1   : Spc := ⟨fun ls => .call 64 #[(rowV (lget ls 0) 2 5)], fun ls => [rowO (lget ls 0) [.int .u8 (183), .int .u8 (0), .int .u8 (0), .int .i16 (0), .int .i32 (0), .int .u8 (149), .int .u8 (0), .int .u8 (0), .int .i16 (0), .int .i32 (0)] 32 2 5], 1, .normal, fun ls => [(rowV (lget ls 1) 1 2)], fun ls => [rowO (lget ls 0) [.int .u8 (183), .int .u8 (0), .int .u8 (0), .int .i16 (0), .int .i32 (0), .int .u8 (149), .int .u8 (0), .int .u8 (0), .int .i16 (0), .int .i32 (0)] 32 2 5], fun ls => [rowO (lget ls 1) [.int .i64 (0), .int .i64 (2)] 101 1 2]⟩
theorem p0_insn_split_v1 : SpcG Try.prog M B0 S (sq0_insn_split_v1  ) :=
  fn_specG hU (P := Try.prog) Try.func64 (fun xs w => by kernel_rfl) 1 _ _ (fun _ => rfl) _ _ _ [3]
    [.o, .o, .q (ixA_ok (kd := .i64) (T := 123) (x := 0) (sz := 1) (N := 4096) rfl rfl (fun w => by kernel_rfl) (show inR 0 4096 = true from by decide)), .x (sqStF_ok (T := 4) (e := 123) (f := cB) (A := (fun _ => false)) (v := true) 0 (.bool true) cB_len cB_one rfl rfl (fun w => by kernel_rfl) (inR_nat (show inR 0 4096 = true from by decide))) [1], .o, .o, .o, .o, .o, .o, .o, .o, .a 0, .cg (ok_insn_names hU  ), .o, .o, .o, .o, .a 0, .cg (ok_op_Width hU  ), .o, .o, .o, .o, .o, .o, .o, .o, .o, .a 0, .cg (ok_insn_names_v1 hU  ), .o, .o, .o, .o, .a 0, .cg (ok_op_Width_v1 hU  ), .o, .o, .o, .o, .o, .o, .o, .o, .o, .o, .o, .o, .o, .o, .q (ixA_ok (kd := .i64) (T := 123) (x := 0) (sz := 1) (N := 4096) rfl rfl (fun w => by kernel_rfl) (show inR 0 4096 = true from by decide)), .l (accF (i := 1) (f := cB) (A := updF (fun _ => false) 0 true) (k := 0) 0 [.bool true] cB_len (inR_nat (show inR 0 4096 = true from by decide)) rfl), .o, .o, .o, .o, .x (sqAppL1_ok (ty := 97) rt97 #[false, false] (f := c_Part) (c := 1) (⟨0, 0⟩ : Part) (T' := 101) c_Part_len c_Part_one (by decide)) [2], .o, .o, .o, .o, .o, .o, .o, .o, .o, .a 3, .o, .o, .o, .o, .o, .o, .q (ixA_ok (kd := .i64) (T := 123) (x := 1) (sz := 1) (N := 4096) rfl rfl (fun w => by kernel_rfl) (show inR 1 4096 = true from by decide)), .l (accF (i := 1) (f := cB) (A := updF (fun _ => false) 0 true) (k := 1) 0 [.bool false] cB_len (inR_nat (show inR 1 4096 = true from by decide)) rfl), .o, .o, .o, .o, .o, .o, .o, .o, .a 3, .o, .o, .o, .o, .o]
    [] (fun b => by kernel_rfl)
def sq0_op_IsSecond_v1   : Spc := ⟨fun ls => .call 67 #[(rowV (lget ls 0) 2 5), .int .i64 (1)], fun ls => [rowO (lget ls 0) [.int .u8 (183), .int .u8 (0), .int .u8 (0), .int .i16 (0), .int .i32 (0), .int .u8 (149), .int .u8 (0), .int .u8 (0), .int .i16 (0), .int .i32 (0)] 32 2 5], 0, .normal, fun ls => [.bool false], fun ls => [rowO (lget ls 0) [.int .u8 (183), .int .u8 (0), .int .u8 (0), .int .i16 (0), .int .i32 (0), .int .u8 (149), .int .u8 (0), .int .u8 (0), .int .i16 (0), .int .i32 (0)] 32 2 5], fun ls => []⟩
theorem p0_op_IsSecond_v1 : SpcG Try.prog M B0 S (sq0_op_IsSecond_v1  ) :=
  fn_specG hU (P := Try.prog) Try.func67 (fun xs w => by kernel_rfl) 1 _ _ (fun _ => rfl) _ _ _ []
    [.o, .o, .o, .o, .o, .o, .o, .o, .o, .o, .o, .a 0, .o, .o, .o, .o, .o, .o, .o, .o]
    [] (fun b => by kernel_rfl)
def sq0_insn_ends_v1   : Spc := ⟨fun ls => .call 65 #[(rowV (lget ls 0) 2 5), .agg #[.int .i64 (0), .int .i64 (2)]], fun ls => [rowO (lget ls 0) [.int .u8 (183), .int .u8 (0), .int .u8 (0), .int .i16 (0), .int .i32 (0), .int .u8 (149), .int .u8 (0), .int .u8 (0), .int .i16 (0), .int .i32 (0)] 32 2 5], 0, .normal, fun ls => [.tuple #[.int .i64 (1), .bool true]], fun ls => [rowO (lget ls 0) [.int .u8 (183), .int .u8 (0), .int .u8 (0), .int .i16 (0), .int .i32 (0), .int .u8 (149), .int .u8 (0), .int .u8 (0), .int .i16 (0), .int .i32 (0)] 32 2 5], fun ls => []⟩
theorem p0_insn_ends_v1 : SpcG Try.prog M B0 S (sq0_insn_ends_v1  ) :=
  fn_specG hU (P := Try.prog) Try.func65 (fun xs w => by kernel_rfl) 1 _ _ (fun _ => rfl) _ _ _ []
    [.o, .o, .o, .o, .a 1, .o, .o, .o, .o, .xg (p0_op_IsSecond_v1 hU  ) [0], .r [0, 1, 2, 3, 4, 5, 6, 7, 8, 9, 10, 11, 12, 13, 14, 15, 16] [] [], .o, .o, .o, .o, .o, .a 0, .o, .o, .o, .o, .o]
    [] (fun b => by kernel_rfl)
def sq0_insn_Subs_v1   : Spc := ⟨fun ls => .call 48 #[(rowV (lget ls 0) 2 5)], fun ls => [rowO (lget ls 0) [.int .u8 (183), .int .u8 (0), .int .u8 (0), .int .i16 (0), .int .i32 (0), .int .u8 (149), .int .u8 (0), .int .u8 (0), .int .i16 (0), .int .i32 (0)] 32 2 5], 1, .normal, fun ls => [.tuple #[(rowV (lget ls 1) 1 2), .int .i64 (0), .int .i64 (0)]], fun ls => [rowO (lget ls 0) [.int .u8 (183), .int .u8 (0), .int .u8 (0), .int .i16 (0), .int .i32 (0), .int .u8 (149), .int .u8 (0), .int .u8 (0), .int .i16 (0), .int .i32 (0)] 32 2 5], fun ls => [rowO (lget ls 1) [.int .i64 (0), .int .i64 (2)] 101 1 2]⟩
theorem p0_insn_Subs_v1 : SpcG Try.prog M B0 S (sq0_insn_Subs_v1  ) :=
  fn_specG hU (P := Try.prog) Try.func48 (fun xs w => by kernel_rfl) 1 _ _ (fun _ => rfl) _ _ _ [1]
    [.o, .o, .o, .o, .o, .o, .o, .o, .o, .o, .o, .o, .o, .o, .o, .o, .o, .o, .xg (p0_insn_checkSlot_v2 hU  ) [0], .o, .o, .o, .o, .o, .o, .o, .a 0, .cg (ok_op_Width hU  ), .o, .o, .o, .o, .o, .o, .o, .o, .xg (p0_insn_checkSlot_v3 hU  ) [0], .o, .o, .o, .o, .o, .o, .o, .a 0, .cg (ok_op_Width_v1 hU  ), .o, .o, .o, .o, .o, .o, .o, .xg (p0_insn_split_v1 hU  ) [0], .o, .o, .o, .o, .o, .o, .o, .o, .o, .a 1, .o, .a 2, .o, .a 2, .xg (p0_insn_ends_v1 hU  ) [0], .o, .o, .o, .o, .o, .o, .o, .o, .o, .o, .o, .o, .o, .o]
    [] (fun b => by kernel_rfl)
def sq0_insn_jumpsStay_v1   : Spc := ⟨fun ls => .call 49 #[(rowV (lget ls 0) 2 5), .agg #[.int .i64 (0), .int .i64 (2)]], fun ls => [rowO (lget ls 0) [.int .u8 (183), .int .u8 (0), .int .u8 (0), .int .i16 (0), .int .i32 (0), .int .u8 (149), .int .u8 (0), .int .u8 (0), .int .i16 (0), .int .i32 (0)] 32 2 5], 0, .normal, fun ls => [.tuple #[.int .i64 (0), .bool true]], fun ls => [rowO (lget ls 0) [.int .u8 (183), .int .u8 (0), .int .u8 (0), .int .i16 (0), .int .i32 (0), .int .u8 (149), .int .u8 (0), .int .u8 (0), .int .i16 (0), .int .i32 (0)] 32 2 5], fun ls => []⟩
theorem p0_insn_jumpsStay_v1 : SpcG Try.prog M B0 S (sq0_insn_jumpsStay_v1  ) :=
  fn_specG hU (P := Try.prog) Try.func49 (fun xs w => by kernel_rfl) 1 _ _ (fun _ => rfl) _ _ _ []
    [.o, .o, .o, .o, .a 1, .o, .o, .o, .a 1, .o, .o, .o, .o, .a 0, .cg (ok_op_Jumps hU  ), .o, .o, .o, .o, .o, .a 0, .cg (ok_op_Width hU  ), .o, .o, .o, .o, .a 1, .o, .o, .o, .o, .a 0, .cg (ok_op_Jumps_v1 hU  ), .o, .o, .o, .o, .o, .a 0, .cg (ok_op_Width_v1 hU  ), .o, .o, .o, .o, .a 1, .o, .o, .o]
    [] (fun b => by kernel_rfl)
def sq0_insn_Check_v1   : Spc := ⟨fun ls => .call 30 #[(rowV (lget ls 0) 2 5)], fun ls => [rowO (lget ls 0) [.int .u8 (183), .int .u8 (0), .int .u8 (0), .int .i16 (0), .int .i32 (0), .int .u8 (149), .int .u8 (0), .int .u8 (0), .int .i16 (0), .int .i32 (0)] 32 2 5], 0, .normal, fun ls => [.tuple #[.int .i64 (0), .int .i64 (0)]], fun ls => [rowO (lget ls 0) [.int .u8 (183), .int .u8 (0), .int .u8 (0), .int .i16 (0), .int .i32 (0), .int .u8 (149), .int .u8 (0), .int .u8 (0), .int .i16 (0), .int .i32 (0)] 32 2 5], fun ls => []⟩
theorem p0_insn_Check_v1 : SpcG Try.prog M B0 S (sq0_insn_Check_v1  ) :=
  fn_specG hU (P := Try.prog) Try.func30 (fun xs w => by kernel_rfl) 1 _ _ (fun _ => rfl) _ _ _ []
    [.o, .o, .o, .xg (p0_insn_Subs_v1 hU  ) [0], .o, .o, .o, .o, .o, .o, .o, .o, .o, .o, .o, .o, .o, .o, .a 1, .o, .a 2, .o, .a 2, .xg (p0_insn_jumpsStay_v1 hU  ) [0], .o, .o, .o, .o, .o, .o, .o, .o, .o, .o, .o, .o]
    [] (fun b => by kernel_rfl)
def sq0_object_rightProg_v1 (y1 : Int)  : Spc := ⟨fun ls => .call 12 #[(rowV (lget ls 0) 2 5), .int .i64 (y1)], fun ls => [rowO (lget ls 0) [.int .u8 (183), .int .u8 (0), .int .u8 (0), .int .i16 (0), .int .i32 (0), .int .u8 (149), .int .u8 (0), .int .u8 (0), .int .i16 (0), .int .i32 (0)] 32 2 5], 0, .normal, fun ls => [.bool true], fun ls => [rowO (lget ls 0) [.int .u8 (183), .int .u8 (0), .int .u8 (0), .int .i16 (0), .int .i32 (0), .int .u8 (149), .int .u8 (0), .int .u8 (0), .int .i16 (0), .int .i32 (0)] 32 2 5], fun ls => []⟩
theorem p0_object_rightProg_v1 (y1 : Int) : SpcG Try.prog M B0 S (sq0_object_rightProg_v1 y1 ) :=
  fn_specG hU (P := Try.prog) Try.func12 (fun xs w => by kernel_rfl) 1 _ _ (fun _ => rfl) _ _ _ []
    [.o, .o, .xg (p0_insn_Check_v1 hU  ) [0], .o, .o, .o, .o, .o, .o, .o, .o, .o, .o, .o, .o, .a 0, .o, .a 1, .o, .a 1, .o, .o, .o, .o, .o, .o, .o, .o, .o, .a 0, .o, .a 2, .o, .a 2, .o, .o, .o, .o, .o, .o, .o, .o, .o]
    [] (fun b => by kernel_rfl)
def sq0_btf_tooMany_v4   : Spc := ⟨fun ls => .call 22 #[.slice (some ⟨(lget ls 0).n, 0, none⟩) 1 1], fun ls => [.cells #[.int .i64 (1), .string (⟨#[98]⟩ : ByteArray), .int .i64 (1), .bool false, .int .i64 (0), .int .i64 (0), .slice none 0 0] 74], 0, .normal, fun ls => [.bool false], fun ls => [.cells #[.int .i64 (1), .string (⟨#[98]⟩ : ByteArray), .int .i64 (1), .bool false, .int .i64 (0), .int .i64 (0), .slice none 0 0] 74], fun ls => []⟩
theorem p0_btf_tooMany_v4 : SpcG Try.prog M B0 S (sq0_btf_tooMany_v4  ) :=
  fn_specG hU (P := Try.prog) Try.func22 (fun xs w => by kernel_rfl) 1 _ _ (fun _ => rfl) _ _ _ []
    [.o, .o, .o, .o, .o, .o, .o, .o, .o, .a 0, .o, .a 1, .o, .a 1, .o, .o, .o, .o, .o, .o]
    [] (fun b => by kernel_rfl)
theorem ok_btf_isName_v2 : ConG Try.prog S 59 #[.string (⟨#[98]⟩ : ByteArray)] (.bool true) :=
  fn_conG hU (P := Try.prog) Try.func59 (fun xs w => by kernel_rfl) [.string (⟨#[98]⟩ : ByteArray)] (.bool true)
    [.o, .o, .o, .o, .o, .o, .o, .o, .o, .o, .o, .o, .o, .o, .o, .o, .o, .o, .o, .o, .o, .o, .o, .o, .o, .o, .o, .o, .o, .o, .o, .o, .o, .o, .o, .o, .o, .o, .o, .o]
    [] (fun b => by kernel_rfl)
def sq0_btf_rightName_v2   : Spc := ⟨fun ls => .call 38 #[.agg #[.int .i64 (1), .string (⟨#[98]⟩ : ByteArray), .int .i64 (1), .bool false, .int .i64 (0), .int .i64 (0), .slice none 0 0], .map (some (lget ls 0).n)], fun ls => [.map #[] 0], 0, .normal, fun ls => [.bool true], fun ls => [.map #[⟨.agg #[.int .i64 (1), .string (⟨#[98]⟩ : ByteArray)], .int .i64 (1), 0⟩] 1], fun ls => []⟩
theorem p0_btf_rightName_v2 : SpcG Try.prog M B0 S (sq0_btf_rightName_v2  ) :=
  fn_specG hU (P := Try.prog) Try.func38 (fun xs w => by kernel_rfl) 1 _ _ (fun _ => rfl) _ _ _ []
    [.o, .o, .o, .a 1, .o, .o, .o, .a 1, .o, .a 1, .o, .o, .a 2, .r [] [] [], .o, .a 2, .a 0, .o, .a 0, .o, .a 0, .o, .a 1, .cg (ok_btf_isName_v2 hU  ), .o, .o, .a 2, .a 0, .o, .o, .o]
    [] (fun b => by kernel_rfl)
theorem ok_btf_rightSize_v2 : ConG Try.prog S 39 #[.agg #[.int .i64 (1), .string (⟨#[98]⟩ : ByteArray), .int .i64 (1), .bool false, .int .i64 (0), .int .i64 (0), .slice none 0 0]] (.bool true) :=
  fn_conG hU (P := Try.prog) Try.func39 (fun xs w => by kernel_rfl) [.agg #[.int .i64 (1), .string (⟨#[98]⟩ : ByteArray), .int .i64 (1), .bool false, .int .i64 (0), .int .i64 (0), .slice none 0 0]] (.bool true)
    [.o, .o, .o, .a 0, .o, .o, .o, .a 0, .o, .o, .o, .o, .o, .o, .o, .o]
    [] (fun b => by kernel_rfl)
theorem ok_btf_rightMemberNames_v2 : ConG Try.prog S 40 #[.agg #[.int .i64 (1), .string (⟨#[98]⟩ : ByteArray), .int .i64 (1), .bool false, .int .i64 (0), .int .i64 (0), .slice none 0 0]] (.bool true) :=
  fn_conG hU (P := Try.prog) Try.func40 (fun xs w => by kernel_rfl) [.agg #[.int .i64 (1), .string (⟨#[98]⟩ : ByteArray), .int .i64 (1), .bool false, .int .i64 (0), .int .i64 (0), .slice none 0 0]] (.bool true)
    [.o, .o, .o, .o, .o, .a 0, .o, .o, .o, .o]
    [] (fun b => by kernel_rfl)
theorem ok_btf_rightReferences_v2 (y1 : Int) : ConG Try.prog S 41 #[.agg #[.int .i64 (1), .string (⟨#[98]⟩ : ByteArray), .int .i64 (1), .bool false, .int .i64 (0), .int .i64 (0), .slice none 0 0], .int .i64 (y1)] (.bool true) :=
  fn_conG hU (P := Try.prog) Try.func41 (fun xs w => by kernel_rfl) [.agg #[.int .i64 (1), .string (⟨#[98]⟩ : ByteArray), .int .i64 (1), .bool false, .int .i64 (0), .int .i64 (0), .slice none 0 0], .int .i64 (y1)] (.bool true)
    [.o, .o, .o, .o, .o, .o, .a 0, .o, .o, .o, .o, .o, .a 0, .o, .o, .o, .o, .a 0, .o, .o, .o, .o, .a 0, .o, .o, .o, .o]
    [] (fun b => by kernel_rfl)
theorem ok_btf_onlyOwnFields_v2 : ConG Try.prog S 42 #[.agg #[.int .i64 (1), .string (⟨#[98]⟩ : ByteArray), .int .i64 (1), .bool false, .int .i64 (0), .int .i64 (0), .slice none 0 0]] (.bool true) :=
  fn_conG hU (P := Try.prog) Try.func42 (fun xs w => by kernel_rfl) [.agg #[.int .i64 (1), .string (⟨#[98]⟩ : ByteArray), .int .i64 (1), .bool false, .int .i64 (0), .int .i64 (0), .slice none 0 0]] (.bool true)
    [.o, .o, .o, .a 0, .o, .o, .o, .o, .o, .a 0, .o, .o, .o, .a 0, .o, .o, .o, .o, .a 0, .o, .o, .o, .a 0, .o, .o, .o]
    [] (fun b => by kernel_rfl)
def sq0_btf_checkType_v2 (y1 : Int)  : Spc := ⟨fun ls => .call 23 #[.agg #[.int .i64 (1), .string (⟨#[98]⟩ : ByteArray), .int .i64 (1), .bool false, .int .i64 (0), .int .i64 (0), .slice none 0 0], .int .i64 (y1), .map (some (lget ls 0).n)], fun ls => [.map #[] 0], 0, .normal, fun ls => [.int .i64 (0)], fun ls => [.map #[⟨.agg #[.int .i64 (1), .string (⟨#[98]⟩ : ByteArray)], .int .i64 (1), 0⟩] 1], fun ls => []⟩
theorem p0_btf_checkType_v2 (y1 : Int) : SpcG Try.prog M B0 S (sq0_btf_checkType_v2 y1 ) :=
  fn_specG hU (P := Try.prog) Try.func23 (fun xs w => by kernel_rfl) 1 _ _ (fun _ => rfl) _ _ _ []
    [.o, .o, .o, .a 1, .o, .o, .o, .a 1, .o, .o, .o, .a 1, .o, .xg (p0_btf_rightName_v2 hU  ) [0], .o, .o, .a 1, .cg (ok_btf_rightSize_v2 hU  ), .o, .o, .a 1, .cg (ok_btf_rightMemberNames_v2 hU  ), .o, .o, .a 1, .o, .cg (ok_btf_rightReferences_v2 hU y1 ), .o, .o, .a 1, .cg (ok_btf_onlyOwnFields_v2 hU  ), .o, .o, .o, .o]
    [] (fun b => by kernel_rfl)
def sq0_btf_held_v2   : Spc := ⟨fun ls => .call 44 #[.agg #[.int .i64 (1), .string (⟨#[98]⟩ : ByteArray), .int .i64 (1), .bool false, .int .i64 (0), .int .i64 (0), .slice none 0 0]], fun ls => [], 0, .normal, fun ls => [.slice none 0 0], fun ls => [], fun ls => []⟩
theorem p0_btf_held_v2 : SpcG Try.prog M B0 S (sq0_btf_held_v2  ) :=
  fn_specG hU (P := Try.prog) Try.func44 (fun xs w => by kernel_rfl) 0 _ _ (fun _ => rfl) _ _ _ []
    [.o, .o, .o, .o, .a 0, .o, .o, .o, .o, .o, .o, .o, .o]
    [] (fun b => by kernel_rfl)
def sq0_btf_holdsItself_1_v2 (w0 : Nat → Bool)  : Spc := ⟨fun ls => .call 43 #[.int .i64 (1), .pointer (some ⟨(lget ls 0).n, 0, none⟩), .pointer (some ⟨(lget ls 2).n, 0, none⟩), .pointer (some ⟨(lget ls 3).n, 0, none⟩), .pointer (some ⟨(lget ls 4).n, 0, none⟩)], fun ls => [.cells #[.slice (some ⟨(lget ls 1).n, 0, none⟩) 1 1] 23, .cells #[.int .i64 (1), .string (⟨#[98]⟩ : ByteArray), .int .i64 (1), .bool false, .int .i64 (0), .int .i64 (0), .slice none 0 0] 74, .cells #[.int .i64 (1)] 3, .cells ⟨esG cB 257 w0⟩ 91, .cells #[.func (.func 43) #[] #[.pointer (some ⟨(lget ls 0).n, 0, none⟩), .pointer (some ⟨(lget ls 2).n, 0, none⟩), .pointer (some ⟨(lget ls 3).n, 0, none⟩), .pointer (some ⟨(lget ls 4).n, 0, none⟩)]] 92], 0, .normal, fun ls => [.bool false], fun ls => [.cells #[.slice (some ⟨(lget ls 1).n, 0, none⟩) 1 1] 23, .cells #[.int .i64 (1), .string (⟨#[98]⟩ : ByteArray), .int .i64 (1), .bool false, .int .i64 (0), .int .i64 (0), .slice none 0 0] 74, .cells #[.int .i64 (1)] 3, .cells ⟨esG cB 257 w0⟩ 91, .cells #[.func (.func 43) #[] #[.pointer (some ⟨(lget ls 0).n, 0, none⟩), .pointer (some ⟨(lget ls 2).n, 0, none⟩), .pointer (some ⟨(lget ls 3).n, 0, none⟩), .pointer (some ⟨(lget ls 4).n, 0, none⟩)]] 92], fun ls => []⟩
theorem p0_btf_holdsItself_1_v2 (w0 : Nat → Bool) : SpcG Try.prog M B0 S (sq0_btf_holdsItself_1_v2 w0 ) :=
  fn_specG hU (P := Try.prog) Try.func43 (fun xs w => by kernel_rfl) 5 _ _ (fun _ => rfl) _ _ _ []
    [.o, .a 0, .o, .o, .o, .a 1, .xg (p0_btf_held_v2 hU  ) [], .o, .o, .o, .o]
    [] (fun b => by kernel_rfl)
def sq0_btf_holdsItself_v4   : Spc := ⟨fun ls => .call 24 #[.slice (some ⟨(lget ls 0).n, 0, none⟩) 1 1], fun ls => [.cells #[.int .i64 (1), .string (⟨#[98]⟩ : ByteArray), .int .i64 (1), .bool false, .int .i64 (0), .int .i64 (0), .slice none 0 0] 74], 0, .normal, fun ls => [.int .i64 (0)], fun ls => [.cells #[.int .i64 (1), .string (⟨#[98]⟩ : ByteArray), .int .i64 (1), .bool false, .int .i64 (0), .int .i64 (0), .slice none 0 0] 74], fun ls => []⟩
theorem p0_btf_holdsItself_v4 : SpcG Try.prog M B0 S (sq0_btf_holdsItself_v4  ) :=
  fn_specG hU (P := Try.prog) Try.func24 (fun xs w => by kernel_rfl) 1 _ _ (fun _ => rfl) _ _ _ []
    [.o, .o, .o, .a 2, .a 2, .a 1, .o, .o, .o, .o, .o, .a 4, .a 4, .a 2, .xg (p0_btf_holdsItself_1_v2 hU (fun _ => false) ) [1, 0, 2, 3, 4], .a 2, .o, .a 5, .a 5, .o, .a 5, .a 5, .a 1, .o, .o, .o]
    [] (fun b => by kernel_rfl)
def sq0_btf_holdsFunction_v2   : Spc := ⟨fun ls => .call 25 #[.slice (some ⟨(lget ls 0).n, 0, none⟩) 1 1, .agg #[.int .i64 (1), .string (⟨#[98]⟩ : ByteArray), .int .i64 (1), .bool false, .int .i64 (0), .int .i64 (0), .slice none 0 0]], fun ls => [.cells #[.int .i64 (1), .string (⟨#[98]⟩ : ByteArray), .int .i64 (1), .bool false, .int .i64 (0), .int .i64 (0), .slice none 0 0] 74], 0, .normal, fun ls => [.bool false], fun ls => [.cells #[.int .i64 (1), .string (⟨#[98]⟩ : ByteArray), .int .i64 (1), .bool false, .int .i64 (0), .int .i64 (0), .slice none 0 0] 74], fun ls => []⟩
theorem p0_btf_holdsFunction_v2 : SpcG Try.prog M B0 S (sq0_btf_holdsFunction_v2  ) :=
  fn_specG hU (P := Try.prog) Try.func25 (fun xs w => by kernel_rfl) 1 _ _ (fun _ => rfl) _ _ _ []
    [.o, .o, .o, .a 1, .o, .o, .o, .o, .a 1, .o, .o, .o, .o]
    [] (fun b => by kernel_rfl)
def sq0_btf_fits_v2   : Spc := ⟨fun ls => .call 26 #[.slice (some ⟨(lget ls 0).n, 0, none⟩) 1 1, .int .i64 (1)], fun ls => [.cells #[.int .i64 (1), .string (⟨#[98]⟩ : ByteArray), .int .i64 (1), .bool false, .int .i64 (0), .int .i64 (0), .slice none 0 0] 74], 0, .normal, fun ls => [.bool true], fun ls => [.cells #[.int .i64 (1), .string (⟨#[98]⟩ : ByteArray), .int .i64 (1), .bool false, .int .i64 (0), .int .i64 (0), .slice none 0 0] 74], fun ls => []⟩
theorem p0_btf_fits_v2 : SpcG Try.prog M B0 S (sq0_btf_fits_v2  ) :=
  fn_specG hU (P := Try.prog) Try.func26 (fun xs w => by kernel_rfl) 1 _ _ (fun _ => rfl) _ _ _ []
    [.o, .o, .o, .o, .o, .a 0, .o, .a 1, .o, .a 1, .o, .o, .o, .o, .o]
    [] (fun b => by kernel_rfl)
def sq0_btf_Check_v4   : Spc := ⟨fun ls => .call 9 #[.slice (some ⟨(lget ls 0).n, 0, none⟩) 1 1], fun ls => [.cells #[.int .i64 (1), .string (⟨#[98]⟩ : ByteArray), .int .i64 (1), .bool false, .int .i64 (0), .int .i64 (0), .slice none 0 0] 74], 0, .normal, fun ls => [.tuple #[.int .i64 (0), .int .i64 (0)]], fun ls => [.cells #[.int .i64 (1), .string (⟨#[98]⟩ : ByteArray), .int .i64 (1), .bool false, .int .i64 (0), .int .i64 (0), .slice none 0 0] 74], fun ls => []⟩
theorem p0_btf_Check_v4 : SpcG Try.prog M B0 S (sq0_btf_Check_v4  ) :=
  fn_specG hU (P := Try.prog) Try.func9 (fun xs w => by kernel_rfl) 1 _ _ (fun _ => rfl) _ _ _ []
    [.o, .o, .o, .xg (p0_btf_tooMany_v4 hU  ) [0], .o, .o, .o, .o, .o, .o, .o, .o, .a 0, .o, .o, .a 2, .a 2, .o, .o, .o, .xg (p0_btf_checkType_v2 hU 1 ) [1], .o, .o, .o, .o, .o, .o, .o, .xg (p0_btf_holdsItself_v4 hU  ) [0], .o, .o, .o, .o, .o, .o, .o, .o, .o, .a 0, .o, .o, .a 3, .o, .a 3, .xg (p0_btf_holdsFunction_v2 hU  ) [0], .o, .o, .o, .o, .o, .o, .o, .o, .o, .o, .o, .o, .xg (p0_btf_fits_v2 hU  ) [0], .o, .o, .o, .o, .o, .o]
    [] (fun b => by kernel_rfl)
theorem ok_object_isName_v2 : ConG Try.prog S 11 #[.string (⟨#[98]⟩ : ByteArray)] (.bool true) :=
  fn_conG hU (P := Try.prog) Try.func11 (fun xs w => by kernel_rfl) [.string (⟨#[98]⟩ : ByteArray)] (.bool true)
    [.o, .o, .o, .o, .xg (p0_btf_Check_v4 hU  ) [0], .o, .o, .o, .o, .o, .o, .o, .o]
    [] (fun b => by kernel_rfl)
def sq0_btf_tooMany_v5   : Spc := ⟨fun ls => .call 22 #[.slice (some ⟨(lget ls 0).n, 0, none⟩) 1 1], fun ls => [.cells #[.int .i64 (1), .string (⟨#[99]⟩ : ByteArray), .int .i64 (1), .bool false, .int .i64 (0), .int .i64 (0), .slice none 0 0] 74], 0, .normal, fun ls => [.bool false], fun ls => [.cells #[.int .i64 (1), .string (⟨#[99]⟩ : ByteArray), .int .i64 (1), .bool false, .int .i64 (0), .int .i64 (0), .slice none 0 0] 74], fun ls => []⟩
theorem p0_btf_tooMany_v5 : SpcG Try.prog M B0 S (sq0_btf_tooMany_v5  ) :=
  fn_specG hU (P := Try.prog) Try.func22 (fun xs w => by kernel_rfl) 1 _ _ (fun _ => rfl) _ _ _ []
    [.o, .o, .o, .o, .o, .o, .o, .o, .o, .a 0, .o, .a 1, .o, .a 1, .o, .o, .o, .o, .o, .o]
    [] (fun b => by kernel_rfl)
theorem ok_btf_isName_v3 : ConG Try.prog S 59 #[.string (⟨#[99]⟩ : ByteArray)] (.bool true) :=
  fn_conG hU (P := Try.prog) Try.func59 (fun xs w => by kernel_rfl) [.string (⟨#[99]⟩ : ByteArray)] (.bool true)
    [.o, .o, .o, .o, .o, .o, .o, .o, .o, .o, .o, .o, .o, .o, .o, .o, .o, .o, .o, .o, .o, .o, .o, .o, .o, .o, .o, .o, .o, .o, .o, .o, .o, .o, .o, .o, .o, .o, .o, .o]
    [] (fun b => by kernel_rfl)
def sq0_btf_rightName_v3   : Spc := ⟨fun ls => .call 38 #[.agg #[.int .i64 (1), .string (⟨#[99]⟩ : ByteArray), .int .i64 (1), .bool false, .int .i64 (0), .int .i64 (0), .slice none 0 0], .map (some (lget ls 0).n)], fun ls => [.map #[] 0], 0, .normal, fun ls => [.bool true], fun ls => [.map #[⟨.agg #[.int .i64 (1), .string (⟨#[99]⟩ : ByteArray)], .int .i64 (1), 0⟩] 1], fun ls => []⟩
theorem p0_btf_rightName_v3 : SpcG Try.prog M B0 S (sq0_btf_rightName_v3  ) :=
  fn_specG hU (P := Try.prog) Try.func38 (fun xs w => by kernel_rfl) 1 _ _ (fun _ => rfl) _ _ _ []
    [.o, .o, .o, .a 1, .o, .o, .o, .a 1, .o, .a 1, .o, .o, .a 2, .r [] [] [], .o, .a 2, .a 0, .o, .a 0, .o, .a 0, .o, .a 1, .cg (ok_btf_isName_v3 hU  ), .o, .o, .a 2, .a 0, .o, .o, .o]
    [] (fun b => by kernel_rfl)
theorem ok_btf_rightSize_v3 : ConG Try.prog S 39 #[.agg #[.int .i64 (1), .string (⟨#[99]⟩ : ByteArray), .int .i64 (1), .bool false, .int .i64 (0), .int .i64 (0), .slice none 0 0]] (.bool true) :=
  fn_conG hU (P := Try.prog) Try.func39 (fun xs w => by kernel_rfl) [.agg #[.int .i64 (1), .string (⟨#[99]⟩ : ByteArray), .int .i64 (1), .bool false, .int .i64 (0), .int .i64 (0), .slice none 0 0]] (.bool true)
    [.o, .o, .o, .a 0, .o, .o, .o, .a 0, .o, .o, .o, .o, .o, .o, .o, .o]
    [] (fun b => by kernel_rfl)
theorem ok_btf_rightMemberNames_v3 : ConG Try.prog S 40 #[.agg #[.int .i64 (1), .string (⟨#[99]⟩ : ByteArray), .int .i64 (1), .bool false, .int .i64 (0), .int .i64 (0), .slice none 0 0]] (.bool true) :=
  fn_conG hU (P := Try.prog) Try.func40 (fun xs w => by kernel_rfl) [.agg #[.int .i64 (1), .string (⟨#[99]⟩ : ByteArray), .int .i64 (1), .bool false, .int .i64 (0), .int .i64 (0), .slice none 0 0]] (.bool true)
    [.o, .o, .o, .o, .o, .a 0, .o, .o, .o, .o]
    [] (fun b => by kernel_rfl)
theorem ok_btf_rightReferences_v3 (y1 : Int) : ConG Try.prog S 41 #[.agg #[.int .i64 (1), .string (⟨#[99]⟩ : ByteArray), .int .i64 (1), .bool false, .int .i64 (0), .int .i64 (0), .slice none 0 0], .int .i64 (y1)] (.bool true) :=
  fn_conG hU (P := Try.prog) Try.func41 (fun xs w => by kernel_rfl) [.agg #[.int .i64 (1), .string (⟨#[99]⟩ : ByteArray), .int .i64 (1), .bool false, .int .i64 (0), .int .i64 (0), .slice none 0 0], .int .i64 (y1)] (.bool true)
    [.o, .o, .o, .o, .o, .o, .a 0, .o, .o, .o, .o, .o, .a 0, .o, .o, .o, .o, .a 0, .o, .o, .o, .o, .a 0, .o, .o, .o, .o]
    [] (fun b => by kernel_rfl)
theorem ok_btf_onlyOwnFields_v3 : ConG Try.prog S 42 #[.agg #[.int .i64 (1), .string (⟨#[99]⟩ : ByteArray), .int .i64 (1), .bool false, .int .i64 (0), .int .i64 (0), .slice none 0 0]] (.bool true) :=
  fn_conG hU (P := Try.prog) Try.func42 (fun xs w => by kernel_rfl) [.agg #[.int .i64 (1), .string (⟨#[99]⟩ : ByteArray), .int .i64 (1), .bool false, .int .i64 (0), .int .i64 (0), .slice none 0 0]] (.bool true)
    [.o, .o, .o, .a 0, .o, .o, .o, .o, .o, .a 0, .o, .o, .o, .a 0, .o, .o, .o, .o, .a 0, .o, .o, .o, .a 0, .o, .o, .o]
    [] (fun b => by kernel_rfl)
def sq0_btf_checkType_v3 (y1 : Int)  : Spc := ⟨fun ls => .call 23 #[.agg #[.int .i64 (1), .string (⟨#[99]⟩ : ByteArray), .int .i64 (1), .bool false, .int .i64 (0), .int .i64 (0), .slice none 0 0], .int .i64 (y1), .map (some (lget ls 0).n)], fun ls => [.map #[] 0], 0, .normal, fun ls => [.int .i64 (0)], fun ls => [.map #[⟨.agg #[.int .i64 (1), .string (⟨#[99]⟩ : ByteArray)], .int .i64 (1), 0⟩] 1], fun ls => []⟩
theorem p0_btf_checkType_v3 (y1 : Int) : SpcG Try.prog M B0 S (sq0_btf_checkType_v3 y1 ) :=
  fn_specG hU (P := Try.prog) Try.func23 (fun xs w => by kernel_rfl) 1 _ _ (fun _ => rfl) _ _ _ []
    [.o, .o, .o, .a 1, .o, .o, .o, .a 1, .o, .o, .o, .a 1, .o, .xg (p0_btf_rightName_v3 hU  ) [0], .o, .o, .a 1, .cg (ok_btf_rightSize_v3 hU  ), .o, .o, .a 1, .cg (ok_btf_rightMemberNames_v3 hU  ), .o, .o, .a 1, .o, .cg (ok_btf_rightReferences_v3 hU y1 ), .o, .o, .a 1, .cg (ok_btf_onlyOwnFields_v3 hU  ), .o, .o, .o, .o]
    [] (fun b => by kernel_rfl)
def sq0_btf_held_v3   : Spc := ⟨fun ls => .call 44 #[.agg #[.int .i64 (1), .string (⟨#[99]⟩ : ByteArray), .int .i64 (1), .bool false, .int .i64 (0), .int .i64 (0), .slice none 0 0]], fun ls => [], 0, .normal, fun ls => [.slice none 0 0], fun ls => [], fun ls => []⟩
theorem p0_btf_held_v3 : SpcG Try.prog M B0 S (sq0_btf_held_v3  ) :=
  fn_specG hU (P := Try.prog) Try.func44 (fun xs w => by kernel_rfl) 0 _ _ (fun _ => rfl) _ _ _ []
    [.o, .o, .o, .o, .a 0, .o, .o, .o, .o, .o, .o, .o, .o]
    [] (fun b => by kernel_rfl)
def sq0_btf_holdsItself_1_v3 (w0 : Nat → Bool)  : Spc := ⟨fun ls => .call 43 #[.int .i64 (1), .pointer (some ⟨(lget ls 0).n, 0, none⟩), .pointer (some ⟨(lget ls 2).n, 0, none⟩), .pointer (some ⟨(lget ls 3).n, 0, none⟩), .pointer (some ⟨(lget ls 4).n, 0, none⟩)], fun ls => [.cells #[.slice (some ⟨(lget ls 1).n, 0, none⟩) 1 1] 23, .cells #[.int .i64 (1), .string (⟨#[99]⟩ : ByteArray), .int .i64 (1), .bool false, .int .i64 (0), .int .i64 (0), .slice none 0 0] 74, .cells #[.int .i64 (1)] 3, .cells ⟨esG cB 257 w0⟩ 91, .cells #[.func (.func 43) #[] #[.pointer (some ⟨(lget ls 0).n, 0, none⟩), .pointer (some ⟨(lget ls 2).n, 0, none⟩), .pointer (some ⟨(lget ls 3).n, 0, none⟩), .pointer (some ⟨(lget ls 4).n, 0, none⟩)]] 92], 0, .normal, fun ls => [.bool false], fun ls => [.cells #[.slice (some ⟨(lget ls 1).n, 0, none⟩) 1 1] 23, .cells #[.int .i64 (1), .string (⟨#[99]⟩ : ByteArray), .int .i64 (1), .bool false, .int .i64 (0), .int .i64 (0), .slice none 0 0] 74, .cells #[.int .i64 (1)] 3, .cells ⟨esG cB 257 w0⟩ 91, .cells #[.func (.func 43) #[] #[.pointer (some ⟨(lget ls 0).n, 0, none⟩), .pointer (some ⟨(lget ls 2).n, 0, none⟩), .pointer (some ⟨(lget ls 3).n, 0, none⟩), .pointer (some ⟨(lget ls 4).n, 0, none⟩)]] 92], fun ls => []⟩
theorem p0_btf_holdsItself_1_v3 (w0 : Nat → Bool) : SpcG Try.prog M B0 S (sq0_btf_holdsItself_1_v3 w0 ) :=
  fn_specG hU (P := Try.prog) Try.func43 (fun xs w => by kernel_rfl) 5 _ _ (fun _ => rfl) _ _ _ []
    [.o, .a 0, .o, .o, .o, .a 1, .xg (p0_btf_held_v3 hU  ) [], .o, .o, .o, .o]
    [] (fun b => by kernel_rfl)
def sq0_btf_holdsItself_v5   : Spc := ⟨fun ls => .call 24 #[.slice (some ⟨(lget ls 0).n, 0, none⟩) 1 1], fun ls => [.cells #[.int .i64 (1), .string (⟨#[99]⟩ : ByteArray), .int .i64 (1), .bool false, .int .i64 (0), .int .i64 (0), .slice none 0 0] 74], 0, .normal, fun ls => [.int .i64 (0)], fun ls => [.cells #[.int .i64 (1), .string (⟨#[99]⟩ : ByteArray), .int .i64 (1), .bool false, .int .i64 (0), .int .i64 (0), .slice none 0 0] 74], fun ls => []⟩
theorem p0_btf_holdsItself_v5 : SpcG Try.prog M B0 S (sq0_btf_holdsItself_v5  ) :=
  fn_specG hU (P := Try.prog) Try.func24 (fun xs w => by kernel_rfl) 1 _ _ (fun _ => rfl) _ _ _ []
    [.o, .o, .o, .a 2, .a 2, .a 1, .o, .o, .o, .o, .o, .a 4, .a 4, .a 2, .xg (p0_btf_holdsItself_1_v3 hU (fun _ => false) ) [1, 0, 2, 3, 4], .a 2, .o, .a 5, .a 5, .o, .a 5, .a 5, .a 1, .o, .o, .o]
    [] (fun b => by kernel_rfl)
def sq0_btf_holdsFunction_v3   : Spc := ⟨fun ls => .call 25 #[.slice (some ⟨(lget ls 0).n, 0, none⟩) 1 1, .agg #[.int .i64 (1), .string (⟨#[99]⟩ : ByteArray), .int .i64 (1), .bool false, .int .i64 (0), .int .i64 (0), .slice none 0 0]], fun ls => [.cells #[.int .i64 (1), .string (⟨#[99]⟩ : ByteArray), .int .i64 (1), .bool false, .int .i64 (0), .int .i64 (0), .slice none 0 0] 74], 0, .normal, fun ls => [.bool false], fun ls => [.cells #[.int .i64 (1), .string (⟨#[99]⟩ : ByteArray), .int .i64 (1), .bool false, .int .i64 (0), .int .i64 (0), .slice none 0 0] 74], fun ls => []⟩
theorem p0_btf_holdsFunction_v3 : SpcG Try.prog M B0 S (sq0_btf_holdsFunction_v3  ) :=
  fn_specG hU (P := Try.prog) Try.func25 (fun xs w => by kernel_rfl) 1 _ _ (fun _ => rfl) _ _ _ []
    [.o, .o, .o, .a 1, .o, .o, .o, .o, .a 1, .o, .o, .o, .o]
    [] (fun b => by kernel_rfl)
def sq0_btf_fits_v3   : Spc := ⟨fun ls => .call 26 #[.slice (some ⟨(lget ls 0).n, 0, none⟩) 1 1, .int .i64 (1)], fun ls => [.cells #[.int .i64 (1), .string (⟨#[99]⟩ : ByteArray), .int .i64 (1), .bool false, .int .i64 (0), .int .i64 (0), .slice none 0 0] 74], 0, .normal, fun ls => [.bool true], fun ls => [.cells #[.int .i64 (1), .string (⟨#[99]⟩ : ByteArray), .int .i64 (1), .bool false, .int .i64 (0), .int .i64 (0), .slice none 0 0] 74], fun ls => []⟩
theorem p0_btf_fits_v3 : SpcG Try.prog M B0 S (sq0_btf_fits_v3  ) :=
  fn_specG hU (P := Try.prog) Try.func26 (fun xs w => by kernel_rfl) 1 _ _ (fun _ => rfl) _ _ _ []
    [.o, .o, .o, .o, .o, .a 0, .o, .a 1, .o, .a 1, .o, .o, .o, .o, .o]
    [] (fun b => by kernel_rfl)
def sq0_btf_Check_v5   : Spc := ⟨fun ls => .call 9 #[.slice (some ⟨(lget ls 0).n, 0, none⟩) 1 1], fun ls => [.cells #[.int .i64 (1), .string (⟨#[99]⟩ : ByteArray), .int .i64 (1), .bool false, .int .i64 (0), .int .i64 (0), .slice none 0 0] 74], 0, .normal, fun ls => [.tuple #[.int .i64 (0), .int .i64 (0)]], fun ls => [.cells #[.int .i64 (1), .string (⟨#[99]⟩ : ByteArray), .int .i64 (1), .bool false, .int .i64 (0), .int .i64 (0), .slice none 0 0] 74], fun ls => []⟩
theorem p0_btf_Check_v5 : SpcG Try.prog M B0 S (sq0_btf_Check_v5  ) :=
  fn_specG hU (P := Try.prog) Try.func9 (fun xs w => by kernel_rfl) 1 _ _ (fun _ => rfl) _ _ _ []
    [.o, .o, .o, .xg (p0_btf_tooMany_v5 hU  ) [0], .o, .o, .o, .o, .o, .o, .o, .o, .a 0, .o, .o, .a 2, .a 2, .o, .o, .o, .xg (p0_btf_checkType_v3 hU 1 ) [1], .o, .o, .o, .o, .o, .o, .o, .xg (p0_btf_holdsItself_v5 hU  ) [0], .o, .o, .o, .o, .o, .o, .o, .o, .o, .a 0, .o, .o, .a 3, .o, .a 3, .xg (p0_btf_holdsFunction_v3 hU  ) [0], .o, .o, .o, .o, .o, .o, .o, .o, .o, .o, .o, .o, .xg (p0_btf_fits_v3 hU  ) [0], .o, .o, .o, .o, .o, .o]
    [] (fun b => by kernel_rfl)
theorem ok_object_isName_v3 : ConG Try.prog S 11 #[.string (⟨#[99]⟩ : ByteArray)] (.bool true) :=
  fn_conG hU (P := Try.prog) Try.func11 (fun xs w => by kernel_rfl) [.string (⟨#[99]⟩ : ByteArray)] (.bool true)
    [.o, .o, .o, .o, .xg (p0_btf_Check_v5 hU  ) [0], .o, .o, .o, .o, .o, .o, .o, .o]
    [] (fun b => by kernel_rfl)
def sq0_btf_tooMany_v6   : Spc := ⟨fun ls => .call 22 #[.slice (some ⟨(lget ls 0).n, 0, none⟩) 1 1], fun ls => [.cells #[.int .i64 (1), .string (⟨#[100]⟩ : ByteArray), .int .i64 (1), .bool false, .int .i64 (0), .int .i64 (0), .slice none 0 0] 74], 0, .normal, fun ls => [.bool false], fun ls => [.cells #[.int .i64 (1), .string (⟨#[100]⟩ : ByteArray), .int .i64 (1), .bool false, .int .i64 (0), .int .i64 (0), .slice none 0 0] 74], fun ls => []⟩
theorem p0_btf_tooMany_v6 : SpcG Try.prog M B0 S (sq0_btf_tooMany_v6  ) :=
  fn_specG hU (P := Try.prog) Try.func22 (fun xs w => by kernel_rfl) 1 _ _ (fun _ => rfl) _ _ _ []
    [.o, .o, .o, .o, .o, .o, .o, .o, .o, .a 0, .o, .a 1, .o, .a 1, .o, .o, .o, .o, .o, .o]
    [] (fun b => by kernel_rfl)
theorem ok_btf_isName_v4 : ConG Try.prog S 59 #[.string (⟨#[100]⟩ : ByteArray)] (.bool true) :=
  fn_conG hU (P := Try.prog) Try.func59 (fun xs w => by kernel_rfl) [.string (⟨#[100]⟩ : ByteArray)] (.bool true)
    [.o, .o, .o, .o, .o, .o, .o, .o, .o, .o, .o, .o, .o, .o, .o, .o, .o, .o, .o, .o, .o, .o, .o, .o, .o, .o, .o, .o, .o, .o, .o, .o, .o, .o, .o, .o, .o, .o, .o, .o]
    [] (fun b => by kernel_rfl)
def sq0_btf_rightName_v4   : Spc := ⟨fun ls => .call 38 #[.agg #[.int .i64 (1), .string (⟨#[100]⟩ : ByteArray), .int .i64 (1), .bool false, .int .i64 (0), .int .i64 (0), .slice none 0 0], .map (some (lget ls 0).n)], fun ls => [.map #[] 0], 0, .normal, fun ls => [.bool true], fun ls => [.map #[⟨.agg #[.int .i64 (1), .string (⟨#[100]⟩ : ByteArray)], .int .i64 (1), 0⟩] 1], fun ls => []⟩
theorem p0_btf_rightName_v4 : SpcG Try.prog M B0 S (sq0_btf_rightName_v4  ) :=
  fn_specG hU (P := Try.prog) Try.func38 (fun xs w => by kernel_rfl) 1 _ _ (fun _ => rfl) _ _ _ []
    [.o, .o, .o, .a 1, .o, .o, .o, .a 1, .o, .a 1, .o, .o, .a 2, .r [] [] [], .o, .a 2, .a 0, .o, .a 0, .o, .a 0, .o, .a 1, .cg (ok_btf_isName_v4 hU  ), .o, .o, .a 2, .a 0, .o, .o, .o]
    [] (fun b => by kernel_rfl)
theorem ok_btf_rightSize_v4 : ConG Try.prog S 39 #[.agg #[.int .i64 (1), .string (⟨#[100]⟩ : ByteArray), .int .i64 (1), .bool false, .int .i64 (0), .int .i64 (0), .slice none 0 0]] (.bool true) :=
  fn_conG hU (P := Try.prog) Try.func39 (fun xs w => by kernel_rfl) [.agg #[.int .i64 (1), .string (⟨#[100]⟩ : ByteArray), .int .i64 (1), .bool false, .int .i64 (0), .int .i64 (0), .slice none 0 0]] (.bool true)
    [.o, .o, .o, .a 0, .o, .o, .o, .a 0, .o, .o, .o, .o, .o, .o, .o, .o]
    [] (fun b => by kernel_rfl)
theorem ok_btf_rightMemberNames_v4 : ConG Try.prog S 40 #[.agg #[.int .i64 (1), .string (⟨#[100]⟩ : ByteArray), .int .i64 (1), .bool false, .int .i64 (0), .int .i64 (0), .slice none 0 0]] (.bool true) :=
  fn_conG hU (P := Try.prog) Try.func40 (fun xs w => by kernel_rfl) [.agg #[.int .i64 (1), .string (⟨#[100]⟩ : ByteArray), .int .i64 (1), .bool false, .int .i64 (0), .int .i64 (0), .slice none 0 0]] (.bool true)
    [.o, .o, .o, .o, .o, .a 0, .o, .o, .o, .o]
    [] (fun b => by kernel_rfl)
theorem ok_btf_rightReferences_v4 (y1 : Int) : ConG Try.prog S 41 #[.agg #[.int .i64 (1), .string (⟨#[100]⟩ : ByteArray), .int .i64 (1), .bool false, .int .i64 (0), .int .i64 (0), .slice none 0 0], .int .i64 (y1)] (.bool true) :=
  fn_conG hU (P := Try.prog) Try.func41 (fun xs w => by kernel_rfl) [.agg #[.int .i64 (1), .string (⟨#[100]⟩ : ByteArray), .int .i64 (1), .bool false, .int .i64 (0), .int .i64 (0), .slice none 0 0], .int .i64 (y1)] (.bool true)
    [.o, .o, .o, .o, .o, .o, .a 0, .o, .o, .o, .o, .o, .a 0, .o, .o, .o, .o, .a 0, .o, .o, .o, .o, .a 0, .o, .o, .o, .o]
    [] (fun b => by kernel_rfl)
theorem ok_btf_onlyOwnFields_v4 : ConG Try.prog S 42 #[.agg #[.int .i64 (1), .string (⟨#[100]⟩ : ByteArray), .int .i64 (1), .bool false, .int .i64 (0), .int .i64 (0), .slice none 0 0]] (.bool true) :=
  fn_conG hU (P := Try.prog) Try.func42 (fun xs w => by kernel_rfl) [.agg #[.int .i64 (1), .string (⟨#[100]⟩ : ByteArray), .int .i64 (1), .bool false, .int .i64 (0), .int .i64 (0), .slice none 0 0]] (.bool true)
    [.o, .o, .o, .a 0, .o, .o, .o, .o, .o, .a 0, .o, .o, .o, .a 0, .o, .o, .o, .o, .a 0, .o, .o, .o, .a 0, .o, .o, .o]
    [] (fun b => by kernel_rfl)
def sq0_btf_checkType_v4 (y1 : Int)  : Spc := ⟨fun ls => .call 23 #[.agg #[.int .i64 (1), .string (⟨#[100]⟩ : ByteArray), .int .i64 (1), .bool false, .int .i64 (0), .int .i64 (0), .slice none 0 0], .int .i64 (y1), .map (some (lget ls 0).n)], fun ls => [.map #[] 0], 0, .normal, fun ls => [.int .i64 (0)], fun ls => [.map #[⟨.agg #[.int .i64 (1), .string (⟨#[100]⟩ : ByteArray)], .int .i64 (1), 0⟩] 1], fun ls => []⟩
theorem p0_btf_checkType_v4 (y1 : Int) : SpcG Try.prog M B0 S (sq0_btf_checkType_v4 y1 ) :=
  fn_specG hU (P := Try.prog) Try.func23 (fun xs w => by kernel_rfl) 1 _ _ (fun _ => rfl) _ _ _ []
    [.o, .o, .o, .a 1, .o, .o, .o, .a 1, .o, .o, .o, .a 1, .o, .xg (p0_btf_rightName_v4 hU  ) [0], .o, .o, .a 1, .cg (ok_btf_rightSize_v4 hU  ), .o, .o, .a 1, .cg (ok_btf_rightMemberNames_v4 hU  ), .o, .o, .a 1, .o, .cg (ok_btf_rightReferences_v4 hU y1 ), .o, .o, .a 1, .cg (ok_btf_onlyOwnFields_v4 hU  ), .o, .o, .o, .o]
    [] (fun b => by kernel_rfl)
def sq0_btf_held_v4   : Spc := ⟨fun ls => .call 44 #[.agg #[.int .i64 (1), .string (⟨#[100]⟩ : ByteArray), .int .i64 (1), .bool false, .int .i64 (0), .int .i64 (0), .slice none 0 0]], fun ls => [], 0, .normal, fun ls => [.slice none 0 0], fun ls => [], fun ls => []⟩
theorem p0_btf_held_v4 : SpcG Try.prog M B0 S (sq0_btf_held_v4  ) :=
  fn_specG hU (P := Try.prog) Try.func44 (fun xs w => by kernel_rfl) 0 _ _ (fun _ => rfl) _ _ _ []
    [.o, .o, .o, .o, .a 0, .o, .o, .o, .o, .o, .o, .o, .o]
    [] (fun b => by kernel_rfl)
def sq0_btf_holdsItself_1_v4 (w0 : Nat → Bool)  : Spc := ⟨fun ls => .call 43 #[.int .i64 (1), .pointer (some ⟨(lget ls 0).n, 0, none⟩), .pointer (some ⟨(lget ls 2).n, 0, none⟩), .pointer (some ⟨(lget ls 3).n, 0, none⟩), .pointer (some ⟨(lget ls 4).n, 0, none⟩)], fun ls => [.cells #[.slice (some ⟨(lget ls 1).n, 0, none⟩) 1 1] 23, .cells #[.int .i64 (1), .string (⟨#[100]⟩ : ByteArray), .int .i64 (1), .bool false, .int .i64 (0), .int .i64 (0), .slice none 0 0] 74, .cells #[.int .i64 (1)] 3, .cells ⟨esG cB 257 w0⟩ 91, .cells #[.func (.func 43) #[] #[.pointer (some ⟨(lget ls 0).n, 0, none⟩), .pointer (some ⟨(lget ls 2).n, 0, none⟩), .pointer (some ⟨(lget ls 3).n, 0, none⟩), .pointer (some ⟨(lget ls 4).n, 0, none⟩)]] 92], 0, .normal, fun ls => [.bool false], fun ls => [.cells #[.slice (some ⟨(lget ls 1).n, 0, none⟩) 1 1] 23, .cells #[.int .i64 (1), .string (⟨#[100]⟩ : ByteArray), .int .i64 (1), .bool false, .int .i64 (0), .int .i64 (0), .slice none 0 0] 74, .cells #[.int .i64 (1)] 3, .cells ⟨esG cB 257 w0⟩ 91, .cells #[.func (.func 43) #[] #[.pointer (some ⟨(lget ls 0).n, 0, none⟩), .pointer (some ⟨(lget ls 2).n, 0, none⟩), .pointer (some ⟨(lget ls 3).n, 0, none⟩), .pointer (some ⟨(lget ls 4).n, 0, none⟩)]] 92], fun ls => []⟩
theorem p0_btf_holdsItself_1_v4 (w0 : Nat → Bool) : SpcG Try.prog M B0 S (sq0_btf_holdsItself_1_v4 w0 ) :=
  fn_specG hU (P := Try.prog) Try.func43 (fun xs w => by kernel_rfl) 5 _ _ (fun _ => rfl) _ _ _ []
    [.o, .a 0, .o, .o, .o, .a 1, .xg (p0_btf_held_v4 hU  ) [], .o, .o, .o, .o]
    [] (fun b => by kernel_rfl)
def sq0_btf_holdsItself_v6   : Spc := ⟨fun ls => .call 24 #[.slice (some ⟨(lget ls 0).n, 0, none⟩) 1 1], fun ls => [.cells #[.int .i64 (1), .string (⟨#[100]⟩ : ByteArray), .int .i64 (1), .bool false, .int .i64 (0), .int .i64 (0), .slice none 0 0] 74], 0, .normal, fun ls => [.int .i64 (0)], fun ls => [.cells #[.int .i64 (1), .string (⟨#[100]⟩ : ByteArray), .int .i64 (1), .bool false, .int .i64 (0), .int .i64 (0), .slice none 0 0] 74], fun ls => []⟩
theorem p0_btf_holdsItself_v6 : SpcG Try.prog M B0 S (sq0_btf_holdsItself_v6  ) :=
  fn_specG hU (P := Try.prog) Try.func24 (fun xs w => by kernel_rfl) 1 _ _ (fun _ => rfl) _ _ _ []
    [.o, .o, .o, .a 2, .a 2, .a 1, .o, .o, .o, .o, .o, .a 4, .a 4, .a 2, .xg (p0_btf_holdsItself_1_v4 hU (fun _ => false) ) [1, 0, 2, 3, 4], .a 2, .o, .a 5, .a 5, .o, .a 5, .a 5, .a 1, .o, .o, .o]
    [] (fun b => by kernel_rfl)
def sq0_btf_holdsFunction_v4   : Spc := ⟨fun ls => .call 25 #[.slice (some ⟨(lget ls 0).n, 0, none⟩) 1 1, .agg #[.int .i64 (1), .string (⟨#[100]⟩ : ByteArray), .int .i64 (1), .bool false, .int .i64 (0), .int .i64 (0), .slice none 0 0]], fun ls => [.cells #[.int .i64 (1), .string (⟨#[100]⟩ : ByteArray), .int .i64 (1), .bool false, .int .i64 (0), .int .i64 (0), .slice none 0 0] 74], 0, .normal, fun ls => [.bool false], fun ls => [.cells #[.int .i64 (1), .string (⟨#[100]⟩ : ByteArray), .int .i64 (1), .bool false, .int .i64 (0), .int .i64 (0), .slice none 0 0] 74], fun ls => []⟩
theorem p0_btf_holdsFunction_v4 : SpcG Try.prog M B0 S (sq0_btf_holdsFunction_v4  ) :=
  fn_specG hU (P := Try.prog) Try.func25 (fun xs w => by kernel_rfl) 1 _ _ (fun _ => rfl) _ _ _ []
    [.o, .o, .o, .a 1, .o, .o, .o, .o, .a 1, .o, .o, .o, .o]
    [] (fun b => by kernel_rfl)
def sq0_btf_fits_v4   : Spc := ⟨fun ls => .call 26 #[.slice (some ⟨(lget ls 0).n, 0, none⟩) 1 1, .int .i64 (1)], fun ls => [.cells #[.int .i64 (1), .string (⟨#[100]⟩ : ByteArray), .int .i64 (1), .bool false, .int .i64 (0), .int .i64 (0), .slice none 0 0] 74], 0, .normal, fun ls => [.bool true], fun ls => [.cells #[.int .i64 (1), .string (⟨#[100]⟩ : ByteArray), .int .i64 (1), .bool false, .int .i64 (0), .int .i64 (0), .slice none 0 0] 74], fun ls => []⟩
theorem p0_btf_fits_v4 : SpcG Try.prog M B0 S (sq0_btf_fits_v4  ) :=
  fn_specG hU (P := Try.prog) Try.func26 (fun xs w => by kernel_rfl) 1 _ _ (fun _ => rfl) _ _ _ []
    [.o, .o, .o, .o, .o, .a 0, .o, .a 1, .o, .a 1, .o, .o, .o, .o, .o]
    [] (fun b => by kernel_rfl)
def sq0_btf_Check_v6   : Spc := ⟨fun ls => .call 9 #[.slice (some ⟨(lget ls 0).n, 0, none⟩) 1 1], fun ls => [.cells #[.int .i64 (1), .string (⟨#[100]⟩ : ByteArray), .int .i64 (1), .bool false, .int .i64 (0), .int .i64 (0), .slice none 0 0] 74], 0, .normal, fun ls => [.tuple #[.int .i64 (0), .int .i64 (0)]], fun ls => [.cells #[.int .i64 (1), .string (⟨#[100]⟩ : ByteArray), .int .i64 (1), .bool false, .int .i64 (0), .int .i64 (0), .slice none 0 0] 74], fun ls => []⟩
theorem p0_btf_Check_v6 : SpcG Try.prog M B0 S (sq0_btf_Check_v6  ) :=
  fn_specG hU (P := Try.prog) Try.func9 (fun xs w => by kernel_rfl) 1 _ _ (fun _ => rfl) _ _ _ []
    [.o, .o, .o, .xg (p0_btf_tooMany_v6 hU  ) [0], .o, .o, .o, .o, .o, .o, .o, .o, .a 0, .o, .o, .a 2, .a 2, .o, .o, .o, .xg (p0_btf_checkType_v4 hU 1 ) [1], .o, .o, .o, .o, .o, .o, .o, .xg (p0_btf_holdsItself_v6 hU  ) [0], .o, .o, .o, .o, .o, .o, .o, .o, .o, .a 0, .o, .o, .a 3, .o, .a 3, .xg (p0_btf_holdsFunction_v4 hU  ) [0], .o, .o, .o, .o, .o, .o, .o, .o, .o, .o, .o, .o, .xg (p0_btf_fits_v4 hU  ) [0], .o, .o, .o, .o, .o, .o]
    [] (fun b => by kernel_rfl)
theorem ok_object_isName_v4 : ConG Try.prog S 11 #[.string (⟨#[100]⟩ : ByteArray)] (.bool true) :=
  fn_conG hU (P := Try.prog) Try.func11 (fun xs w => by kernel_rfl) [.string (⟨#[100]⟩ : ByteArray)] (.bool true)
    [.o, .o, .o, .o, .xg (p0_btf_Check_v6 hU  ) [0], .o, .o, .o, .o, .o, .o, .o, .o]
    [] (fun b => by kernel_rfl)
def sq0_btf_tooMany_v7   : Spc := ⟨fun ls => .call 22 #[.slice (some ⟨(lget ls 0).n, 0, none⟩) 1 1], fun ls => [.cells #[.int .i64 (1), .string (⟨#[101]⟩ : ByteArray), .int .i64 (1), .bool false, .int .i64 (0), .int .i64 (0), .slice none 0 0] 74], 0, .normal, fun ls => [.bool false], fun ls => [.cells #[.int .i64 (1), .string (⟨#[101]⟩ : ByteArray), .int .i64 (1), .bool false, .int .i64 (0), .int .i64 (0), .slice none 0 0] 74], fun ls => []⟩
theorem p0_btf_tooMany_v7 : SpcG Try.prog M B0 S (sq0_btf_tooMany_v7  ) :=
  fn_specG hU (P := Try.prog) Try.func22 (fun xs w => by kernel_rfl) 1 _ _ (fun _ => rfl) _ _ _ []
    [.o, .o, .o, .o, .o, .o, .o, .o, .o, .a 0, .o, .a 1, .o, .a 1, .o, .o, .o, .o, .o, .o]
    [] (fun b => by kernel_rfl)
theorem ok_btf_isName_v5 : ConG Try.prog S 59 #[.string (⟨#[101]⟩ : ByteArray)] (.bool true) :=
  fn_conG hU (P := Try.prog) Try.func59 (fun xs w => by kernel_rfl) [.string (⟨#[101]⟩ : ByteArray)] (.bool true)
    [.o, .o, .o, .o, .o, .o, .o, .o, .o, .o, .o, .o, .o, .o, .o, .o, .o, .o, .o, .o, .o, .o, .o, .o, .o, .o, .o, .o, .o, .o, .o, .o, .o, .o, .o, .o, .o, .o, .o, .o]
    [] (fun b => by kernel_rfl)
def sq0_btf_rightName_v5   : Spc := ⟨fun ls => .call 38 #[.agg #[.int .i64 (1), .string (⟨#[101]⟩ : ByteArray), .int .i64 (1), .bool false, .int .i64 (0), .int .i64 (0), .slice none 0 0], .map (some (lget ls 0).n)], fun ls => [.map #[] 0], 0, .normal, fun ls => [.bool true], fun ls => [.map #[⟨.agg #[.int .i64 (1), .string (⟨#[101]⟩ : ByteArray)], .int .i64 (1), 0⟩] 1], fun ls => []⟩
theorem p0_btf_rightName_v5 : SpcG Try.prog M B0 S (sq0_btf_rightName_v5  ) :=
  fn_specG hU (P := Try.prog) Try.func38 (fun xs w => by kernel_rfl) 1 _ _ (fun _ => rfl) _ _ _ []
    [.o, .o, .o, .a 1, .o, .o, .o, .a 1, .o, .a 1, .o, .o, .a 2, .r [] [] [], .o, .a 2, .a 0, .o, .a 0, .o, .a 0, .o, .a 1, .cg (ok_btf_isName_v5 hU  ), .o, .o, .a 2, .a 0, .o, .o, .o]
    [] (fun b => by kernel_rfl)
theorem ok_btf_rightSize_v5 : ConG Try.prog S 39 #[.agg #[.int .i64 (1), .string (⟨#[101]⟩ : ByteArray), .int .i64 (1), .bool false, .int .i64 (0), .int .i64 (0), .slice none 0 0]] (.bool true) :=
  fn_conG hU (P := Try.prog) Try.func39 (fun xs w => by kernel_rfl) [.agg #[.int .i64 (1), .string (⟨#[101]⟩ : ByteArray), .int .i64 (1), .bool false, .int .i64 (0), .int .i64 (0), .slice none 0 0]] (.bool true)
    [.o, .o, .o, .a 0, .o, .o, .o, .a 0, .o, .o, .o, .o, .o, .o, .o, .o]
    [] (fun b => by kernel_rfl)
theorem ok_btf_rightMemberNames_v5 : ConG Try.prog S 40 #[.agg #[.int .i64 (1), .string (⟨#[101]⟩ : ByteArray), .int .i64 (1), .bool false, .int .i64 (0), .int .i64 (0), .slice none 0 0]] (.bool true) :=
  fn_conG hU (P := Try.prog) Try.func40 (fun xs w => by kernel_rfl) [.agg #[.int .i64 (1), .string (⟨#[101]⟩ : ByteArray), .int .i64 (1), .bool false, .int .i64 (0), .int .i64 (0), .slice none 0 0]] (.bool true)
    [.o, .o, .o, .o, .o, .a 0, .o, .o, .o, .o]
    [] (fun b => by kernel_rfl)
theorem ok_btf_rightReferences_v5 (y1 : Int) : ConG Try.prog S 41 #[.agg #[.int .i64 (1), .string (⟨#[101]⟩ : ByteArray), .int .i64 (1), .bool false, .int .i64 (0), .int .i64 (0), .slice none 0 0], .int .i64 (y1)] (.bool true) :=
  fn_conG hU (P := Try.prog) Try.func41 (fun xs w => by kernel_rfl) [.agg #[.int .i64 (1), .string (⟨#[101]⟩ : ByteArray), .int .i64 (1), .bool false, .int .i64 (0), .int .i64 (0), .slice none 0 0], .int .i64 (y1)] (.bool true)
    [.o, .o, .o, .o, .o, .o, .a 0, .o, .o, .o, .o, .o, .a 0, .o, .o, .o, .o, .a 0, .o, .o, .o, .o, .a 0, .o, .o, .o, .o]
    [] (fun b => by kernel_rfl)
theorem ok_btf_onlyOwnFields_v5 : ConG Try.prog S 42 #[.agg #[.int .i64 (1), .string (⟨#[101]⟩ : ByteArray), .int .i64 (1), .bool false, .int .i64 (0), .int .i64 (0), .slice none 0 0]] (.bool true) :=
  fn_conG hU (P := Try.prog) Try.func42 (fun xs w => by kernel_rfl) [.agg #[.int .i64 (1), .string (⟨#[101]⟩ : ByteArray), .int .i64 (1), .bool false, .int .i64 (0), .int .i64 (0), .slice none 0 0]] (.bool true)
    [.o, .o, .o, .a 0, .o, .o, .o, .o, .o, .a 0, .o, .o, .o, .a 0, .o, .o, .o, .o, .a 0, .o, .o, .o, .a 0, .o, .o, .o]
    [] (fun b => by kernel_rfl)
def sq0_btf_checkType_v5 (y1 : Int)  : Spc := ⟨fun ls => .call 23 #[.agg #[.int .i64 (1), .string (⟨#[101]⟩ : ByteArray), .int .i64 (1), .bool false, .int .i64 (0), .int .i64 (0), .slice none 0 0], .int .i64 (y1), .map (some (lget ls 0).n)], fun ls => [.map #[] 0], 0, .normal, fun ls => [.int .i64 (0)], fun ls => [.map #[⟨.agg #[.int .i64 (1), .string (⟨#[101]⟩ : ByteArray)], .int .i64 (1), 0⟩] 1], fun ls => []⟩
theorem p0_btf_checkType_v5 (y1 : Int) : SpcG Try.prog M B0 S (sq0_btf_checkType_v5 y1 ) :=
  fn_specG hU (P := Try.prog) Try.func23 (fun xs w => by kernel_rfl) 1 _ _ (fun _ => rfl) _ _ _ []
    [.o, .o, .o, .a 1, .o, .o, .o, .a 1, .o, .o, .o, .a 1, .o, .xg (p0_btf_rightName_v5 hU  ) [0], .o, .o, .a 1, .cg (ok_btf_rightSize_v5 hU  ), .o, .o, .a 1, .cg (ok_btf_rightMemberNames_v5 hU  ), .o, .o, .a 1, .o, .cg (ok_btf_rightReferences_v5 hU y1 ), .o, .o, .a 1, .cg (ok_btf_onlyOwnFields_v5 hU  ), .o, .o, .o, .o]
    [] (fun b => by kernel_rfl)
def sq0_btf_held_v5   : Spc := ⟨fun ls => .call 44 #[.agg #[.int .i64 (1), .string (⟨#[101]⟩ : ByteArray), .int .i64 (1), .bool false, .int .i64 (0), .int .i64 (0), .slice none 0 0]], fun ls => [], 0, .normal, fun ls => [.slice none 0 0], fun ls => [], fun ls => []⟩
theorem p0_btf_held_v5 : SpcG Try.prog M B0 S (sq0_btf_held_v5  ) :=
  fn_specG hU (P := Try.prog) Try.func44 (fun xs w => by kernel_rfl) 0 _ _ (fun _ => rfl) _ _ _ []
    [.o, .o, .o, .o, .a 0, .o, .o, .o, .o, .o, .o, .o, .o]
    [] (fun b => by kernel_rfl)
def sq0_btf_holdsItself_1_v5 (w0 : Nat → Bool)  : Spc := ⟨fun ls => .call 43 #[.int .i64 (1), .pointer (some ⟨(lget ls 0).n, 0, none⟩), .pointer (some ⟨(lget ls 2).n, 0, none⟩), .pointer (some ⟨(lget ls 3).n, 0, none⟩), .pointer (some ⟨(lget ls 4).n, 0, none⟩)], fun ls => [.cells #[.slice (some ⟨(lget ls 1).n, 0, none⟩) 1 1] 23, .cells #[.int .i64 (1), .string (⟨#[101]⟩ : ByteArray), .int .i64 (1), .bool false, .int .i64 (0), .int .i64 (0), .slice none 0 0] 74, .cells #[.int .i64 (1)] 3, .cells ⟨esG cB 257 w0⟩ 91, .cells #[.func (.func 43) #[] #[.pointer (some ⟨(lget ls 0).n, 0, none⟩), .pointer (some ⟨(lget ls 2).n, 0, none⟩), .pointer (some ⟨(lget ls 3).n, 0, none⟩), .pointer (some ⟨(lget ls 4).n, 0, none⟩)]] 92], 0, .normal, fun ls => [.bool false], fun ls => [.cells #[.slice (some ⟨(lget ls 1).n, 0, none⟩) 1 1] 23, .cells #[.int .i64 (1), .string (⟨#[101]⟩ : ByteArray), .int .i64 (1), .bool false, .int .i64 (0), .int .i64 (0), .slice none 0 0] 74, .cells #[.int .i64 (1)] 3, .cells ⟨esG cB 257 w0⟩ 91, .cells #[.func (.func 43) #[] #[.pointer (some ⟨(lget ls 0).n, 0, none⟩), .pointer (some ⟨(lget ls 2).n, 0, none⟩), .pointer (some ⟨(lget ls 3).n, 0, none⟩), .pointer (some ⟨(lget ls 4).n, 0, none⟩)]] 92], fun ls => []⟩
theorem p0_btf_holdsItself_1_v5 (w0 : Nat → Bool) : SpcG Try.prog M B0 S (sq0_btf_holdsItself_1_v5 w0 ) :=
  fn_specG hU (P := Try.prog) Try.func43 (fun xs w => by kernel_rfl) 5 _ _ (fun _ => rfl) _ _ _ []
    [.o, .a 0, .o, .o, .o, .a 1, .xg (p0_btf_held_v5 hU  ) [], .o, .o, .o, .o]
    [] (fun b => by kernel_rfl)
def sq0_btf_holdsItself_v7   : Spc := ⟨fun ls => .call 24 #[.slice (some ⟨(lget ls 0).n, 0, none⟩) 1 1], fun ls => [.cells #[.int .i64 (1), .string (⟨#[101]⟩ : ByteArray), .int .i64 (1), .bool false, .int .i64 (0), .int .i64 (0), .slice none 0 0] 74], 0, .normal, fun ls => [.int .i64 (0)], fun ls => [.cells #[.int .i64 (1), .string (⟨#[101]⟩ : ByteArray), .int .i64 (1), .bool false, .int .i64 (0), .int .i64 (0), .slice none 0 0] 74], fun ls => []⟩
theorem p0_btf_holdsItself_v7 : SpcG Try.prog M B0 S (sq0_btf_holdsItself_v7  ) :=
  fn_specG hU (P := Try.prog) Try.func24 (fun xs w => by kernel_rfl) 1 _ _ (fun _ => rfl) _ _ _ []
    [.o, .o, .o, .a 2, .a 2, .a 1, .o, .o, .o, .o, .o, .a 4, .a 4, .a 2, .xg (p0_btf_holdsItself_1_v5 hU (fun _ => false) ) [1, 0, 2, 3, 4], .a 2, .o, .a 5, .a 5, .o, .a 5, .a 5, .a 1, .o, .o, .o]
    [] (fun b => by kernel_rfl)
def sq0_btf_holdsFunction_v5   : Spc := ⟨fun ls => .call 25 #[.slice (some ⟨(lget ls 0).n, 0, none⟩) 1 1, .agg #[.int .i64 (1), .string (⟨#[101]⟩ : ByteArray), .int .i64 (1), .bool false, .int .i64 (0), .int .i64 (0), .slice none 0 0]], fun ls => [.cells #[.int .i64 (1), .string (⟨#[101]⟩ : ByteArray), .int .i64 (1), .bool false, .int .i64 (0), .int .i64 (0), .slice none 0 0] 74], 0, .normal, fun ls => [.bool false], fun ls => [.cells #[.int .i64 (1), .string (⟨#[101]⟩ : ByteArray), .int .i64 (1), .bool false, .int .i64 (0), .int .i64 (0), .slice none 0 0] 74], fun ls => []⟩
theorem p0_btf_holdsFunction_v5 : SpcG Try.prog M B0 S (sq0_btf_holdsFunction_v5  ) :=
  fn_specG hU (P := Try.prog) Try.func25 (fun xs w => by kernel_rfl) 1 _ _ (fun _ => rfl) _ _ _ []
    [.o, .o, .o, .a 1, .o, .o, .o, .o, .a 1, .o, .o, .o, .o]
    [] (fun b => by kernel_rfl)
def sq0_btf_fits_v5   : Spc := ⟨fun ls => .call 26 #[.slice (some ⟨(lget ls 0).n, 0, none⟩) 1 1, .int .i64 (1)], fun ls => [.cells #[.int .i64 (1), .string (⟨#[101]⟩ : ByteArray), .int .i64 (1), .bool false, .int .i64 (0), .int .i64 (0), .slice none 0 0] 74], 0, .normal, fun ls => [.bool true], fun ls => [.cells #[.int .i64 (1), .string (⟨#[101]⟩ : ByteArray), .int .i64 (1), .bool false, .int .i64 (0), .int .i64 (0), .slice none 0 0] 74], fun ls => []⟩
theorem p0_btf_fits_v5 : SpcG Try.prog M B0 S (sq0_btf_fits_v5  ) :=
  fn_specG hU (P := Try.prog) Try.func26 (fun xs w => by kernel_rfl) 1 _ _ (fun _ => rfl) _ _ _ []
    [.o, .o, .o, .o, .o, .a 0, .o, .a 1, .o, .a 1, .o, .o, .o, .o, .o]
    [] (fun b => by kernel_rfl)
def sq0_btf_Check_v7   : Spc := ⟨fun ls => .call 9 #[.slice (some ⟨(lget ls 0).n, 0, none⟩) 1 1], fun ls => [.cells #[.int .i64 (1), .string (⟨#[101]⟩ : ByteArray), .int .i64 (1), .bool false, .int .i64 (0), .int .i64 (0), .slice none 0 0] 74], 0, .normal, fun ls => [.tuple #[.int .i64 (0), .int .i64 (0)]], fun ls => [.cells #[.int .i64 (1), .string (⟨#[101]⟩ : ByteArray), .int .i64 (1), .bool false, .int .i64 (0), .int .i64 (0), .slice none 0 0] 74], fun ls => []⟩
theorem p0_btf_Check_v7 : SpcG Try.prog M B0 S (sq0_btf_Check_v7  ) :=
  fn_specG hU (P := Try.prog) Try.func9 (fun xs w => by kernel_rfl) 1 _ _ (fun _ => rfl) _ _ _ []
    [.o, .o, .o, .xg (p0_btf_tooMany_v7 hU  ) [0], .o, .o, .o, .o, .o, .o, .o, .o, .a 0, .o, .o, .a 2, .a 2, .o, .o, .o, .xg (p0_btf_checkType_v5 hU 1 ) [1], .o, .o, .o, .o, .o, .o, .o, .xg (p0_btf_holdsItself_v7 hU  ) [0], .o, .o, .o, .o, .o, .o, .o, .o, .o, .a 0, .o, .o, .a 3, .o, .a 3, .xg (p0_btf_holdsFunction_v5 hU  ) [0], .o, .o, .o, .o, .o, .o, .o, .o, .o, .o, .o, .o, .xg (p0_btf_fits_v5 hU  ) [0], .o, .o, .o, .o, .o, .o]
    [] (fun b => by kernel_rfl)
theorem ok_object_isName_v5 : ConG Try.prog S 11 #[.string (⟨#[101]⟩ : ByteArray)] (.bool true) :=
  fn_conG hU (P := Try.prog) Try.func11 (fun xs w => by kernel_rfl) [.string (⟨#[101]⟩ : ByteArray)] (.bool true)
    [.o, .o, .o, .o, .xg (p0_btf_Check_v7 hU  ) [0], .o, .o, .o, .o, .o, .o, .o, .o]
    [] (fun b => by kernel_rfl)
def sq0_btf_tooMany_v8   : Spc := ⟨fun ls => .call 22 #[.slice (some ⟨(lget ls 0).n, 0, none⟩) 1 1], fun ls => [.cells #[.int .i64 (1), .string (⟨#[102]⟩ : ByteArray), .int .i64 (1), .bool false, .int .i64 (0), .int .i64 (0), .slice none 0 0] 74], 0, .normal, fun ls => [.bool false], fun ls => [.cells #[.int .i64 (1), .string (⟨#[102]⟩ : ByteArray), .int .i64 (1), .bool false, .int .i64 (0), .int .i64 (0), .slice none 0 0] 74], fun ls => []⟩
theorem p0_btf_tooMany_v8 : SpcG Try.prog M B0 S (sq0_btf_tooMany_v8  ) :=
  fn_specG hU (P := Try.prog) Try.func22 (fun xs w => by kernel_rfl) 1 _ _ (fun _ => rfl) _ _ _ []
    [.o, .o, .o, .o, .o, .o, .o, .o, .o, .a 0, .o, .a 1, .o, .a 1, .o, .o, .o, .o, .o, .o]
    [] (fun b => by kernel_rfl)
theorem ok_btf_isName_v6 : ConG Try.prog S 59 #[.string (⟨#[102]⟩ : ByteArray)] (.bool true) :=
  fn_conG hU (P := Try.prog) Try.func59 (fun xs w => by kernel_rfl) [.string (⟨#[102]⟩ : ByteArray)] (.bool true)
    [.o, .o, .o, .o, .o, .o, .o, .o, .o, .o, .o, .o, .o, .o, .o, .o, .o, .o, .o, .o, .o, .o, .o, .o, .o, .o, .o, .o, .o, .o, .o, .o, .o, .o, .o, .o, .o, .o, .o, .o]
    [] (fun b => by kernel_rfl)
def sq0_btf_rightName_v6   : Spc := ⟨fun ls => .call 38 #[.agg #[.int .i64 (1), .string (⟨#[102]⟩ : ByteArray), .int .i64 (1), .bool false, .int .i64 (0), .int .i64 (0), .slice none 0 0], .map (some (lget ls 0).n)], fun ls => [.map #[] 0], 0, .normal, fun ls => [.bool true], fun ls => [.map #[⟨.agg #[.int .i64 (1), .string (⟨#[102]⟩ : ByteArray)], .int .i64 (1), 0⟩] 1], fun ls => []⟩
theorem p0_btf_rightName_v6 : SpcG Try.prog M B0 S (sq0_btf_rightName_v6  ) :=
  fn_specG hU (P := Try.prog) Try.func38 (fun xs w => by kernel_rfl) 1 _ _ (fun _ => rfl) _ _ _ []
    [.o, .o, .o, .a 1, .o, .o, .o, .a 1, .o, .a 1, .o, .o, .a 2, .r [] [] [], .o, .a 2, .a 0, .o, .a 0, .o, .a 0, .o, .a 1, .cg (ok_btf_isName_v6 hU  ), .o, .o, .a 2, .a 0, .o, .o, .o]
    [] (fun b => by kernel_rfl)
theorem ok_btf_rightSize_v6 : ConG Try.prog S 39 #[.agg #[.int .i64 (1), .string (⟨#[102]⟩ : ByteArray), .int .i64 (1), .bool false, .int .i64 (0), .int .i64 (0), .slice none 0 0]] (.bool true) :=
  fn_conG hU (P := Try.prog) Try.func39 (fun xs w => by kernel_rfl) [.agg #[.int .i64 (1), .string (⟨#[102]⟩ : ByteArray), .int .i64 (1), .bool false, .int .i64 (0), .int .i64 (0), .slice none 0 0]] (.bool true)
    [.o, .o, .o, .a 0, .o, .o, .o, .a 0, .o, .o, .o, .o, .o, .o, .o, .o]
    [] (fun b => by kernel_rfl)
theorem ok_btf_rightMemberNames_v6 : ConG Try.prog S 40 #[.agg #[.int .i64 (1), .string (⟨#[102]⟩ : ByteArray), .int .i64 (1), .bool false, .int .i64 (0), .int .i64 (0), .slice none 0 0]] (.bool true) :=
  fn_conG hU (P := Try.prog) Try.func40 (fun xs w => by kernel_rfl) [.agg #[.int .i64 (1), .string (⟨#[102]⟩ : ByteArray), .int .i64 (1), .bool false, .int .i64 (0), .int .i64 (0), .slice none 0 0]] (.bool true)
    [.o, .o, .o, .o, .o, .a 0, .o, .o, .o, .o]
    [] (fun b => by kernel_rfl)
theorem ok_btf_rightReferences_v6 (y1 : Int) : ConG Try.prog S 41 #[.agg #[.int .i64 (1), .string (⟨#[102]⟩ : ByteArray), .int .i64 (1), .bool false, .int .i64 (0), .int .i64 (0), .slice none 0 0], .int .i64 (y1)] (.bool true) :=
  fn_conG hU (P := Try.prog) Try.func41 (fun xs w => by kernel_rfl) [.agg #[.int .i64 (1), .string (⟨#[102]⟩ : ByteArray), .int .i64 (1), .bool false, .int .i64 (0), .int .i64 (0), .slice none 0 0], .int .i64 (y1)] (.bool true)
    [.o, .o, .o, .o, .o, .o, .a 0, .o, .o, .o, .o, .o, .a 0, .o, .o, .o, .o, .a 0, .o, .o, .o, .o, .a 0, .o, .o, .o, .o]
    [] (fun b => by kernel_rfl)
theorem ok_btf_onlyOwnFields_v6 : ConG Try.prog S 42 #[.agg #[.int .i64 (1), .string (⟨#[102]⟩ : ByteArray), .int .i64 (1), .bool false, .int .i64 (0), .int .i64 (0), .slice none 0 0]] (.bool true) :=
  fn_conG hU (P := Try.prog) Try.func42 (fun xs w => by kernel_rfl) [.agg #[.int .i64 (1), .string (⟨#[102]⟩ : ByteArray), .int .i64 (1), .bool false, .int .i64 (0), .int .i64 (0), .slice none 0 0]] (.bool true)
    [.o, .o, .o, .a 0, .o, .o, .o, .o, .o, .a 0, .o, .o, .o, .a 0, .o, .o, .o, .o, .a 0, .o, .o, .o, .a 0, .o, .o, .o]
    [] (fun b => by kernel_rfl)
def sq0_btf_checkType_v6 (y1 : Int)  : Spc := ⟨fun ls => .call 23 #[.agg #[.int .i64 (1), .string (⟨#[102]⟩ : ByteArray), .int .i64 (1), .bool false, .int .i64 (0), .int .i64 (0), .slice none 0 0], .int .i64 (y1), .map (some (lget ls 0).n)], fun ls => [.map #[] 0], 0, .normal, fun ls => [.int .i64 (0)], fun ls => [.map #[⟨.agg #[.int .i64 (1), .string (⟨#[102]⟩ : ByteArray)], .int .i64 (1), 0⟩] 1], fun ls => []⟩
theorem p0_btf_checkType_v6 (y1 : Int) : SpcG Try.prog M B0 S (sq0_btf_checkType_v6 y1 ) :=
  fn_specG hU (P := Try.prog) Try.func23 (fun xs w => by kernel_rfl) 1 _ _ (fun _ => rfl) _ _ _ []
    [.o, .o, .o, .a 1, .o, .o, .o, .a 1, .o, .o, .o, .a 1, .o, .xg (p0_btf_rightName_v6 hU  ) [0], .o, .o, .a 1, .cg (ok_btf_rightSize_v6 hU  ), .o, .o, .a 1, .cg (ok_btf_rightMemberNames_v6 hU  ), .o, .o, .a 1, .o, .cg (ok_btf_rightReferences_v6 hU y1 ), .o, .o, .a 1, .cg (ok_btf_onlyOwnFields_v6 hU  ), .o, .o, .o, .o]
    [] (fun b => by kernel_rfl)
def sq0_btf_held_v6   : Spc := ⟨fun ls => .call 44 #[.agg #[.int .i64 (1), .string (⟨#[102]⟩ : ByteArray), .int .i64 (1), .bool false, .int .i64 (0), .int .i64 (0), .slice none 0 0]], fun ls => [], 0, .normal, fun ls => [.slice none 0 0], fun ls => [], fun ls => []⟩
theorem p0_btf_held_v6 : SpcG Try.prog M B0 S (sq0_btf_held_v6  ) :=
  fn_specG hU (P := Try.prog) Try.func44 (fun xs w => by kernel_rfl) 0 _ _ (fun _ => rfl) _ _ _ []
    [.o, .o, .o, .o, .a 0, .o, .o, .o, .o, .o, .o, .o, .o]
    [] (fun b => by kernel_rfl)
def sq0_btf_holdsItself_1_v6 (w0 : Nat → Bool)  : Spc := ⟨fun ls => .call 43 #[.int .i64 (1), .pointer (some ⟨(lget ls 0).n, 0, none⟩), .pointer (some ⟨(lget ls 2).n, 0, none⟩), .pointer (some ⟨(lget ls 3).n, 0, none⟩), .pointer (some ⟨(lget ls 4).n, 0, none⟩)], fun ls => [.cells #[.slice (some ⟨(lget ls 1).n, 0, none⟩) 1 1] 23, .cells #[.int .i64 (1), .string (⟨#[102]⟩ : ByteArray), .int .i64 (1), .bool false, .int .i64 (0), .int .i64 (0), .slice none 0 0] 74, .cells #[.int .i64 (1)] 3, .cells ⟨esG cB 257 w0⟩ 91, .cells #[.func (.func 43) #[] #[.pointer (some ⟨(lget ls 0).n, 0, none⟩), .pointer (some ⟨(lget ls 2).n, 0, none⟩), .pointer (some ⟨(lget ls 3).n, 0, none⟩), .pointer (some ⟨(lget ls 4).n, 0, none⟩)]] 92], 0, .normal, fun ls => [.bool false], fun ls => [.cells #[.slice (some ⟨(lget ls 1).n, 0, none⟩) 1 1] 23, .cells #[.int .i64 (1), .string (⟨#[102]⟩ : ByteArray), .int .i64 (1), .bool false, .int .i64 (0), .int .i64 (0), .slice none 0 0] 74, .cells #[.int .i64 (1)] 3, .cells ⟨esG cB 257 w0⟩ 91, .cells #[.func (.func 43) #[] #[.pointer (some ⟨(lget ls 0).n, 0, none⟩), .pointer (some ⟨(lget ls 2).n, 0, none⟩), .pointer (some ⟨(lget ls 3).n, 0, none⟩), .pointer (some ⟨(lget ls 4).n, 0, none⟩)]] 92], fun ls => []⟩
theorem p0_btf_holdsItself_1_v6 (w0 : Nat → Bool) : SpcG Try.prog M B0 S (sq0_btf_holdsItself_1_v6 w0 ) :=
  fn_specG hU (P := Try.prog) Try.func43 (fun xs w => by kernel_rfl) 5 _ _ (fun _ => rfl) _ _ _ []
    [.o, .a 0, .o, .o, .o, .a 1, .xg (p0_btf_held_v6 hU  ) [], .o, .o, .o, .o]
    [] (fun b => by kernel_rfl)
def sq0_btf_holdsItself_v8   : Spc := ⟨fun ls => .call 24 #[.slice (some ⟨(lget ls 0).n, 0, none⟩) 1 1], fun ls => [.cells #[.int .i64 (1), .string (⟨#[102]⟩ : ByteArray), .int .i64 (1), .bool false, .int .i64 (0), .int .i64 (0), .slice none 0 0] 74], 0, .normal, fun ls => [.int .i64 (0)], fun ls => [.cells #[.int .i64 (1), .string (⟨#[102]⟩ : ByteArray), .int .i64 (1), .bool false, .int .i64 (0), .int .i64 (0), .slice none 0 0] 74], fun ls => []⟩
theorem p0_btf_holdsItself_v8 : SpcG Try.prog M B0 S (sq0_btf_holdsItself_v8  ) :=
  fn_specG hU (P := Try.prog) Try.func24 (fun xs w => by kernel_rfl) 1 _ _ (fun _ => rfl) _ _ _ []
    [.o, .o, .o, .a 2, .a 2, .a 1, .o, .o, .o, .o, .o, .a 4, .a 4, .a 2, .xg (p0_btf_holdsItself_1_v6 hU (fun _ => false) ) [1, 0, 2, 3, 4], .a 2, .o, .a 5, .a 5, .o, .a 5, .a 5, .a 1, .o, .o, .o]
    [] (fun b => by kernel_rfl)
def sq0_btf_holdsFunction_v6   : Spc := ⟨fun ls => .call 25 #[.slice (some ⟨(lget ls 0).n, 0, none⟩) 1 1, .agg #[.int .i64 (1), .string (⟨#[102]⟩ : ByteArray), .int .i64 (1), .bool false, .int .i64 (0), .int .i64 (0), .slice none 0 0]], fun ls => [.cells #[.int .i64 (1), .string (⟨#[102]⟩ : ByteArray), .int .i64 (1), .bool false, .int .i64 (0), .int .i64 (0), .slice none 0 0] 74], 0, .normal, fun ls => [.bool false], fun ls => [.cells #[.int .i64 (1), .string (⟨#[102]⟩ : ByteArray), .int .i64 (1), .bool false, .int .i64 (0), .int .i64 (0), .slice none 0 0] 74], fun ls => []⟩
theorem p0_btf_holdsFunction_v6 : SpcG Try.prog M B0 S (sq0_btf_holdsFunction_v6  ) :=
  fn_specG hU (P := Try.prog) Try.func25 (fun xs w => by kernel_rfl) 1 _ _ (fun _ => rfl) _ _ _ []
    [.o, .o, .o, .a 1, .o, .o, .o, .o, .a 1, .o, .o, .o, .o]
    [] (fun b => by kernel_rfl)
def sq0_btf_fits_v6   : Spc := ⟨fun ls => .call 26 #[.slice (some ⟨(lget ls 0).n, 0, none⟩) 1 1, .int .i64 (1)], fun ls => [.cells #[.int .i64 (1), .string (⟨#[102]⟩ : ByteArray), .int .i64 (1), .bool false, .int .i64 (0), .int .i64 (0), .slice none 0 0] 74], 0, .normal, fun ls => [.bool true], fun ls => [.cells #[.int .i64 (1), .string (⟨#[102]⟩ : ByteArray), .int .i64 (1), .bool false, .int .i64 (0), .int .i64 (0), .slice none 0 0] 74], fun ls => []⟩
theorem p0_btf_fits_v6 : SpcG Try.prog M B0 S (sq0_btf_fits_v6  ) :=
  fn_specG hU (P := Try.prog) Try.func26 (fun xs w => by kernel_rfl) 1 _ _ (fun _ => rfl) _ _ _ []
    [.o, .o, .o, .o, .o, .a 0, .o, .a 1, .o, .a 1, .o, .o, .o, .o, .o]
    [] (fun b => by kernel_rfl)
def sq0_btf_Check_v8   : Spc := ⟨fun ls => .call 9 #[.slice (some ⟨(lget ls 0).n, 0, none⟩) 1 1], fun ls => [.cells #[.int .i64 (1), .string (⟨#[102]⟩ : ByteArray), .int .i64 (1), .bool false, .int .i64 (0), .int .i64 (0), .slice none 0 0] 74], 0, .normal, fun ls => [.tuple #[.int .i64 (0), .int .i64 (0)]], fun ls => [.cells #[.int .i64 (1), .string (⟨#[102]⟩ : ByteArray), .int .i64 (1), .bool false, .int .i64 (0), .int .i64 (0), .slice none 0 0] 74], fun ls => []⟩
theorem p0_btf_Check_v8 : SpcG Try.prog M B0 S (sq0_btf_Check_v8  ) :=
  fn_specG hU (P := Try.prog) Try.func9 (fun xs w => by kernel_rfl) 1 _ _ (fun _ => rfl) _ _ _ []
    [.o, .o, .o, .xg (p0_btf_tooMany_v8 hU  ) [0], .o, .o, .o, .o, .o, .o, .o, .o, .a 0, .o, .o, .a 2, .a 2, .o, .o, .o, .xg (p0_btf_checkType_v6 hU 1 ) [1], .o, .o, .o, .o, .o, .o, .o, .xg (p0_btf_holdsItself_v8 hU  ) [0], .o, .o, .o, .o, .o, .o, .o, .o, .o, .a 0, .o, .o, .a 3, .o, .a 3, .xg (p0_btf_holdsFunction_v6 hU  ) [0], .o, .o, .o, .o, .o, .o, .o, .o, .o, .o, .o, .o, .xg (p0_btf_fits_v6 hU  ) [0], .o, .o, .o, .o, .o, .o]
    [] (fun b => by kernel_rfl)
theorem ok_object_isName_v6 : ConG Try.prog S 11 #[.string (⟨#[102]⟩ : ByteArray)] (.bool true) :=
  fn_conG hU (P := Try.prog) Try.func11 (fun xs w => by kernel_rfl) [.string (⟨#[102]⟩ : ByteArray)] (.bool true)
    [.o, .o, .o, .o, .xg (p0_btf_Check_v8 hU  ) [0], .o, .o, .o, .o, .o, .o, .o, .o]
    [] (fun b => by kernel_rfl)
def sq0_btf_tooMany_v9   : Spc := ⟨fun ls => .call 22 #[.slice (some ⟨(lget ls 0).n, 0, none⟩) 1 1], fun ls => [.cells #[.int .i64 (1), .string (⟨#[103]⟩ : ByteArray), .int .i64 (1), .bool false, .int .i64 (0), .int .i64 (0), .slice none 0 0] 74], 0, .normal, fun ls => [.bool false], fun ls => [.cells #[.int .i64 (1), .string (⟨#[103]⟩ : ByteArray), .int .i64 (1), .bool false, .int .i64 (0), .int .i64 (0), .slice none 0 0] 74], fun ls => []⟩
theorem p0_btf_tooMany_v9 : SpcG Try.prog M B0 S (sq0_btf_tooMany_v9  ) :=
  fn_specG hU (P := Try.prog) Try.func22 (fun xs w => by kernel_rfl) 1 _ _ (fun _ => rfl) _ _ _ []
    [.o, .o, .o, .o, .o, .o, .o, .o, .o, .a 0, .o, .a 1, .o, .a 1, .o, .o, .o, .o, .o, .o]
    [] (fun b => by kernel_rfl)
theorem ok_btf_isName_v7 : ConG Try.prog S 59 #[.string (⟨#[103]⟩ : ByteArray)] (.bool true) :=
  fn_conG hU (P := Try.prog) Try.func59 (fun xs w => by kernel_rfl) [.string (⟨#[103]⟩ : ByteArray)] (.bool true)
    [.o, .o, .o, .o, .o, .o, .o, .o, .o, .o, .o, .o, .o, .o, .o, .o, .o, .o, .o, .o, .o, .o, .o, .o, .o, .o, .o, .o, .o, .o, .o, .o, .o, .o, .o, .o, .o, .o, .o, .o]
    [] (fun b => by kernel_rfl)
def sq0_btf_rightName_v7   : Spc := ⟨fun ls => .call 38 #[.agg #[.int .i64 (1), .string (⟨#[103]⟩ : ByteArray), .int .i64 (1), .bool false, .int .i64 (0), .int .i64 (0), .slice none 0 0], .map (some (lget ls 0).n)], fun ls => [.map #[] 0], 0, .normal, fun ls => [.bool true], fun ls => [.map #[⟨.agg #[.int .i64 (1), .string (⟨#[103]⟩ : ByteArray)], .int .i64 (1), 0⟩] 1], fun ls => []⟩
theorem p0_btf_rightName_v7 : SpcG Try.prog M B0 S (sq0_btf_rightName_v7  ) :=
  fn_specG hU (P := Try.prog) Try.func38 (fun xs w => by kernel_rfl) 1 _ _ (fun _ => rfl) _ _ _ []
    [.o, .o, .o, .a 1, .o, .o, .o, .a 1, .o, .a 1, .o, .o, .a 2, .r [] [] [], .o, .a 2, .a 0, .o, .a 0, .o, .a 0, .o, .a 1, .cg (ok_btf_isName_v7 hU  ), .o, .o, .a 2, .a 0, .o, .o, .o]
    [] (fun b => by kernel_rfl)
theorem ok_btf_rightSize_v7 : ConG Try.prog S 39 #[.agg #[.int .i64 (1), .string (⟨#[103]⟩ : ByteArray), .int .i64 (1), .bool false, .int .i64 (0), .int .i64 (0), .slice none 0 0]] (.bool true) :=
  fn_conG hU (P := Try.prog) Try.func39 (fun xs w => by kernel_rfl) [.agg #[.int .i64 (1), .string (⟨#[103]⟩ : ByteArray), .int .i64 (1), .bool false, .int .i64 (0), .int .i64 (0), .slice none 0 0]] (.bool true)
    [.o, .o, .o, .a 0, .o, .o, .o, .a 0, .o, .o, .o, .o, .o, .o, .o, .o]
    [] (fun b => by kernel_rfl)
theorem ok_btf_rightMemberNames_v7 : ConG Try.prog S 40 #[.agg #[.int .i64 (1), .string (⟨#[103]⟩ : ByteArray), .int .i64 (1), .bool false, .int .i64 (0), .int .i64 (0), .slice none 0 0]] (.bool true) :=
  fn_conG hU (P := Try.prog) Try.func40 (fun xs w => by kernel_rfl) [.agg #[.int .i64 (1), .string (⟨#[103]⟩ : ByteArray), .int .i64 (1), .bool false, .int .i64 (0), .int .i64 (0), .slice none 0 0]] (.bool true)
    [.o, .o, .o, .o, .o, .a 0, .o, .o, .o, .o]
    [] (fun b => by kernel_rfl)
theorem ok_btf_rightReferences_v7 (y1 : Int) : ConG Try.prog S 41 #[.agg #[.int .i64 (1), .string (⟨#[103]⟩ : ByteArray), .int .i64 (1), .bool false, .int .i64 (0), .int .i64 (0), .slice none 0 0], .int .i64 (y1)] (.bool true) :=
  fn_conG hU (P := Try.prog) Try.func41 (fun xs w => by kernel_rfl) [.agg #[.int .i64 (1), .string (⟨#[103]⟩ : ByteArray), .int .i64 (1), .bool false, .int .i64 (0), .int .i64 (0), .slice none 0 0], .int .i64 (y1)] (.bool true)
    [.o, .o, .o, .o, .o, .o, .a 0, .o, .o, .o, .o, .o, .a 0, .o, .o, .o, .o, .a 0, .o, .o, .o, .o, .a 0, .o, .o, .o, .o]
    [] (fun b => by kernel_rfl)
theorem ok_btf_onlyOwnFields_v7 : ConG Try.prog S 42 #[.agg #[.int .i64 (1), .string (⟨#[103]⟩ : ByteArray), .int .i64 (1), .bool false, .int .i64 (0), .int .i64 (0), .slice none 0 0]] (.bool true) :=
  fn_conG hU (P := Try.prog) Try.func42 (fun xs w => by kernel_rfl) [.agg #[.int .i64 (1), .string (⟨#[103]⟩ : ByteArray), .int .i64 (1), .bool false, .int .i64 (0), .int .i64 (0), .slice none 0 0]] (.bool true)
    [.o, .o, .o, .a 0, .o, .o, .o, .o, .o, .a 0, .o, .o, .o, .a 0, .o, .o, .o, .o, .a 0, .o, .o, .o, .a 0, .o, .o, .o]
    [] (fun b => by kernel_rfl)
def sq0_btf_checkType_v7 (y1 : Int)  : Spc := ⟨fun ls => .call 23 #[.agg #[.int .i64 (1), .string (⟨#[103]⟩ : ByteArray), .int .i64 (1), .bool false, .int .i64 (0), .int .i64 (0), .slice none 0 0], .int .i64 (y1), .map (some (lget ls 0).n)], fun ls => [.map #[] 0], 0, .normal, fun ls => [.int .i64 (0)], fun ls => [.map #[⟨.agg #[.int .i64 (1), .string (⟨#[103]⟩ : ByteArray)], .int .i64 (1), 0⟩] 1], fun ls => []⟩
theorem p0_btf_checkType_v7 (y1 : Int) : SpcG Try.prog M B0 S (sq0_btf_checkType_v7 y1 ) :=
  fn_specG hU (P := Try.prog) Try.func23 (fun xs w => by kernel_rfl) 1 _ _ (fun _ => rfl) _ _ _ []
    [.o, .o, .o, .a 1, .o, .o, .o, .a 1, .o, .o, .o, .a 1, .o, .xg (p0_btf_rightName_v7 hU  ) [0], .o, .o, .a 1, .cg (ok_btf_rightSize_v7 hU  ), .o, .o, .a 1, .cg (ok_btf_rightMemberNames_v7 hU  ), .o, .o, .a 1, .o, .cg (ok_btf_rightReferences_v7 hU y1 ), .o, .o, .a 1, .cg (ok_btf_onlyOwnFields_v7 hU  ), .o, .o, .o, .o]
    [] (fun b => by kernel_rfl)
def sq0_btf_held_v7   : Spc := ⟨fun ls => .call 44 #[.agg #[.int .i64 (1), .string (⟨#[103]⟩ : ByteArray), .int .i64 (1), .bool false, .int .i64 (0), .int .i64 (0), .slice none 0 0]], fun ls => [], 0, .normal, fun ls => [.slice none 0 0], fun ls => [], fun ls => []⟩
theorem p0_btf_held_v7 : SpcG Try.prog M B0 S (sq0_btf_held_v7  ) :=
  fn_specG hU (P := Try.prog) Try.func44 (fun xs w => by kernel_rfl) 0 _ _ (fun _ => rfl) _ _ _ []
    [.o, .o, .o, .o, .a 0, .o, .o, .o, .o, .o, .o, .o, .o]
    [] (fun b => by kernel_rfl)
def sq0_btf_holdsItself_1_v7 (w0 : Nat → Bool)  : Spc := ⟨fun ls => .call 43 #[.int .i64 (1), .pointer (some ⟨(lget ls 0).n, 0, none⟩), .pointer (some ⟨(lget ls 2).n, 0, none⟩), .pointer (some ⟨(lget ls 3).n, 0, none⟩), .pointer (some ⟨(lget ls 4).n, 0, none⟩)], fun ls => [.cells #[.slice (some ⟨(lget ls 1).n, 0, none⟩) 1 1] 23, .cells #[.int .i64 (1), .string (⟨#[103]⟩ : ByteArray), .int .i64 (1), .bool false, .int .i64 (0), .int .i64 (0), .slice none 0 0] 74, .cells #[.int .i64 (1)] 3, .cells ⟨esG cB 257 w0⟩ 91, .cells #[.func (.func 43) #[] #[.pointer (some ⟨(lget ls 0).n, 0, none⟩), .pointer (some ⟨(lget ls 2).n, 0, none⟩), .pointer (some ⟨(lget ls 3).n, 0, none⟩), .pointer (some ⟨(lget ls 4).n, 0, none⟩)]] 92], 0, .normal, fun ls => [.bool false], fun ls => [.cells #[.slice (some ⟨(lget ls 1).n, 0, none⟩) 1 1] 23, .cells #[.int .i64 (1), .string (⟨#[103]⟩ : ByteArray), .int .i64 (1), .bool false, .int .i64 (0), .int .i64 (0), .slice none 0 0] 74, .cells #[.int .i64 (1)] 3, .cells ⟨esG cB 257 w0⟩ 91, .cells #[.func (.func 43) #[] #[.pointer (some ⟨(lget ls 0).n, 0, none⟩), .pointer (some ⟨(lget ls 2).n, 0, none⟩), .pointer (some ⟨(lget ls 3).n, 0, none⟩), .pointer (some ⟨(lget ls 4).n, 0, none⟩)]] 92], fun ls => []⟩
theorem p0_btf_holdsItself_1_v7 (w0 : Nat → Bool) : SpcG Try.prog M B0 S (sq0_btf_holdsItself_1_v7 w0 ) :=
  fn_specG hU (P := Try.prog) Try.func43 (fun xs w => by kernel_rfl) 5 _ _ (fun _ => rfl) _ _ _ []
    [.o, .a 0, .o, .o, .o, .a 1, .xg (p0_btf_held_v7 hU  ) [], .o, .o, .o, .o]
    [] (fun b => by kernel_rfl)
def sq0_btf_holdsItself_v9   : Spc := ⟨fun ls => .call 24 #[.slice (some ⟨(lget ls 0).n, 0, none⟩) 1 1], fun ls => [.cells #[.int .i64 (1), .string (⟨#[103]⟩ : ByteArray), .int .i64 (1), .bool false, .int .i64 (0), .int .i64 (0), .slice none 0 0] 74], 0, .normal, fun ls => [.int .i64 (0)], fun ls => [.cells #[.int .i64 (1), .string (⟨#[103]⟩ : ByteArray), .int .i64 (1), .bool false, .int .i64 (0), .int .i64 (0), .slice none 0 0] 74], fun ls => []⟩
theorem p0_btf_holdsItself_v9 : SpcG Try.prog M B0 S (sq0_btf_holdsItself_v9  ) :=
  fn_specG hU (P := Try.prog) Try.func24 (fun xs w => by kernel_rfl) 1 _ _ (fun _ => rfl) _ _ _ []
    [.o, .o, .o, .a 2, .a 2, .a 1, .o, .o, .o, .o, .o, .a 4, .a 4, .a 2, .xg (p0_btf_holdsItself_1_v7 hU (fun _ => false) ) [1, 0, 2, 3, 4], .a 2, .o, .a 5, .a 5, .o, .a 5, .a 5, .a 1, .o, .o, .o]
    [] (fun b => by kernel_rfl)
def sq0_btf_holdsFunction_v7   : Spc := ⟨fun ls => .call 25 #[.slice (some ⟨(lget ls 0).n, 0, none⟩) 1 1, .agg #[.int .i64 (1), .string (⟨#[103]⟩ : ByteArray), .int .i64 (1), .bool false, .int .i64 (0), .int .i64 (0), .slice none 0 0]], fun ls => [.cells #[.int .i64 (1), .string (⟨#[103]⟩ : ByteArray), .int .i64 (1), .bool false, .int .i64 (0), .int .i64 (0), .slice none 0 0] 74], 0, .normal, fun ls => [.bool false], fun ls => [.cells #[.int .i64 (1), .string (⟨#[103]⟩ : ByteArray), .int .i64 (1), .bool false, .int .i64 (0), .int .i64 (0), .slice none 0 0] 74], fun ls => []⟩
theorem p0_btf_holdsFunction_v7 : SpcG Try.prog M B0 S (sq0_btf_holdsFunction_v7  ) :=
  fn_specG hU (P := Try.prog) Try.func25 (fun xs w => by kernel_rfl) 1 _ _ (fun _ => rfl) _ _ _ []
    [.o, .o, .o, .a 1, .o, .o, .o, .o, .a 1, .o, .o, .o, .o]
    [] (fun b => by kernel_rfl)
def sq0_btf_fits_v7   : Spc := ⟨fun ls => .call 26 #[.slice (some ⟨(lget ls 0).n, 0, none⟩) 1 1, .int .i64 (1)], fun ls => [.cells #[.int .i64 (1), .string (⟨#[103]⟩ : ByteArray), .int .i64 (1), .bool false, .int .i64 (0), .int .i64 (0), .slice none 0 0] 74], 0, .normal, fun ls => [.bool true], fun ls => [.cells #[.int .i64 (1), .string (⟨#[103]⟩ : ByteArray), .int .i64 (1), .bool false, .int .i64 (0), .int .i64 (0), .slice none 0 0] 74], fun ls => []⟩
theorem p0_btf_fits_v7 : SpcG Try.prog M B0 S (sq0_btf_fits_v7  ) :=
  fn_specG hU (P := Try.prog) Try.func26 (fun xs w => by kernel_rfl) 1 _ _ (fun _ => rfl) _ _ _ []
    [.o, .o, .o, .o, .o, .a 0, .o, .a 1, .o, .a 1, .o, .o, .o, .o, .o]
    [] (fun b => by kernel_rfl)
def sq0_btf_Check_v9   : Spc := ⟨fun ls => .call 9 #[.slice (some ⟨(lget ls 0).n, 0, none⟩) 1 1], fun ls => [.cells #[.int .i64 (1), .string (⟨#[103]⟩ : ByteArray), .int .i64 (1), .bool false, .int .i64 (0), .int .i64 (0), .slice none 0 0] 74], 0, .normal, fun ls => [.tuple #[.int .i64 (0), .int .i64 (0)]], fun ls => [.cells #[.int .i64 (1), .string (⟨#[103]⟩ : ByteArray), .int .i64 (1), .bool false, .int .i64 (0), .int .i64 (0), .slice none 0 0] 74], fun ls => []⟩
theorem p0_btf_Check_v9 : SpcG Try.prog M B0 S (sq0_btf_Check_v9  ) :=
  fn_specG hU (P := Try.prog) Try.func9 (fun xs w => by kernel_rfl) 1 _ _ (fun _ => rfl) _ _ _ []
    [.o, .o, .o, .xg (p0_btf_tooMany_v9 hU  ) [0], .o, .o, .o, .o, .o, .o, .o, .o, .a 0, .o, .o, .a 2, .a 2, .o, .o, .o, .xg (p0_btf_checkType_v7 hU 1 ) [1], .o, .o, .o, .o, .o, .o, .o, .xg (p0_btf_holdsItself_v9 hU  ) [0], .o, .o, .o, .o, .o, .o, .o, .o, .o, .a 0, .o, .o, .a 3, .o, .a 3, .xg (p0_btf_holdsFunction_v7 hU  ) [0], .o, .o, .o, .o, .o, .o, .o, .o, .o, .o, .o, .o, .xg (p0_btf_fits_v7 hU  ) [0], .o, .o, .o, .o, .o, .o]
    [] (fun b => by kernel_rfl)
theorem ok_object_isName_v7 : ConG Try.prog S 11 #[.string (⟨#[103]⟩ : ByteArray)] (.bool true) :=
  fn_conG hU (P := Try.prog) Try.func11 (fun xs w => by kernel_rfl) [.string (⟨#[103]⟩ : ByteArray)] (.bool true)
    [.o, .o, .o, .o, .xg (p0_btf_Check_v9 hU  ) [0], .o, .o, .o, .o, .o, .o, .o, .o]
    [] (fun b => by kernel_rfl)
def sq0_btf_tooMany_v10   : Spc := ⟨fun ls => .call 22 #[.slice (some ⟨(lget ls 0).n, 0, none⟩) 1 1], fun ls => [.cells #[.int .i64 (1), .string (⟨#[104]⟩ : ByteArray), .int .i64 (1), .bool false, .int .i64 (0), .int .i64 (0), .slice none 0 0] 74], 0, .normal, fun ls => [.bool false], fun ls => [.cells #[.int .i64 (1), .string (⟨#[104]⟩ : ByteArray), .int .i64 (1), .bool false, .int .i64 (0), .int .i64 (0), .slice none 0 0] 74], fun ls => []⟩
theorem p0_btf_tooMany_v10 : SpcG Try.prog M B0 S (sq0_btf_tooMany_v10  ) :=
  fn_specG hU (P := Try.prog) Try.func22 (fun xs w => by kernel_rfl) 1 _ _ (fun _ => rfl) _ _ _ []
    [.o, .o, .o, .o, .o, .o, .o, .o, .o, .a 0, .o, .a 1, .o, .a 1, .o, .o, .o, .o, .o, .o]
    [] (fun b => by kernel_rfl)
theorem ok_btf_isName_v8 : ConG Try.prog S 59 #[.string (⟨#[104]⟩ : ByteArray)] (.bool true) :=
  fn_conG hU (P := Try.prog) Try.func59 (fun xs w => by kernel_rfl) [.string (⟨#[104]⟩ : ByteArray)] (.bool true)
    [.o, .o, .o, .o, .o, .o, .o, .o, .o, .o, .o, .o, .o, .o, .o, .o, .o, .o, .o, .o, .o, .o, .o, .o, .o, .o, .o, .o, .o, .o, .o, .o, .o, .o, .o, .o, .o, .o, .o, .o]
    [] (fun b => by kernel_rfl)
def sq0_btf_rightName_v8   : Spc := ⟨fun ls => .call 38 #[.agg #[.int .i64 (1), .string (⟨#[104]⟩ : ByteArray), .int .i64 (1), .bool false, .int .i64 (0), .int .i64 (0), .slice none 0 0], .map (some (lget ls 0).n)], fun ls => [.map #[] 0], 0, .normal, fun ls => [.bool true], fun ls => [.map #[⟨.agg #[.int .i64 (1), .string (⟨#[104]⟩ : ByteArray)], .int .i64 (1), 0⟩] 1], fun ls => []⟩
theorem p0_btf_rightName_v8 : SpcG Try.prog M B0 S (sq0_btf_rightName_v8  ) :=
  fn_specG hU (P := Try.prog) Try.func38 (fun xs w => by kernel_rfl) 1 _ _ (fun _ => rfl) _ _ _ []
    [.o, .o, .o, .a 1, .o, .o, .o, .a 1, .o, .a 1, .o, .o, .a 2, .r [] [] [], .o, .a 2, .a 0, .o, .a 0, .o, .a 0, .o, .a 1, .cg (ok_btf_isName_v8 hU  ), .o, .o, .a 2, .a 0, .o, .o, .o]
    [] (fun b => by kernel_rfl)
theorem ok_btf_rightSize_v8 : ConG Try.prog S 39 #[.agg #[.int .i64 (1), .string (⟨#[104]⟩ : ByteArray), .int .i64 (1), .bool false, .int .i64 (0), .int .i64 (0), .slice none 0 0]] (.bool true) :=
  fn_conG hU (P := Try.prog) Try.func39 (fun xs w => by kernel_rfl) [.agg #[.int .i64 (1), .string (⟨#[104]⟩ : ByteArray), .int .i64 (1), .bool false, .int .i64 (0), .int .i64 (0), .slice none 0 0]] (.bool true)
    [.o, .o, .o, .a 0, .o, .o, .o, .a 0, .o, .o, .o, .o, .o, .o, .o, .o]
    [] (fun b => by kernel_rfl)
theorem ok_btf_rightMemberNames_v8 : ConG Try.prog S 40 #[.agg #[.int .i64 (1), .string (⟨#[104]⟩ : ByteArray), .int .i64 (1), .bool false, .int .i64 (0), .int .i64 (0), .slice none 0 0]] (.bool true) :=
  fn_conG hU (P := Try.prog) Try.func40 (fun xs w => by kernel_rfl) [.agg #[.int .i64 (1), .string (⟨#[104]⟩ : ByteArray), .int .i64 (1), .bool false, .int .i64 (0), .int .i64 (0), .slice none 0 0]] (.bool true)
    [.o, .o, .o, .o, .o, .a 0, .o, .o, .o, .o]
    [] (fun b => by kernel_rfl)
theorem ok_btf_rightReferences_v8 (y1 : Int) : ConG Try.prog S 41 #[.agg #[.int .i64 (1), .string (⟨#[104]⟩ : ByteArray), .int .i64 (1), .bool false, .int .i64 (0), .int .i64 (0), .slice none 0 0], .int .i64 (y1)] (.bool true) :=
  fn_conG hU (P := Try.prog) Try.func41 (fun xs w => by kernel_rfl) [.agg #[.int .i64 (1), .string (⟨#[104]⟩ : ByteArray), .int .i64 (1), .bool false, .int .i64 (0), .int .i64 (0), .slice none 0 0], .int .i64 (y1)] (.bool true)
    [.o, .o, .o, .o, .o, .o, .a 0, .o, .o, .o, .o, .o, .a 0, .o, .o, .o, .o, .a 0, .o, .o, .o, .o, .a 0, .o, .o, .o, .o]
    [] (fun b => by kernel_rfl)
theorem ok_btf_onlyOwnFields_v8 : ConG Try.prog S 42 #[.agg #[.int .i64 (1), .string (⟨#[104]⟩ : ByteArray), .int .i64 (1), .bool false, .int .i64 (0), .int .i64 (0), .slice none 0 0]] (.bool true) :=
  fn_conG hU (P := Try.prog) Try.func42 (fun xs w => by kernel_rfl) [.agg #[.int .i64 (1), .string (⟨#[104]⟩ : ByteArray), .int .i64 (1), .bool false, .int .i64 (0), .int .i64 (0), .slice none 0 0]] (.bool true)
    [.o, .o, .o, .a 0, .o, .o, .o, .o, .o, .a 0, .o, .o, .o, .a 0, .o, .o, .o, .o, .a 0, .o, .o, .o, .a 0, .o, .o, .o]
    [] (fun b => by kernel_rfl)
def sq0_btf_checkType_v8 (y1 : Int)  : Spc := ⟨fun ls => .call 23 #[.agg #[.int .i64 (1), .string (⟨#[104]⟩ : ByteArray), .int .i64 (1), .bool false, .int .i64 (0), .int .i64 (0), .slice none 0 0], .int .i64 (y1), .map (some (lget ls 0).n)], fun ls => [.map #[] 0], 0, .normal, fun ls => [.int .i64 (0)], fun ls => [.map #[⟨.agg #[.int .i64 (1), .string (⟨#[104]⟩ : ByteArray)], .int .i64 (1), 0⟩] 1], fun ls => []⟩
theorem p0_btf_checkType_v8 (y1 : Int) : SpcG Try.prog M B0 S (sq0_btf_checkType_v8 y1 ) :=
  fn_specG hU (P := Try.prog) Try.func23 (fun xs w => by kernel_rfl) 1 _ _ (fun _ => rfl) _ _ _ []
    [.o, .o, .o, .a 1, .o, .o, .o, .a 1, .o, .o, .o, .a 1, .o, .xg (p0_btf_rightName_v8 hU  ) [0], .o, .o, .a 1, .cg (ok_btf_rightSize_v8 hU  ), .o, .o, .a 1, .cg (ok_btf_rightMemberNames_v8 hU  ), .o, .o, .a 1, .o, .cg (ok_btf_rightReferences_v8 hU y1 ), .o, .o, .a 1, .cg (ok_btf_onlyOwnFields_v8 hU  ), .o, .o, .o, .o]
    [] (fun b => by kernel_rfl)
def sq0_btf_held_v8   : Spc := ⟨fun ls => .call 44 #[.agg #[.int .i64 (1), .string (⟨#[104]⟩ : ByteArray), .int .i64 (1), .bool false, .int .i64 (0), .int .i64 (0), .slice none 0 0]], fun ls => [], 0, .normal, fun ls => [.slice none 0 0], fun ls => [], fun ls => []⟩
theorem p0_btf_held_v8 : SpcG Try.prog M B0 S (sq0_btf_held_v8  ) :=
  fn_specG hU (P := Try.prog) Try.func44 (fun xs w => by kernel_rfl) 0 _ _ (fun _ => rfl) _ _ _ []
    [.o, .o, .o, .o, .a 0, .o, .o, .o, .o, .o, .o, .o, .o]
    [] (fun b => by kernel_rfl)
def sq0_btf_holdsItself_1_v8 (w0 : Nat → Bool)  : Spc := ⟨fun ls => .call 43 #[.int .i64 (1), .pointer (some ⟨(lget ls 0).n, 0, none⟩), .pointer (some ⟨(lget ls 2).n, 0, none⟩), .pointer (some ⟨(lget ls 3).n, 0, none⟩), .pointer (some ⟨(lget ls 4).n, 0, none⟩)], fun ls => [.cells #[.slice (some ⟨(lget ls 1).n, 0, none⟩) 1 1] 23, .cells #[.int .i64 (1), .string (⟨#[104]⟩ : ByteArray), .int .i64 (1), .bool false, .int .i64 (0), .int .i64 (0), .slice none 0 0] 74, .cells #[.int .i64 (1)] 3, .cells ⟨esG cB 257 w0⟩ 91, .cells #[.func (.func 43) #[] #[.pointer (some ⟨(lget ls 0).n, 0, none⟩), .pointer (some ⟨(lget ls 2).n, 0, none⟩), .pointer (some ⟨(lget ls 3).n, 0, none⟩), .pointer (some ⟨(lget ls 4).n, 0, none⟩)]] 92], 0, .normal, fun ls => [.bool false], fun ls => [.cells #[.slice (some ⟨(lget ls 1).n, 0, none⟩) 1 1] 23, .cells #[.int .i64 (1), .string (⟨#[104]⟩ : ByteArray), .int .i64 (1), .bool false, .int .i64 (0), .int .i64 (0), .slice none 0 0] 74, .cells #[.int .i64 (1)] 3, .cells ⟨esG cB 257 w0⟩ 91, .cells #[.func (.func 43) #[] #[.pointer (some ⟨(lget ls 0).n, 0, none⟩), .pointer (some ⟨(lget ls 2).n, 0, none⟩), .pointer (some ⟨(lget ls 3).n, 0, none⟩), .pointer (some ⟨(lget ls 4).n, 0, none⟩)]] 92], fun ls => []⟩
theorem p0_btf_holdsItself_1_v8 (w0 : Nat → Bool) : SpcG Try.prog M B0 S (sq0_btf_holdsItself_1_v8 w0 ) :=
  fn_specG hU (P := Try.prog) Try.func43 (fun xs w => by kernel_rfl) 5 _ _ (fun _ => rfl) _ _ _ []
    [.o, .a 0, .o, .o, .o, .a 1, .xg (p0_btf_held_v8 hU  ) [], .o, .o, .o, .o]
    [] (fun b => by kernel_rfl)
def sq0_btf_holdsItself_v10   : Spc := ⟨fun ls => .call 24 #[.slice (some ⟨(lget ls 0).n, 0, none⟩) 1 1], fun ls => [.cells #[.int .i64 (1), .string (⟨#[104]⟩ : ByteArray), .int .i64 (1), .bool false, .int .i64 (0), .int .i64 (0), .slice none 0 0] 74], 0, .normal, fun ls => [.int .i64 (0)], fun ls => [.cells #[.int .i64 (1), .string (⟨#[104]⟩ : ByteArray), .int .i64 (1), .bool false, .int .i64 (0), .int .i64 (0), .slice none 0 0] 74], fun ls => []⟩
theorem p0_btf_holdsItself_v10 : SpcG Try.prog M B0 S (sq0_btf_holdsItself_v10  ) :=
  fn_specG hU (P := Try.prog) Try.func24 (fun xs w => by kernel_rfl) 1 _ _ (fun _ => rfl) _ _ _ []
    [.o, .o, .o, .a 2, .a 2, .a 1, .o, .o, .o, .o, .o, .a 4, .a 4, .a 2, .xg (p0_btf_holdsItself_1_v8 hU (fun _ => false) ) [1, 0, 2, 3, 4], .a 2, .o, .a 5, .a 5, .o, .a 5, .a 5, .a 1, .o, .o, .o]
    [] (fun b => by kernel_rfl)
def sq0_btf_holdsFunction_v8   : Spc := ⟨fun ls => .call 25 #[.slice (some ⟨(lget ls 0).n, 0, none⟩) 1 1, .agg #[.int .i64 (1), .string (⟨#[104]⟩ : ByteArray), .int .i64 (1), .bool false, .int .i64 (0), .int .i64 (0), .slice none 0 0]], fun ls => [.cells #[.int .i64 (1), .string (⟨#[104]⟩ : ByteArray), .int .i64 (1), .bool false, .int .i64 (0), .int .i64 (0), .slice none 0 0] 74], 0, .normal, fun ls => [.bool false], fun ls => [.cells #[.int .i64 (1), .string (⟨#[104]⟩ : ByteArray), .int .i64 (1), .bool false, .int .i64 (0), .int .i64 (0), .slice none 0 0] 74], fun ls => []⟩
theorem p0_btf_holdsFunction_v8 : SpcG Try.prog M B0 S (sq0_btf_holdsFunction_v8  ) :=
  fn_specG hU (P := Try.prog) Try.func25 (fun xs w => by kernel_rfl) 1 _ _ (fun _ => rfl) _ _ _ []
    [.o, .o, .o, .a 1, .o, .o, .o, .o, .a 1, .o, .o, .o, .o]
    [] (fun b => by kernel_rfl)
def sq0_btf_fits_v8   : Spc := ⟨fun ls => .call 26 #[.slice (some ⟨(lget ls 0).n, 0, none⟩) 1 1, .int .i64 (1)], fun ls => [.cells #[.int .i64 (1), .string (⟨#[104]⟩ : ByteArray), .int .i64 (1), .bool false, .int .i64 (0), .int .i64 (0), .slice none 0 0] 74], 0, .normal, fun ls => [.bool true], fun ls => [.cells #[.int .i64 (1), .string (⟨#[104]⟩ : ByteArray), .int .i64 (1), .bool false, .int .i64 (0), .int .i64 (0), .slice none 0 0] 74], fun ls => []⟩
theorem p0_btf_fits_v8 : SpcG Try.prog M B0 S (sq0_btf_fits_v8  ) :=
  fn_specG hU (P := Try.prog) Try.func26 (fun xs w => by kernel_rfl) 1 _ _ (fun _ => rfl) _ _ _ []
    [.o, .o, .o, .o, .o, .a 0, .o, .a 1, .o, .a 1, .o, .o, .o, .o, .o]
    [] (fun b => by kernel_rfl)
def sq0_btf_Check_v10   : Spc := ⟨fun ls => .call 9 #[.slice (some ⟨(lget ls 0).n, 0, none⟩) 1 1], fun ls => [.cells #[.int .i64 (1), .string (⟨#[104]⟩ : ByteArray), .int .i64 (1), .bool false, .int .i64 (0), .int .i64 (0), .slice none 0 0] 74], 0, .normal, fun ls => [.tuple #[.int .i64 (0), .int .i64 (0)]], fun ls => [.cells #[.int .i64 (1), .string (⟨#[104]⟩ : ByteArray), .int .i64 (1), .bool false, .int .i64 (0), .int .i64 (0), .slice none 0 0] 74], fun ls => []⟩
theorem p0_btf_Check_v10 : SpcG Try.prog M B0 S (sq0_btf_Check_v10  ) :=
  fn_specG hU (P := Try.prog) Try.func9 (fun xs w => by kernel_rfl) 1 _ _ (fun _ => rfl) _ _ _ []
    [.o, .o, .o, .xg (p0_btf_tooMany_v10 hU  ) [0], .o, .o, .o, .o, .o, .o, .o, .o, .a 0, .o, .o, .a 2, .a 2, .o, .o, .o, .xg (p0_btf_checkType_v8 hU 1 ) [1], .o, .o, .o, .o, .o, .o, .o, .xg (p0_btf_holdsItself_v10 hU  ) [0], .o, .o, .o, .o, .o, .o, .o, .o, .o, .a 0, .o, .o, .a 3, .o, .a 3, .xg (p0_btf_holdsFunction_v8 hU  ) [0], .o, .o, .o, .o, .o, .o, .o, .o, .o, .o, .o, .o, .xg (p0_btf_fits_v8 hU  ) [0], .o, .o, .o, .o, .o, .o]
    [] (fun b => by kernel_rfl)
theorem ok_object_isName_v8 : ConG Try.prog S 11 #[.string (⟨#[104]⟩ : ByteArray)] (.bool true) :=
  fn_conG hU (P := Try.prog) Try.func11 (fun xs w => by kernel_rfl) [.string (⟨#[104]⟩ : ByteArray)] (.bool true)
    [.o, .o, .o, .o, .xg (p0_btf_Check_v10 hU  ) [0], .o, .o, .o, .o, .o, .o, .o, .o]
    [] (fun b => by kernel_rfl)
def sq0_btf_tooMany_v11   : Spc := ⟨fun ls => .call 22 #[.slice (some ⟨(lget ls 0).n, 0, none⟩) 1 1], fun ls => [.cells #[.int .i64 (1), .string (⟨#[105]⟩ : ByteArray), .int .i64 (1), .bool false, .int .i64 (0), .int .i64 (0), .slice none 0 0] 74], 0, .normal, fun ls => [.bool false], fun ls => [.cells #[.int .i64 (1), .string (⟨#[105]⟩ : ByteArray), .int .i64 (1), .bool false, .int .i64 (0), .int .i64 (0), .slice none 0 0] 74], fun ls => []⟩
theorem p0_btf_tooMany_v11 : SpcG Try.prog M B0 S (sq0_btf_tooMany_v11  ) :=
  fn_specG hU (P := Try.prog) Try.func22 (fun xs w => by kernel_rfl) 1 _ _ (fun _ => rfl) _ _ _ []
    [.o, .o, .o, .o, .o, .o, .o, .o, .o, .a 0, .o, .a 1, .o, .a 1, .o, .o, .o, .o, .o, .o]
    [] (fun b => by kernel_rfl)
theorem ok_btf_isName_v9 : ConG Try.prog S 59 #[.string (⟨#[105]⟩ : ByteArray)] (.bool true) :=
  fn_conG hU (P := Try.prog) Try.func59 (fun xs w => by kernel_rfl) [.string (⟨#[105]⟩ : ByteArray)] (.bool true)
    [.o, .o, .o, .o, .o, .o, .o, .o, .o, .o, .o, .o, .o, .o, .o, .o, .o, .o, .o, .o, .o, .o, .o, .o, .o, .o, .o, .o, .o, .o, .o, .o, .o, .o, .o, .o, .o, .o, .o, .o]
    [] (fun b => by kernel_rfl)
def sq0_btf_rightName_v9   : Spc := ⟨fun ls => .call 38 #[.agg #[.int .i64 (1), .string (⟨#[105]⟩ : ByteArray), .int .i64 (1), .bool false, .int .i64 (0), .int .i64 (0), .slice none 0 0], .map (some (lget ls 0).n)], fun ls => [.map #[] 0], 0, .normal, fun ls => [.bool true], fun ls => [.map #[⟨.agg #[.int .i64 (1), .string (⟨#[105]⟩ : ByteArray)], .int .i64 (1), 0⟩] 1], fun ls => []⟩
theorem p0_btf_rightName_v9 : SpcG Try.prog M B0 S (sq0_btf_rightName_v9  ) :=
  fn_specG hU (P := Try.prog) Try.func38 (fun xs w => by kernel_rfl) 1 _ _ (fun _ => rfl) _ _ _ []
    [.o, .o, .o, .a 1, .o, .o, .o, .a 1, .o, .a 1, .o, .o, .a 2, .r [] [] [], .o, .a 2, .a 0, .o, .a 0, .o, .a 0, .o, .a 1, .cg (ok_btf_isName_v9 hU  ), .o, .o, .a 2, .a 0, .o, .o, .o]
    [] (fun b => by kernel_rfl)
theorem ok_btf_rightSize_v9 : ConG Try.prog S 39 #[.agg #[.int .i64 (1), .string (⟨#[105]⟩ : ByteArray), .int .i64 (1), .bool false, .int .i64 (0), .int .i64 (0), .slice none 0 0]] (.bool true) :=
  fn_conG hU (P := Try.prog) Try.func39 (fun xs w => by kernel_rfl) [.agg #[.int .i64 (1), .string (⟨#[105]⟩ : ByteArray), .int .i64 (1), .bool false, .int .i64 (0), .int .i64 (0), .slice none 0 0]] (.bool true)
    [.o, .o, .o, .a 0, .o, .o, .o, .a 0, .o, .o, .o, .o, .o, .o, .o, .o]
    [] (fun b => by kernel_rfl)
theorem ok_btf_rightMemberNames_v9 : ConG Try.prog S 40 #[.agg #[.int .i64 (1), .string (⟨#[105]⟩ : ByteArray), .int .i64 (1), .bool false, .int .i64 (0), .int .i64 (0), .slice none 0 0]] (.bool true) :=
  fn_conG hU (P := Try.prog) Try.func40 (fun xs w => by kernel_rfl) [.agg #[.int .i64 (1), .string (⟨#[105]⟩ : ByteArray), .int .i64 (1), .bool false, .int .i64 (0), .int .i64 (0), .slice none 0 0]] (.bool true)
    [.o, .o, .o, .o, .o, .a 0, .o, .o, .o, .o]
    [] (fun b => by kernel_rfl)
theorem ok_btf_rightReferences_v9 (y1 : Int) : ConG Try.prog S 41 #[.agg #[.int .i64 (1), .string (⟨#[105]⟩ : ByteArray), .int .i64 (1), .bool false, .int .i64 (0), .int .i64 (0), .slice none 0 0], .int .i64 (y1)] (.bool true) :=
  fn_conG hU (P := Try.prog) Try.func41 (fun xs w => by kernel_rfl) [.agg #[.int .i64 (1), .string (⟨#[105]⟩ : ByteArray), .int .i64 (1), .bool false, .int .i64 (0), .int .i64 (0), .slice none 0 0], .int .i64 (y1)] (.bool true)
    [.o, .o, .o, .o, .o, .o, .a 0, .o, .o, .o, .o, .o, .a 0, .o, .o, .o, .o, .a 0, .o, .o, .o, .o, .a 0, .o, .o, .o, .o]
    [] (fun b => by kernel_rfl)
theorem ok_btf_onlyOwnFields_v9 : ConG Try.prog S 42 #[.agg #[.int .i64 (1), .string (⟨#[105]⟩ : ByteArray), .int .i64 (1), .bool false, .int .i64 (0), .int .i64 (0), .slice none 0 0]] (.bool true) :=
  fn_conG hU (P := Try.prog) Try.func42 (fun xs w => by kernel_rfl) [.agg #[.int .i64 (1), .string (⟨#[105]⟩ : ByteArray), .int .i64 (1), .bool false, .int .i64 (0), .int .i64 (0), .slice none 0 0]] (.bool true)
    [.o, .o, .o, .a 0, .o, .o, .o, .o, .o, .a 0, .o, .o, .o, .a 0, .o, .o, .o, .o, .a 0, .o, .o, .o, .a 0, .o, .o, .o]
    [] (fun b => by kernel_rfl)
def sq0_btf_checkType_v9 (y1 : Int)  : Spc := ⟨fun ls => .call 23 #[.agg #[.int .i64 (1), .string (⟨#[105]⟩ : ByteArray), .int .i64 (1), .bool false, .int .i64 (0), .int .i64 (0), .slice none 0 0], .int .i64 (y1), .map (some (lget ls 0).n)], fun ls => [.map #[] 0], 0, .normal, fun ls => [.int .i64 (0)], fun ls => [.map #[⟨.agg #[.int .i64 (1), .string (⟨#[105]⟩ : ByteArray)], .int .i64 (1), 0⟩] 1], fun ls => []⟩
theorem p0_btf_checkType_v9 (y1 : Int) : SpcG Try.prog M B0 S (sq0_btf_checkType_v9 y1 ) :=
  fn_specG hU (P := Try.prog) Try.func23 (fun xs w => by kernel_rfl) 1 _ _ (fun _ => rfl) _ _ _ []
    [.o, .o, .o, .a 1, .o, .o, .o, .a 1, .o, .o, .o, .a 1, .o, .xg (p0_btf_rightName_v9 hU  ) [0], .o, .o, .a 1, .cg (ok_btf_rightSize_v9 hU  ), .o, .o, .a 1, .cg (ok_btf_rightMemberNames_v9 hU  ), .o, .o, .a 1, .o, .cg (ok_btf_rightReferences_v9 hU y1 ), .o, .o, .a 1, .cg (ok_btf_onlyOwnFields_v9 hU  ), .o, .o, .o, .o]
    [] (fun b => by kernel_rfl)
def sq0_btf_held_v9   : Spc := ⟨fun ls => .call 44 #[.agg #[.int .i64 (1), .string (⟨#[105]⟩ : ByteArray), .int .i64 (1), .bool false, .int .i64 (0), .int .i64 (0), .slice none 0 0]], fun ls => [], 0, .normal, fun ls => [.slice none 0 0], fun ls => [], fun ls => []⟩
theorem p0_btf_held_v9 : SpcG Try.prog M B0 S (sq0_btf_held_v9  ) :=
  fn_specG hU (P := Try.prog) Try.func44 (fun xs w => by kernel_rfl) 0 _ _ (fun _ => rfl) _ _ _ []
    [.o, .o, .o, .o, .a 0, .o, .o, .o, .o, .o, .o, .o, .o]
    [] (fun b => by kernel_rfl)
def sq0_btf_holdsItself_1_v9 (w0 : Nat → Bool)  : Spc := ⟨fun ls => .call 43 #[.int .i64 (1), .pointer (some ⟨(lget ls 0).n, 0, none⟩), .pointer (some ⟨(lget ls 2).n, 0, none⟩), .pointer (some ⟨(lget ls 3).n, 0, none⟩), .pointer (some ⟨(lget ls 4).n, 0, none⟩)], fun ls => [.cells #[.slice (some ⟨(lget ls 1).n, 0, none⟩) 1 1] 23, .cells #[.int .i64 (1), .string (⟨#[105]⟩ : ByteArray), .int .i64 (1), .bool false, .int .i64 (0), .int .i64 (0), .slice none 0 0] 74, .cells #[.int .i64 (1)] 3, .cells ⟨esG cB 257 w0⟩ 91, .cells #[.func (.func 43) #[] #[.pointer (some ⟨(lget ls 0).n, 0, none⟩), .pointer (some ⟨(lget ls 2).n, 0, none⟩), .pointer (some ⟨(lget ls 3).n, 0, none⟩), .pointer (some ⟨(lget ls 4).n, 0, none⟩)]] 92], 0, .normal, fun ls => [.bool false], fun ls => [.cells #[.slice (some ⟨(lget ls 1).n, 0, none⟩) 1 1] 23, .cells #[.int .i64 (1), .string (⟨#[105]⟩ : ByteArray), .int .i64 (1), .bool false, .int .i64 (0), .int .i64 (0), .slice none 0 0] 74, .cells #[.int .i64 (1)] 3, .cells ⟨esG cB 257 w0⟩ 91, .cells #[.func (.func 43) #[] #[.pointer (some ⟨(lget ls 0).n, 0, none⟩), .pointer (some ⟨(lget ls 2).n, 0, none⟩), .pointer (some ⟨(lget ls 3).n, 0, none⟩), .pointer (some ⟨(lget ls 4).n, 0, none⟩)]] 92], fun ls => []⟩
theorem p0_btf_holdsItself_1_v9 (w0 : Nat → Bool) : SpcG Try.prog M B0 S (sq0_btf_holdsItself_1_v9 w0 ) :=
  fn_specG hU (P := Try.prog) Try.func43 (fun xs w => by kernel_rfl) 5 _ _ (fun _ => rfl) _ _ _ []
    [.o, .a 0, .o, .o, .o, .a 1, .xg (p0_btf_held_v9 hU  ) [], .o, .o, .o, .o]
    [] (fun b => by kernel_rfl)
def sq0_btf_holdsItself_v11   : Spc := ⟨fun ls => .call 24 #[.slice (some ⟨(lget ls 0).n, 0, none⟩) 1 1], fun ls => [.cells #[.int .i64 (1), .string (⟨#[105]⟩ : ByteArray), .int .i64 (1), .bool false, .int .i64 (0), .int .i64 (0), .slice none 0 0] 74], 0, .normal, fun ls => [.int .i64 (0)], fun ls => [.cells #[.int .i64 (1), .string (⟨#[105]⟩ : ByteArray), .int .i64 (1), .bool false, .int .i64 (0), .int .i64 (0), .slice none 0 0] 74], fun ls => []⟩
theorem p0_btf_holdsItself_v11 : SpcG Try.prog M B0 S (sq0_btf_holdsItself_v11  ) :=
  fn_specG hU (P := Try.prog) Try.func24 (fun xs w => by kernel_rfl) 1 _ _ (fun _ => rfl) _ _ _ []
    [.o, .o, .o, .a 2, .a 2, .a 1, .o, .o, .o, .o, .o, .a 4, .a 4, .a 2, .xg (p0_btf_holdsItself_1_v9 hU (fun _ => false) ) [1, 0, 2, 3, 4], .a 2, .o, .a 5, .a 5, .o, .a 5, .a 5, .a 1, .o, .o, .o]
    [] (fun b => by kernel_rfl)
def sq0_btf_holdsFunction_v9   : Spc := ⟨fun ls => .call 25 #[.slice (some ⟨(lget ls 0).n, 0, none⟩) 1 1, .agg #[.int .i64 (1), .string (⟨#[105]⟩ : ByteArray), .int .i64 (1), .bool false, .int .i64 (0), .int .i64 (0), .slice none 0 0]], fun ls => [.cells #[.int .i64 (1), .string (⟨#[105]⟩ : ByteArray), .int .i64 (1), .bool false, .int .i64 (0), .int .i64 (0), .slice none 0 0] 74], 0, .normal, fun ls => [.bool false], fun ls => [.cells #[.int .i64 (1), .string (⟨#[105]⟩ : ByteArray), .int .i64 (1), .bool false, .int .i64 (0), .int .i64 (0), .slice none 0 0] 74], fun ls => []⟩
theorem p0_btf_holdsFunction_v9 : SpcG Try.prog M B0 S (sq0_btf_holdsFunction_v9  ) :=
  fn_specG hU (P := Try.prog) Try.func25 (fun xs w => by kernel_rfl) 1 _ _ (fun _ => rfl) _ _ _ []
    [.o, .o, .o, .a 1, .o, .o, .o, .o, .a 1, .o, .o, .o, .o]
    [] (fun b => by kernel_rfl)
def sq0_btf_fits_v9   : Spc := ⟨fun ls => .call 26 #[.slice (some ⟨(lget ls 0).n, 0, none⟩) 1 1, .int .i64 (1)], fun ls => [.cells #[.int .i64 (1), .string (⟨#[105]⟩ : ByteArray), .int .i64 (1), .bool false, .int .i64 (0), .int .i64 (0), .slice none 0 0] 74], 0, .normal, fun ls => [.bool true], fun ls => [.cells #[.int .i64 (1), .string (⟨#[105]⟩ : ByteArray), .int .i64 (1), .bool false, .int .i64 (0), .int .i64 (0), .slice none 0 0] 74], fun ls => []⟩
theorem p0_btf_fits_v9 : SpcG Try.prog M B0 S (sq0_btf_fits_v9  ) :=
  fn_specG hU (P := Try.prog) Try.func26 (fun xs w => by kernel_rfl) 1 _ _ (fun _ => rfl) _ _ _ []
    [.o, .o, .o, .o, .o, .a 0, .o, .a 1, .o, .a 1, .o, .o, .o, .o, .o]
    [] (fun b => by kernel_rfl)
def sq0_btf_Check_v11   : Spc := ⟨fun ls => .call 9 #[.slice (some ⟨(lget ls 0).n, 0, none⟩) 1 1], fun ls => [.cells #[.int .i64 (1), .string (⟨#[105]⟩ : ByteArray), .int .i64 (1), .bool false, .int .i64 (0), .int .i64 (0), .slice none 0 0] 74], 0, .normal, fun ls => [.tuple #[.int .i64 (0), .int .i64 (0)]], fun ls => [.cells #[.int .i64 (1), .string (⟨#[105]⟩ : ByteArray), .int .i64 (1), .bool false, .int .i64 (0), .int .i64 (0), .slice none 0 0] 74], fun ls => []⟩
theorem p0_btf_Check_v11 : SpcG Try.prog M B0 S (sq0_btf_Check_v11  ) :=
  fn_specG hU (P := Try.prog) Try.func9 (fun xs w => by kernel_rfl) 1 _ _ (fun _ => rfl) _ _ _ []
    [.o, .o, .o, .xg (p0_btf_tooMany_v11 hU  ) [0], .o, .o, .o, .o, .o, .o, .o, .o, .a 0, .o, .o, .a 2, .a 2, .o, .o, .o, .xg (p0_btf_checkType_v9 hU 1 ) [1], .o, .o, .o, .o, .o, .o, .o, .xg (p0_btf_holdsItself_v11 hU  ) [0], .o, .o, .o, .o, .o, .o, .o, .o, .o, .a 0, .o, .o, .a 3, .o, .a 3, .xg (p0_btf_holdsFunction_v9 hU  ) [0], .o, .o, .o, .o, .o, .o, .o, .o, .o, .o, .o, .o, .xg (p0_btf_fits_v9 hU  ) [0], .o, .o, .o, .o, .o, .o]
    [] (fun b => by kernel_rfl)
theorem ok_object_isName_v9 : ConG Try.prog S 11 #[.string (⟨#[105]⟩ : ByteArray)] (.bool true) :=
  fn_conG hU (P := Try.prog) Try.func11 (fun xs w => by kernel_rfl) [.string (⟨#[105]⟩ : ByteArray)] (.bool true)
    [.o, .o, .o, .o, .xg (p0_btf_Check_v11 hU  ) [0], .o, .o, .o, .o, .o, .o, .o, .o]
    [] (fun b => by kernel_rfl)
def sq0_btf_tooMany_v12   : Spc := ⟨fun ls => .call 22 #[.slice (some ⟨(lget ls 0).n, 0, none⟩) 1 1], fun ls => [.cells #[.int .i64 (1), .string (⟨#[106]⟩ : ByteArray), .int .i64 (1), .bool false, .int .i64 (0), .int .i64 (0), .slice none 0 0] 74], 0, .normal, fun ls => [.bool false], fun ls => [.cells #[.int .i64 (1), .string (⟨#[106]⟩ : ByteArray), .int .i64 (1), .bool false, .int .i64 (0), .int .i64 (0), .slice none 0 0] 74], fun ls => []⟩
theorem p0_btf_tooMany_v12 : SpcG Try.prog M B0 S (sq0_btf_tooMany_v12  ) :=
  fn_specG hU (P := Try.prog) Try.func22 (fun xs w => by kernel_rfl) 1 _ _ (fun _ => rfl) _ _ _ []
    [.o, .o, .o, .o, .o, .o, .o, .o, .o, .a 0, .o, .a 1, .o, .a 1, .o, .o, .o, .o, .o, .o]
    [] (fun b => by kernel_rfl)
theorem ok_btf_isName_v10 : ConG Try.prog S 59 #[.string (⟨#[106]⟩ : ByteArray)] (.bool true) :=
  fn_conG hU (P := Try.prog) Try.func59 (fun xs w => by kernel_rfl) [.string (⟨#[106]⟩ : ByteArray)] (.bool true)
    [.o, .o, .o, .o, .o, .o, .o, .o, .o, .o, .o, .o, .o, .o, .o, .o, .o, .o, .o, .o, .o, .o, .o, .o, .o, .o, .o, .o, .o, .o, .o, .o, .o, .o, .o, .o, .o, .o, .o, .o]
    [] (fun b => by kernel_rfl)
def sq0_btf_rightName_v10   : Spc := ⟨fun ls => .call 38 #[.agg #[.int .i64 (1), .string (⟨#[106]⟩ : ByteArray), .int .i64 (1), .bool false, .int .i64 (0), .int .i64 (0), .slice none 0 0], .map (some (lget ls 0).n)], fun ls => [.map #[] 0], 0, .normal, fun ls => [.bool true], fun ls => [.map #[⟨.agg #[.int .i64 (1), .string (⟨#[106]⟩ : ByteArray)], .int .i64 (1), 0⟩] 1], fun ls => []⟩
theorem p0_btf_rightName_v10 : SpcG Try.prog M B0 S (sq0_btf_rightName_v10  ) :=
  fn_specG hU (P := Try.prog) Try.func38 (fun xs w => by kernel_rfl) 1 _ _ (fun _ => rfl) _ _ _ []
    [.o, .o, .o, .a 1, .o, .o, .o, .a 1, .o, .a 1, .o, .o, .a 2, .r [] [] [], .o, .a 2, .a 0, .o, .a 0, .o, .a 0, .o, .a 1, .cg (ok_btf_isName_v10 hU  ), .o, .o, .a 2, .a 0, .o, .o, .o]
    [] (fun b => by kernel_rfl)
theorem ok_btf_rightSize_v10 : ConG Try.prog S 39 #[.agg #[.int .i64 (1), .string (⟨#[106]⟩ : ByteArray), .int .i64 (1), .bool false, .int .i64 (0), .int .i64 (0), .slice none 0 0]] (.bool true) :=
  fn_conG hU (P := Try.prog) Try.func39 (fun xs w => by kernel_rfl) [.agg #[.int .i64 (1), .string (⟨#[106]⟩ : ByteArray), .int .i64 (1), .bool false, .int .i64 (0), .int .i64 (0), .slice none 0 0]] (.bool true)
    [.o, .o, .o, .a 0, .o, .o, .o, .a 0, .o, .o, .o, .o, .o, .o, .o, .o]
    [] (fun b => by kernel_rfl)
theorem ok_btf_rightMemberNames_v10 : ConG Try.prog S 40 #[.agg #[.int .i64 (1), .string (⟨#[106]⟩ : ByteArray), .int .i64 (1), .bool false, .int .i64 (0), .int .i64 (0), .slice none 0 0]] (.bool true) :=
  fn_conG hU (P := Try.prog) Try.func40 (fun xs w => by kernel_rfl) [.agg #[.int .i64 (1), .string (⟨#[106]⟩ : ByteArray), .int .i64 (1), .bool false, .int .i64 (0), .int .i64 (0), .slice none 0 0]] (.bool true)
    [.o, .o, .o, .o, .o, .a 0, .o, .o, .o, .o]
    [] (fun b => by kernel_rfl)
theorem ok_btf_rightReferences_v10 (y1 : Int) : ConG Try.prog S 41 #[.agg #[.int .i64 (1), .string (⟨#[106]⟩ : ByteArray), .int .i64 (1), .bool false, .int .i64 (0), .int .i64 (0), .slice none 0 0], .int .i64 (y1)] (.bool true) :=
  fn_conG hU (P := Try.prog) Try.func41 (fun xs w => by kernel_rfl) [.agg #[.int .i64 (1), .string (⟨#[106]⟩ : ByteArray), .int .i64 (1), .bool false, .int .i64 (0), .int .i64 (0), .slice none 0 0], .int .i64 (y1)] (.bool true)
    [.o, .o, .o, .o, .o, .o, .a 0, .o, .o, .o, .o, .o, .a 0, .o, .o, .o, .o, .a 0, .o, .o, .o, .o, .a 0, .o, .o, .o, .o]
    [] (fun b => by kernel_rfl)
theorem ok_btf_onlyOwnFields_v10 : ConG Try.prog S 42 #[.agg #[.int .i64 (1), .string (⟨#[106]⟩ : ByteArray), .int .i64 (1), .bool false, .int .i64 (0), .int .i64 (0), .slice none 0 0]] (.bool true) :=
  fn_conG hU (P := Try.prog) Try.func42 (fun xs w => by kernel_rfl) [.agg #[.int .i64 (1), .string (⟨#[106]⟩ : ByteArray), .int .i64 (1), .bool false, .int .i64 (0), .int .i64 (0), .slice none 0 0]] (.bool true)
    [.o, .o, .o, .a 0, .o, .o, .o, .o, .o, .a 0, .o, .o, .o, .a 0, .o, .o, .o, .o, .a 0, .o, .o, .o, .a 0, .o, .o, .o]
    [] (fun b => by kernel_rfl)
def sq0_btf_checkType_v10 (y1 : Int)  : Spc := ⟨fun ls => .call 23 #[.agg #[.int .i64 (1), .string (⟨#[106]⟩ : ByteArray), .int .i64 (1), .bool false, .int .i64 (0), .int .i64 (0), .slice none 0 0], .int .i64 (y1), .map (some (lget ls 0).n)], fun ls => [.map #[] 0], 0, .normal, fun ls => [.int .i64 (0)], fun ls => [.map #[⟨.agg #[.int .i64 (1), .string (⟨#[106]⟩ : ByteArray)], .int .i64 (1), 0⟩] 1], fun ls => []⟩
theorem p0_btf_checkType_v10 (y1 : Int) : SpcG Try.prog M B0 S (sq0_btf_checkType_v10 y1 ) :=
  fn_specG hU (P := Try.prog) Try.func23 (fun xs w => by kernel_rfl) 1 _ _ (fun _ => rfl) _ _ _ []
    [.o, .o, .o, .a 1, .o, .o, .o, .a 1, .o, .o, .o, .a 1, .o, .xg (p0_btf_rightName_v10 hU  ) [0], .o, .o, .a 1, .cg (ok_btf_rightSize_v10 hU  ), .o, .o, .a 1, .cg (ok_btf_rightMemberNames_v10 hU  ), .o, .o, .a 1, .o, .cg (ok_btf_rightReferences_v10 hU y1 ), .o, .o, .a 1, .cg (ok_btf_onlyOwnFields_v10 hU  ), .o, .o, .o, .o]
    [] (fun b => by kernel_rfl)
def sq0_btf_held_v10   : Spc := ⟨fun ls => .call 44 #[.agg #[.int .i64 (1), .string (⟨#[106]⟩ : ByteArray), .int .i64 (1), .bool false, .int .i64 (0), .int .i64 (0), .slice none 0 0]], fun ls => [], 0, .normal, fun ls => [.slice none 0 0], fun ls => [], fun ls => []⟩
theorem p0_btf_held_v10 : SpcG Try.prog M B0 S (sq0_btf_held_v10  ) :=
  fn_specG hU (P := Try.prog) Try.func44 (fun xs w => by kernel_rfl) 0 _ _ (fun _ => rfl) _ _ _ []
    [.o, .o, .o, .o, .a 0, .o, .o, .o, .o, .o, .o, .o, .o]
    [] (fun b => by kernel_rfl)
def sq0_btf_holdsItself_1_v10 (w0 : Nat → Bool)  : Spc := ⟨fun ls => .call 43 #[.int .i64 (1), .pointer (some ⟨(lget ls 0).n, 0, none⟩), .pointer (some ⟨(lget ls 2).n, 0, none⟩), .pointer (some ⟨(lget ls 3).n, 0, none⟩), .pointer (some ⟨(lget ls 4).n, 0, none⟩)], fun ls => [.cells #[.slice (some ⟨(lget ls 1).n, 0, none⟩) 1 1] 23, .cells #[.int .i64 (1), .string (⟨#[106]⟩ : ByteArray), .int .i64 (1), .bool false, .int .i64 (0), .int .i64 (0), .slice none 0 0] 74, .cells #[.int .i64 (1)] 3, .cells ⟨esG cB 257 w0⟩ 91, .cells #[.func (.func 43) #[] #[.pointer (some ⟨(lget ls 0).n, 0, none⟩), .pointer (some ⟨(lget ls 2).n, 0, none⟩), .pointer (some ⟨(lget ls 3).n, 0, none⟩), .pointer (some ⟨(lget ls 4).n, 0, none⟩)]] 92], 0, .normal, fun ls => [.bool false], fun ls => [.cells #[.slice (some ⟨(lget ls 1).n, 0, none⟩) 1 1] 23, .cells #[.int .i64 (1), .string (⟨#[106]⟩ : ByteArray), .int .i64 (1), .bool false, .int .i64 (0), .int .i64 (0), .slice none 0 0] 74, .cells #[.int .i64 (1)] 3, .cells ⟨esG cB 257 w0⟩ 91, .cells #[.func (.func 43) #[] #[.pointer (some ⟨(lget ls 0).n, 0, none⟩), .pointer (some ⟨(lget ls 2).n, 0, none⟩), .pointer (some ⟨(lget ls 3).n, 0, none⟩), .pointer (some ⟨(lget ls 4).n, 0, none⟩)]] 92], fun ls => []⟩
theorem p0_btf_holdsItself_1_v10 (w0 : Nat → Bool) : SpcG Try.prog M B0 S (sq0_btf_holdsItself_1_v10 w0 ) :=
  fn_specG hU (P := Try.prog) Try.func43 (fun xs w => by kernel_rfl) 5 _ _ (fun _ => rfl) _ _ _ []
    [.o, .a 0, .o, .o, .o, .a 1, .xg (p0_btf_held_v10 hU  ) [], .o, .o, .o, .o]
    [] (fun b => by kernel_rfl)
def sq0_btf_holdsItself_v12   : Spc := ⟨fun ls => .call 24 #[.slice (some ⟨(lget ls 0).n, 0, none⟩) 1 1], fun ls => [.cells #[.int .i64 (1), .string (⟨#[106]⟩ : ByteArray), .int .i64 (1), .bool false, .int .i64 (0), .int .i64 (0), .slice none 0 0] 74], 0, .normal, fun ls => [.int .i64 (0)], fun ls => [.cells #[.int .i64 (1), .string (⟨#[106]⟩ : ByteArray), .int .i64 (1), .bool false, .int .i64 (0), .int .i64 (0), .slice none 0 0] 74], fun ls => []⟩
theorem p0_btf_holdsItself_v12 : SpcG Try.prog M B0 S (sq0_btf_holdsItself_v12  ) :=
  fn_specG hU (P := Try.prog) Try.func24 (fun xs w => by kernel_rfl) 1 _ _ (fun _ => rfl) _ _ _ []
    [.o, .o, .o, .a 2, .a 2, .a 1, .o, .o, .o, .o, .o, .a 4, .a 4, .a 2, .xg (p0_btf_holdsItself_1_v10 hU (fun _ => false) ) [1, 0, 2, 3, 4], .a 2, .o, .a 5, .a 5, .o, .a 5, .a 5, .a 1, .o, .o, .o]
    [] (fun b => by kernel_rfl)
def sq0_btf_holdsFunction_v10   : Spc := ⟨fun ls => .call 25 #[.slice (some ⟨(lget ls 0).n, 0, none⟩) 1 1, .agg #[.int .i64 (1), .string (⟨#[106]⟩ : ByteArray), .int .i64 (1), .bool false, .int .i64 (0), .int .i64 (0), .slice none 0 0]], fun ls => [.cells #[.int .i64 (1), .string (⟨#[106]⟩ : ByteArray), .int .i64 (1), .bool false, .int .i64 (0), .int .i64 (0), .slice none 0 0] 74], 0, .normal, fun ls => [.bool false], fun ls => [.cells #[.int .i64 (1), .string (⟨#[106]⟩ : ByteArray), .int .i64 (1), .bool false, .int .i64 (0), .int .i64 (0), .slice none 0 0] 74], fun ls => []⟩
theorem p0_btf_holdsFunction_v10 : SpcG Try.prog M B0 S (sq0_btf_holdsFunction_v10  ) :=
  fn_specG hU (P := Try.prog) Try.func25 (fun xs w => by kernel_rfl) 1 _ _ (fun _ => rfl) _ _ _ []
    [.o, .o, .o, .a 1, .o, .o, .o, .o, .a 1, .o, .o, .o, .o]
    [] (fun b => by kernel_rfl)
def sq0_btf_fits_v10   : Spc := ⟨fun ls => .call 26 #[.slice (some ⟨(lget ls 0).n, 0, none⟩) 1 1, .int .i64 (1)], fun ls => [.cells #[.int .i64 (1), .string (⟨#[106]⟩ : ByteArray), .int .i64 (1), .bool false, .int .i64 (0), .int .i64 (0), .slice none 0 0] 74], 0, .normal, fun ls => [.bool true], fun ls => [.cells #[.int .i64 (1), .string (⟨#[106]⟩ : ByteArray), .int .i64 (1), .bool false, .int .i64 (0), .int .i64 (0), .slice none 0 0] 74], fun ls => []⟩
theorem p0_btf_fits_v10 : SpcG Try.prog M B0 S (sq0_btf_fits_v10  ) :=
  fn_specG hU (P := Try.prog) Try.func26 (fun xs w => by kernel_rfl) 1 _ _ (fun _ => rfl) _ _ _ []
    [.o, .o, .o, .o, .o, .a 0, .o, .a 1, .o, .a 1, .o, .o, .o, .o, .o]
    [] (fun b => by kernel_rfl)
def sq0_btf_Check_v12   : Spc := ⟨fun ls => .call 9 #[.slice (some ⟨(lget ls 0).n, 0, none⟩) 1 1], fun ls => [.cells #[.int .i64 (1), .string (⟨#[106]⟩ : ByteArray), .int .i64 (1), .bool false, .int .i64 (0), .int .i64 (0), .slice none 0 0] 74], 0, .normal, fun ls => [.tuple #[.int .i64 (0), .int .i64 (0)]], fun ls => [.cells #[.int .i64 (1), .string (⟨#[106]⟩ : ByteArray), .int .i64 (1), .bool false, .int .i64 (0), .int .i64 (0), .slice none 0 0] 74], fun ls => []⟩
theorem p0_btf_Check_v12 : SpcG Try.prog M B0 S (sq0_btf_Check_v12  ) :=
  fn_specG hU (P := Try.prog) Try.func9 (fun xs w => by kernel_rfl) 1 _ _ (fun _ => rfl) _ _ _ []
    [.o, .o, .o, .xg (p0_btf_tooMany_v12 hU  ) [0], .o, .o, .o, .o, .o, .o, .o, .o, .a 0, .o, .o, .a 2, .a 2, .o, .o, .o, .xg (p0_btf_checkType_v10 hU 1 ) [1], .o, .o, .o, .o, .o, .o, .o, .xg (p0_btf_holdsItself_v12 hU  ) [0], .o, .o, .o, .o, .o, .o, .o, .o, .o, .a 0, .o, .o, .a 3, .o, .a 3, .xg (p0_btf_holdsFunction_v10 hU  ) [0], .o, .o, .o, .o, .o, .o, .o, .o, .o, .o, .o, .o, .xg (p0_btf_fits_v10 hU  ) [0], .o, .o, .o, .o, .o, .o]
    [] (fun b => by kernel_rfl)
theorem ok_object_isName_v10 : ConG Try.prog S 11 #[.string (⟨#[106]⟩ : ByteArray)] (.bool true) :=
  fn_conG hU (P := Try.prog) Try.func11 (fun xs w => by kernel_rfl) [.string (⟨#[106]⟩ : ByteArray)] (.bool true)
    [.o, .o, .o, .o, .xg (p0_btf_Check_v12 hU  ) [0], .o, .o, .o, .o, .o, .o, .o, .o]
    [] (fun b => by kernel_rfl)
def sq0_btf_tooMany_v13   : Spc := ⟨fun ls => .call 22 #[.slice (some ⟨(lget ls 0).n, 0, none⟩) 1 1], fun ls => [.cells #[.int .i64 (1), .string (⟨#[107]⟩ : ByteArray), .int .i64 (1), .bool false, .int .i64 (0), .int .i64 (0), .slice none 0 0] 74], 0, .normal, fun ls => [.bool false], fun ls => [.cells #[.int .i64 (1), .string (⟨#[107]⟩ : ByteArray), .int .i64 (1), .bool false, .int .i64 (0), .int .i64 (0), .slice none 0 0] 74], fun ls => []⟩
theorem p0_btf_tooMany_v13 : SpcG Try.prog M B0 S (sq0_btf_tooMany_v13  ) :=
  fn_specG hU (P := Try.prog) Try.func22 (fun xs w => by kernel_rfl) 1 _ _ (fun _ => rfl) _ _ _ []
    [.o, .o, .o, .o, .o, .o, .o, .o, .o, .a 0, .o, .a 1, .o, .a 1, .o, .o, .o, .o, .o, .o]
    [] (fun b => by kernel_rfl)
theorem ok_btf_isName_v11 : ConG Try.prog S 59 #[.string (⟨#[107]⟩ : ByteArray)] (.bool true) :=
  fn_conG hU (P := Try.prog) Try.func59 (fun xs w => by kernel_rfl) [.string (⟨#[107]⟩ : ByteArray)] (.bool true)
    [.o, .o, .o, .o, .o, .o, .o, .o, .o, .o, .o, .o, .o, .o, .o, .o, .o, .o, .o, .o, .o, .o, .o, .o, .o, .o, .o, .o, .o, .o, .o, .o, .o, .o, .o, .o, .o, .o, .o, .o]
    [] (fun b => by kernel_rfl)
def sq0_btf_rightName_v11   : Spc := ⟨fun ls => .call 38 #[.agg #[.int .i64 (1), .string (⟨#[107]⟩ : ByteArray), .int .i64 (1), .bool false, .int .i64 (0), .int .i64 (0), .slice none 0 0], .map (some (lget ls 0).n)], fun ls => [.map #[] 0], 0, .normal, fun ls => [.bool true], fun ls => [.map #[⟨.agg #[.int .i64 (1), .string (⟨#[107]⟩ : ByteArray)], .int .i64 (1), 0⟩] 1], fun ls => []⟩
theorem p0_btf_rightName_v11 : SpcG Try.prog M B0 S (sq0_btf_rightName_v11  ) :=
  fn_specG hU (P := Try.prog) Try.func38 (fun xs w => by kernel_rfl) 1 _ _ (fun _ => rfl) _ _ _ []
    [.o, .o, .o, .a 1, .o, .o, .o, .a 1, .o, .a 1, .o, .o, .a 2, .r [] [] [], .o, .a 2, .a 0, .o, .a 0, .o, .a 0, .o, .a 1, .cg (ok_btf_isName_v11 hU  ), .o, .o, .a 2, .a 0, .o, .o, .o]
    [] (fun b => by kernel_rfl)
theorem ok_btf_rightSize_v11 : ConG Try.prog S 39 #[.agg #[.int .i64 (1), .string (⟨#[107]⟩ : ByteArray), .int .i64 (1), .bool false, .int .i64 (0), .int .i64 (0), .slice none 0 0]] (.bool true) :=
  fn_conG hU (P := Try.prog) Try.func39 (fun xs w => by kernel_rfl) [.agg #[.int .i64 (1), .string (⟨#[107]⟩ : ByteArray), .int .i64 (1), .bool false, .int .i64 (0), .int .i64 (0), .slice none 0 0]] (.bool true)
    [.o, .o, .o, .a 0, .o, .o, .o, .a 0, .o, .o, .o, .o, .o, .o, .o, .o]
    [] (fun b => by kernel_rfl)
theorem ok_btf_rightMemberNames_v11 : ConG Try.prog S 40 #[.agg #[.int .i64 (1), .string (⟨#[107]⟩ : ByteArray), .int .i64 (1), .bool false, .int .i64 (0), .int .i64 (0), .slice none 0 0]] (.bool true) :=
  fn_conG hU (P := Try.prog) Try.func40 (fun xs w => by kernel_rfl) [.agg #[.int .i64 (1), .string (⟨#[107]⟩ : ByteArray), .int .i64 (1), .bool false, .int .i64 (0), .int .i64 (0), .slice none 0 0]] (.bool true)
    [.o, .o, .o, .o, .o, .a 0, .o, .o, .o, .o]
    [] (fun b => by kernel_rfl)
theorem ok_btf_rightReferences_v11 (y1 : Int) : ConG Try.prog S 41 #[.agg #[.int .i64 (1), .string (⟨#[107]⟩ : ByteArray), .int .i64 (1), .bool false, .int .i64 (0), .int .i64 (0), .slice none 0 0], .int .i64 (y1)] (.bool true) :=
  fn_conG hU (P := Try.prog) Try.func41 (fun xs w => by kernel_rfl) [.agg #[.int .i64 (1), .string (⟨#[107]⟩ : ByteArray), .int .i64 (1), .bool false, .int .i64 (0), .int .i64 (0), .slice none 0 0], .int .i64 (y1)] (.bool true)
    [.o, .o, .o, .o, .o, .o, .a 0, .o, .o, .o, .o, .o, .a 0, .o, .o, .o, .o, .a 0, .o, .o, .o, .o, .a 0, .o, .o, .o, .o]
    [] (fun b => by kernel_rfl)
theorem ok_btf_onlyOwnFields_v11 : ConG Try.prog S 42 #[.agg #[.int .i64 (1), .string (⟨#[107]⟩ : ByteArray), .int .i64 (1), .bool false, .int .i64 (0), .int .i64 (0), .slice none 0 0]] (.bool true) :=
  fn_conG hU (P := Try.prog) Try.func42 (fun xs w => by kernel_rfl) [.agg #[.int .i64 (1), .string (⟨#[107]⟩ : ByteArray), .int .i64 (1), .bool false, .int .i64 (0), .int .i64 (0), .slice none 0 0]] (.bool true)
    [.o, .o, .o, .a 0, .o, .o, .o, .o, .o, .a 0, .o, .o, .o, .a 0, .o, .o, .o, .o, .a 0, .o, .o, .o, .a 0, .o, .o, .o]
    [] (fun b => by kernel_rfl)
def sq0_btf_checkType_v11 (y1 : Int)  : Spc := ⟨fun ls => .call 23 #[.agg #[.int .i64 (1), .string (⟨#[107]⟩ : ByteArray), .int .i64 (1), .bool false, .int .i64 (0), .int .i64 (0), .slice none 0 0], .int .i64 (y1), .map (some (lget ls 0).n)], fun ls => [.map #[] 0], 0, .normal, fun ls => [.int .i64 (0)], fun ls => [.map #[⟨.agg #[.int .i64 (1), .string (⟨#[107]⟩ : ByteArray)], .int .i64 (1), 0⟩] 1], fun ls => []⟩
theorem p0_btf_checkType_v11 (y1 : Int) : SpcG Try.prog M B0 S (sq0_btf_checkType_v11 y1 ) :=
  fn_specG hU (P := Try.prog) Try.func23 (fun xs w => by kernel_rfl) 1 _ _ (fun _ => rfl) _ _ _ []
    [.o, .o, .o, .a 1, .o, .o, .o, .a 1, .o, .o, .o, .a 1, .o, .xg (p0_btf_rightName_v11 hU  ) [0], .o, .o, .a 1, .cg (ok_btf_rightSize_v11 hU  ), .o, .o, .a 1, .cg (ok_btf_rightMemberNames_v11 hU  ), .o, .o, .a 1, .o, .cg (ok_btf_rightReferences_v11 hU y1 ), .o, .o, .a 1, .cg (ok_btf_onlyOwnFields_v11 hU  ), .o, .o, .o, .o]
    [] (fun b => by kernel_rfl)
def sq0_btf_held_v11   : Spc := ⟨fun ls => .call 44 #[.agg #[.int .i64 (1), .string (⟨#[107]⟩ : ByteArray), .int .i64 (1), .bool false, .int .i64 (0), .int .i64 (0), .slice none 0 0]], fun ls => [], 0, .normal, fun ls => [.slice none 0 0], fun ls => [], fun ls => []⟩
theorem p0_btf_held_v11 : SpcG Try.prog M B0 S (sq0_btf_held_v11  ) :=
  fn_specG hU (P := Try.prog) Try.func44 (fun xs w => by kernel_rfl) 0 _ _ (fun _ => rfl) _ _ _ []
    [.o, .o, .o, .o, .a 0, .o, .o, .o, .o, .o, .o, .o, .o]
    [] (fun b => by kernel_rfl)
def sq0_btf_holdsItself_1_v11 (w0 : Nat → Bool)  : Spc := ⟨fun ls => .call 43 #[.int .i64 (1), .pointer (some ⟨(lget ls 0).n, 0, none⟩), .pointer (some ⟨(lget ls 2).n, 0, none⟩), .pointer (some ⟨(lget ls 3).n, 0, none⟩), .pointer (some ⟨(lget ls 4).n, 0, none⟩)], fun ls => [.cells #[.slice (some ⟨(lget ls 1).n, 0, none⟩) 1 1] 23, .cells #[.int .i64 (1), .string (⟨#[107]⟩ : ByteArray), .int .i64 (1), .bool false, .int .i64 (0), .int .i64 (0), .slice none 0 0] 74, .cells #[.int .i64 (1)] 3, .cells ⟨esG cB 257 w0⟩ 91, .cells #[.func (.func 43) #[] #[.pointer (some ⟨(lget ls 0).n, 0, none⟩), .pointer (some ⟨(lget ls 2).n, 0, none⟩), .pointer (some ⟨(lget ls 3).n, 0, none⟩), .pointer (some ⟨(lget ls 4).n, 0, none⟩)]] 92], 0, .normal, fun ls => [.bool false], fun ls => [.cells #[.slice (some ⟨(lget ls 1).n, 0, none⟩) 1 1] 23, .cells #[.int .i64 (1), .string (⟨#[107]⟩ : ByteArray), .int .i64 (1), .bool false, .int .i64 (0), .int .i64 (0), .slice none 0 0] 74, .cells #[.int .i64 (1)] 3, .cells ⟨esG cB 257 w0⟩ 91, .cells #[.func (.func 43) #[] #[.pointer (some ⟨(lget ls 0).n, 0, none⟩), .pointer (some ⟨(lget ls 2).n, 0, none⟩), .pointer (some ⟨(lget ls 3).n, 0, none⟩), .pointer (some ⟨(lget ls 4).n, 0, none⟩)]] 92], fun ls => []⟩
theorem p0_btf_holdsItself_1_v11 (w0 : Nat → Bool) : SpcG Try.prog M B0 S (sq0_btf_holdsItself_1_v11 w0 ) :=
  fn_specG hU (P := Try.prog) Try.func43 (fun xs w => by kernel_rfl) 5 _ _ (fun _ => rfl) _ _ _ []
    [.o, .a 0, .o, .o, .o, .a 1, .xg (p0_btf_held_v11 hU  ) [], .o, .o, .o, .o]
    [] (fun b => by kernel_rfl)
def sq0_btf_holdsItself_v13   : Spc := ⟨fun ls => .call 24 #[.slice (some ⟨(lget ls 0).n, 0, none⟩) 1 1], fun ls => [.cells #[.int .i64 (1), .string (⟨#[107]⟩ : ByteArray), .int .i64 (1), .bool false, .int .i64 (0), .int .i64 (0), .slice none 0 0] 74], 0, .normal, fun ls => [.int .i64 (0)], fun ls => [.cells #[.int .i64 (1), .string (⟨#[107]⟩ : ByteArray), .int .i64 (1), .bool false, .int .i64 (0), .int .i64 (0), .slice none 0 0] 74], fun ls => []⟩
theorem p0_btf_holdsItself_v13 : SpcG Try.prog M B0 S (sq0_btf_holdsItself_v13  ) :=
  fn_specG hU (P := Try.prog) Try.func24 (fun xs w => by kernel_rfl) 1 _ _ (fun _ => rfl) _ _ _ []
    [.o, .o, .o, .a 2, .a 2, .a 1, .o, .o, .o, .o, .o, .a 4, .a 4, .a 2, .xg (p0_btf_holdsItself_1_v11 hU (fun _ => false) ) [1, 0, 2, 3, 4], .a 2, .o, .a 5, .a 5, .o, .a 5, .a 5, .a 1, .o, .o, .o]
    [] (fun b => by kernel_rfl)
def sq0_btf_holdsFunction_v11   : Spc := ⟨fun ls => .call 25 #[.slice (some ⟨(lget ls 0).n, 0, none⟩) 1 1, .agg #[.int .i64 (1), .string (⟨#[107]⟩ : ByteArray), .int .i64 (1), .bool false, .int .i64 (0), .int .i64 (0), .slice none 0 0]], fun ls => [.cells #[.int .i64 (1), .string (⟨#[107]⟩ : ByteArray), .int .i64 (1), .bool false, .int .i64 (0), .int .i64 (0), .slice none 0 0] 74], 0, .normal, fun ls => [.bool false], fun ls => [.cells #[.int .i64 (1), .string (⟨#[107]⟩ : ByteArray), .int .i64 (1), .bool false, .int .i64 (0), .int .i64 (0), .slice none 0 0] 74], fun ls => []⟩
theorem p0_btf_holdsFunction_v11 : SpcG Try.prog M B0 S (sq0_btf_holdsFunction_v11  ) :=
  fn_specG hU (P := Try.prog) Try.func25 (fun xs w => by kernel_rfl) 1 _ _ (fun _ => rfl) _ _ _ []
    [.o, .o, .o, .a 1, .o, .o, .o, .o, .a 1, .o, .o, .o, .o]
    [] (fun b => by kernel_rfl)
def sq0_btf_fits_v11   : Spc := ⟨fun ls => .call 26 #[.slice (some ⟨(lget ls 0).n, 0, none⟩) 1 1, .int .i64 (1)], fun ls => [.cells #[.int .i64 (1), .string (⟨#[107]⟩ : ByteArray), .int .i64 (1), .bool false, .int .i64 (0), .int .i64 (0), .slice none 0 0] 74], 0, .normal, fun ls => [.bool true], fun ls => [.cells #[.int .i64 (1), .string (⟨#[107]⟩ : ByteArray), .int .i64 (1), .bool false, .int .i64 (0), .int .i64 (0), .slice none 0 0] 74], fun ls => []⟩
theorem p0_btf_fits_v11 : SpcG Try.prog M B0 S (sq0_btf_fits_v11  ) :=
  fn_specG hU (P := Try.prog) Try.func26 (fun xs w => by kernel_rfl) 1 _ _ (fun _ => rfl) _ _ _ []
    [.o, .o, .o, .o, .o, .a 0, .o, .a 1, .o, .a 1, .o, .o, .o, .o, .o]
    [] (fun b => by kernel_rfl)
def sq0_btf_Check_v13   : Spc := ⟨fun ls => .call 9 #[.slice (some ⟨(lget ls 0).n, 0, none⟩) 1 1], fun ls => [.cells #[.int .i64 (1), .string (⟨#[107]⟩ : ByteArray), .int .i64 (1), .bool false, .int .i64 (0), .int .i64 (0), .slice none 0 0] 74], 0, .normal, fun ls => [.tuple #[.int .i64 (0), .int .i64 (0)]], fun ls => [.cells #[.int .i64 (1), .string (⟨#[107]⟩ : ByteArray), .int .i64 (1), .bool false, .int .i64 (0), .int .i64 (0), .slice none 0 0] 74], fun ls => []⟩
theorem p0_btf_Check_v13 : SpcG Try.prog M B0 S (sq0_btf_Check_v13  ) :=
  fn_specG hU (P := Try.prog) Try.func9 (fun xs w => by kernel_rfl) 1 _ _ (fun _ => rfl) _ _ _ []
    [.o, .o, .o, .xg (p0_btf_tooMany_v13 hU  ) [0], .o, .o, .o, .o, .o, .o, .o, .o, .a 0, .o, .o, .a 2, .a 2, .o, .o, .o, .xg (p0_btf_checkType_v11 hU 1 ) [1], .o, .o, .o, .o, .o, .o, .o, .xg (p0_btf_holdsItself_v13 hU  ) [0], .o, .o, .o, .o, .o, .o, .o, .o, .o, .a 0, .o, .o, .a 3, .o, .a 3, .xg (p0_btf_holdsFunction_v11 hU  ) [0], .o, .o, .o, .o, .o, .o, .o, .o, .o, .o, .o, .o, .xg (p0_btf_fits_v11 hU  ) [0], .o, .o, .o, .o, .o, .o]
    [] (fun b => by kernel_rfl)
theorem ok_object_isName_v11 : ConG Try.prog S 11 #[.string (⟨#[107]⟩ : ByteArray)] (.bool true) :=
  fn_conG hU (P := Try.prog) Try.func11 (fun xs w => by kernel_rfl) [.string (⟨#[107]⟩ : ByteArray)] (.bool true)
    [.o, .o, .o, .o, .xg (p0_btf_Check_v13 hU  ) [0], .o, .o, .o, .o, .o, .o, .o, .o]
    [] (fun b => by kernel_rfl)
def sq0_btf_tooMany_v14   : Spc := ⟨fun ls => .call 22 #[.slice (some ⟨(lget ls 0).n, 0, none⟩) 1 1], fun ls => [.cells #[.int .i64 (1), .string (⟨#[108]⟩ : ByteArray), .int .i64 (1), .bool false, .int .i64 (0), .int .i64 (0), .slice none 0 0] 74], 0, .normal, fun ls => [.bool false], fun ls => [.cells #[.int .i64 (1), .string (⟨#[108]⟩ : ByteArray), .int .i64 (1), .bool false, .int .i64 (0), .int .i64 (0), .slice none 0 0] 74], fun ls => []⟩
theorem p0_btf_tooMany_v14 : SpcG Try.prog M B0 S (sq0_btf_tooMany_v14  ) :=
  fn_specG hU (P := Try.prog) Try.func22 (fun xs w => by kernel_rfl) 1 _ _ (fun _ => rfl) _ _ _ []
    [.o, .o, .o, .o, .o, .o, .o, .o, .o, .a 0, .o, .a 1, .o, .a 1, .o, .o, .o, .o, .o, .o]
    [] (fun b => by kernel_rfl)
theorem ok_btf_isName_v12 : ConG Try.prog S 59 #[.string (⟨#[108]⟩ : ByteArray)] (.bool true) :=
  fn_conG hU (P := Try.prog) Try.func59 (fun xs w => by kernel_rfl) [.string (⟨#[108]⟩ : ByteArray)] (.bool true)
    [.o, .o, .o, .o, .o, .o, .o, .o, .o, .o, .o, .o, .o, .o, .o, .o, .o, .o, .o, .o, .o, .o, .o, .o, .o, .o, .o, .o, .o, .o, .o, .o, .o, .o, .o, .o, .o, .o, .o, .o]
    [] (fun b => by kernel_rfl)
def sq0_btf_rightName_v12   : Spc := ⟨fun ls => .call 38 #[.agg #[.int .i64 (1), .string (⟨#[108]⟩ : ByteArray), .int .i64 (1), .bool false, .int .i64 (0), .int .i64 (0), .slice none 0 0], .map (some (lget ls 0).n)], fun ls => [.map #[] 0], 0, .normal, fun ls => [.bool true], fun ls => [.map #[⟨.agg #[.int .i64 (1), .string (⟨#[108]⟩ : ByteArray)], .int .i64 (1), 0⟩] 1], fun ls => []⟩
theorem p0_btf_rightName_v12 : SpcG Try.prog M B0 S (sq0_btf_rightName_v12  ) :=
  fn_specG hU (P := Try.prog) Try.func38 (fun xs w => by kernel_rfl) 1 _ _ (fun _ => rfl) _ _ _ []
    [.o, .o, .o, .a 1, .o, .o, .o, .a 1, .o, .a 1, .o, .o, .a 2, .r [] [] [], .o, .a 2, .a 0, .o, .a 0, .o, .a 0, .o, .a 1, .cg (ok_btf_isName_v12 hU  ), .o, .o, .a 2, .a 0, .o, .o, .o]
    [] (fun b => by kernel_rfl)
theorem ok_btf_rightSize_v12 : ConG Try.prog S 39 #[.agg #[.int .i64 (1), .string (⟨#[108]⟩ : ByteArray), .int .i64 (1), .bool false, .int .i64 (0), .int .i64 (0), .slice none 0 0]] (.bool true) :=
  fn_conG hU (P := Try.prog) Try.func39 (fun xs w => by kernel_rfl) [.agg #[.int .i64 (1), .string (⟨#[108]⟩ : ByteArray), .int .i64 (1), .bool false, .int .i64 (0), .int .i64 (0), .slice none 0 0]] (.bool true)
    [.o, .o, .o, .a 0, .o, .o, .o, .a 0, .o, .o, .o, .o, .o, .o, .o, .o]
    [] (fun b => by kernel_rfl)
theorem ok_btf_rightMemberNames_v12 : ConG Try.prog S 40 #[.agg #[.int .i64 (1), .string (⟨#[108]⟩ : ByteArray), .int .i64 (1), .bool false, .int .i64 (0), .int .i64 (0), .slice none 0 0]] (.bool true) :=
  fn_conG hU (P := Try.prog) Try.func40 (fun xs w => by kernel_rfl) [.agg #[.int .i64 (1), .string (⟨#[108]⟩ : ByteArray), .int .i64 (1), .bool false, .int .i64 (0), .int .i64 (0), .slice none 0 0]] (.bool true)
    [.o, .o, .o, .o, .o, .a 0, .o, .o, .o, .o]
    [] (fun b => by kernel_rfl)
theorem ok_btf_rightReferences_v12 (y1 : Int) : ConG Try.prog S 41 #[.agg #[.int .i64 (1), .string (⟨#[108]⟩ : ByteArray), .int .i64 (1), .bool false, .int .i64 (0), .int .i64 (0), .slice none 0 0], .int .i64 (y1)] (.bool true) :=
  fn_conG hU (P := Try.prog) Try.func41 (fun xs w => by kernel_rfl) [.agg #[.int .i64 (1), .string (⟨#[108]⟩ : ByteArray), .int .i64 (1), .bool false, .int .i64 (0), .int .i64 (0), .slice none 0 0], .int .i64 (y1)] (.bool true)
    [.o, .o, .o, .o, .o, .o, .a 0, .o, .o, .o, .o, .o, .a 0, .o, .o, .o, .o, .a 0, .o, .o, .o, .o, .a 0, .o, .o, .o, .o]
    [] (fun b => by kernel_rfl)
theorem ok_btf_onlyOwnFields_v12 : ConG Try.prog S 42 #[.agg #[.int .i64 (1), .string (⟨#[108]⟩ : ByteArray), .int .i64 (1), .bool false, .int .i64 (0), .int .i64 (0), .slice none 0 0]] (.bool true) :=
  fn_conG hU (P := Try.prog) Try.func42 (fun xs w => by kernel_rfl) [.agg #[.int .i64 (1), .string (⟨#[108]⟩ : ByteArray), .int .i64 (1), .bool false, .int .i64 (0), .int .i64 (0), .slice none 0 0]] (.bool true)
    [.o, .o, .o, .a 0, .o, .o, .o, .o, .o, .a 0, .o, .o, .o, .a 0, .o, .o, .o, .o, .a 0, .o, .o, .o, .a 0, .o, .o, .o]
    [] (fun b => by kernel_rfl)
def sq0_btf_checkType_v12 (y1 : Int)  : Spc := ⟨fun ls => .call 23 #[.agg #[.int .i64 (1), .string (⟨#[108]⟩ : ByteArray), .int .i64 (1), .bool false, .int .i64 (0), .int .i64 (0), .slice none 0 0], .int .i64 (y1), .map (some (lget ls 0).n)], fun ls => [.map #[] 0], 0, .normal, fun ls => [.int .i64 (0)], fun ls => [.map #[⟨.agg #[.int .i64 (1), .string (⟨#[108]⟩ : ByteArray)], .int .i64 (1), 0⟩] 1], fun ls => []⟩
theorem p0_btf_checkType_v12 (y1 : Int) : SpcG Try.prog M B0 S (sq0_btf_checkType_v12 y1 ) :=
  fn_specG hU (P := Try.prog) Try.func23 (fun xs w => by kernel_rfl) 1 _ _ (fun _ => rfl) _ _ _ []
    [.o, .o, .o, .a 1, .o, .o, .o, .a 1, .o, .o, .o, .a 1, .o, .xg (p0_btf_rightName_v12 hU  ) [0], .o, .o, .a 1, .cg (ok_btf_rightSize_v12 hU  ), .o, .o, .a 1, .cg (ok_btf_rightMemberNames_v12 hU  ), .o, .o, .a 1, .o, .cg (ok_btf_rightReferences_v12 hU y1 ), .o, .o, .a 1, .cg (ok_btf_onlyOwnFields_v12 hU  ), .o, .o, .o, .o]
    [] (fun b => by kernel_rfl)
def sq0_btf_held_v12   : Spc := ⟨fun ls => .call 44 #[.agg #[.int .i64 (1), .string (⟨#[108]⟩ : ByteArray), .int .i64 (1), .bool false, .int .i64 (0), .int .i64 (0), .slice none 0 0]], fun ls => [], 0, .normal, fun ls => [.slice none 0 0], fun ls => [], fun ls => []⟩
theorem p0_btf_held_v12 : SpcG Try.prog M B0 S (sq0_btf_held_v12  ) :=
  fn_specG hU (P := Try.prog) Try.func44 (fun xs w => by kernel_rfl) 0 _ _ (fun _ => rfl) _ _ _ []
    [.o, .o, .o, .o, .a 0, .o, .o, .o, .o, .o, .o, .o, .o]
    [] (fun b => by kernel_rfl)
def sq0_btf_holdsItself_1_v12 (w0 : Nat → Bool)  : Spc := ⟨fun ls => .call 43 #[.int .i64 (1), .pointer (some ⟨(lget ls 0).n, 0, none⟩), .pointer (some ⟨(lget ls 2).n, 0, none⟩), .pointer (some ⟨(lget ls 3).n, 0, none⟩), .pointer (some ⟨(lget ls 4).n, 0, none⟩)], fun ls => [.cells #[.slice (some ⟨(lget ls 1).n, 0, none⟩) 1 1] 23, .cells #[.int .i64 (1), .string (⟨#[108]⟩ : ByteArray), .int .i64 (1), .bool false, .int .i64 (0), .int .i64 (0), .slice none 0 0] 74, .cells #[.int .i64 (1)] 3, .cells ⟨esG cB 257 w0⟩ 91, .cells #[.func (.func 43) #[] #[.pointer (some ⟨(lget ls 0).n, 0, none⟩), .pointer (some ⟨(lget ls 2).n, 0, none⟩), .pointer (some ⟨(lget ls 3).n, 0, none⟩), .pointer (some ⟨(lget ls 4).n, 0, none⟩)]] 92], 0, .normal, fun ls => [.bool false], fun ls => [.cells #[.slice (some ⟨(lget ls 1).n, 0, none⟩) 1 1] 23, .cells #[.int .i64 (1), .string (⟨#[108]⟩ : ByteArray), .int .i64 (1), .bool false, .int .i64 (0), .int .i64 (0), .slice none 0 0] 74, .cells #[.int .i64 (1)] 3, .cells ⟨esG cB 257 w0⟩ 91, .cells #[.func (.func 43) #[] #[.pointer (some ⟨(lget ls 0).n, 0, none⟩), .pointer (some ⟨(lget ls 2).n, 0, none⟩), .pointer (some ⟨(lget ls 3).n, 0, none⟩), .pointer (some ⟨(lget ls 4).n, 0, none⟩)]] 92], fun ls => []⟩
theorem p0_btf_holdsItself_1_v12 (w0 : Nat → Bool) : SpcG Try.prog M B0 S (sq0_btf_holdsItself_1_v12 w0 ) :=
  fn_specG hU (P := Try.prog) Try.func43 (fun xs w => by kernel_rfl) 5 _ _ (fun _ => rfl) _ _ _ []
    [.o, .a 0, .o, .o, .o, .a 1, .xg (p0_btf_held_v12 hU  ) [], .o, .o, .o, .o]
    [] (fun b => by kernel_rfl)
def sq0_btf_holdsItself_v14   : Spc := ⟨fun ls => .call 24 #[.slice (some ⟨(lget ls 0).n, 0, none⟩) 1 1], fun ls => [.cells #[.int .i64 (1), .string (⟨#[108]⟩ : ByteArray), .int .i64 (1), .bool false, .int .i64 (0), .int .i64 (0), .slice none 0 0] 74], 0, .normal, fun ls => [.int .i64 (0)], fun ls => [.cells #[.int .i64 (1), .string (⟨#[108]⟩ : ByteArray), .int .i64 (1), .bool false, .int .i64 (0), .int .i64 (0), .slice none 0 0] 74], fun ls => []⟩
theorem p0_btf_holdsItself_v14 : SpcG Try.prog M B0 S (sq0_btf_holdsItself_v14  ) :=
  fn_specG hU (P := Try.prog) Try.func24 (fun xs w => by kernel_rfl) 1 _ _ (fun _ => rfl) _ _ _ []
    [.o, .o, .o, .a 2, .a 2, .a 1, .o, .o, .o, .o, .o, .a 4, .a 4, .a 2, .xg (p0_btf_holdsItself_1_v12 hU (fun _ => false) ) [1, 0, 2, 3, 4], .a 2, .o, .a 5, .a 5, .o, .a 5, .a 5, .a 1, .o, .o, .o]
    [] (fun b => by kernel_rfl)
def sq0_btf_holdsFunction_v12   : Spc := ⟨fun ls => .call 25 #[.slice (some ⟨(lget ls 0).n, 0, none⟩) 1 1, .agg #[.int .i64 (1), .string (⟨#[108]⟩ : ByteArray), .int .i64 (1), .bool false, .int .i64 (0), .int .i64 (0), .slice none 0 0]], fun ls => [.cells #[.int .i64 (1), .string (⟨#[108]⟩ : ByteArray), .int .i64 (1), .bool false, .int .i64 (0), .int .i64 (0), .slice none 0 0] 74], 0, .normal, fun ls => [.bool false], fun ls => [.cells #[.int .i64 (1), .string (⟨#[108]⟩ : ByteArray), .int .i64 (1), .bool false, .int .i64 (0), .int .i64 (0), .slice none 0 0] 74], fun ls => []⟩
theorem p0_btf_holdsFunction_v12 : SpcG Try.prog M B0 S (sq0_btf_holdsFunction_v12  ) :=
  fn_specG hU (P := Try.prog) Try.func25 (fun xs w => by kernel_rfl) 1 _ _ (fun _ => rfl) _ _ _ []
    [.o, .o, .o, .a 1, .o, .o, .o, .o, .a 1, .o, .o, .o, .o]
    [] (fun b => by kernel_rfl)
def sq0_btf_fits_v12   : Spc := ⟨fun ls => .call 26 #[.slice (some ⟨(lget ls 0).n, 0, none⟩) 1 1, .int .i64 (1)], fun ls => [.cells #[.int .i64 (1), .string (⟨#[108]⟩ : ByteArray), .int .i64 (1), .bool false, .int .i64 (0), .int .i64 (0), .slice none 0 0] 74], 0, .normal, fun ls => [.bool true], fun ls => [.cells #[.int .i64 (1), .string (⟨#[108]⟩ : ByteArray), .int .i64 (1), .bool false, .int .i64 (0), .int .i64 (0), .slice none 0 0] 74], fun ls => []⟩
theorem p0_btf_fits_v12 : SpcG Try.prog M B0 S (sq0_btf_fits_v12  ) :=
  fn_specG hU (P := Try.prog) Try.func26 (fun xs w => by kernel_rfl) 1 _ _ (fun _ => rfl) _ _ _ []
    [.o, .o, .o, .o, .o, .a 0, .o, .a 1, .o, .a 1, .o, .o, .o, .o, .o]
    [] (fun b => by kernel_rfl)
def sq0_btf_Check_v14   : Spc := ⟨fun ls => .call 9 #[.slice (some ⟨(lget ls 0).n, 0, none⟩) 1 1], fun ls => [.cells #[.int .i64 (1), .string (⟨#[108]⟩ : ByteArray), .int .i64 (1), .bool false, .int .i64 (0), .int .i64 (0), .slice none 0 0] 74], 0, .normal, fun ls => [.tuple #[.int .i64 (0), .int .i64 (0)]], fun ls => [.cells #[.int .i64 (1), .string (⟨#[108]⟩ : ByteArray), .int .i64 (1), .bool false, .int .i64 (0), .int .i64 (0), .slice none 0 0] 74], fun ls => []⟩
theorem p0_btf_Check_v14 : SpcG Try.prog M B0 S (sq0_btf_Check_v14  ) :=
  fn_specG hU (P := Try.prog) Try.func9 (fun xs w => by kernel_rfl) 1 _ _ (fun _ => rfl) _ _ _ []
    [.o, .o, .o, .xg (p0_btf_tooMany_v14 hU  ) [0], .o, .o, .o, .o, .o, .o, .o, .o, .a 0, .o, .o, .a 2, .a 2, .o, .o, .o, .xg (p0_btf_checkType_v12 hU 1 ) [1], .o, .o, .o, .o, .o, .o, .o, .xg (p0_btf_holdsItself_v14 hU  ) [0], .o, .o, .o, .o, .o, .o, .o, .o, .o, .a 0, .o, .o, .a 3, .o, .a 3, .xg (p0_btf_holdsFunction_v12 hU  ) [0], .o, .o, .o, .o, .o, .o, .o, .o, .o, .o, .o, .o, .xg (p0_btf_fits_v12 hU  ) [0], .o, .o, .o, .o, .o, .o]
    [] (fun b => by kernel_rfl)
theorem ok_object_isName_v12 : ConG Try.prog S 11 #[.string (⟨#[108]⟩ : ByteArray)] (.bool true) :=
  fn_conG hU (P := Try.prog) Try.func11 (fun xs w => by kernel_rfl) [.string (⟨#[108]⟩ : ByteArray)] (.bool true)
    [.o, .o, .o, .o, .xg (p0_btf_Check_v14 hU  ) [0], .o, .o, .o, .o, .o, .o, .o, .o]
    [] (fun b => by kernel_rfl)
def sq0_btf_tooMany_v15   : Spc := ⟨fun ls => .call 22 #[.slice (some ⟨(lget ls 0).n, 0, none⟩) 1 1], fun ls => [.cells #[.int .i64 (1), .string (⟨#[109]⟩ : ByteArray), .int .i64 (1), .bool false, .int .i64 (0), .int .i64 (0), .slice none 0 0] 74], 0, .normal, fun ls => [.bool false], fun ls => [.cells #[.int .i64 (1), .string (⟨#[109]⟩ : ByteArray), .int .i64 (1), .bool false, .int .i64 (0), .int .i64 (0), .slice none 0 0] 74], fun ls => []⟩
theorem p0_btf_tooMany_v15 : SpcG Try.prog M B0 S (sq0_btf_tooMany_v15  ) :=
  fn_specG hU (P := Try.prog) Try.func22 (fun xs w => by kernel_rfl) 1 _ _ (fun _ => rfl) _ _ _ []
    [.o, .o, .o, .o, .o, .o, .o, .o, .o, .a 0, .o, .a 1, .o, .a 1, .o, .o, .o, .o, .o, .o]
    [] (fun b => by kernel_rfl)
theorem ok_btf_isName_v13 : ConG Try.prog S 59 #[.string (⟨#[109]⟩ : ByteArray)] (.bool true) :=
  fn_conG hU (P := Try.prog) Try.func59 (fun xs w => by kernel_rfl) [.string (⟨#[109]⟩ : ByteArray)] (.bool true)
    [.o, .o, .o, .o, .o, .o, .o, .o, .o, .o, .o, .o, .o, .o, .o, .o, .o, .o, .o, .o, .o, .o, .o, .o, .o, .o, .o, .o, .o, .o, .o, .o, .o, .o, .o, .o, .o, .o, .o, .o]
    [] (fun b => by kernel_rfl)
def sq0_btf_rightName_v13   : Spc := ⟨fun ls => .call 38 #[.agg #[.int .i64 (1), .string (⟨#[109]⟩ : ByteArray), .int .i64 (1), .bool false, .int .i64 (0), .int .i64 (0), .slice none 0 0], .map (some (lget ls 0).n)], fun ls => [.map #[] 0], 0, .normal, fun ls => [.bool true], fun ls => [.map #[⟨.agg #[.int .i64 (1), .string (⟨#[109]⟩ : ByteArray)], .int .i64 (1), 0⟩] 1], fun ls => []⟩
theorem p0_btf_rightName_v13 : SpcG Try.prog M B0 S (sq0_btf_rightName_v13  ) :=
  fn_specG hU (P := Try.prog) Try.func38 (fun xs w => by kernel_rfl) 1 _ _ (fun _ => rfl) _ _ _ []
    [.o, .o, .o, .a 1, .o, .o, .o, .a 1, .o, .a 1, .o, .o, .a 2, .r [] [] [], .o, .a 2, .a 0, .o, .a 0, .o, .a 0, .o, .a 1, .cg (ok_btf_isName_v13 hU  ), .o, .o, .a 2, .a 0, .o, .o, .o]
    [] (fun b => by kernel_rfl)
theorem ok_btf_rightSize_v13 : ConG Try.prog S 39 #[.agg #[.int .i64 (1), .string (⟨#[109]⟩ : ByteArray), .int .i64 (1), .bool false, .int .i64 (0), .int .i64 (0), .slice none 0 0]] (.bool true) :=
  fn_conG hU (P := Try.prog) Try.func39 (fun xs w => by kernel_rfl) [.agg #[.int .i64 (1), .string (⟨#[109]⟩ : ByteArray), .int .i64 (1), .bool false, .int .i64 (0), .int .i64 (0), .slice none 0 0]] (.bool true)
    [.o, .o, .o, .a 0, .o, .o, .o, .a 0, .o, .o, .o, .o, .o, .o, .o, .o]
    [] (fun b => by kernel_rfl)
theorem ok_btf_rightMemberNames_v13 : ConG Try.prog S 40 #[.agg #[.int .i64 (1), .string (⟨#[109]⟩ : ByteArray), .int .i64 (1), .bool false, .int .i64 (0), .int .i64 (0), .slice none 0 0]] (.bool true) :=
  fn_conG hU (P := Try.prog) Try.func40 (fun xs w => by kernel_rfl) [.agg #[.int .i64 (1), .string (⟨#[109]⟩ : ByteArray), .int .i64 (1), .bool false, .int .i64 (0), .int .i64 (0), .slice none 0 0]] (.bool true)
    [.o, .o, .o, .o, .o, .a 0, .o, .o, .o, .o]
    [] (fun b => by kernel_rfl)
theorem ok_btf_rightReferences_v13 (y1 : Int) : ConG Try.prog S 41 #[.agg #[.int .i64 (1), .string (⟨#[109]⟩ : ByteArray), .int .i64 (1), .bool false, .int .i64 (0), .int .i64 (0), .slice none 0 0], .int .i64 (y1)] (.bool true) :=
  fn_conG hU (P := Try.prog) Try.func41 (fun xs w => by kernel_rfl) [.agg #[.int .i64 (1), .string (⟨#[109]⟩ : ByteArray), .int .i64 (1), .bool false, .int .i64 (0), .int .i64 (0), .slice none 0 0], .int .i64 (y1)] (.bool true)
    [.o, .o, .o, .o, .o, .o, .a 0, .o, .o, .o, .o, .o, .a 0, .o, .o, .o, .o, .a 0, .o, .o, .o, .o, .a 0, .o, .o, .o, .o]
    [] (fun b => by kernel_rfl)
theorem ok_btf_onlyOwnFields_v13 : ConG Try.prog S 42 #[.agg #[.int .i64 (1), .string (⟨#[109]⟩ : ByteArray), .int .i64 (1), .bool false, .int .i64 (0), .int .i64 (0), .slice none 0 0]] (.bool true) :=
  fn_conG hU (P := Try.prog) Try.func42 (fun xs w => by kernel_rfl) [.agg #[.int .i64 (1), .string (⟨#[109]⟩ : ByteArray), .int .i64 (1), .bool false, .int .i64 (0), .int .i64 (0), .slice none 0 0]] (.bool true)
    [.o, .o, .o, .a 0, .o, .o, .o, .o, .o, .a 0, .o, .o, .o, .a 0, .o, .o, .o, .o, .a 0, .o, .o, .o, .a 0, .o, .o, .o]
    [] (fun b => by kernel_rfl)
def sq0_btf_checkType_v13 (y1 : Int)  : Spc := ⟨fun ls => .call 23 #[.agg #[.int .i64 (1), .string (⟨#[109]⟩ : ByteArray), .int .i64 (1), .bool false, .int .i64 (0), .int .i64 (0), .slice none 0 0], .int .i64 (y1), .map (some (lget ls 0).n)], fun ls => [.map #[] 0], 0, .normal, fun ls => [.int .i64 (0)], fun ls => [.map #[⟨.agg #[.int .i64 (1), .string (⟨#[109]⟩ : ByteArray)], .int .i64 (1), 0⟩] 1], fun ls => []⟩
theorem p0_btf_checkType_v13 (y1 : Int) : SpcG Try.prog M B0 S (sq0_btf_checkType_v13 y1 ) :=
  fn_specG hU (P := Try.prog) Try.func23 (fun xs w => by kernel_rfl) 1 _ _ (fun _ => rfl) _ _ _ []
    [.o, .o, .o, .a 1, .o, .o, .o, .a 1, .o, .o, .o, .a 1, .o, .xg (p0_btf_rightName_v13 hU  ) [0], .o, .o, .a 1, .cg (ok_btf_rightSize_v13 hU  ), .o, .o, .a 1, .cg (ok_btf_rightMemberNames_v13 hU  ), .o, .o, .a 1, .o, .cg (ok_btf_rightReferences_v13 hU y1 ), .o, .o, .a 1, .cg (ok_btf_onlyOwnFields_v13 hU  ), .o, .o, .o, .o]
    [] (fun b => by kernel_rfl)
def sq0_btf_held_v13   : Spc := ⟨fun ls => .call 44 #[.agg #[.int .i64 (1), .string (⟨#[109]⟩ : ByteArray), .int .i64 (1), .bool false, .int .i64 (0), .int .i64 (0), .slice none 0 0]], fun ls => [], 0, .normal, fun ls => [.slice none 0 0], fun ls => [], fun ls => []⟩
theorem p0_btf_held_v13 : SpcG Try.prog M B0 S (sq0_btf_held_v13  ) :=
  fn_specG hU (P := Try.prog) Try.func44 (fun xs w => by kernel_rfl) 0 _ _ (fun _ => rfl) _ _ _ []
    [.o, .o, .o, .o, .a 0, .o, .o, .o, .o, .o, .o, .o, .o]
    [] (fun b => by kernel_rfl)
def sq0_btf_holdsItself_1_v13 (w0 : Nat → Bool)  : Spc := ⟨fun ls => .call 43 #[.int .i64 (1), .pointer (some ⟨(lget ls 0).n, 0, none⟩), .pointer (some ⟨(lget ls 2).n, 0, none⟩), .pointer (some ⟨(lget ls 3).n, 0, none⟩), .pointer (some ⟨(lget ls 4).n, 0, none⟩)], fun ls => [.cells #[.slice (some ⟨(lget ls 1).n, 0, none⟩) 1 1] 23, .cells #[.int .i64 (1), .string (⟨#[109]⟩ : ByteArray), .int .i64 (1), .bool false, .int .i64 (0), .int .i64 (0), .slice none 0 0] 74, .cells #[.int .i64 (1)] 3, .cells ⟨esG cB 257 w0⟩ 91, .cells #[.func (.func 43) #[] #[.pointer (some ⟨(lget ls 0).n, 0, none⟩), .pointer (some ⟨(lget ls 2).n, 0, none⟩), .pointer (some ⟨(lget ls 3).n, 0, none⟩), .pointer (some ⟨(lget ls 4).n, 0, none⟩)]] 92], 0, .normal, fun ls => [.bool false], fun ls => [.cells #[.slice (some ⟨(lget ls 1).n, 0, none⟩) 1 1] 23, .cells #[.int .i64 (1), .string (⟨#[109]⟩ : ByteArray), .int .i64 (1), .bool false, .int .i64 (0), .int .i64 (0), .slice none 0 0] 74, .cells #[.int .i64 (1)] 3, .cells ⟨esG cB 257 w0⟩ 91, .cells #[.func (.func 43) #[] #[.pointer (some ⟨(lget ls 0).n, 0, none⟩), .pointer (some ⟨(lget ls 2).n, 0, none⟩), .pointer (some ⟨(lget ls 3).n, 0, none⟩), .pointer (some ⟨(lget ls 4).n, 0, none⟩)]] 92], fun ls => []⟩
theorem p0_btf_holdsItself_1_v13 (w0 : Nat → Bool) : SpcG Try.prog M B0 S (sq0_btf_holdsItself_1_v13 w0 ) :=
  fn_specG hU (P := Try.prog) Try.func43 (fun xs w => by kernel_rfl) 5 _ _ (fun _ => rfl) _ _ _ []
    [.o, .a 0, .o, .o, .o, .a 1, .xg (p0_btf_held_v13 hU  ) [], .o, .o, .o, .o]
    [] (fun b => by kernel_rfl)
def sq0_btf_holdsItself_v15   : Spc := ⟨fun ls => .call 24 #[.slice (some ⟨(lget ls 0).n, 0, none⟩) 1 1], fun ls => [.cells #[.int .i64 (1), .string (⟨#[109]⟩ : ByteArray), .int .i64 (1), .bool false, .int .i64 (0), .int .i64 (0), .slice none 0 0] 74], 0, .normal, fun ls => [.int .i64 (0)], fun ls => [.cells #[.int .i64 (1), .string (⟨#[109]⟩ : ByteArray), .int .i64 (1), .bool false, .int .i64 (0), .int .i64 (0), .slice none 0 0] 74], fun ls => []⟩
theorem p0_btf_holdsItself_v15 : SpcG Try.prog M B0 S (sq0_btf_holdsItself_v15  ) :=
  fn_specG hU (P := Try.prog) Try.func24 (fun xs w => by kernel_rfl) 1 _ _ (fun _ => rfl) _ _ _ []
    [.o, .o, .o, .a 2, .a 2, .a 1, .o, .o, .o, .o, .o, .a 4, .a 4, .a 2, .xg (p0_btf_holdsItself_1_v13 hU (fun _ => false) ) [1, 0, 2, 3, 4], .a 2, .o, .a 5, .a 5, .o, .a 5, .a 5, .a 1, .o, .o, .o]
    [] (fun b => by kernel_rfl)
def sq0_btf_holdsFunction_v13   : Spc := ⟨fun ls => .call 25 #[.slice (some ⟨(lget ls 0).n, 0, none⟩) 1 1, .agg #[.int .i64 (1), .string (⟨#[109]⟩ : ByteArray), .int .i64 (1), .bool false, .int .i64 (0), .int .i64 (0), .slice none 0 0]], fun ls => [.cells #[.int .i64 (1), .string (⟨#[109]⟩ : ByteArray), .int .i64 (1), .bool false, .int .i64 (0), .int .i64 (0), .slice none 0 0] 74], 0, .normal, fun ls => [.bool false], fun ls => [.cells #[.int .i64 (1), .string (⟨#[109]⟩ : ByteArray), .int .i64 (1), .bool false, .int .i64 (0), .int .i64 (0), .slice none 0 0] 74], fun ls => []⟩
theorem p0_btf_holdsFunction_v13 : SpcG Try.prog M B0 S (sq0_btf_holdsFunction_v13  ) :=
  fn_specG hU (P := Try.prog) Try.func25 (fun xs w => by kernel_rfl) 1 _ _ (fun _ => rfl) _ _ _ []
    [.o, .o, .o, .a 1, .o, .o, .o, .o, .a 1, .o, .o, .o, .o]
    [] (fun b => by kernel_rfl)
def sq0_btf_fits_v13   : Spc := ⟨fun ls => .call 26 #[.slice (some ⟨(lget ls 0).n, 0, none⟩) 1 1, .int .i64 (1)], fun ls => [.cells #[.int .i64 (1), .string (⟨#[109]⟩ : ByteArray), .int .i64 (1), .bool false, .int .i64 (0), .int .i64 (0), .slice none 0 0] 74], 0, .normal, fun ls => [.bool true], fun ls => [.cells #[.int .i64 (1), .string (⟨#[109]⟩ : ByteArray), .int .i64 (1), .bool false, .int .i64 (0), .int .i64 (0), .slice none 0 0] 74], fun ls => []⟩
theorem p0_btf_fits_v13 : SpcG Try.prog M B0 S (sq0_btf_fits_v13  ) :=
  fn_specG hU (P := Try.prog) Try.func26 (fun xs w => by kernel_rfl) 1 _ _ (fun _ => rfl) _ _ _ []
    [.o, .o, .o, .o, .o, .a 0, .o, .a 1, .o, .a 1, .o, .o, .o, .o, .o]
    [] (fun b => by kernel_rfl)
def sq0_btf_Check_v15   : Spc := ⟨fun ls => .call 9 #[.slice (some ⟨(lget ls 0).n, 0, none⟩) 1 1], fun ls => [.cells #[.int .i64 (1), .string (⟨#[109]⟩ : ByteArray), .int .i64 (1), .bool false, .int .i64 (0), .int .i64 (0), .slice none 0 0] 74], 0, .normal, fun ls => [.tuple #[.int .i64 (0), .int .i64 (0)]], fun ls => [.cells #[.int .i64 (1), .string (⟨#[109]⟩ : ByteArray), .int .i64 (1), .bool false, .int .i64 (0), .int .i64 (0), .slice none 0 0] 74], fun ls => []⟩
theorem p0_btf_Check_v15 : SpcG Try.prog M B0 S (sq0_btf_Check_v15  ) :=
  fn_specG hU (P := Try.prog) Try.func9 (fun xs w => by kernel_rfl) 1 _ _ (fun _ => rfl) _ _ _ []
    [.o, .o, .o, .xg (p0_btf_tooMany_v15 hU  ) [0], .o, .o, .o, .o, .o, .o, .o, .o, .a 0, .o, .o, .a 2, .a 2, .o, .o, .o, .xg (p0_btf_checkType_v13 hU 1 ) [1], .o, .o, .o, .o, .o, .o, .o, .xg (p0_btf_holdsItself_v15 hU  ) [0], .o, .o, .o, .o, .o, .o, .o, .o, .o, .a 0, .o, .o, .a 3, .o, .a 3, .xg (p0_btf_holdsFunction_v13 hU  ) [0], .o, .o, .o, .o, .o, .o, .o, .o, .o, .o, .o, .o, .xg (p0_btf_fits_v13 hU  ) [0], .o, .o, .o, .o, .o, .o]
    [] (fun b => by kernel_rfl)
theorem ok_object_isName_v13 : ConG Try.prog S 11 #[.string (⟨#[109]⟩ : ByteArray)] (.bool true) :=
  fn_conG hU (P := Try.prog) Try.func11 (fun xs w => by kernel_rfl) [.string (⟨#[109]⟩ : ByteArray)] (.bool true)
    [.o, .o, .o, .o, .xg (p0_btf_Check_v15 hU  ) [0], .o, .o, .o, .o, .o, .o, .o, .o]
    [] (fun b => by kernel_rfl)
def sq0_btf_tooMany_v16   : Spc := ⟨fun ls => .call 22 #[.slice (some ⟨(lget ls 0).n, 0, none⟩) 1 1], fun ls => [.cells #[.int .i64 (1), .string (⟨#[110]⟩ : ByteArray), .int .i64 (1), .bool false, .int .i64 (0), .int .i64 (0), .slice none 0 0] 74], 0, .normal, fun ls => [.bool false], fun ls => [.cells #[.int .i64 (1), .string (⟨#[110]⟩ : ByteArray), .int .i64 (1), .bool false, .int .i64 (0), .int .i64 (0), .slice none 0 0] 74], fun ls => []⟩
theorem p0_btf_tooMany_v16 : SpcG Try.prog M B0 S (sq0_btf_tooMany_v16  ) :=
  fn_specG hU (P := Try.prog) Try.func22 (fun xs w => by kernel_rfl) 1 _ _ (fun _ => rfl) _ _ _ []
    [.o, .o, .o, .o, .o, .o, .o, .o, .o, .a 0, .o, .a 1, .o, .a 1, .o, .o, .o, .o, .o, .o]
    [] (fun b => by kernel_rfl)
theorem ok_btf_isName_v14 : ConG Try.prog S 59 #[.string (⟨#[110]⟩ : ByteArray)] (.bool true) :=
  fn_conG hU (P := Try.prog) Try.func59 (fun xs w => by kernel_rfl) [.string (⟨#[110]⟩ : ByteArray)] (.bool true)
    [.o, .o, .o, .o, .o, .o, .o, .o, .o, .o, .o, .o, .o, .o, .o, .o, .o, .o, .o, .o, .o, .o, .o, .o, .o, .o, .o, .o, .o, .o, .o, .o, .o, .o, .o, .o, .o, .o, .o, .o]
    [] (fun b => by kernel_rfl)
def sq0_btf_rightName_v14   : Spc := ⟨fun ls => .call 38 #[.agg #[.int .i64 (1), .string (⟨#[110]⟩ : ByteArray), .int .i64 (1), .bool false, .int .i64 (0), .int .i64 (0), .slice none 0 0], .map (some (lget ls 0).n)], fun ls => [.map #[] 0], 0, .normal, fun ls => [.bool true], fun ls => [.map #[⟨.agg #[.int .i64 (1), .string (⟨#[110]⟩ : ByteArray)], .int .i64 (1), 0⟩] 1], fun ls => []⟩
theorem p0_btf_rightName_v14 : SpcG Try.prog M B0 S (sq0_btf_rightName_v14  ) :=
  fn_specG hU (P := Try.prog) Try.func38 (fun xs w => by kernel_rfl) 1 _ _ (fun _ => rfl) _ _ _ []
    [.o, .o, .o, .a 1, .o, .o, .o, .a 1, .o, .a 1, .o, .o, .a 2, .r [] [] [], .o, .a 2, .a 0, .o, .a 0, .o, .a 0, .o, .a 1, .cg (ok_btf_isName_v14 hU  ), .o, .o, .a 2, .a 0, .o, .o, .o]
    [] (fun b => by kernel_rfl)
theorem ok_btf_rightSize_v14 : ConG Try.prog S 39 #[.agg #[.int .i64 (1), .string (⟨#[110]⟩ : ByteArray), .int .i64 (1), .bool false, .int .i64 (0), .int .i64 (0), .slice none 0 0]] (.bool true) :=
  fn_conG hU (P := Try.prog) Try.func39 (fun xs w => by kernel_rfl) [.agg #[.int .i64 (1), .string (⟨#[110]⟩ : ByteArray), .int .i64 (1), .bool false, .int .i64 (0), .int .i64 (0), .slice none 0 0]] (.bool true)
    [.o, .o, .o, .a 0, .o, .o, .o, .a 0, .o, .o, .o, .o, .o, .o, .o, .o]
    [] (fun b => by kernel_rfl)
theorem ok_btf_rightMemberNames_v14 : ConG Try.prog S 40 #[.agg #[.int .i64 (1), .string (⟨#[110]⟩ : ByteArray), .int .i64 (1), .bool false, .int .i64 (0), .int .i64 (0), .slice none 0 0]] (.bool true) :=
  fn_conG hU (P := Try.prog) Try.func40 (fun xs w => by kernel_rfl) [.agg #[.int .i64 (1), .string (⟨#[110]⟩ : ByteArray), .int .i64 (1), .bool false, .int .i64 (0), .int .i64 (0), .slice none 0 0]] (.bool true)
    [.o, .o, .o, .o, .o, .a 0, .o, .o, .o, .o]
    [] (fun b => by kernel_rfl)
theorem ok_btf_rightReferences_v14 (y1 : Int) : ConG Try.prog S 41 #[.agg #[.int .i64 (1), .string (⟨#[110]⟩ : ByteArray), .int .i64 (1), .bool false, .int .i64 (0), .int .i64 (0), .slice none 0 0], .int .i64 (y1)] (.bool true) :=
  fn_conG hU (P := Try.prog) Try.func41 (fun xs w => by kernel_rfl) [.agg #[.int .i64 (1), .string (⟨#[110]⟩ : ByteArray), .int .i64 (1), .bool false, .int .i64 (0), .int .i64 (0), .slice none 0 0], .int .i64 (y1)] (.bool true)
    [.o, .o, .o, .o, .o, .o, .a 0, .o, .o, .o, .o, .o, .a 0, .o, .o, .o, .o, .a 0, .o, .o, .o, .o, .a 0, .o, .o, .o, .o]
    [] (fun b => by kernel_rfl)
theorem ok_btf_onlyOwnFields_v14 : ConG Try.prog S 42 #[.agg #[.int .i64 (1), .string (⟨#[110]⟩ : ByteArray), .int .i64 (1), .bool false, .int .i64 (0), .int .i64 (0), .slice none 0 0]] (.bool true) :=
  fn_conG hU (P := Try.prog) Try.func42 (fun xs w => by kernel_rfl) [.agg #[.int .i64 (1), .string (⟨#[110]⟩ : ByteArray), .int .i64 (1), .bool false, .int .i64 (0), .int .i64 (0), .slice none 0 0]] (.bool true)
    [.o, .o, .o, .a 0, .o, .o, .o, .o, .o, .a 0, .o, .o, .o, .a 0, .o, .o, .o, .o, .a 0, .o, .o, .o, .a 0, .o, .o, .o]
    [] (fun b => by kernel_rfl)
def sq0_btf_checkType_v14 (y1 : Int)  : Spc := ⟨fun ls => .call 23 #[.agg #[.int .i64 (1), .string (⟨#[110]⟩ : ByteArray), .int .i64 (1), .bool false, .int .i64 (0), .int .i64 (0), .slice none 0 0], .int .i64 (y1), .map (some (lget ls 0).n)], fun ls => [.map #[] 0], 0, .normal, fun ls => [.int .i64 (0)], fun ls => [.map #[⟨.agg #[.int .i64 (1), .string (⟨#[110]⟩ : ByteArray)], .int .i64 (1), 0⟩] 1], fun ls => []⟩
theorem p0_btf_checkType_v14 (y1 : Int) : SpcG Try.prog M B0 S (sq0_btf_checkType_v14 y1 ) :=
  fn_specG hU (P := Try.prog) Try.func23 (fun xs w => by kernel_rfl) 1 _ _ (fun _ => rfl) _ _ _ []
    [.o, .o, .o, .a 1, .o, .o, .o, .a 1, .o, .o, .o, .a 1, .o, .xg (p0_btf_rightName_v14 hU  ) [0], .o, .o, .a 1, .cg (ok_btf_rightSize_v14 hU  ), .o, .o, .a 1, .cg (ok_btf_rightMemberNames_v14 hU  ), .o, .o, .a 1, .o, .cg (ok_btf_rightReferences_v14 hU y1 ), .o, .o, .a 1, .cg (ok_btf_onlyOwnFields_v14 hU  ), .o, .o, .o, .o]
    [] (fun b => by kernel_rfl)
def sq0_btf_held_v14   : Spc := ⟨fun ls => .call 44 #[.agg #[.int .i64 (1), .string (⟨#[110]⟩ : ByteArray), .int .i64 (1), .bool false, .int .i64 (0), .int .i64 (0), .slice none 0 0]], fun ls => [], 0, .normal, fun ls => [.slice none 0 0], fun ls => [], fun ls => []⟩
theorem p0_btf_held_v14 : SpcG Try.prog M B0 S (sq0_btf_held_v14  ) :=
  fn_specG hU (P := Try.prog) Try.func44 (fun xs w => by kernel_rfl) 0 _ _ (fun _ => rfl) _ _ _ []
    [.o, .o, .o, .o, .a 0, .o, .o, .o, .o, .o, .o, .o, .o]
    [] (fun b => by kernel_rfl)
def sq0_btf_holdsItself_1_v14 (w0 : Nat → Bool)  : Spc := ⟨fun ls => .call 43 #[.int .i64 (1), .pointer (some ⟨(lget ls 0).n, 0, none⟩), .pointer (some ⟨(lget ls 2).n, 0, none⟩), .pointer (some ⟨(lget ls 3).n, 0, none⟩), .pointer (some ⟨(lget ls 4).n, 0, none⟩)], fun ls => [.cells #[.slice (some ⟨(lget ls 1).n, 0, none⟩) 1 1] 23, .cells #[.int .i64 (1), .string (⟨#[110]⟩ : ByteArray), .int .i64 (1), .bool false, .int .i64 (0), .int .i64 (0), .slice none 0 0] 74, .cells #[.int .i64 (1)] 3, .cells ⟨esG cB 257 w0⟩ 91, .cells #[.func (.func 43) #[] #[.pointer (some ⟨(lget ls 0).n, 0, none⟩), .pointer (some ⟨(lget ls 2).n, 0, none⟩), .pointer (some ⟨(lget ls 3).n, 0, none⟩), .pointer (some ⟨(lget ls 4).n, 0, none⟩)]] 92], 0, .normal, fun ls => [.bool false], fun ls => [.cells #[.slice (some ⟨(lget ls 1).n, 0, none⟩) 1 1] 23, .cells #[.int .i64 (1), .string (⟨#[110]⟩ : ByteArray), .int .i64 (1), .bool false, .int .i64 (0), .int .i64 (0), .slice none 0 0] 74, .cells #[.int .i64 (1)] 3, .cells ⟨esG cB 257 w0⟩ 91, .cells #[.func (.func 43) #[] #[.pointer (some ⟨(lget ls 0).n, 0, none⟩), .pointer (some ⟨(lget ls 2).n, 0, none⟩), .pointer (some ⟨(lget ls 3).n, 0, none⟩), .pointer (some ⟨(lget ls 4).n, 0, none⟩)]] 92], fun ls => []⟩
theorem p0_btf_holdsItself_1_v14 (w0 : Nat → Bool) : SpcG Try.prog M B0 S (sq0_btf_holdsItself_1_v14 w0 ) :=
  fn_specG hU (P := Try.prog) Try.func43 (fun xs w => by kernel_rfl) 5 _ _ (fun _ => rfl) _ _ _ []
    [.o, .a 0, .o, .o, .o, .a 1, .xg (p0_btf_held_v14 hU  ) [], .o, .o, .o, .o]
    [] (fun b => by kernel_rfl)
def sq0_btf_holdsItself_v16   : Spc := ⟨fun ls => .call 24 #[.slice (some ⟨(lget ls 0).n, 0, none⟩) 1 1], fun ls => [.cells #[.int .i64 (1), .string (⟨#[110]⟩ : ByteArray), .int .i64 (1), .bool false, .int .i64 (0), .int .i64 (0), .slice none 0 0] 74], 0, .normal, fun ls => [.int .i64 (0)], fun ls => [.cells #[.int .i64 (1), .string (⟨#[110]⟩ : ByteArray), .int .i64 (1), .bool false, .int .i64 (0), .int .i64 (0), .slice none 0 0] 74], fun ls => []⟩
theorem p0_btf_holdsItself_v16 : SpcG Try.prog M B0 S (sq0_btf_holdsItself_v16  ) :=
  fn_specG hU (P := Try.prog) Try.func24 (fun xs w => by kernel_rfl) 1 _ _ (fun _ => rfl) _ _ _ []
    [.o, .o, .o, .a 2, .a 2, .a 1, .o, .o, .o, .o, .o, .a 4, .a 4, .a 2, .xg (p0_btf_holdsItself_1_v14 hU (fun _ => false) ) [1, 0, 2, 3, 4], .a 2, .o, .a 5, .a 5, .o, .a 5, .a 5, .a 1, .o, .o, .o]
    [] (fun b => by kernel_rfl)
def sq0_btf_holdsFunction_v14   : Spc := ⟨fun ls => .call 25 #[.slice (some ⟨(lget ls 0).n, 0, none⟩) 1 1, .agg #[.int .i64 (1), .string (⟨#[110]⟩ : ByteArray), .int .i64 (1), .bool false, .int .i64 (0), .int .i64 (0), .slice none 0 0]], fun ls => [.cells #[.int .i64 (1), .string (⟨#[110]⟩ : ByteArray), .int .i64 (1), .bool false, .int .i64 (0), .int .i64 (0), .slice none 0 0] 74], 0, .normal, fun ls => [.bool false], fun ls => [.cells #[.int .i64 (1), .string (⟨#[110]⟩ : ByteArray), .int .i64 (1), .bool false, .int .i64 (0), .int .i64 (0), .slice none 0 0] 74], fun ls => []⟩
theorem p0_btf_holdsFunction_v14 : SpcG Try.prog M B0 S (sq0_btf_holdsFunction_v14  ) :=
  fn_specG hU (P := Try.prog) Try.func25 (fun xs w => by kernel_rfl) 1 _ _ (fun _ => rfl) _ _ _ []
    [.o, .o, .o, .a 1, .o, .o, .o, .o, .a 1, .o, .o, .o, .o]
    [] (fun b => by kernel_rfl)
def sq0_btf_fits_v14   : Spc := ⟨fun ls => .call 26 #[.slice (some ⟨(lget ls 0).n, 0, none⟩) 1 1, .int .i64 (1)], fun ls => [.cells #[.int .i64 (1), .string (⟨#[110]⟩ : ByteArray), .int .i64 (1), .bool false, .int .i64 (0), .int .i64 (0), .slice none 0 0] 74], 0, .normal, fun ls => [.bool true], fun ls => [.cells #[.int .i64 (1), .string (⟨#[110]⟩ : ByteArray), .int .i64 (1), .bool false, .int .i64 (0), .int .i64 (0), .slice none 0 0] 74], fun ls => []⟩
theorem p0_btf_fits_v14 : SpcG Try.prog M B0 S (sq0_btf_fits_v14  ) :=
  fn_specG hU (P := Try.prog) Try.func26 (fun xs w => by kernel_rfl) 1 _ _ (fun _ => rfl) _ _ _ []
    [.o, .o, .o, .o, .o, .a 0, .o, .a 1, .o, .a 1, .o, .o, .o, .o, .o]
    [] (fun b => by kernel_rfl)
def sq0_btf_Check_v16   : Spc := ⟨fun ls => .call 9 #[.slice (some ⟨(lget ls 0).n, 0, none⟩) 1 1], fun ls => [.cells #[.int .i64 (1), .string (⟨#[110]⟩ : ByteArray), .int .i64 (1), .bool false, .int .i64 (0), .int .i64 (0), .slice none 0 0] 74], 0, .normal, fun ls => [.tuple #[.int .i64 (0), .int .i64 (0)]], fun ls => [.cells #[.int .i64 (1), .string (⟨#[110]⟩ : ByteArray), .int .i64 (1), .bool false, .int .i64 (0), .int .i64 (0), .slice none 0 0] 74], fun ls => []⟩
theorem p0_btf_Check_v16 : SpcG Try.prog M B0 S (sq0_btf_Check_v16  ) :=
  fn_specG hU (P := Try.prog) Try.func9 (fun xs w => by kernel_rfl) 1 _ _ (fun _ => rfl) _ _ _ []
    [.o, .o, .o, .xg (p0_btf_tooMany_v16 hU  ) [0], .o, .o, .o, .o, .o, .o, .o, .o, .a 0, .o, .o, .a 2, .a 2, .o, .o, .o, .xg (p0_btf_checkType_v14 hU 1 ) [1], .o, .o, .o, .o, .o, .o, .o, .xg (p0_btf_holdsItself_v16 hU  ) [0], .o, .o, .o, .o, .o, .o, .o, .o, .o, .a 0, .o, .o, .a 3, .o, .a 3, .xg (p0_btf_holdsFunction_v14 hU  ) [0], .o, .o, .o, .o, .o, .o, .o, .o, .o, .o, .o, .o, .xg (p0_btf_fits_v14 hU  ) [0], .o, .o, .o, .o, .o, .o]
    [] (fun b => by kernel_rfl)
theorem ok_object_isName_v14 : ConG Try.prog S 11 #[.string (⟨#[110]⟩ : ByteArray)] (.bool true) :=
  fn_conG hU (P := Try.prog) Try.func11 (fun xs w => by kernel_rfl) [.string (⟨#[110]⟩ : ByteArray)] (.bool true)
    [.o, .o, .o, .o, .xg (p0_btf_Check_v16 hU  ) [0], .o, .o, .o, .o, .o, .o, .o, .o]
    [] (fun b => by kernel_rfl)
def sq0_btf_tooMany_v17   : Spc := ⟨fun ls => .call 22 #[.slice (some ⟨(lget ls 0).n, 0, none⟩) 1 1], fun ls => [.cells #[.int .i64 (1), .string (⟨#[111]⟩ : ByteArray), .int .i64 (1), .bool false, .int .i64 (0), .int .i64 (0), .slice none 0 0] 74], 0, .normal, fun ls => [.bool false], fun ls => [.cells #[.int .i64 (1), .string (⟨#[111]⟩ : ByteArray), .int .i64 (1), .bool false, .int .i64 (0), .int .i64 (0), .slice none 0 0] 74], fun ls => []⟩
theorem p0_btf_tooMany_v17 : SpcG Try.prog M B0 S (sq0_btf_tooMany_v17  ) :=
  fn_specG hU (P := Try.prog) Try.func22 (fun xs w => by kernel_rfl) 1 _ _ (fun _ => rfl) _ _ _ []
    [.o, .o, .o, .o, .o, .o, .o, .o, .o, .a 0, .o, .a 1, .o, .a 1, .o, .o, .o, .o, .o, .o]
    [] (fun b => by kernel_rfl)
theorem ok_btf_isName_v15 : ConG Try.prog S 59 #[.string (⟨#[111]⟩ : ByteArray)] (.bool true) :=
  fn_conG hU (P := Try.prog) Try.func59 (fun xs w => by kernel_rfl) [.string (⟨#[111]⟩ : ByteArray)] (.bool true)
    [.o, .o, .o, .o, .o, .o, .o, .o, .o, .o, .o, .o, .o, .o, .o, .o, .o, .o, .o, .o, .o, .o, .o, .o, .o, .o, .o, .o, .o, .o, .o, .o, .o, .o, .o, .o, .o, .o, .o, .o]
    [] (fun b => by kernel_rfl)
def sq0_btf_rightName_v15   : Spc := ⟨fun ls => .call 38 #[.agg #[.int .i64 (1), .string (⟨#[111]⟩ : ByteArray), .int .i64 (1), .bool false, .int .i64 (0), .int .i64 (0), .slice none 0 0], .map (some (lget ls 0).n)], fun ls => [.map #[] 0], 0, .normal, fun ls => [.bool true], fun ls => [.map #[⟨.agg #[.int .i64 (1), .string (⟨#[111]⟩ : ByteArray)], .int .i64 (1), 0⟩] 1], fun ls => []⟩
theorem p0_btf_rightName_v15 : SpcG Try.prog M B0 S (sq0_btf_rightName_v15  ) :=
  fn_specG hU (P := Try.prog) Try.func38 (fun xs w => by kernel_rfl) 1 _ _ (fun _ => rfl) _ _ _ []
    [.o, .o, .o, .a 1, .o, .o, .o, .a 1, .o, .a 1, .o, .o, .a 2, .r [] [] [], .o, .a 2, .a 0, .o, .a 0, .o, .a 0, .o, .a 1, .cg (ok_btf_isName_v15 hU  ), .o, .o, .a 2, .a 0, .o, .o, .o]
    [] (fun b => by kernel_rfl)
theorem ok_btf_rightSize_v15 : ConG Try.prog S 39 #[.agg #[.int .i64 (1), .string (⟨#[111]⟩ : ByteArray), .int .i64 (1), .bool false, .int .i64 (0), .int .i64 (0), .slice none 0 0]] (.bool true) :=
  fn_conG hU (P := Try.prog) Try.func39 (fun xs w => by kernel_rfl) [.agg #[.int .i64 (1), .string (⟨#[111]⟩ : ByteArray), .int .i64 (1), .bool false, .int .i64 (0), .int .i64 (0), .slice none 0 0]] (.bool true)
    [.o, .o, .o, .a 0, .o, .o, .o, .a 0, .o, .o, .o, .o, .o, .o, .o, .o]
    [] (fun b => by kernel_rfl)
theorem ok_btf_rightMemberNames_v15 : ConG Try.prog S 40 #[.agg #[.int .i64 (1), .string (⟨#[111]⟩ : ByteArray), .int .i64 (1), .bool false, .int .i64 (0), .int .i64 (0), .slice none 0 0]] (.bool true) :=
  fn_conG hU (P := Try.prog) Try.func40 (fun xs w => by kernel_rfl) [.agg #[.int .i64 (1), .string (⟨#[111]⟩ : ByteArray), .int .i64 (1), .bool false, .int .i64 (0), .int .i64 (0), .slice none 0 0]] (.bool true)
    [.o, .o, .o, .o, .o, .a 0, .o, .o, .o, .o]
    [] (fun b => by kernel_rfl)
theorem ok_btf_rightReferences_v15 (y1 : Int) : ConG Try.prog S 41 #[.agg #[.int .i64 (1), .string (⟨#[111]⟩ : ByteArray), .int .i64 (1), .bool false, .int .i64 (0), .int .i64 (0), .slice none 0 0], .int .i64 (y1)] (.bool true) :=
  fn_conG hU (P := Try.prog) Try.func41 (fun xs w => by kernel_rfl) [.agg #[.int .i64 (1), .string (⟨#[111]⟩ : ByteArray), .int .i64 (1), .bool false, .int .i64 (0), .int .i64 (0), .slice none 0 0], .int .i64 (y1)] (.bool true)
    [.o, .o, .o, .o, .o, .o, .a 0, .o, .o, .o, .o, .o, .a 0, .o, .o, .o, .o, .a 0, .o, .o, .o, .o, .a 0, .o, .o, .o, .o]
    [] (fun b => by kernel_rfl)
theorem ok_btf_onlyOwnFields_v15 : ConG Try.prog S 42 #[.agg #[.int .i64 (1), .string (⟨#[111]⟩ : ByteArray), .int .i64 (1), .bool false, .int .i64 (0), .int .i64 (0), .slice none 0 0]] (.bool true) :=
  fn_conG hU (P := Try.prog) Try.func42 (fun xs w => by kernel_rfl) [.agg #[.int .i64 (1), .string (⟨#[111]⟩ : ByteArray), .int .i64 (1), .bool false, .int .i64 (0), .int .i64 (0), .slice none 0 0]] (.bool true)
    [.o, .o, .o, .a 0, .o, .o, .o, .o, .o, .a 0, .o, .o, .o, .a 0, .o, .o, .o, .o, .a 0, .o, .o, .o, .a 0, .o, .o, .o]
    [] (fun b => by kernel_rfl)
def sq0_btf_checkType_v15 (y1 : Int)  : Spc := ⟨fun ls => .call 23 #[.agg #[.int .i64 (1), .string (⟨#[111]⟩ : ByteArray), .int .i64 (1), .bool false, .int .i64 (0), .int .i64 (0), .slice none 0 0], .int .i64 (y1), .map (some (lget ls 0).n)], fun ls => [.map #[] 0], 0, .normal, fun ls => [.int .i64 (0)], fun ls => [.map #[⟨.agg #[.int .i64 (1), .string (⟨#[111]⟩ : ByteArray)], .int .i64 (1), 0⟩] 1], fun ls => []⟩
theorem p0_btf_checkType_v15 (y1 : Int) : SpcG Try.prog M B0 S (sq0_btf_checkType_v15 y1 ) :=
  fn_specG hU (P := Try.prog) Try.func23 (fun xs w => by kernel_rfl) 1 _ _ (fun _ => rfl) _ _ _ []
    [.o, .o, .o, .a 1, .o, .o, .o, .a 1, .o, .o, .o, .a 1, .o, .xg (p0_btf_rightName_v15 hU  ) [0], .o, .o, .a 1, .cg (ok_btf_rightSize_v15 hU  ), .o, .o, .a 1, .cg (ok_btf_rightMemberNames_v15 hU  ), .o, .o, .a 1, .o, .cg (ok_btf_rightReferences_v15 hU y1 ), .o, .o, .a 1, .cg (ok_btf_onlyOwnFields_v15 hU  ), .o, .o, .o, .o]
    [] (fun b => by kernel_rfl)
def sq0_btf_held_v15   : Spc := ⟨fun ls => .call 44 #[.agg #[.int .i64 (1), .string (⟨#[111]⟩ : ByteArray), .int .i64 (1), .bool false, .int .i64 (0), .int .i64 (0), .slice none 0 0]], fun ls => [], 0, .normal, fun ls => [.slice none 0 0], fun ls => [], fun ls => []⟩
theorem p0_btf_held_v15 : SpcG Try.prog M B0 S (sq0_btf_held_v15  ) :=
  fn_specG hU (P := Try.prog) Try.func44 (fun xs w => by kernel_rfl) 0 _ _ (fun _ => rfl) _ _ _ []
    [.o, .o, .o, .o, .a 0, .o, .o, .o, .o, .o, .o, .o, .o]
    [] (fun b => by kernel_rfl)
def sq0_btf_holdsItself_1_v15 (w0 : Nat → Bool)  : Spc := ⟨fun ls => .call 43 #[.int .i64 (1), .pointer (some ⟨(lget ls 0).n, 0, none⟩), .pointer (some ⟨(lget ls 2).n, 0, none⟩), .pointer (some ⟨(lget ls 3).n, 0, none⟩), .pointer (some ⟨(lget ls 4).n, 0, none⟩)], fun ls => [.cells #[.slice (some ⟨(lget ls 1).n, 0, none⟩) 1 1] 23, .cells #[.int .i64 (1), .string (⟨#[111]⟩ : ByteArray), .int .i64 (1), .bool false, .int .i64 (0), .int .i64 (0), .slice none 0 0] 74, .cells #[.int .i64 (1)] 3, .cells ⟨esG cB 257 w0⟩ 91, .cells #[.func (.func 43) #[] #[.pointer (some ⟨(lget ls 0).n, 0, none⟩), .pointer (some ⟨(lget ls 2).n, 0, none⟩), .pointer (some ⟨(lget ls 3).n, 0, none⟩), .pointer (some ⟨(lget ls 4).n, 0, none⟩)]] 92], 0, .normal, fun ls => [.bool false], fun ls => [.cells #[.slice (some ⟨(lget ls 1).n, 0, none⟩) 1 1] 23, .cells #[.int .i64 (1), .string (⟨#[111]⟩ : ByteArray), .int .i64 (1), .bool false, .int .i64 (0), .int .i64 (0), .slice none 0 0] 74, .cells #[.int .i64 (1)] 3, .cells ⟨esG cB 257 w0⟩ 91, .cells #[.func (.func 43) #[] #[.pointer (some ⟨(lget ls 0).n, 0, none⟩), .pointer (some ⟨(lget ls 2).n, 0, none⟩), .pointer (some ⟨(lget ls 3).n, 0, none⟩), .pointer (some ⟨(lget ls 4).n, 0, none⟩)]] 92], fun ls => []⟩
theorem p0_btf_holdsItself_1_v15 (w0 : Nat → Bool) : SpcG Try.prog M B0 S (sq0_btf_holdsItself_1_v15 w0 ) :=
  fn_specG hU (P := Try.prog) Try.func43 (fun xs w => by kernel_rfl) 5 _ _ (fun _ => rfl) _ _ _ []
    [.o, .a 0, .o, .o, .o, .a 1, .xg (p0_btf_held_v15 hU  ) [], .o, .o, .o, .o]
    [] (fun b => by kernel_rfl)
def sq0_btf_holdsItself_v17   : Spc := ⟨fun ls => .call 24 #[.slice (some ⟨(lget ls 0).n, 0, none⟩) 1 1], fun ls => [.cells #[.int .i64 (1), .string (⟨#[111]⟩ : ByteArray), .int .i64 (1), .bool false, .int .i64 (0), .int .i64 (0), .slice none 0 0] 74], 0, .normal, fun ls => [.int .i64 (0)], fun ls => [.cells #[.int .i64 (1), .string (⟨#[111]⟩ : ByteArray), .int .i64 (1), .bool false, .int .i64 (0), .int .i64 (0), .slice none 0 0] 74], fun ls => []⟩
theorem p0_btf_holdsItself_v17 : SpcG Try.prog M B0 S (sq0_btf_holdsItself_v17  ) :=
  fn_specG hU (P := Try.prog) Try.func24 (fun xs w => by kernel_rfl) 1 _ _ (fun _ => rfl) _ _ _ []
    [.o, .o, .o, .a 2, .a 2, .a 1, .o, .o, .o, .o, .o, .a 4, .a 4, .a 2, .xg (p0_btf_holdsItself_1_v15 hU (fun _ => false) ) [1, 0, 2, 3, 4], .a 2, .o, .a 5, .a 5, .o, .a 5, .a 5, .a 1, .o, .o, .o]
    [] (fun b => by kernel_rfl)
def sq0_btf_holdsFunction_v15   : Spc := ⟨fun ls => .call 25 #[.slice (some ⟨(lget ls 0).n, 0, none⟩) 1 1, .agg #[.int .i64 (1), .string (⟨#[111]⟩ : ByteArray), .int .i64 (1), .bool false, .int .i64 (0), .int .i64 (0), .slice none 0 0]], fun ls => [.cells #[.int .i64 (1), .string (⟨#[111]⟩ : ByteArray), .int .i64 (1), .bool false, .int .i64 (0), .int .i64 (0), .slice none 0 0] 74], 0, .normal, fun ls => [.bool false], fun ls => [.cells #[.int .i64 (1), .string (⟨#[111]⟩ : ByteArray), .int .i64 (1), .bool false, .int .i64 (0), .int .i64 (0), .slice none 0 0] 74], fun ls => []⟩
theorem p0_btf_holdsFunction_v15 : SpcG Try.prog M B0 S (sq0_btf_holdsFunction_v15  ) :=
  fn_specG hU (P := Try.prog) Try.func25 (fun xs w => by kernel_rfl) 1 _ _ (fun _ => rfl) _ _ _ []
    [.o, .o, .o, .a 1, .o, .o, .o, .o, .a 1, .o, .o, .o, .o]
    [] (fun b => by kernel_rfl)
def sq0_btf_fits_v15   : Spc := ⟨fun ls => .call 26 #[.slice (some ⟨(lget ls 0).n, 0, none⟩) 1 1, .int .i64 (1)], fun ls => [.cells #[.int .i64 (1), .string (⟨#[111]⟩ : ByteArray), .int .i64 (1), .bool false, .int .i64 (0), .int .i64 (0), .slice none 0 0] 74], 0, .normal, fun ls => [.bool true], fun ls => [.cells #[.int .i64 (1), .string (⟨#[111]⟩ : ByteArray), .int .i64 (1), .bool false, .int .i64 (0), .int .i64 (0), .slice none 0 0] 74], fun ls => []⟩
theorem p0_btf_fits_v15 : SpcG Try.prog M B0 S (sq0_btf_fits_v15  ) :=
  fn_specG hU (P := Try.prog) Try.func26 (fun xs w => by kernel_rfl) 1 _ _ (fun _ => rfl) _ _ _ []
    [.o, .o, .o, .o, .o, .a 0, .o, .a 1, .o, .a 1, .o, .o, .o, .o, .o]
    [] (fun b => by kernel_rfl)
def sq0_btf_Check_v17   : Spc := ⟨fun ls => .call 9 #[.slice (some ⟨(lget ls 0).n, 0, none⟩) 1 1], fun ls => [.cells #[.int .i64 (1), .string (⟨#[111]⟩ : ByteArray), .int .i64 (1), .bool false, .int .i64 (0), .int .i64 (0), .slice none 0 0] 74], 0, .normal, fun ls => [.tuple #[.int .i64 (0), .int .i64 (0)]], fun ls => [.cells #[.int .i64 (1), .string (⟨#[111]⟩ : ByteArray), .int .i64 (1), .bool false, .int .i64 (0), .int .i64 (0), .slice none 0 0] 74], fun ls => []⟩
theorem p0_btf_Check_v17 : SpcG Try.prog M B0 S (sq0_btf_Check_v17  ) :=
  fn_specG hU (P := Try.prog) Try.func9 (fun xs w => by kernel_rfl) 1 _ _ (fun _ => rfl) _ _ _ []
    [.o, .o, .o, .xg (p0_btf_tooMany_v17 hU  ) [0], .o, .o, .o, .o, .o, .o, .o, .o, .a 0, .o, .o, .a 2, .a 2, .o, .o, .o, .xg (p0_btf_checkType_v15 hU 1 ) [1], .o, .o, .o, .o, .o, .o, .o, .xg (p0_btf_holdsItself_v17 hU  ) [0], .o, .o, .o, .o, .o, .o, .o, .o, .o, .a 0, .o, .o, .a 3, .o, .a 3, .xg (p0_btf_holdsFunction_v15 hU  ) [0], .o, .o, .o, .o, .o, .o, .o, .o, .o, .o, .o, .o, .xg (p0_btf_fits_v15 hU  ) [0], .o, .o, .o, .o, .o, .o]
    [] (fun b => by kernel_rfl)
theorem ok_object_isName_v15 : ConG Try.prog S 11 #[.string (⟨#[111]⟩ : ByteArray)] (.bool true) :=
  fn_conG hU (P := Try.prog) Try.func11 (fun xs w => by kernel_rfl) [.string (⟨#[111]⟩ : ByteArray)] (.bool true)
    [.o, .o, .o, .o, .xg (p0_btf_Check_v17 hU  ) [0], .o, .o, .o, .o, .o, .o, .o, .o]
    [] (fun b => by kernel_rfl)
def sq0_btf_tooMany_v18   : Spc := ⟨fun ls => .call 22 #[.slice (some ⟨(lget ls 0).n, 0, none⟩) 1 1], fun ls => [.cells #[.int .i64 (1), .string (⟨#[112]⟩ : ByteArray), .int .i64 (1), .bool false, .int .i64 (0), .int .i64 (0), .slice none 0 0] 74], 0, .normal, fun ls => [.bool false], fun ls => [.cells #[.int .i64 (1), .string (⟨#[112]⟩ : ByteArray), .int .i64 (1), .bool false, .int .i64 (0), .int .i64 (0), .slice none 0 0] 74], fun ls => []⟩
theorem p0_btf_tooMany_v18 : SpcG Try.prog M B0 S (sq0_btf_tooMany_v18  ) :=
  fn_specG hU (P := Try.prog) Try.func22 (fun xs w => by kernel_rfl) 1 _ _ (fun _ => rfl) _ _ _ []
    [.o, .o, .o, .o, .o, .o, .o, .o, .o, .a 0, .o, .a 1, .o, .a 1, .o, .o, .o, .o, .o, .o]
    [] (fun b => by kernel_rfl)
theorem ok_btf_isName_v16 : ConG Try.prog S 59 #[.string (⟨#[112]⟩ : ByteArray)] (.bool true) :=
  fn_conG hU (P := Try.prog) Try.func59 (fun xs w => by kernel_rfl) [.string (⟨#[112]⟩ : ByteArray)] (.bool true)
    [.o, .o, .o, .o, .o, .o, .o, .o, .o, .o, .o, .o, .o, .o, .o, .o, .o, .o, .o, .o, .o, .o, .o, .o, .o, .o, .o, .o, .o, .o, .o, .o, .o, .o, .o, .o, .o, .o, .o, .o]
    [] (fun b => by kernel_rfl)
def sq0_btf_rightName_v16   : Spc := ⟨fun ls => .call 38 #[.agg #[.int .i64 (1), .string (⟨#[112]⟩ : ByteArray), .int .i64 (1), .bool false, .int .i64 (0), .int .i64 (0), .slice none 0 0], .map (some (lget ls 0).n)], fun ls => [.map #[] 0], 0, .normal, fun ls => [.bool true], fun ls => [.map #[⟨.agg #[.int .i64 (1), .string (⟨#[112]⟩ : ByteArray)], .int .i64 (1), 0⟩] 1], fun ls => []⟩
theorem p0_btf_rightName_v16 : SpcG Try.prog M B0 S (sq0_btf_rightName_v16  ) :=
  fn_specG hU (P := Try.prog) Try.func38 (fun xs w => by kernel_rfl) 1 _ _ (fun _ => rfl) _ _ _ []
    [.o, .o, .o, .a 1, .o, .o, .o, .a 1, .o, .a 1, .o, .o, .a 2, .r [] [] [], .o, .a 2, .a 0, .o, .a 0, .o, .a 0, .o, .a 1, .cg (ok_btf_isName_v16 hU  ), .o, .o, .a 2, .a 0, .o, .o, .o]
    [] (fun b => by kernel_rfl)
theorem ok_btf_rightSize_v16 : ConG Try.prog S 39 #[.agg #[.int .i64 (1), .string (⟨#[112]⟩ : ByteArray), .int .i64 (1), .bool false, .int .i64 (0), .int .i64 (0), .slice none 0 0]] (.bool true) :=
  fn_conG hU (P := Try.prog) Try.func39 (fun xs w => by kernel_rfl) [.agg #[.int .i64 (1), .string (⟨#[112]⟩ : ByteArray), .int .i64 (1), .bool false, .int .i64 (0), .int .i64 (0), .slice none 0 0]] (.bool true)
    [.o, .o, .o, .a 0, .o, .o, .o, .a 0, .o, .o, .o, .o, .o, .o, .o, .o]
    [] (fun b => by kernel_rfl)
theorem ok_btf_rightMemberNames_v16 : ConG Try.prog S 40 #[.agg #[.int .i64 (1), .string (⟨#[112]⟩ : ByteArray), .int .i64 (1), .bool false, .int .i64 (0), .int .i64 (0), .slice none 0 0]] (.bool true) :=
  fn_conG hU (P := Try.prog) Try.func40 (fun xs w => by kernel_rfl) [.agg #[.int .i64 (1), .string (⟨#[112]⟩ : ByteArray), .int .i64 (1), .bool false, .int .i64 (0), .int .i64 (0), .slice none 0 0]] (.bool true)
    [.o, .o, .o, .o, .o, .a 0, .o, .o, .o, .o]
    [] (fun b => by kernel_rfl)
theorem ok_btf_rightReferences_v16 (y1 : Int) : ConG Try.prog S 41 #[.agg #[.int .i64 (1), .string (⟨#[112]⟩ : ByteArray), .int .i64 (1), .bool false, .int .i64 (0), .int .i64 (0), .slice none 0 0], .int .i64 (y1)] (.bool true) :=
  fn_conG hU (P := Try.prog) Try.func41 (fun xs w => by kernel_rfl) [.agg #[.int .i64 (1), .string (⟨#[112]⟩ : ByteArray), .int .i64 (1), .bool false, .int .i64 (0), .int .i64 (0), .slice none 0 0], .int .i64 (y1)] (.bool true)
    [.o, .o, .o, .o, .o, .o, .a 0, .o, .o, .o, .o, .o, .a 0, .o, .o, .o, .o, .a 0, .o, .o, .o, .o, .a 0, .o, .o, .o, .o]
    [] (fun b => by kernel_rfl)
theorem ok_btf_onlyOwnFields_v16 : ConG Try.prog S 42 #[.agg #[.int .i64 (1), .string (⟨#[112]⟩ : ByteArray), .int .i64 (1), .bool false, .int .i64 (0), .int .i64 (0), .slice none 0 0]] (.bool true) :=
  fn_conG hU (P := Try.prog) Try.func42 (fun xs w => by kernel_rfl) [.agg #[.int .i64 (1), .string (⟨#[112]⟩ : ByteArray), .int .i64 (1), .bool false, .int .i64 (0), .int .i64 (0), .slice none 0 0]] (.bool true)
    [.o, .o, .o, .a 0, .o, .o, .o, .o, .o, .a 0, .o, .o, .o, .a 0, .o, .o, .o, .o, .a 0, .o, .o, .o, .a 0, .o, .o, .o]
    [] (fun b => by kernel_rfl)
def sq0_btf_checkType_v16 (y1 : Int)  : Spc := ⟨fun ls => .call 23 #[.agg #[.int .i64 (1), .string (⟨#[112]⟩ : ByteArray), .int .i64 (1), .bool false, .int .i64 (0), .int .i64 (0), .slice none 0 0], .int .i64 (y1), .map (some (lget ls 0).n)], fun ls => [.map #[] 0], 0, .normal, fun ls => [.int .i64 (0)], fun ls => [.map #[⟨.agg #[.int .i64 (1), .string (⟨#[112]⟩ : ByteArray)], .int .i64 (1), 0⟩] 1], fun ls => []⟩
theorem p0_btf_checkType_v16 (y1 : Int) : SpcG Try.prog M B0 S (sq0_btf_checkType_v16 y1 ) :=
  fn_specG hU (P := Try.prog) Try.func23 (fun xs w => by kernel_rfl) 1 _ _ (fun _ => rfl) _ _ _ []
    [.o, .o, .o, .a 1, .o, .o, .o, .a 1, .o, .o, .o, .a 1, .o, .xg (p0_btf_rightName_v16 hU  ) [0], .o, .o, .a 1, .cg (ok_btf_rightSize_v16 hU  ), .o, .o, .a 1, .cg (ok_btf_rightMemberNames_v16 hU  ), .o, .o, .a 1, .o, .cg (ok_btf_rightReferences_v16 hU y1 ), .o, .o, .a 1, .cg (ok_btf_onlyOwnFields_v16 hU  ), .o, .o, .o, .o]
    [] (fun b => by kernel_rfl)
def sq0_btf_held_v16   : Spc := ⟨fun ls => .call 44 #[.agg #[.int .i64 (1), .string (⟨#[112]⟩ : ByteArray), .int .i64 (1), .bool false, .int .i64 (0), .int .i64 (0), .slice none 0 0]], fun ls => [], 0, .normal, fun ls => [.slice none 0 0], fun ls => [], fun ls => []⟩
theorem p0_btf_held_v16 : SpcG Try.prog M B0 S (sq0_btf_held_v16  ) :=
  fn_specG hU (P := Try.prog) Try.func44 (fun xs w => by kernel_rfl) 0 _ _ (fun _ => rfl) _ _ _ []
    [.o, .o, .o, .o, .a 0, .o, .o, .o, .o, .o, .o, .o, .o]
    [] (fun b => by kernel_rfl)
def sq0_btf_holdsItself_1_v16 (w0 : Nat → Bool)  : Spc := ⟨fun ls => .call 43 #[.int .i64 (1), .pointer (some ⟨(lget ls 0).n, 0, none⟩), .pointer (some ⟨(lget ls 2).n, 0, none⟩), .pointer (some ⟨(lget ls 3).n, 0, none⟩), .pointer (some ⟨(lget ls 4).n, 0, none⟩)], fun ls => [.cells #[.slice (some ⟨(lget ls 1).n, 0, none⟩) 1 1] 23, .cells #[.int .i64 (1), .string (⟨#[112]⟩ : ByteArray), .int .i64 (1), .bool false, .int .i64 (0), .int .i64 (0), .slice none 0 0] 74, .cells #[.int .i64 (1)] 3, .cells ⟨esG cB 257 w0⟩ 91, .cells #[.func (.func 43) #[] #[.pointer (some ⟨(lget ls 0).n, 0, none⟩), .pointer (some ⟨(lget ls 2).n, 0, none⟩), .pointer (some ⟨(lget ls 3).n, 0, none⟩), .pointer (some ⟨(lget ls 4).n, 0, none⟩)]] 92], 0, .normal, fun ls => [.bool false], fun ls => [.cells #[.slice (some ⟨(lget ls 1).n, 0, none⟩) 1 1] 23, .cells #[.int .i64 (1), .string (⟨#[112]⟩ : ByteArray), .int .i64 (1), .bool false, .int .i64 (0), .int .i64 (0), .slice none 0 0] 74, .cells #[.int .i64 (1)] 3, .cells ⟨esG cB 257 w0⟩ 91, .cells #[.func (.func 43) #[] #[.pointer (some ⟨(lget ls 0).n, 0, none⟩), .pointer (some ⟨(lget ls 2).n, 0, none⟩), .pointer (some ⟨(lget ls 3).n, 0, none⟩), .pointer (some ⟨(lget ls 4).n, 0, none⟩)]] 92], fun ls => []⟩
theorem p0_btf_holdsItself_1_v16 (w0 : Nat → Bool) : SpcG Try.prog M B0 S (sq0_btf_holdsItself_1_v16 w0 ) :=
  fn_specG hU (P := Try.prog) Try.func43 (fun xs w => by kernel_rfl) 5 _ _ (fun _ => rfl) _ _ _ []
    [.o, .a 0, .o, .o, .o, .a 1, .xg (p0_btf_held_v16 hU  ) [], .o, .o, .o, .o]
    [] (fun b => by kernel_rfl)
def sq0_btf_holdsItself_v18   : Spc := ⟨fun ls => .call 24 #[.slice (some ⟨(lget ls 0).n, 0, none⟩) 1 1], fun ls => [.cells #[.int .i64 (1), .string (⟨#[112]⟩ : ByteArray), .int .i64 (1), .bool false, .int .i64 (0), .int .i64 (0), .slice none 0 0] 74], 0, .normal, fun ls => [.int .i64 (0)], fun ls => [.cells #[.int .i64 (1), .string (⟨#[112]⟩ : ByteArray), .int .i64 (1), .bool false, .int .i64 (0), .int .i64 (0), .slice none 0 0] 74], fun ls => []⟩
theorem p0_btf_holdsItself_v18 : SpcG Try.prog M B0 S (sq0_btf_holdsItself_v18  ) :=
  fn_specG hU (P := Try.prog) Try.func24 (fun xs w => by kernel_rfl) 1 _ _ (fun _ => rfl) _ _ _ []
    [.o, .o, .o, .a 2, .a 2, .a 1, .o, .o, .o, .o, .o, .a 4, .a 4, .a 2, .xg (p0_btf_holdsItself_1_v16 hU (fun _ => false) ) [1, 0, 2, 3, 4], .a 2, .o, .a 5, .a 5, .o, .a 5, .a 5, .a 1, .o, .o, .o]
    [] (fun b => by kernel_rfl)
def sq0_btf_holdsFunction_v16   : Spc := ⟨fun ls => .call 25 #[.slice (some ⟨(lget ls 0).n, 0, none⟩) 1 1, .agg #[.int .i64 (1), .string (⟨#[112]⟩ : ByteArray), .int .i64 (1), .bool false, .int .i64 (0), .int .i64 (0), .slice none 0 0]], fun ls => [.cells #[.int .i64 (1), .string (⟨#[112]⟩ : ByteArray), .int .i64 (1), .bool false, .int .i64 (0), .int .i64 (0), .slice none 0 0] 74], 0, .normal, fun ls => [.bool false], fun ls => [.cells #[.int .i64 (1), .string (⟨#[112]⟩ : ByteArray), .int .i64 (1), .bool false, .int .i64 (0), .int .i64 (0), .slice none 0 0] 74], fun ls => []⟩
theorem p0_btf_holdsFunction_v16 : SpcG Try.prog M B0 S (sq0_btf_holdsFunction_v16  ) :=
  fn_specG hU (P := Try.prog) Try.func25 (fun xs w => by kernel_rfl) 1 _ _ (fun _ => rfl) _ _ _ []
    [.o, .o, .o, .a 1, .o, .o, .o, .o, .a 1, .o, .o, .o, .o]
    [] (fun b => by kernel_rfl)
def sq0_btf_fits_v16   : Spc := ⟨fun ls => .call 26 #[.slice (some ⟨(lget ls 0).n, 0, none⟩) 1 1, .int .i64 (1)], fun ls => [.cells #[.int .i64 (1), .string (⟨#[112]⟩ : ByteArray), .int .i64 (1), .bool false, .int .i64 (0), .int .i64 (0), .slice none 0 0] 74], 0, .normal, fun ls => [.bool true], fun ls => [.cells #[.int .i64 (1), .string (⟨#[112]⟩ : ByteArray), .int .i64 (1), .bool false, .int .i64 (0), .int .i64 (0), .slice none 0 0] 74], fun ls => []⟩
theorem p0_btf_fits_v16 : SpcG Try.prog M B0 S (sq0_btf_fits_v16  ) :=
  fn_specG hU (P := Try.prog) Try.func26 (fun xs w => by kernel_rfl) 1 _ _ (fun _ => rfl) _ _ _ []
    [.o, .o, .o, .o, .o, .a 0, .o, .a 1, .o, .a 1, .o, .o, .o, .o, .o]
    [] (fun b => by kernel_rfl)
def sq0_btf_Check_v18   : Spc := ⟨fun ls => .call 9 #[.slice (some ⟨(lget ls 0).n, 0, none⟩) 1 1], fun ls => [.cells #[.int .i64 (1), .string (⟨#[112]⟩ : ByteArray), .int .i64 (1), .bool false, .int .i64 (0), .int .i64 (0), .slice none 0 0] 74], 0, .normal, fun ls => [.tuple #[.int .i64 (0), .int .i64 (0)]], fun ls => [.cells #[.int .i64 (1), .string (⟨#[112]⟩ : ByteArray), .int .i64 (1), .bool false, .int .i64 (0), .int .i64 (0), .slice none 0 0] 74], fun ls => []⟩
theorem p0_btf_Check_v18 : SpcG Try.prog M B0 S (sq0_btf_Check_v18  ) :=
  fn_specG hU (P := Try.prog) Try.func9 (fun xs w => by kernel_rfl) 1 _ _ (fun _ => rfl) _ _ _ []
    [.o, .o, .o, .xg (p0_btf_tooMany_v18 hU  ) [0], .o, .o, .o, .o, .o, .o, .o, .o, .a 0, .o, .o, .a 2, .a 2, .o, .o, .o, .xg (p0_btf_checkType_v16 hU 1 ) [1], .o, .o, .o, .o, .o, .o, .o, .xg (p0_btf_holdsItself_v18 hU  ) [0], .o, .o, .o, .o, .o, .o, .o, .o, .o, .a 0, .o, .o, .a 3, .o, .a 3, .xg (p0_btf_holdsFunction_v16 hU  ) [0], .o, .o, .o, .o, .o, .o, .o, .o, .o, .o, .o, .o, .xg (p0_btf_fits_v16 hU  ) [0], .o, .o, .o, .o, .o, .o]
    [] (fun b => by kernel_rfl)
theorem ok_object_isName_v16 : ConG Try.prog S 11 #[.string (⟨#[112]⟩ : ByteArray)] (.bool true) :=
  fn_conG hU (P := Try.prog) Try.func11 (fun xs w => by kernel_rfl) [.string (⟨#[112]⟩ : ByteArray)] (.bool true)
    [.o, .o, .o, .o, .xg (p0_btf_Check_v18 hU  ) [0], .o, .o, .o, .o, .o, .o, .o, .o]
    [] (fun b => by kernel_rfl)
end

end Go.Proofs.Ytefmnjehhpceoaa


