/-
  The law on a struct of fields of one size, by the program's text.
-/
import Derived.Test.YtfphpdhjcbhehaaDoorL4K
import Derived.Test.YtfphpdhjcbhehaaDoorRyM
namespace Go.Proofs.YtfphpdhjcbhehaaDoor
open Go.RowKit
set_option linter.unusedVariables false
set_option linter.unusedSimpArgs false
set_option linter.unusedSectionVars false
set_option maxRecDepth 100000
set_option maxHeartbeats 4000000
noncomputable def zr23 : Value := (Tryd.prog.info? 27).bind TypeInfo.zero |>.getD undef
theorem rt23 : RowT Tryd.prog 23 27 ((Tryd.prog.info? 27).getD default) zr23 3 32 := ⟨by kernel_rfl, by kernel_rfl, by kernel_rfl, by kernel_rfl, by kernel_rfl, by kernel_rfl, by decide⟩
structure Member where
  fName : ByteArray
  fType : Int
  fBits : Int
abbrev c_Member (x : Member) : List Value := [.string x.fName, .int .i64 (x.fType), .int .i64 (x.fBits)]
def v_Member (x : Member) : Value := .agg #[.string x.fName, .int .i64 (x.fType), .int .i64 (x.fBits)]
theorem c_Member_len (x : Member) : (c_Member x).length = 3 := rfl
theorem c_Member_one (x : Member) : ((c_Member x).all fun u => u.oneCell') = true := rfl
inductive R_btf_tooMany_v1 where
  | e0 (c0_0 : Bool)
noncomputable def m_btf_tooMany_v1 (w0 : Int) (w1 : Int) (w2 : Nat) (w3 : Nat → Member) : Option R_btf_tooMany_v1 :=
  bif decide (64 < (w2 : Int)) then
    (some (.e0 true))
  else (some (.e0 false))
def sq0_btf_tooMany_v1 (w0 : Int) (w1 : Int) (w2 : Nat) (w3 : Nat → Member) (c0_0 : Bool) : Spc := ⟨fun ls => .call 16 #[.slice (some ⟨(lget ls 0).n, 0, none⟩) 2 2], fun ls => [.cells #[.int .i64 (1), .string (⟨#[117, 110, 105, 116]⟩ : ByteArray), .int .i64 (w0), .bool false, .int .i64 (0), .int .i64 (0), .slice none 0 0, .int .i64 (4), .string (⟨#[115]⟩ : ByteArray), .int .i64 (w1), .bool false, .int .i64 (0), .int .i64 (0), (rowV (lget ls 1) w2 3)] 25, rowO (lget ls 1) (esG c_Member w2 w3) 27 w2 3], 0, .normal, fun ls => [.bool (c0_0)], fun ls => [.cells #[.int .i64 (1), .string (⟨#[117, 110, 105, 116]⟩ : ByteArray), .int .i64 (w0), .bool false, .int .i64 (0), .int .i64 (0), .slice none 0 0, .int .i64 (4), .string (⟨#[115]⟩ : ByteArray), .int .i64 (w1), .bool false, .int .i64 (0), .int .i64 (0), (rowV (lget ls 1) w2 3)] 25, rowO (lget ls 1) (esG c_Member w2 w3) 27 w2 3], fun ls => []⟩
section
variable {M : Nat → Prop} {B0 : Nat} {S : World → Prop} (hU : Up M B0 S)
include hU
theorem ok0_btf_tooMany_v1 (w0 : Int) (w1 : Int) (w2 : Nat) (w3 : Nat → Member) (c0_0 : Bool) (e : m_btf_tooMany_v1 w0 w1 w2 w3 = some (.e0 c0_0)) : SpcG Tryd.prog M B0 S (sq0_btf_tooMany_v1 w0 w1 w2 w3 c0_0) := by
  unfold m_btf_tooMany_v1 at e
  replace e := cond_eq_or e
  rcases e with ⟨hq0, e⟩ | ⟨hq0, e⟩
  · injection e with e; injection e with i0; subst i0; exact fn_specG hU (P := Tryd.prog) Tryd.func16 (fun xs w => by kernel_rfl) 2 _ _ (fun _ => rfl) _ _ _ [] [.o, .o, .o, .o, .o, .o, .o, .o, .o, .a 0, .o, .a 2, .o, .a 2, .o, .o, .o, .o, .o, .o, .a 0, .o, .a 3, .o, .a 3, .o, .b (z_gtrT hq0), .o] [] (fun b => by kernel_rfl)
  · injection e with e; injection e with i0; subst i0; exact fn_specG hU (P := Tryd.prog) Tryd.func16 (fun xs w => by kernel_rfl) 2 _ _ (fun _ => rfl) _ _ _ [] [.o, .o, .o, .o, .o, .o, .o, .o, .o, .a 0, .o, .a 2, .o, .a 2, .o, .o, .o, .o, .o, .o, .a 0, .o, .a 3, .o, .a 3, .o, .b (z_gtrF hq0), .o, .o, .o, .o] [] (fun b => by kernel_rfl)
theorem ok_btf_isName_v4 : ConG Tryd.prog S 34 #[.string (⟨#[117, 110, 105, 116]⟩ : ByteArray)] (.bool true) :=
  fn_conG hU (P := Tryd.prog) Tryd.func34 (fun xs w => by kernel_rfl) [.string (⟨#[117, 110, 105, 116]⟩ : ByteArray)] (.bool true)
    [.o, .o, .o, .o, .o, .o, .o, .o, .o, .o, .o, .o, .o, .o, .o, .o, .o, .o, .o, .o, .o, .o, .o, .o, .o, .o, .o, .o, .o, .o, .o, .o, .o, .o, .o, .o, .o, .o, .o, .o, .o, .o, .o, .o, .o, .o, .o, .o, .o, .o, .o, .o, .o, .o, .o, .o, .o, .o, .o, .o, .o, .o, .o, .o, .o, .o, .o, .o, .o, .o, .o, .o, .o, .o, .o, .o, .o, .o, .o, .o, .o, .o, .o, .o, .o, .o, .o, .o]
    [] (fun b => by kernel_rfl)
def sq0_btf_rightName_v2 (w0 : Int)  : Spc := ⟨fun ls => .call 22 #[.agg #[.int .i64 (1), .string (⟨#[117, 110, 105, 116]⟩ : ByteArray), .int .i64 (w0), .bool false, .int .i64 (0), .int .i64 (0), .slice none 0 0], .map (some (lget ls 0).n)], fun ls => [.map #[] 0], 0, .normal, fun ls => [.bool true], fun ls => [.map #[⟨.agg #[.int .i64 (1), .string (⟨#[117, 110, 105, 116]⟩ : ByteArray)], .int .i64 (1), 0⟩] 1], fun ls => []⟩
theorem p0_btf_rightName_v2 (w0 : Int) : SpcG Tryd.prog M B0 S (sq0_btf_rightName_v2 w0 ) :=
  fn_specG hU (P := Tryd.prog) Tryd.func22 (fun xs w => by kernel_rfl) 1 _ _ (fun _ => rfl) _ _ _ []
    [.o, .o, .o, .a 1, .o, .o, .o, .a 1, .o, .a 1, .o, .o, .a 2, .r [] [] [], .o, .a 2, .a 0, .o, .a 0, .o, .a 0, .o, .a 1, .cg (ok_btf_isName_v4 hU  ), .o, .o, .a 2, .a 0, .o, .o, .o]
    [] (fun b => by kernel_rfl)
noncomputable def m_btf_rightSize_v2 (w0 : Int) : Bool :=
  bif w0 == 1 then
    (true)
  else (bif w0 == 2 then
    (true)
  else (bif w0 == 4 then
    (true)
  else ((w0 == 8))))
theorem ok_btf_rightSize_v2 (w0 : Int) (r : Bool) (e : m_btf_rightSize_v2 w0 = r) : ConG Tryd.prog S 23 #[.agg #[.int .i64 (1), .string (⟨#[117, 110, 105, 116]⟩ : ByteArray), .int .i64 (w0), .bool false, .int .i64 (0), .int .i64 (0), .slice none 0 0]] (.bool (r)) := by
  unfold m_btf_rightSize_v2 at e
  replace e := cond_eq_or e
  rcases e with ⟨hq0, e⟩ | ⟨hq0, e⟩
  · subst e; exact fn_conG hU (P := Tryd.prog) Tryd.func23 (fun xs w => by kernel_rfl) _ _ [.o, .o, .o, .a 0, .o, .o, .o, .a 0, .b (z_eqlT hq0), .o, .o, .o, .o, .o, .o, .o] [] (fun b => by kernel_rfl)
  · replace e := cond_eq_or e
    rcases e with ⟨hq1, e⟩ | ⟨hq1, e⟩
    · subst e; exact fn_conG hU (P := Tryd.prog) Tryd.func23 (fun xs w => by kernel_rfl) _ _ [.o, .o, .o, .a 0, .o, .o, .o, .a 0, .b (z_eqlF hq0), .o, .o, .a 0, .b (z_eqlT hq1), .o, .o, .o, .o, .o, .o] [] (fun b => by kernel_rfl)
    · replace e := cond_eq_or e
      rcases e with ⟨hq2, e⟩ | ⟨hq2, e⟩
      · subst e; exact fn_conG hU (P := Tryd.prog) Tryd.func23 (fun xs w => by kernel_rfl) _ _ [.o, .o, .o, .a 0, .o, .o, .o, .a 0, .b (z_eqlF hq0), .o, .o, .a 0, .b (z_eqlF hq1), .o, .o, .o, .a 0, .b (z_eqlT hq2), .o, .o, .o, .o] [] (fun b => by kernel_rfl)
      · subst e; exact fn_conG hU (P := Tryd.prog) Tryd.func23 (fun xs w => by kernel_rfl) _ _ [.o, .o, .o, .a 0, .o, .o, .o, .a 0, .b (z_eqlF hq0), .o, .o, .a 0, .b (z_eqlF hq1), .o, .o, .o, .a 0, .b (z_eqlF hq2), .o, .o, .o, .a 0, .o, .o, .o] [] (fun b => by kernel_rfl)
theorem ok_btf_rightMemberNames_v2 (w0 : Int) : ConG Tryd.prog S 24 #[.agg #[.int .i64 (1), .string (⟨#[117, 110, 105, 116]⟩ : ByteArray), .int .i64 (w0), .bool false, .int .i64 (0), .int .i64 (0), .slice none 0 0]] (.bool true) :=
  fn_conG hU (P := Tryd.prog) Tryd.func24 (fun xs w => by kernel_rfl) [.agg #[.int .i64 (1), .string (⟨#[117, 110, 105, 116]⟩ : ByteArray), .int .i64 (w0), .bool false, .int .i64 (0), .int .i64 (0), .slice none 0 0]] (.bool true)
    [.o, .o, .o, .o, .o, .a 0, .o, .o, .o, .o]
    [] (fun b => by kernel_rfl)
theorem ok_btf_rightReferences_v2 (y1 : Int) (w0 : Int) : ConG Tryd.prog S 25 #[.agg #[.int .i64 (1), .string (⟨#[117, 110, 105, 116]⟩ : ByteArray), .int .i64 (w0), .bool false, .int .i64 (0), .int .i64 (0), .slice none 0 0], .int .i64 (y1)] (.bool true) :=
  fn_conG hU (P := Tryd.prog) Tryd.func25 (fun xs w => by kernel_rfl) [.agg #[.int .i64 (1), .string (⟨#[117, 110, 105, 116]⟩ : ByteArray), .int .i64 (w0), .bool false, .int .i64 (0), .int .i64 (0), .slice none 0 0], .int .i64 (y1)] (.bool true)
    [.o, .o, .o, .o, .o, .o, .a 0, .o, .o, .o, .o, .o, .a 0, .o, .o, .o, .o, .a 0, .o, .o, .o, .o, .a 0, .o, .o, .o, .o]
    [] (fun b => by kernel_rfl)
theorem ok_btf_onlyOwnFields_v2 (w0 : Int) : ConG Tryd.prog S 26 #[.agg #[.int .i64 (1), .string (⟨#[117, 110, 105, 116]⟩ : ByteArray), .int .i64 (w0), .bool false, .int .i64 (0), .int .i64 (0), .slice none 0 0]] (.bool true) :=
  fn_conG hU (P := Tryd.prog) Tryd.func26 (fun xs w => by kernel_rfl) [.agg #[.int .i64 (1), .string (⟨#[117, 110, 105, 116]⟩ : ByteArray), .int .i64 (w0), .bool false, .int .i64 (0), .int .i64 (0), .slice none 0 0]] (.bool true)
    [.o, .o, .o, .a 0, .o, .o, .o, .o, .o, .a 0, .o, .o, .o, .a 0, .o, .o, .o, .o, .a 0, .o, .o, .o, .a 0, .o, .o, .o]
    [] (fun b => by kernel_rfl)
inductive R_btf_checkType_v2 where
  | e0 (c0_0 : Int)
noncomputable def m_btf_checkType_v2 (y1 : Int) (w0 : Int) : Option R_btf_checkType_v2 :=
  bif m_btf_rightSize_v2 w0 then
    (some (.e0 0))
  else (some (.e0 43))
def sq0_btf_checkType_v2 (y1 : Int) (w0 : Int) (c0_0 : Int) : Spc := ⟨fun ls => .call 17 #[.agg #[.int .i64 (1), .string (⟨#[117, 110, 105, 116]⟩ : ByteArray), .int .i64 (w0), .bool false, .int .i64 (0), .int .i64 (0), .slice none 0 0], .int .i64 (y1), .map (some (lget ls 0).n)], fun ls => [.map #[] 0], 0, .normal, fun ls => [.int .i64 (c0_0)], fun ls => [.map #[⟨.agg #[.int .i64 (1), .string (⟨#[117, 110, 105, 116]⟩ : ByteArray)], .int .i64 (1), 0⟩] 1], fun ls => []⟩
theorem ok0_btf_checkType_v2 (y1 : Int) (w0 : Int) (c0_0 : Int) (e : m_btf_checkType_v2 y1 w0 = some (.e0 c0_0)) : SpcG Tryd.prog M B0 S (sq0_btf_checkType_v2 y1 w0 c0_0) := by
  unfold m_btf_checkType_v2 at e
  replace e := cond_eq_or e
  rcases e with ⟨hq0, e⟩ | ⟨hq0, e⟩
  · injection e with e; injection e with i0; subst i0; exact fn_specG hU (P := Tryd.prog) Tryd.func17 (fun xs w => by kernel_rfl) 1 _ _ (fun _ => rfl) _ _ _ [] [.o, .o, .o, .a 1, .o, .o, .o, .a 1, .o, .o, .o, .a 1, .o, .xg (p0_btf_rightName_v2 hU w0 ) [0], .o, .o, .a 1, .cg (ok_btf_rightSize_v2 hU w0 true hq0), .o, .o, .a 1, .cg (ok_btf_rightMemberNames_v2 hU w0 ), .o, .o, .a 1, .o, .cg (ok_btf_rightReferences_v2 hU y1 w0 ), .o, .o, .a 1, .cg (ok_btf_onlyOwnFields_v2 hU w0 ), .o, .o, .o, .o] [] (fun b => by kernel_rfl)
  · injection e with e; injection e with i0; subst i0; exact fn_specG hU (P := Tryd.prog) Tryd.func17 (fun xs w => by kernel_rfl) 1 _ _ (fun _ => rfl) _ _ _ [] [.o, .o, .o, .a 1, .o, .o, .o, .a 1, .o, .o, .o, .a 1, .o, .xg (p0_btf_rightName_v2 hU w0 ) [0], .o, .o, .a 1, .cg (ok_btf_rightSize_v2 hU w0 false hq0), .o, .o, .o] [] (fun b => by kernel_rfl)
theorem ok_btf_isName_v5 : ConG Tryd.prog S 34 #[.string (⟨#[115]⟩ : ByteArray)] (.bool true) :=
  fn_conG hU (P := Tryd.prog) Tryd.func34 (fun xs w => by kernel_rfl) [.string (⟨#[115]⟩ : ByteArray)] (.bool true)
    [.o, .o, .o, .o, .o, .o, .o, .o, .o, .o, .o, .o, .o, .o, .o, .o, .o, .o, .o, .o, .o, .o, .o, .o, .o, .o, .o, .o, .o, .o, .o, .o, .o, .o, .o, .o, .o, .o, .o, .o]
    [] (fun b => by kernel_rfl)
def sq0_btf_rightName_v3 (w0 : Int) (w1 : Nat) (w2 : Nat → Member)  : Spc := ⟨fun ls => .call 22 #[.agg #[.int .i64 (4), .string (⟨#[115]⟩ : ByteArray), .int .i64 (w0), .bool false, .int .i64 (0), .int .i64 (0), (rowV (lget ls 0) w1 3)], .map (some (lget ls 1).n)], fun ls => [rowO (lget ls 0) (esG c_Member w1 w2) 27 w1 3, .map #[⟨.agg #[.int .i64 (1), .string (⟨#[117, 110, 105, 116]⟩ : ByteArray)], .int .i64 (1), 0⟩] 1], 0, .normal, fun ls => [.bool true], fun ls => [rowO (lget ls 0) (esG c_Member w1 w2) 27 w1 3, .map #[⟨.agg #[.int .i64 (1), .string (⟨#[117, 110, 105, 116]⟩ : ByteArray)], .int .i64 (1), 0⟩, ⟨.agg #[.int .i64 (4), .string (⟨#[115]⟩ : ByteArray)], .int .i64 (1), 1⟩] 2], fun ls => []⟩
end
section
variable {M : Nat → Prop} {B0 : Nat} {S : World → Prop} (hU : Up M B0 S) (w0 : Int) (w1 : Nat) (w2 : Nat → Member)
include hU w0 w1 w2
theorem p0_btf_rightName_v3 : SpcG Tryd.prog M B0 S (sq0_btf_rightName_v3 w0 w1 w2 ) :=
  fn_specG hU (P := Tryd.prog) Tryd.func22 (fun xs w => by kernel_rfl) 2 _ _ (fun _ => rfl) _ _ _ []
    [.o, .o, .o, .a 2, .o, .o, .o, .o, .o, .a 2, .o, .a 2, .o, .o, .a 3, .r [] [] [], .o, .a 3, .a 1, .o, .a 1, .o, .a 1, .o, .a 2, .cg (ok_btf_isName_v5 hU  ), .o, .o, .a 3, .a 1, .o, .o, .o]
    [] (fun b => by kernel_rfl)
inductive R_btf_rightSize_v3 where
  | e0 (c0_0 : Bool)
noncomputable def m_btf_rightSize_v3 (w0 : Int) (w1 : Nat) (w2 : Nat → Member) : Option R_btf_rightSize_v3 :=
  bif decide (0 ≤ w0) then
    (some (.e0 (decide (w0 ≤ 65536))))
  else (some (.e0 false))
def sq0_btf_rightSize_v3 (w0 : Int) (w1 : Nat) (w2 : Nat → Member) (c0_0 : Bool) : Spc := ⟨fun ls => .call 23 #[.agg #[.int .i64 (4), .string (⟨#[115]⟩ : ByteArray), .int .i64 (w0), .bool false, .int .i64 (0), .int .i64 (0), (rowV (lget ls 0) w1 3)]], fun ls => [rowO (lget ls 0) (esG c_Member w1 w2) 27 w1 3], 0, .normal, fun ls => [.bool (c0_0)], fun ls => [rowO (lget ls 0) (esG c_Member w1 w2) 27 w1 3], fun ls => []⟩
theorem ok0_btf_rightSize_v3 (c0_0 : Bool) (e : m_btf_rightSize_v3 w0 w1 w2 = some (.e0 c0_0)) : SpcG Tryd.prog M B0 S (sq0_btf_rightSize_v3 w0 w1 w2 c0_0) := by
  unfold m_btf_rightSize_v3 at e
  replace e := cond_eq_or e
  rcases e with ⟨hq0, e⟩ | ⟨hq0, e⟩
  · injection e with e; injection e with i0; subst i0; exact fn_specG hU (P := Tryd.prog) Tryd.func23 (fun xs w => by kernel_rfl) 1 _ _ (fun _ => rfl) _ _ _ [] [.o, .o, .o, .a 1, .o, .o, .o, .o, .o, .o, .o, .a 1, .b (z_geqT hq0), .o, .o, .a 1, .o, .o, .o] [] (fun b => by kernel_rfl)
  · injection e with e; injection e with i0; subst i0; exact fn_specG hU (P := Tryd.prog) Tryd.func23 (fun xs w => by kernel_rfl) 1 _ _ (fun _ => rfl) _ _ _ [] [.o, .o, .o, .a 1, .o, .o, .o, .o, .o, .o, .o, .a 1, .b (z_geqF hq0), .o, .o, .o] [] (fun b => by kernel_rfl)
end
section
variable {M : Nat → Prop} {B0 : Nat} {S : World → Prop} (hU : Up M B0 S)
include hU
theorem ok_btf_isName_v6 : ConG Tryd.prog S 34 #[.string (⟨#[97]⟩ : ByteArray)] (.bool true) :=
  fn_conG hU (P := Tryd.prog) Tryd.func34 (fun xs w => by kernel_rfl) [.string (⟨#[97]⟩ : ByteArray)] (.bool true)
    [.o, .o, .o, .o, .o, .o, .o, .o, .o, .o, .o, .o, .o, .o, .o, .o, .o, .o, .o, .o, .o, .o, .o, .o, .o, .o, .o, .o, .o, .o, .o, .o, .o, .o, .o, .o, .o, .o, .o, .o]
    [] (fun b => by kernel_rfl)
theorem ok_btf_isName_v7 : ConG Tryd.prog S 34 #[.string (⟨#[98]⟩ : ByteArray)] (.bool true) :=
  fn_conG hU (P := Tryd.prog) Tryd.func34 (fun xs w => by kernel_rfl) [.string (⟨#[98]⟩ : ByteArray)] (.bool true)
    [.o, .o, .o, .o, .o, .o, .o, .o, .o, .o, .o, .o, .o, .o, .o, .o, .o, .o, .o, .o, .o, .o, .o, .o, .o, .o, .o, .o, .o, .o, .o, .o, .o, .o, .o, .o, .o, .o, .o, .o]
    [] (fun b => by kernel_rfl)
theorem ok_btf_isName_v8 : ConG Tryd.prog S 34 #[.string (⟨#[99]⟩ : ByteArray)] (.bool true) :=
  fn_conG hU (P := Tryd.prog) Tryd.func34 (fun xs w => by kernel_rfl) [.string (⟨#[99]⟩ : ByteArray)] (.bool true)
    [.o, .o, .o, .o, .o, .o, .o, .o, .o, .o, .o, .o, .o, .o, .o, .o, .o, .o, .o, .o, .o, .o, .o, .o, .o, .o, .o, .o, .o, .o, .o, .o, .o, .o, .o, .o, .o, .o, .o, .o]
    [] (fun b => by kernel_rfl)
theorem ok_btf_isName_v9 : ConG Tryd.prog S 34 #[.string (⟨#[100]⟩ : ByteArray)] (.bool true) :=
  fn_conG hU (P := Tryd.prog) Tryd.func34 (fun xs w => by kernel_rfl) [.string (⟨#[100]⟩ : ByteArray)] (.bool true)
    [.o, .o, .o, .o, .o, .o, .o, .o, .o, .o, .o, .o, .o, .o, .o, .o, .o, .o, .o, .o, .o, .o, .o, .o, .o, .o, .o, .o, .o, .o, .o, .o, .o, .o, .o, .o, .o, .o, .o, .o]
    [] (fun b => by kernel_rfl)
theorem ok_btf_isName_v10 : ConG Tryd.prog S 34 #[.string (⟨#[101]⟩ : ByteArray)] (.bool true) :=
  fn_conG hU (P := Tryd.prog) Tryd.func34 (fun xs w => by kernel_rfl) [.string (⟨#[101]⟩ : ByteArray)] (.bool true)
    [.o, .o, .o, .o, .o, .o, .o, .o, .o, .o, .o, .o, .o, .o, .o, .o, .o, .o, .o, .o, .o, .o, .o, .o, .o, .o, .o, .o, .o, .o, .o, .o, .o, .o, .o, .o, .o, .o, .o, .o]
    [] (fun b => by kernel_rfl)
theorem ok_btf_isName_v11 : ConG Tryd.prog S 34 #[.string (⟨#[102]⟩ : ByteArray)] (.bool true) :=
  fn_conG hU (P := Tryd.prog) Tryd.func34 (fun xs w => by kernel_rfl) [.string (⟨#[102]⟩ : ByteArray)] (.bool true)
    [.o, .o, .o, .o, .o, .o, .o, .o, .o, .o, .o, .o, .o, .o, .o, .o, .o, .o, .o, .o, .o, .o, .o, .o, .o, .o, .o, .o, .o, .o, .o, .o, .o, .o, .o, .o, .o, .o, .o, .o]
    [] (fun b => by kernel_rfl)
theorem ok_btf_isName_v12 : ConG Tryd.prog S 34 #[.string (⟨#[103]⟩ : ByteArray)] (.bool true) :=
  fn_conG hU (P := Tryd.prog) Tryd.func34 (fun xs w => by kernel_rfl) [.string (⟨#[103]⟩ : ByteArray)] (.bool true)
    [.o, .o, .o, .o, .o, .o, .o, .o, .o, .o, .o, .o, .o, .o, .o, .o, .o, .o, .o, .o, .o, .o, .o, .o, .o, .o, .o, .o, .o, .o, .o, .o, .o, .o, .o, .o, .o, .o, .o, .o]
    [] (fun b => by kernel_rfl)
theorem ok_btf_isName_v13 : ConG Tryd.prog S 34 #[.string (⟨#[104]⟩ : ByteArray)] (.bool true) :=
  fn_conG hU (P := Tryd.prog) Tryd.func34 (fun xs w => by kernel_rfl) [.string (⟨#[104]⟩ : ByteArray)] (.bool true)
    [.o, .o, .o, .o, .o, .o, .o, .o, .o, .o, .o, .o, .o, .o, .o, .o, .o, .o, .o, .o, .o, .o, .o, .o, .o, .o, .o, .o, .o, .o, .o, .o, .o, .o, .o, .o, .o, .o, .o, .o]
    [] (fun b => by kernel_rfl)
theorem ok_btf_isName_v14 : ConG Tryd.prog S 34 #[.string (⟨#[105]⟩ : ByteArray)] (.bool true) :=
  fn_conG hU (P := Tryd.prog) Tryd.func34 (fun xs w => by kernel_rfl) [.string (⟨#[105]⟩ : ByteArray)] (.bool true)
    [.o, .o, .o, .o, .o, .o, .o, .o, .o, .o, .o, .o, .o, .o, .o, .o, .o, .o, .o, .o, .o, .o, .o, .o, .o, .o, .o, .o, .o, .o, .o, .o, .o, .o, .o, .o, .o, .o, .o, .o]
    [] (fun b => by kernel_rfl)
theorem ok_btf_isName_v15 : ConG Tryd.prog S 34 #[.string (⟨#[106]⟩ : ByteArray)] (.bool true) :=
  fn_conG hU (P := Tryd.prog) Tryd.func34 (fun xs w => by kernel_rfl) [.string (⟨#[106]⟩ : ByteArray)] (.bool true)
    [.o, .o, .o, .o, .o, .o, .o, .o, .o, .o, .o, .o, .o, .o, .o, .o, .o, .o, .o, .o, .o, .o, .o, .o, .o, .o, .o, .o, .o, .o, .o, .o, .o, .o, .o, .o, .o, .o, .o, .o]
    [] (fun b => by kernel_rfl)
theorem ok_btf_isName_v16 : ConG Tryd.prog S 34 #[.string (⟨#[107]⟩ : ByteArray)] (.bool true) :=
  fn_conG hU (P := Tryd.prog) Tryd.func34 (fun xs w => by kernel_rfl) [.string (⟨#[107]⟩ : ByteArray)] (.bool true)
    [.o, .o, .o, .o, .o, .o, .o, .o, .o, .o, .o, .o, .o, .o, .o, .o, .o, .o, .o, .o, .o, .o, .o, .o, .o, .o, .o, .o, .o, .o, .o, .o, .o, .o, .o, .o, .o, .o, .o, .o]
    [] (fun b => by kernel_rfl)
theorem ok_btf_isName_v17 : ConG Tryd.prog S 34 #[.string (⟨#[108]⟩ : ByteArray)] (.bool true) :=
  fn_conG hU (P := Tryd.prog) Tryd.func34 (fun xs w => by kernel_rfl) [.string (⟨#[108]⟩ : ByteArray)] (.bool true)
    [.o, .o, .o, .o, .o, .o, .o, .o, .o, .o, .o, .o, .o, .o, .o, .o, .o, .o, .o, .o, .o, .o, .o, .o, .o, .o, .o, .o, .o, .o, .o, .o, .o, .o, .o, .o, .o, .o, .o, .o]
    [] (fun b => by kernel_rfl)
theorem ok_btf_isName_v18 : ConG Tryd.prog S 34 #[.string (⟨#[109]⟩ : ByteArray)] (.bool true) :=
  fn_conG hU (P := Tryd.prog) Tryd.func34 (fun xs w => by kernel_rfl) [.string (⟨#[109]⟩ : ByteArray)] (.bool true)
    [.o, .o, .o, .o, .o, .o, .o, .o, .o, .o, .o, .o, .o, .o, .o, .o, .o, .o, .o, .o, .o, .o, .o, .o, .o, .o, .o, .o, .o, .o, .o, .o, .o, .o, .o, .o, .o, .o, .o, .o]
    [] (fun b => by kernel_rfl)
theorem ok_btf_isName_v19 : ConG Tryd.prog S 34 #[.string (⟨#[110]⟩ : ByteArray)] (.bool true) :=
  fn_conG hU (P := Tryd.prog) Tryd.func34 (fun xs w => by kernel_rfl) [.string (⟨#[110]⟩ : ByteArray)] (.bool true)
    [.o, .o, .o, .o, .o, .o, .o, .o, .o, .o, .o, .o, .o, .o, .o, .o, .o, .o, .o, .o, .o, .o, .o, .o, .o, .o, .o, .o, .o, .o, .o, .o, .o, .o, .o, .o, .o, .o, .o, .o]
    [] (fun b => by kernel_rfl)
theorem ok_btf_isName_v20 : ConG Tryd.prog S 34 #[.string (⟨#[111]⟩ : ByteArray)] (.bool true) :=
  fn_conG hU (P := Tryd.prog) Tryd.func34 (fun xs w => by kernel_rfl) [.string (⟨#[111]⟩ : ByteArray)] (.bool true)
    [.o, .o, .o, .o, .o, .o, .o, .o, .o, .o, .o, .o, .o, .o, .o, .o, .o, .o, .o, .o, .o, .o, .o, .o, .o, .o, .o, .o, .o, .o, .o, .o, .o, .o, .o, .o, .o, .o, .o, .o]
    [] (fun b => by kernel_rfl)
theorem ok_btf_isName_v21 : ConG Tryd.prog S 34 #[.string (⟨#[112]⟩ : ByteArray)] (.bool true) :=
  fn_conG hU (P := Tryd.prog) Tryd.func34 (fun xs w => by kernel_rfl) [.string (⟨#[112]⟩ : ByteArray)] (.bool true)
    [.o, .o, .o, .o, .o, .o, .o, .o, .o, .o, .o, .o, .o, .o, .o, .o, .o, .o, .o, .o, .o, .o, .o, .o, .o, .o, .o, .o, .o, .o, .o, .o, .o, .o, .o, .o, .o, .o, .o, .o]
    [] (fun b => by kernel_rfl)
theorem ok_btf_isName_v22 : ConG Tryd.prog S 34 #[.string (⟨#[113]⟩ : ByteArray)] (.bool true) :=
  fn_conG hU (P := Tryd.prog) Tryd.func34 (fun xs w => by kernel_rfl) [.string (⟨#[113]⟩ : ByteArray)] (.bool true)
    [.o, .o, .o, .o, .o, .o, .o, .o, .o, .o, .o, .o, .o, .o, .o, .o, .o, .o, .o, .o, .o, .o, .o, .o, .o, .o, .o, .o, .o, .o, .o, .o, .o, .o, .o, .o, .o, .o, .o, .o]
    [] (fun b => by kernel_rfl)
theorem ok_btf_isName_v23 : ConG Tryd.prog S 34 #[.string (⟨#[114]⟩ : ByteArray)] (.bool true) :=
  fn_conG hU (P := Tryd.prog) Tryd.func34 (fun xs w => by kernel_rfl) [.string (⟨#[114]⟩ : ByteArray)] (.bool true)
    [.o, .o, .o, .o, .o, .o, .o, .o, .o, .o, .o, .o, .o, .o, .o, .o, .o, .o, .o, .o, .o, .o, .o, .o, .o, .o, .o, .o, .o, .o, .o, .o, .o, .o, .o, .o, .o, .o, .o, .o]
    [] (fun b => by kernel_rfl)
theorem ok_btf_isName_v24 : ConG Tryd.prog S 34 #[.string (⟨#[116]⟩ : ByteArray)] (.bool true) :=
  fn_conG hU (P := Tryd.prog) Tryd.func34 (fun xs w => by kernel_rfl) [.string (⟨#[116]⟩ : ByteArray)] (.bool true)
    [.o, .o, .o, .o, .o, .o, .o, .o, .o, .o, .o, .o, .o, .o, .o, .o, .o, .o, .o, .o, .o, .o, .o, .o, .o, .o, .o, .o, .o, .o, .o, .o, .o, .o, .o, .o, .o, .o, .o, .o]
    [] (fun b => by kernel_rfl)
theorem ok_btf_isName_v25 : ConG Tryd.prog S 34 #[.string (⟨#[117]⟩ : ByteArray)] (.bool true) :=
  fn_conG hU (P := Tryd.prog) Tryd.func34 (fun xs w => by kernel_rfl) [.string (⟨#[117]⟩ : ByteArray)] (.bool true)
    [.o, .o, .o, .o, .o, .o, .o, .o, .o, .o, .o, .o, .o, .o, .o, .o, .o, .o, .o, .o, .o, .o, .o, .o, .o, .o, .o, .o, .o, .o, .o, .o, .o, .o, .o, .o, .o, .o, .o, .o]
    [] (fun b => by kernel_rfl)
theorem ok_btf_isName_v26 : ConG Tryd.prog S 34 #[.string (⟨#[118]⟩ : ByteArray)] (.bool true) :=
  fn_conG hU (P := Tryd.prog) Tryd.func34 (fun xs w => by kernel_rfl) [.string (⟨#[118]⟩ : ByteArray)] (.bool true)
    [.o, .o, .o, .o, .o, .o, .o, .o, .o, .o, .o, .o, .o, .o, .o, .o, .o, .o, .o, .o, .o, .o, .o, .o, .o, .o, .o, .o, .o, .o, .o, .o, .o, .o, .o, .o, .o, .o, .o, .o]
    [] (fun b => by kernel_rfl)
theorem ok_btf_isName_v27 : ConG Tryd.prog S 34 #[.string (⟨#[119]⟩ : ByteArray)] (.bool true) :=
  fn_conG hU (P := Tryd.prog) Tryd.func34 (fun xs w => by kernel_rfl) [.string (⟨#[119]⟩ : ByteArray)] (.bool true)
    [.o, .o, .o, .o, .o, .o, .o, .o, .o, .o, .o, .o, .o, .o, .o, .o, .o, .o, .o, .o, .o, .o, .o, .o, .o, .o, .o, .o, .o, .o, .o, .o, .o, .o, .o, .o, .o, .o, .o, .o]
    [] (fun b => by kernel_rfl)
theorem ok_btf_isName_v28 : ConG Tryd.prog S 34 #[.string (⟨#[120]⟩ : ByteArray)] (.bool true) :=
  fn_conG hU (P := Tryd.prog) Tryd.func34 (fun xs w => by kernel_rfl) [.string (⟨#[120]⟩ : ByteArray)] (.bool true)
    [.o, .o, .o, .o, .o, .o, .o, .o, .o, .o, .o, .o, .o, .o, .o, .o, .o, .o, .o, .o, .o, .o, .o, .o, .o, .o, .o, .o, .o, .o, .o, .o, .o, .o, .o, .o, .o, .o, .o, .o]
    [] (fun b => by kernel_rfl)
theorem ok_btf_isName_v29 : ConG Tryd.prog S 34 #[.string (⟨#[121]⟩ : ByteArray)] (.bool true) :=
  fn_conG hU (P := Tryd.prog) Tryd.func34 (fun xs w => by kernel_rfl) [.string (⟨#[121]⟩ : ByteArray)] (.bool true)
    [.o, .o, .o, .o, .o, .o, .o, .o, .o, .o, .o, .o, .o, .o, .o, .o, .o, .o, .o, .o, .o, .o, .o, .o, .o, .o, .o, .o, .o, .o, .o, .o, .o, .o, .o, .o, .o, .o, .o, .o]
    [] (fun b => by kernel_rfl)
theorem ok_btf_isName_v30 : ConG Tryd.prog S 34 #[.string (⟨#[122]⟩ : ByteArray)] (.bool true) :=
  fn_conG hU (P := Tryd.prog) Tryd.func34 (fun xs w => by kernel_rfl) [.string (⟨#[122]⟩ : ByteArray)] (.bool true)
    [.o, .o, .o, .o, .o, .o, .o, .o, .o, .o, .o, .o, .o, .o, .o, .o, .o, .o, .o, .o, .o, .o, .o, .o, .o, .o, .o, .o, .o, .o, .o, .o, .o, .o, .o, .o, .o, .o, .o, .o]
    [] (fun b => by kernel_rfl)
theorem ok_btf_isName_v31 : ConG Tryd.prog S 34 #[.string (⟨#[65]⟩ : ByteArray)] (.bool true) :=
  fn_conG hU (P := Tryd.prog) Tryd.func34 (fun xs w => by kernel_rfl) [.string (⟨#[65]⟩ : ByteArray)] (.bool true)
    [.o, .o, .o, .o, .o, .o, .o, .o, .o, .o, .o, .o, .o, .o, .o, .o, .o, .o, .o, .o, .o, .o, .o, .o, .o, .o, .o, .o, .o, .o, .o, .o, .o, .o, .o, .o, .o, .o, .o, .o, .o, .o, .o, .o, .o]
    [] (fun b => by kernel_rfl)
theorem ok_btf_isName_v32 : ConG Tryd.prog S 34 #[.string (⟨#[66]⟩ : ByteArray)] (.bool true) :=
  fn_conG hU (P := Tryd.prog) Tryd.func34 (fun xs w => by kernel_rfl) [.string (⟨#[66]⟩ : ByteArray)] (.bool true)
    [.o, .o, .o, .o, .o, .o, .o, .o, .o, .o, .o, .o, .o, .o, .o, .o, .o, .o, .o, .o, .o, .o, .o, .o, .o, .o, .o, .o, .o, .o, .o, .o, .o, .o, .o, .o, .o, .o, .o, .o, .o, .o, .o, .o, .o]
    [] (fun b => by kernel_rfl)
theorem ok_btf_isName_v33 : ConG Tryd.prog S 34 #[.string (⟨#[67]⟩ : ByteArray)] (.bool true) :=
  fn_conG hU (P := Tryd.prog) Tryd.func34 (fun xs w => by kernel_rfl) [.string (⟨#[67]⟩ : ByteArray)] (.bool true)
    [.o, .o, .o, .o, .o, .o, .o, .o, .o, .o, .o, .o, .o, .o, .o, .o, .o, .o, .o, .o, .o, .o, .o, .o, .o, .o, .o, .o, .o, .o, .o, .o, .o, .o, .o, .o, .o, .o, .o, .o, .o, .o, .o, .o, .o]
    [] (fun b => by kernel_rfl)
theorem ok_btf_isName_v34 : ConG Tryd.prog S 34 #[.string (⟨#[68]⟩ : ByteArray)] (.bool true) :=
  fn_conG hU (P := Tryd.prog) Tryd.func34 (fun xs w => by kernel_rfl) [.string (⟨#[68]⟩ : ByteArray)] (.bool true)
    [.o, .o, .o, .o, .o, .o, .o, .o, .o, .o, .o, .o, .o, .o, .o, .o, .o, .o, .o, .o, .o, .o, .o, .o, .o, .o, .o, .o, .o, .o, .o, .o, .o, .o, .o, .o, .o, .o, .o, .o, .o, .o, .o, .o, .o]
    [] (fun b => by kernel_rfl)
theorem ok_btf_isName_v35 : ConG Tryd.prog S 34 #[.string (⟨#[69]⟩ : ByteArray)] (.bool true) :=
  fn_conG hU (P := Tryd.prog) Tryd.func34 (fun xs w => by kernel_rfl) [.string (⟨#[69]⟩ : ByteArray)] (.bool true)
    [.o, .o, .o, .o, .o, .o, .o, .o, .o, .o, .o, .o, .o, .o, .o, .o, .o, .o, .o, .o, .o, .o, .o, .o, .o, .o, .o, .o, .o, .o, .o, .o, .o, .o, .o, .o, .o, .o, .o, .o, .o, .o, .o, .o, .o]
    [] (fun b => by kernel_rfl)
theorem ok_btf_isName_v36 : ConG Tryd.prog S 34 #[.string (⟨#[70]⟩ : ByteArray)] (.bool true) :=
  fn_conG hU (P := Tryd.prog) Tryd.func34 (fun xs w => by kernel_rfl) [.string (⟨#[70]⟩ : ByteArray)] (.bool true)
    [.o, .o, .o, .o, .o, .o, .o, .o, .o, .o, .o, .o, .o, .o, .o, .o, .o, .o, .o, .o, .o, .o, .o, .o, .o, .o, .o, .o, .o, .o, .o, .o, .o, .o, .o, .o, .o, .o, .o, .o, .o, .o, .o, .o, .o]
    [] (fun b => by kernel_rfl)
theorem ok_btf_isName_v37 : ConG Tryd.prog S 34 #[.string (⟨#[71]⟩ : ByteArray)] (.bool true) :=
  fn_conG hU (P := Tryd.prog) Tryd.func34 (fun xs w => by kernel_rfl) [.string (⟨#[71]⟩ : ByteArray)] (.bool true)
    [.o, .o, .o, .o, .o, .o, .o, .o, .o, .o, .o, .o, .o, .o, .o, .o, .o, .o, .o, .o, .o, .o, .o, .o, .o, .o, .o, .o, .o, .o, .o, .o, .o, .o, .o, .o, .o, .o, .o, .o, .o, .o, .o, .o, .o]
    [] (fun b => by kernel_rfl)
theorem ok_btf_isName_v38 : ConG Tryd.prog S 34 #[.string (⟨#[72]⟩ : ByteArray)] (.bool true) :=
  fn_conG hU (P := Tryd.prog) Tryd.func34 (fun xs w => by kernel_rfl) [.string (⟨#[72]⟩ : ByteArray)] (.bool true)
    [.o, .o, .o, .o, .o, .o, .o, .o, .o, .o, .o, .o, .o, .o, .o, .o, .o, .o, .o, .o, .o, .o, .o, .o, .o, .o, .o, .o, .o, .o, .o, .o, .o, .o, .o, .o, .o, .o, .o, .o, .o, .o, .o, .o, .o]
    [] (fun b => by kernel_rfl)
theorem ok_btf_isName_v39 : ConG Tryd.prog S 34 #[.string (⟨#[73]⟩ : ByteArray)] (.bool true) :=
  fn_conG hU (P := Tryd.prog) Tryd.func34 (fun xs w => by kernel_rfl) [.string (⟨#[73]⟩ : ByteArray)] (.bool true)
    [.o, .o, .o, .o, .o, .o, .o, .o, .o, .o, .o, .o, .o, .o, .o, .o, .o, .o, .o, .o, .o, .o, .o, .o, .o, .o, .o, .o, .o, .o, .o, .o, .o, .o, .o, .o, .o, .o, .o, .o, .o, .o, .o, .o, .o]
    [] (fun b => by kernel_rfl)
theorem ok_btf_isName_v40 : ConG Tryd.prog S 34 #[.string (⟨#[74]⟩ : ByteArray)] (.bool true) :=
  fn_conG hU (P := Tryd.prog) Tryd.func34 (fun xs w => by kernel_rfl) [.string (⟨#[74]⟩ : ByteArray)] (.bool true)
    [.o, .o, .o, .o, .o, .o, .o, .o, .o, .o, .o, .o, .o, .o, .o, .o, .o, .o, .o, .o, .o, .o, .o, .o, .o, .o, .o, .o, .o, .o, .o, .o, .o, .o, .o, .o, .o, .o, .o, .o, .o, .o, .o, .o, .o]
    [] (fun b => by kernel_rfl)
theorem ok_btf_isName_v41 : ConG Tryd.prog S 34 #[.string (⟨#[75]⟩ : ByteArray)] (.bool true) :=
  fn_conG hU (P := Tryd.prog) Tryd.func34 (fun xs w => by kernel_rfl) [.string (⟨#[75]⟩ : ByteArray)] (.bool true)
    [.o, .o, .o, .o, .o, .o, .o, .o, .o, .o, .o, .o, .o, .o, .o, .o, .o, .o, .o, .o, .o, .o, .o, .o, .o, .o, .o, .o, .o, .o, .o, .o, .o, .o, .o, .o, .o, .o, .o, .o, .o, .o, .o, .o, .o]
    [] (fun b => by kernel_rfl)
theorem ok_btf_isName_v42 : ConG Tryd.prog S 34 #[.string (⟨#[76]⟩ : ByteArray)] (.bool true) :=
  fn_conG hU (P := Tryd.prog) Tryd.func34 (fun xs w => by kernel_rfl) [.string (⟨#[76]⟩ : ByteArray)] (.bool true)
    [.o, .o, .o, .o, .o, .o, .o, .o, .o, .o, .o, .o, .o, .o, .o, .o, .o, .o, .o, .o, .o, .o, .o, .o, .o, .o, .o, .o, .o, .o, .o, .o, .o, .o, .o, .o, .o, .o, .o, .o, .o, .o, .o, .o, .o]
    [] (fun b => by kernel_rfl)
theorem ok_btf_isName_v43 : ConG Tryd.prog S 34 #[.string (⟨#[77]⟩ : ByteArray)] (.bool true) :=
  fn_conG hU (P := Tryd.prog) Tryd.func34 (fun xs w => by kernel_rfl) [.string (⟨#[77]⟩ : ByteArray)] (.bool true)
    [.o, .o, .o, .o, .o, .o, .o, .o, .o, .o, .o, .o, .o, .o, .o, .o, .o, .o, .o, .o, .o, .o, .o, .o, .o, .o, .o, .o, .o, .o, .o, .o, .o, .o, .o, .o, .o, .o, .o, .o, .o, .o, .o, .o, .o]
    [] (fun b => by kernel_rfl)
theorem ok_btf_isName_v44 : ConG Tryd.prog S 34 #[.string (⟨#[78]⟩ : ByteArray)] (.bool true) :=
  fn_conG hU (P := Tryd.prog) Tryd.func34 (fun xs w => by kernel_rfl) [.string (⟨#[78]⟩ : ByteArray)] (.bool true)
    [.o, .o, .o, .o, .o, .o, .o, .o, .o, .o, .o, .o, .o, .o, .o, .o, .o, .o, .o, .o, .o, .o, .o, .o, .o, .o, .o, .o, .o, .o, .o, .o, .o, .o, .o, .o, .o, .o, .o, .o, .o, .o, .o, .o, .o]
    [] (fun b => by kernel_rfl)
inductive Sh_btf_rightMemberNames_v3_L0 where
  | c0 
  | c1 
  | c2 
  | c3 
  | c4 
  | c5 
  | c6 
  | c7 
  | c8 
  | c9 
  | c10 
  | c11 
  | c12 
  | c13 
  | c14 
  | c15 
  | c16 
  | c17 
  | c18 
  | c19 
  | c20 
  | c21 
  | c22 
  | c23 
  | c24 
  | c25 
  | c26 
  | c27 
  | c28 
  | c29 
  | c30 
  | c31 
  | c32 
  | c33 
  | c34 
  | c35 
  | c36 
  | c37 
  | c38 
  | c39 
  | c40 
inductive Ex_btf_rightMemberNames_v3_L0 where
  | e0 
  | e1 
  | e2 
  | e3 
  | e4 
  | e5 
  | e6 
  | e7 
  | e8 
  | e9 
  | e10 
  | e11 
  | e12 
  | e13 
  | e14 
  | e15 
  | e16 
  | e17 
  | e18 
  | e19 
  | e20 
  | e21 
  | e22 
  | e23 
  | e24 
  | e25 
  | e26 
  | e27 
  | e28 
  | e29 
  | e30 
  | e31 
  | e32 
  | e33 
  | e34 
  | e35 
  | e36 
  | e37 
  | e38 
  | e39 
  | e40 
noncomputable def st_btf_rightMemberNames_v3_L0 (w1 : Nat) (w2 : Nat → Member) : Sh_btf_rightMemberNames_v3_L0 → Option (Sh_btf_rightMemberNames_v3_L0 ⊕ Ex_btf_rightMemberNames_v3_L0)
  | .c0  =>
    bif decide (0 < (w1 : Int)) then
      (bif inR 0 w1 then
        (bif ((w2 0)).fName == (⟨#[97]⟩ : ByteArray) then
          (some (.inl (.c1)))
        else (none))
      else (none))
    else (some (.inr (.e0 )))
  | .c1  =>
    bif decide (1 < (w1 : Int)) then
      (bif inR 1 w1 then
        (bif ((w2 1)).fName == (⟨#[98]⟩ : ByteArray) then
          (some (.inl (.c2)))
        else (none))
      else (none))
    else (some (.inr (.e1 )))
  | .c2  =>
    bif decide (2 < (w1 : Int)) then
      (bif inR 2 w1 then
        (bif ((w2 2)).fName == (⟨#[99]⟩ : ByteArray) then
          (some (.inl (.c3)))
        else (none))
      else (none))
    else (some (.inr (.e2 )))
  | .c3  =>
    bif decide (3 < (w1 : Int)) then
      (bif inR 3 w1 then
        (bif ((w2 3)).fName == (⟨#[100]⟩ : ByteArray) then
          (some (.inl (.c4)))
        else (none))
      else (none))
    else (some (.inr (.e3 )))
  | .c4  =>
    bif decide (4 < (w1 : Int)) then
      (bif inR 4 w1 then
        (bif ((w2 4)).fName == (⟨#[101]⟩ : ByteArray) then
          (some (.inl (.c5)))
        else (none))
      else (none))
    else (some (.inr (.e4 )))
  | .c5  =>
    bif decide (5 < (w1 : Int)) then
      (bif inR 5 w1 then
        (bif ((w2 5)).fName == (⟨#[102]⟩ : ByteArray) then
          (some (.inl (.c6)))
        else (none))
      else (none))
    else (some (.inr (.e5 )))
  | .c6  =>
    bif decide (6 < (w1 : Int)) then
      (bif inR 6 w1 then
        (bif ((w2 6)).fName == (⟨#[103]⟩ : ByteArray) then
          (some (.inl (.c7)))
        else (none))
      else (none))
    else (some (.inr (.e6 )))
  | .c7  =>
    bif decide (7 < (w1 : Int)) then
      (bif inR 7 w1 then
        (bif ((w2 7)).fName == (⟨#[104]⟩ : ByteArray) then
          (some (.inl (.c8)))
        else (none))
      else (none))
    else (some (.inr (.e7 )))
  | .c8  =>
    bif decide (8 < (w1 : Int)) then
      (bif inR 8 w1 then
        (bif ((w2 8)).fName == (⟨#[105]⟩ : ByteArray) then
          (some (.inl (.c9)))
        else (none))
      else (none))
    else (some (.inr (.e8 )))
  | .c9  =>
    bif decide (9 < (w1 : Int)) then
      (bif inR 9 w1 then
        (bif ((w2 9)).fName == (⟨#[106]⟩ : ByteArray) then
          (some (.inl (.c10)))
        else (none))
      else (none))
    else (some (.inr (.e9 )))
  | .c10  =>
    bif decide (10 < (w1 : Int)) then
      (bif inR 10 w1 then
        (bif ((w2 10)).fName == (⟨#[107]⟩ : ByteArray) then
          (some (.inl (.c11)))
        else (none))
      else (none))
    else (some (.inr (.e10 )))
  | .c11  =>
    bif decide (11 < (w1 : Int)) then
      (bif inR 11 w1 then
        (bif ((w2 11)).fName == (⟨#[108]⟩ : ByteArray) then
          (some (.inl (.c12)))
        else (none))
      else (none))
    else (some (.inr (.e11 )))
  | .c12  =>
    bif decide (12 < (w1 : Int)) then
      (bif inR 12 w1 then
        (bif ((w2 12)).fName == (⟨#[109]⟩ : ByteArray) then
          (some (.inl (.c13)))
        else (none))
      else (none))
    else (some (.inr (.e12 )))
  | .c13  =>
    bif decide (13 < (w1 : Int)) then
      (bif inR 13 w1 then
        (bif ((w2 13)).fName == (⟨#[110]⟩ : ByteArray) then
          (some (.inl (.c14)))
        else (none))
      else (none))
    else (some (.inr (.e13 )))
  | .c14  =>
    bif decide (14 < (w1 : Int)) then
      (bif inR 14 w1 then
        (bif ((w2 14)).fName == (⟨#[111]⟩ : ByteArray) then
          (some (.inl (.c15)))
        else (none))
      else (none))
    else (some (.inr (.e14 )))
  | .c15  =>
    bif decide (15 < (w1 : Int)) then
      (bif inR 15 w1 then
        (bif ((w2 15)).fName == (⟨#[112]⟩ : ByteArray) then
          (some (.inl (.c16)))
        else (none))
      else (none))
    else (some (.inr (.e15 )))
  | .c16  =>
    bif decide (16 < (w1 : Int)) then
      (bif inR 16 w1 then
        (bif ((w2 16)).fName == (⟨#[113]⟩ : ByteArray) then
          (some (.inl (.c17)))
        else (none))
      else (none))
    else (some (.inr (.e16 )))
  | .c17  =>
    bif decide (17 < (w1 : Int)) then
      (bif inR 17 w1 then
        (bif ((w2 17)).fName == (⟨#[114]⟩ : ByteArray) then
          (some (.inl (.c18)))
        else (none))
      else (none))
    else (some (.inr (.e17 )))
  | .c18  =>
    bif decide (18 < (w1 : Int)) then
      (bif inR 18 w1 then
        (bif ((w2 18)).fName == (⟨#[115]⟩ : ByteArray) then
          (some (.inl (.c19)))
        else (none))
      else (none))
    else (some (.inr (.e18 )))
  | .c19  =>
    bif decide (19 < (w1 : Int)) then
      (bif inR 19 w1 then
        (bif ((w2 19)).fName == (⟨#[116]⟩ : ByteArray) then
          (some (.inl (.c20)))
        else (none))
      else (none))
    else (some (.inr (.e19 )))
  | .c20  =>
    bif decide (20 < (w1 : Int)) then
      (bif inR 20 w1 then
        (bif ((w2 20)).fName == (⟨#[117]⟩ : ByteArray) then
          (some (.inl (.c21)))
        else (none))
      else (none))
    else (some (.inr (.e20 )))
  | .c21  =>
    bif decide (21 < (w1 : Int)) then
      (bif inR 21 w1 then
        (bif ((w2 21)).fName == (⟨#[118]⟩ : ByteArray) then
          (some (.inl (.c22)))
        else (none))
      else (none))
    else (some (.inr (.e21 )))
  | .c22  =>
    bif decide (22 < (w1 : Int)) then
      (bif inR 22 w1 then
        (bif ((w2 22)).fName == (⟨#[119]⟩ : ByteArray) then
          (some (.inl (.c23)))
        else (none))
      else (none))
    else (some (.inr (.e22 )))
  | .c23  =>
    bif decide (23 < (w1 : Int)) then
      (bif inR 23 w1 then
        (bif ((w2 23)).fName == (⟨#[120]⟩ : ByteArray) then
          (some (.inl (.c24)))
        else (none))
      else (none))
    else (some (.inr (.e23 )))
  | .c24  =>
    bif decide (24 < (w1 : Int)) then
      (bif inR 24 w1 then
        (bif ((w2 24)).fName == (⟨#[121]⟩ : ByteArray) then
          (some (.inl (.c25)))
        else (none))
      else (none))
    else (some (.inr (.e24 )))
  | .c25  =>
    bif decide (25 < (w1 : Int)) then
      (bif inR 25 w1 then
        (bif ((w2 25)).fName == (⟨#[122]⟩ : ByteArray) then
          (some (.inl (.c26)))
        else (none))
      else (none))
    else (some (.inr (.e25 )))
  | .c26  =>
    bif decide (26 < (w1 : Int)) then
      (bif inR 26 w1 then
        (bif ((w2 26)).fName == (⟨#[65]⟩ : ByteArray) then
          (some (.inl (.c27)))
        else (none))
      else (none))
    else (some (.inr (.e26 )))
  | .c27  =>
    bif decide (27 < (w1 : Int)) then
      (bif inR 27 w1 then
        (bif ((w2 27)).fName == (⟨#[66]⟩ : ByteArray) then
          (some (.inl (.c28)))
        else (none))
      else (none))
    else (some (.inr (.e27 )))
  | .c28  =>
    bif decide (28 < (w1 : Int)) then
      (bif inR 28 w1 then
        (bif ((w2 28)).fName == (⟨#[67]⟩ : ByteArray) then
          (some (.inl (.c29)))
        else (none))
      else (none))
    else (some (.inr (.e28 )))
  | .c29  =>
    bif decide (29 < (w1 : Int)) then
      (bif inR 29 w1 then
        (bif ((w2 29)).fName == (⟨#[68]⟩ : ByteArray) then
          (some (.inl (.c30)))
        else (none))
      else (none))
    else (some (.inr (.e29 )))
  | .c30  =>
    bif decide (30 < (w1 : Int)) then
      (bif inR 30 w1 then
        (bif ((w2 30)).fName == (⟨#[69]⟩ : ByteArray) then
          (some (.inl (.c31)))
        else (none))
      else (none))
    else (some (.inr (.e30 )))
  | .c31  =>
    bif decide (31 < (w1 : Int)) then
      (bif inR 31 w1 then
        (bif ((w2 31)).fName == (⟨#[70]⟩ : ByteArray) then
          (some (.inl (.c32)))
        else (none))
      else (none))
    else (some (.inr (.e31 )))
  | .c32  =>
    bif decide (32 < (w1 : Int)) then
      (bif inR 32 w1 then
        (bif ((w2 32)).fName == (⟨#[71]⟩ : ByteArray) then
          (some (.inl (.c33)))
        else (none))
      else (none))
    else (some (.inr (.e32 )))
  | .c33  =>
    bif decide (33 < (w1 : Int)) then
      (bif inR 33 w1 then
        (bif ((w2 33)).fName == (⟨#[72]⟩ : ByteArray) then
          (some (.inl (.c34)))
        else (none))
      else (none))
    else (some (.inr (.e33 )))
  | .c34  =>
    bif decide (34 < (w1 : Int)) then
      (bif inR 34 w1 then
        (bif ((w2 34)).fName == (⟨#[73]⟩ : ByteArray) then
          (some (.inl (.c35)))
        else (none))
      else (none))
    else (some (.inr (.e34 )))
  | .c35  =>
    bif decide (35 < (w1 : Int)) then
      (bif inR 35 w1 then
        (bif ((w2 35)).fName == (⟨#[74]⟩ : ByteArray) then
          (some (.inl (.c36)))
        else (none))
      else (none))
    else (some (.inr (.e35 )))
  | .c36  =>
    bif decide (36 < (w1 : Int)) then
      (bif inR 36 w1 then
        (bif ((w2 36)).fName == (⟨#[75]⟩ : ByteArray) then
          (some (.inl (.c37)))
        else (none))
      else (none))
    else (some (.inr (.e36 )))
  | .c37  =>
    bif decide (37 < (w1 : Int)) then
      (bif inR 37 w1 then
        (bif ((w2 37)).fName == (⟨#[76]⟩ : ByteArray) then
          (some (.inl (.c38)))
        else (none))
      else (none))
    else (some (.inr (.e37 )))
  | .c38  =>
    bif decide (38 < (w1 : Int)) then
      (bif inR 38 w1 then
        (bif ((w2 38)).fName == (⟨#[77]⟩ : ByteArray) then
          (some (.inl (.c39)))
        else (none))
      else (none))
    else (some (.inr (.e38 )))
  | .c39  =>
    bif decide (39 < (w1 : Int)) then
      (bif inR 39 w1 then
        (bif ((w2 39)).fName == (⟨#[78]⟩ : ByteArray) then
          (some (.inl (.c40)))
        else (none))
      else (none))
    else (some (.inr (.e39 )))
  | .c40  =>
    bif decide (40 < (w1 : Int)) then
      (bif inR 40 w1 then
        (none)
      else (none))
    else (some (.inr (.e40 )))
noncomputable def bd_btf_rightMemberNames_v3_L0 : Code := codeOf Tryd.f24 [1, 1, 0, 1, 0, 0]
def fl_btf_rightMemberNames_v3_L0 (w0 : Int) (w1 : Nat) (w2 : Nat → Member) : Sh_btf_rightMemberNames_v3_L0 → List L1 → List Value
  | .c0 , ls => [.pointer (some ⟨(lget ls 1).n, 0, none⟩), .bool false, .map (some (lget ls 2).n), (rowV (lget ls 0) w1 3), .int .i64 ((w1 : Int)), .int .i64 (0)]
  | .c1 , ls => [.pointer (some ⟨(lget ls 1).n, 0, none⟩), .bool false, .map (some (lget ls 2).n), (rowV (lget ls 0) w1 3), .int .i64 ((w1 : Int)), .int .i64 (1)]
  | .c2 , ls => [.pointer (some ⟨(lget ls 1).n, 0, none⟩), .bool false, .map (some (lget ls 2).n), (rowV (lget ls 0) w1 3), .int .i64 ((w1 : Int)), .int .i64 (2)]
  | .c3 , ls => [.pointer (some ⟨(lget ls 1).n, 0, none⟩), .bool false, .map (some (lget ls 2).n), (rowV (lget ls 0) w1 3), .int .i64 ((w1 : Int)), .int .i64 (3)]
  | .c4 , ls => [.pointer (some ⟨(lget ls 1).n, 0, none⟩), .bool false, .map (some (lget ls 2).n), (rowV (lget ls 0) w1 3), .int .i64 ((w1 : Int)), .int .i64 (4)]
  | .c5 , ls => [.pointer (some ⟨(lget ls 1).n, 0, none⟩), .bool false, .map (some (lget ls 2).n), (rowV (lget ls 0) w1 3), .int .i64 ((w1 : Int)), .int .i64 (5)]
  | .c6 , ls => [.pointer (some ⟨(lget ls 1).n, 0, none⟩), .bool false, .map (some (lget ls 2).n), (rowV (lget ls 0) w1 3), .int .i64 ((w1 : Int)), .int .i64 (6)]
  | .c7 , ls => [.pointer (some ⟨(lget ls 1).n, 0, none⟩), .bool false, .map (some (lget ls 2).n), (rowV (lget ls 0) w1 3), .int .i64 ((w1 : Int)), .int .i64 (7)]
  | .c8 , ls => [.pointer (some ⟨(lget ls 1).n, 0, none⟩), .bool false, .map (some (lget ls 2).n), (rowV (lget ls 0) w1 3), .int .i64 ((w1 : Int)), .int .i64 (8)]
  | .c9 , ls => [.pointer (some ⟨(lget ls 1).n, 0, none⟩), .bool false, .map (some (lget ls 2).n), (rowV (lget ls 0) w1 3), .int .i64 ((w1 : Int)), .int .i64 (9)]
  | .c10 , ls => [.pointer (some ⟨(lget ls 1).n, 0, none⟩), .bool false, .map (some (lget ls 2).n), (rowV (lget ls 0) w1 3), .int .i64 ((w1 : Int)), .int .i64 (10)]
  | .c11 , ls => [.pointer (some ⟨(lget ls 1).n, 0, none⟩), .bool false, .map (some (lget ls 2).n), (rowV (lget ls 0) w1 3), .int .i64 ((w1 : Int)), .int .i64 (11)]
  | .c12 , ls => [.pointer (some ⟨(lget ls 1).n, 0, none⟩), .bool false, .map (some (lget ls 2).n), (rowV (lget ls 0) w1 3), .int .i64 ((w1 : Int)), .int .i64 (12)]
  | .c13 , ls => [.pointer (some ⟨(lget ls 1).n, 0, none⟩), .bool false, .map (some (lget ls 2).n), (rowV (lget ls 0) w1 3), .int .i64 ((w1 : Int)), .int .i64 (13)]
  | .c14 , ls => [.pointer (some ⟨(lget ls 1).n, 0, none⟩), .bool false, .map (some (lget ls 2).n), (rowV (lget ls 0) w1 3), .int .i64 ((w1 : Int)), .int .i64 (14)]
  | .c15 , ls => [.pointer (some ⟨(lget ls 1).n, 0, none⟩), .bool false, .map (some (lget ls 2).n), (rowV (lget ls 0) w1 3), .int .i64 ((w1 : Int)), .int .i64 (15)]
  | .c16 , ls => [.pointer (some ⟨(lget ls 1).n, 0, none⟩), .bool false, .map (some (lget ls 2).n), (rowV (lget ls 0) w1 3), .int .i64 ((w1 : Int)), .int .i64 (16)]
  | .c17 , ls => [.pointer (some ⟨(lget ls 1).n, 0, none⟩), .bool false, .map (some (lget ls 2).n), (rowV (lget ls 0) w1 3), .int .i64 ((w1 : Int)), .int .i64 (17)]
  | .c18 , ls => [.pointer (some ⟨(lget ls 1).n, 0, none⟩), .bool false, .map (some (lget ls 2).n), (rowV (lget ls 0) w1 3), .int .i64 ((w1 : Int)), .int .i64 (18)]
  | .c19 , ls => [.pointer (some ⟨(lget ls 1).n, 0, none⟩), .bool false, .map (some (lget ls 2).n), (rowV (lget ls 0) w1 3), .int .i64 ((w1 : Int)), .int .i64 (19)]
  | .c20 , ls => [.pointer (some ⟨(lget ls 1).n, 0, none⟩), .bool false, .map (some (lget ls 2).n), (rowV (lget ls 0) w1 3), .int .i64 ((w1 : Int)), .int .i64 (20)]
  | .c21 , ls => [.pointer (some ⟨(lget ls 1).n, 0, none⟩), .bool false, .map (some (lget ls 2).n), (rowV (lget ls 0) w1 3), .int .i64 ((w1 : Int)), .int .i64 (21)]
  | .c22 , ls => [.pointer (some ⟨(lget ls 1).n, 0, none⟩), .bool false, .map (some (lget ls 2).n), (rowV (lget ls 0) w1 3), .int .i64 ((w1 : Int)), .int .i64 (22)]
  | .c23 , ls => [.pointer (some ⟨(lget ls 1).n, 0, none⟩), .bool false, .map (some (lget ls 2).n), (rowV (lget ls 0) w1 3), .int .i64 ((w1 : Int)), .int .i64 (23)]
  | .c24 , ls => [.pointer (some ⟨(lget ls 1).n, 0, none⟩), .bool false, .map (some (lget ls 2).n), (rowV (lget ls 0) w1 3), .int .i64 ((w1 : Int)), .int .i64 (24)]
  | .c25 , ls => [.pointer (some ⟨(lget ls 1).n, 0, none⟩), .bool false, .map (some (lget ls 2).n), (rowV (lget ls 0) w1 3), .int .i64 ((w1 : Int)), .int .i64 (25)]
  | .c26 , ls => [.pointer (some ⟨(lget ls 1).n, 0, none⟩), .bool false, .map (some (lget ls 2).n), (rowV (lget ls 0) w1 3), .int .i64 ((w1 : Int)), .int .i64 (26)]
  | .c27 , ls => [.pointer (some ⟨(lget ls 1).n, 0, none⟩), .bool false, .map (some (lget ls 2).n), (rowV (lget ls 0) w1 3), .int .i64 ((w1 : Int)), .int .i64 (27)]
  | .c28 , ls => [.pointer (some ⟨(lget ls 1).n, 0, none⟩), .bool false, .map (some (lget ls 2).n), (rowV (lget ls 0) w1 3), .int .i64 ((w1 : Int)), .int .i64 (28)]
  | .c29 , ls => [.pointer (some ⟨(lget ls 1).n, 0, none⟩), .bool false, .map (some (lget ls 2).n), (rowV (lget ls 0) w1 3), .int .i64 ((w1 : Int)), .int .i64 (29)]
  | .c30 , ls => [.pointer (some ⟨(lget ls 1).n, 0, none⟩), .bool false, .map (some (lget ls 2).n), (rowV (lget ls 0) w1 3), .int .i64 ((w1 : Int)), .int .i64 (30)]
  | .c31 , ls => [.pointer (some ⟨(lget ls 1).n, 0, none⟩), .bool false, .map (some (lget ls 2).n), (rowV (lget ls 0) w1 3), .int .i64 ((w1 : Int)), .int .i64 (31)]
  | .c32 , ls => [.pointer (some ⟨(lget ls 1).n, 0, none⟩), .bool false, .map (some (lget ls 2).n), (rowV (lget ls 0) w1 3), .int .i64 ((w1 : Int)), .int .i64 (32)]
  | .c33 , ls => [.pointer (some ⟨(lget ls 1).n, 0, none⟩), .bool false, .map (some (lget ls 2).n), (rowV (lget ls 0) w1 3), .int .i64 ((w1 : Int)), .int .i64 (33)]
  | .c34 , ls => [.pointer (some ⟨(lget ls 1).n, 0, none⟩), .bool false, .map (some (lget ls 2).n), (rowV (lget ls 0) w1 3), .int .i64 ((w1 : Int)), .int .i64 (34)]
  | .c35 , ls => [.pointer (some ⟨(lget ls 1).n, 0, none⟩), .bool false, .map (some (lget ls 2).n), (rowV (lget ls 0) w1 3), .int .i64 ((w1 : Int)), .int .i64 (35)]
  | .c36 , ls => [.pointer (some ⟨(lget ls 1).n, 0, none⟩), .bool false, .map (some (lget ls 2).n), (rowV (lget ls 0) w1 3), .int .i64 ((w1 : Int)), .int .i64 (36)]
  | .c37 , ls => [.pointer (some ⟨(lget ls 1).n, 0, none⟩), .bool false, .map (some (lget ls 2).n), (rowV (lget ls 0) w1 3), .int .i64 ((w1 : Int)), .int .i64 (37)]
  | .c38 , ls => [.pointer (some ⟨(lget ls 1).n, 0, none⟩), .bool false, .map (some (lget ls 2).n), (rowV (lget ls 0) w1 3), .int .i64 ((w1 : Int)), .int .i64 (38)]
  | .c39 , ls => [.pointer (some ⟨(lget ls 1).n, 0, none⟩), .bool false, .map (some (lget ls 2).n), (rowV (lget ls 0) w1 3), .int .i64 ((w1 : Int)), .int .i64 (39)]
  | .c40 , ls => [.pointer (some ⟨(lget ls 1).n, 0, none⟩), .bool false, .map (some (lget ls 2).n), (rowV (lget ls 0) w1 3), .int .i64 ((w1 : Int)), .int .i64 (40)]
def mf_btf_rightMemberNames_v3_L0 : Sh_btf_rightMemberNames_v3_L0 → List (Nat × Nat)
  | .c0  => [(0, 1), (3, 5), (3, 32)]
  | .c1  => [(0, 1), (3, 5), (3, 32)]
  | .c2  => [(0, 1), (3, 5), (3, 32)]
  | .c3  => [(0, 1), (3, 5), (3, 32)]
  | .c4  => [(0, 1), (3, 5), (3, 32)]
  | .c5  => [(0, 1), (3, 5), (3, 32)]
  | .c6  => [(0, 1), (3, 5), (3, 32)]
  | .c7  => [(0, 1), (3, 5), (3, 32)]
  | .c8  => [(0, 1), (3, 5), (3, 32)]
  | .c9  => [(0, 1), (3, 5), (3, 32)]
  | .c10  => [(0, 1), (3, 5), (3, 32)]
  | .c11  => [(0, 1), (3, 5), (3, 32)]
  | .c12  => [(0, 1), (3, 5), (3, 32)]
  | .c13  => [(0, 1), (3, 5), (3, 32)]
  | .c14  => [(0, 1), (3, 5), (3, 32)]
  | .c15  => [(0, 1), (3, 5), (3, 32)]
  | .c16  => [(0, 1), (3, 5), (3, 32)]
  | .c17  => [(0, 1), (3, 5), (3, 32)]
  | .c18  => [(0, 1), (3, 5), (3, 32)]
  | .c19  => [(0, 1), (3, 5), (3, 32)]
  | .c20  => [(0, 1), (3, 5), (3, 32)]
  | .c21  => [(0, 1), (3, 5), (3, 32)]
  | .c22  => [(0, 1), (3, 5), (3, 32)]
  | .c23  => [(0, 1), (3, 5), (3, 32)]
  | .c24  => [(0, 1), (3, 5), (3, 32)]
  | .c25  => [(0, 1), (3, 5), (3, 32)]
  | .c26  => [(0, 1), (3, 5), (3, 32)]
  | .c27  => [(0, 1), (3, 5), (3, 32)]
  | .c28  => [(0, 1), (3, 5), (3, 32)]
  | .c29  => [(0, 1), (3, 5), (3, 32)]
  | .c30  => [(0, 1), (3, 5), (3, 32)]
  | .c31  => [(0, 1), (3, 5), (3, 32)]
  | .c32  => [(0, 1), (3, 5), (3, 32)]
  | .c33  => [(0, 1), (3, 5), (3, 32)]
  | .c34  => [(0, 1), (3, 5), (3, 32)]
  | .c35  => [(0, 1), (3, 5), (3, 32)]
  | .c36  => [(0, 1), (3, 5), (3, 32)]
  | .c37  => [(0, 1), (3, 5), (3, 32)]
  | .c38  => [(0, 1), (3, 5), (3, 32)]
  | .c39  => [(0, 1), (3, 5), (3, 32)]
  | .c40  => [(0, 1), (3, 5), (3, 32)]
noncomputable def fr_btf_rightMemberNames_v3_L0 (w0 : Int) (w1 : Nat) (w2 : Nat → Member) (s : Sh_btf_rightMemberNames_v3_L0) : List L1 → List Value := mrgF (mf_btf_rightMemberNames_v3_L0 s) (fl_btf_rightMemberNames_v3_L0 w0 w1 w2 s) 3
def Hs_btf_rightMemberNames_v3_L0 (w0 : Int) (w1 : Nat) (w2 : Nat → Member) : Sh_btf_rightMemberNames_v3_L0 → List L1 → List Obj
  | .c0 , ls => [rowO (lget ls 0) (esG c_Member w1 w2) 27 w1 3, .cells #[.int .i64 (4), .string (⟨#[115]⟩ : ByteArray), .int .i64 (w0), .bool false, .int .i64 (0), .int .i64 (0), (rowV (lget ls 0) w1 3)] 25, .map #[] 0, unb]
  | .c1 , ls => [rowO (lget ls 0) (esG c_Member w1 w2) 27 w1 3, .cells #[.int .i64 (4), .string (⟨#[115]⟩ : ByteArray), .int .i64 (w0), .bool false, .int .i64 (0), .int .i64 (0), (rowV (lget ls 0) w1 3)] 25, .map #[⟨.string (⟨#[97]⟩ : ByteArray), .int .i64 (1), 0⟩] 1, unb]
  | .c2 , ls => [rowO (lget ls 0) (esG c_Member w1 w2) 27 w1 3, .cells #[.int .i64 (4), .string (⟨#[115]⟩ : ByteArray), .int .i64 (w0), .bool false, .int .i64 (0), .int .i64 (0), (rowV (lget ls 0) w1 3)] 25, .map #[⟨.string (⟨#[97]⟩ : ByteArray), .int .i64 (1), 0⟩, ⟨.string (⟨#[98]⟩ : ByteArray), .int .i64 (1), 1⟩] 2, unb]
  | .c3 , ls => [rowO (lget ls 0) (esG c_Member w1 w2) 27 w1 3, .cells #[.int .i64 (4), .string (⟨#[115]⟩ : ByteArray), .int .i64 (w0), .bool false, .int .i64 (0), .int .i64 (0), (rowV (lget ls 0) w1 3)] 25, .map #[⟨.string (⟨#[97]⟩ : ByteArray), .int .i64 (1), 0⟩, ⟨.string (⟨#[98]⟩ : ByteArray), .int .i64 (1), 1⟩, ⟨.string (⟨#[99]⟩ : ByteArray), .int .i64 (1), 2⟩] 3, unb]
  | .c4 , ls => [rowO (lget ls 0) (esG c_Member w1 w2) 27 w1 3, .cells #[.int .i64 (4), .string (⟨#[115]⟩ : ByteArray), .int .i64 (w0), .bool false, .int .i64 (0), .int .i64 (0), (rowV (lget ls 0) w1 3)] 25, .map #[⟨.string (⟨#[97]⟩ : ByteArray), .int .i64 (1), 0⟩, ⟨.string (⟨#[98]⟩ : ByteArray), .int .i64 (1), 1⟩, ⟨.string (⟨#[99]⟩ : ByteArray), .int .i64 (1), 2⟩, ⟨.string (⟨#[100]⟩ : ByteArray), .int .i64 (1), 3⟩] 4, unb]
  | .c5 , ls => [rowO (lget ls 0) (esG c_Member w1 w2) 27 w1 3, .cells #[.int .i64 (4), .string (⟨#[115]⟩ : ByteArray), .int .i64 (w0), .bool false, .int .i64 (0), .int .i64 (0), (rowV (lget ls 0) w1 3)] 25, .map #[⟨.string (⟨#[97]⟩ : ByteArray), .int .i64 (1), 0⟩, ⟨.string (⟨#[98]⟩ : ByteArray), .int .i64 (1), 1⟩, ⟨.string (⟨#[99]⟩ : ByteArray), .int .i64 (1), 2⟩, ⟨.string (⟨#[100]⟩ : ByteArray), .int .i64 (1), 3⟩, ⟨.string (⟨#[101]⟩ : ByteArray), .int .i64 (1), 4⟩] 5, unb]
  | .c6 , ls => [rowO (lget ls 0) (esG c_Member w1 w2) 27 w1 3, .cells #[.int .i64 (4), .string (⟨#[115]⟩ : ByteArray), .int .i64 (w0), .bool false, .int .i64 (0), .int .i64 (0), (rowV (lget ls 0) w1 3)] 25, .map #[⟨.string (⟨#[97]⟩ : ByteArray), .int .i64 (1), 0⟩, ⟨.string (⟨#[98]⟩ : ByteArray), .int .i64 (1), 1⟩, ⟨.string (⟨#[99]⟩ : ByteArray), .int .i64 (1), 2⟩, ⟨.string (⟨#[100]⟩ : ByteArray), .int .i64 (1), 3⟩, ⟨.string (⟨#[101]⟩ : ByteArray), .int .i64 (1), 4⟩, ⟨.string (⟨#[102]⟩ : ByteArray), .int .i64 (1), 5⟩] 6, unb]
  | .c7 , ls => [rowO (lget ls 0) (esG c_Member w1 w2) 27 w1 3, .cells #[.int .i64 (4), .string (⟨#[115]⟩ : ByteArray), .int .i64 (w0), .bool false, .int .i64 (0), .int .i64 (0), (rowV (lget ls 0) w1 3)] 25, .map #[⟨.string (⟨#[97]⟩ : ByteArray), .int .i64 (1), 0⟩, ⟨.string (⟨#[98]⟩ : ByteArray), .int .i64 (1), 1⟩, ⟨.string (⟨#[99]⟩ : ByteArray), .int .i64 (1), 2⟩, ⟨.string (⟨#[100]⟩ : ByteArray), .int .i64 (1), 3⟩, ⟨.string (⟨#[101]⟩ : ByteArray), .int .i64 (1), 4⟩, ⟨.string (⟨#[102]⟩ : ByteArray), .int .i64 (1), 5⟩, ⟨.string (⟨#[103]⟩ : ByteArray), .int .i64 (1), 6⟩] 7, unb]
  | .c8 , ls => [rowO (lget ls 0) (esG c_Member w1 w2) 27 w1 3, .cells #[.int .i64 (4), .string (⟨#[115]⟩ : ByteArray), .int .i64 (w0), .bool false, .int .i64 (0), .int .i64 (0), (rowV (lget ls 0) w1 3)] 25, .map #[⟨.string (⟨#[97]⟩ : ByteArray), .int .i64 (1), 0⟩, ⟨.string (⟨#[98]⟩ : ByteArray), .int .i64 (1), 1⟩, ⟨.string (⟨#[99]⟩ : ByteArray), .int .i64 (1), 2⟩, ⟨.string (⟨#[100]⟩ : ByteArray), .int .i64 (1), 3⟩, ⟨.string (⟨#[101]⟩ : ByteArray), .int .i64 (1), 4⟩, ⟨.string (⟨#[102]⟩ : ByteArray), .int .i64 (1), 5⟩, ⟨.string (⟨#[103]⟩ : ByteArray), .int .i64 (1), 6⟩, ⟨.string (⟨#[104]⟩ : ByteArray), .int .i64 (1), 7⟩] 8, unb]
  | .c9 , ls => [rowO (lget ls 0) (esG c_Member w1 w2) 27 w1 3, .cells #[.int .i64 (4), .string (⟨#[115]⟩ : ByteArray), .int .i64 (w0), .bool false, .int .i64 (0), .int .i64 (0), (rowV (lget ls 0) w1 3)] 25, .map #[⟨.string (⟨#[97]⟩ : ByteArray), .int .i64 (1), 0⟩, ⟨.string (⟨#[98]⟩ : ByteArray), .int .i64 (1), 1⟩, ⟨.string (⟨#[99]⟩ : ByteArray), .int .i64 (1), 2⟩, ⟨.string (⟨#[100]⟩ : ByteArray), .int .i64 (1), 3⟩, ⟨.string (⟨#[101]⟩ : ByteArray), .int .i64 (1), 4⟩, ⟨.string (⟨#[102]⟩ : ByteArray), .int .i64 (1), 5⟩, ⟨.string (⟨#[103]⟩ : ByteArray), .int .i64 (1), 6⟩, ⟨.string (⟨#[104]⟩ : ByteArray), .int .i64 (1), 7⟩, ⟨.string (⟨#[105]⟩ : ByteArray), .int .i64 (1), 8⟩] 9, unb]
  | .c10 , ls => [rowO (lget ls 0) (esG c_Member w1 w2) 27 w1 3, .cells #[.int .i64 (4), .string (⟨#[115]⟩ : ByteArray), .int .i64 (w0), .bool false, .int .i64 (0), .int .i64 (0), (rowV (lget ls 0) w1 3)] 25, .map #[⟨.string (⟨#[97]⟩ : ByteArray), .int .i64 (1), 0⟩, ⟨.string (⟨#[98]⟩ : ByteArray), .int .i64 (1), 1⟩, ⟨.string (⟨#[99]⟩ : ByteArray), .int .i64 (1), 2⟩, ⟨.string (⟨#[100]⟩ : ByteArray), .int .i64 (1), 3⟩, ⟨.string (⟨#[101]⟩ : ByteArray), .int .i64 (1), 4⟩, ⟨.string (⟨#[102]⟩ : ByteArray), .int .i64 (1), 5⟩, ⟨.string (⟨#[103]⟩ : ByteArray), .int .i64 (1), 6⟩, ⟨.string (⟨#[104]⟩ : ByteArray), .int .i64 (1), 7⟩, ⟨.string (⟨#[105]⟩ : ByteArray), .int .i64 (1), 8⟩, ⟨.string (⟨#[106]⟩ : ByteArray), .int .i64 (1), 9⟩] 10, unb]
  | .c11 , ls => [rowO (lget ls 0) (esG c_Member w1 w2) 27 w1 3, .cells #[.int .i64 (4), .string (⟨#[115]⟩ : ByteArray), .int .i64 (w0), .bool false, .int .i64 (0), .int .i64 (0), (rowV (lget ls 0) w1 3)] 25, .map #[⟨.string (⟨#[97]⟩ : ByteArray), .int .i64 (1), 0⟩, ⟨.string (⟨#[98]⟩ : ByteArray), .int .i64 (1), 1⟩, ⟨.string (⟨#[99]⟩ : ByteArray), .int .i64 (1), 2⟩, ⟨.string (⟨#[100]⟩ : ByteArray), .int .i64 (1), 3⟩, ⟨.string (⟨#[101]⟩ : ByteArray), .int .i64 (1), 4⟩, ⟨.string (⟨#[102]⟩ : ByteArray), .int .i64 (1), 5⟩, ⟨.string (⟨#[103]⟩ : ByteArray), .int .i64 (1), 6⟩, ⟨.string (⟨#[104]⟩ : ByteArray), .int .i64 (1), 7⟩, ⟨.string (⟨#[105]⟩ : ByteArray), .int .i64 (1), 8⟩, ⟨.string (⟨#[106]⟩ : ByteArray), .int .i64 (1), 9⟩, ⟨.string (⟨#[107]⟩ : ByteArray), .int .i64 (1), 10⟩] 11, unb]
  | .c12 , ls => [rowO (lget ls 0) (esG c_Member w1 w2) 27 w1 3, .cells #[.int .i64 (4), .string (⟨#[115]⟩ : ByteArray), .int .i64 (w0), .bool false, .int .i64 (0), .int .i64 (0), (rowV (lget ls 0) w1 3)] 25, .map #[⟨.string (⟨#[97]⟩ : ByteArray), .int .i64 (1), 0⟩, ⟨.string (⟨#[98]⟩ : ByteArray), .int .i64 (1), 1⟩, ⟨.string (⟨#[99]⟩ : ByteArray), .int .i64 (1), 2⟩, ⟨.string (⟨#[100]⟩ : ByteArray), .int .i64 (1), 3⟩, ⟨.string (⟨#[101]⟩ : ByteArray), .int .i64 (1), 4⟩, ⟨.string (⟨#[102]⟩ : ByteArray), .int .i64 (1), 5⟩, ⟨.string (⟨#[103]⟩ : ByteArray), .int .i64 (1), 6⟩, ⟨.string (⟨#[104]⟩ : ByteArray), .int .i64 (1), 7⟩, ⟨.string (⟨#[105]⟩ : ByteArray), .int .i64 (1), 8⟩, ⟨.string (⟨#[106]⟩ : ByteArray), .int .i64 (1), 9⟩, ⟨.string (⟨#[107]⟩ : ByteArray), .int .i64 (1), 10⟩, ⟨.string (⟨#[108]⟩ : ByteArray), .int .i64 (1), 11⟩] 12, unb]
  | .c13 , ls => [rowO (lget ls 0) (esG c_Member w1 w2) 27 w1 3, .cells #[.int .i64 (4), .string (⟨#[115]⟩ : ByteArray), .int .i64 (w0), .bool false, .int .i64 (0), .int .i64 (0), (rowV (lget ls 0) w1 3)] 25, .map #[⟨.string (⟨#[97]⟩ : ByteArray), .int .i64 (1), 0⟩, ⟨.string (⟨#[98]⟩ : ByteArray), .int .i64 (1), 1⟩, ⟨.string (⟨#[99]⟩ : ByteArray), .int .i64 (1), 2⟩, ⟨.string (⟨#[100]⟩ : ByteArray), .int .i64 (1), 3⟩, ⟨.string (⟨#[101]⟩ : ByteArray), .int .i64 (1), 4⟩, ⟨.string (⟨#[102]⟩ : ByteArray), .int .i64 (1), 5⟩, ⟨.string (⟨#[103]⟩ : ByteArray), .int .i64 (1), 6⟩, ⟨.string (⟨#[104]⟩ : ByteArray), .int .i64 (1), 7⟩, ⟨.string (⟨#[105]⟩ : ByteArray), .int .i64 (1), 8⟩, ⟨.string (⟨#[106]⟩ : ByteArray), .int .i64 (1), 9⟩, ⟨.string (⟨#[107]⟩ : ByteArray), .int .i64 (1), 10⟩, ⟨.string (⟨#[108]⟩ : ByteArray), .int .i64 (1), 11⟩, ⟨.string (⟨#[109]⟩ : ByteArray), .int .i64 (1), 12⟩] 13, unb]
  | .c14 , ls => [rowO (lget ls 0) (esG c_Member w1 w2) 27 w1 3, .cells #[.int .i64 (4), .string (⟨#[115]⟩ : ByteArray), .int .i64 (w0), .bool false, .int .i64 (0), .int .i64 (0), (rowV (lget ls 0) w1 3)] 25, .map #[⟨.string (⟨#[97]⟩ : ByteArray), .int .i64 (1), 0⟩, ⟨.string (⟨#[98]⟩ : ByteArray), .int .i64 (1), 1⟩, ⟨.string (⟨#[99]⟩ : ByteArray), .int .i64 (1), 2⟩, ⟨.string (⟨#[100]⟩ : ByteArray), .int .i64 (1), 3⟩, ⟨.string (⟨#[101]⟩ : ByteArray), .int .i64 (1), 4⟩, ⟨.string (⟨#[102]⟩ : ByteArray), .int .i64 (1), 5⟩, ⟨.string (⟨#[103]⟩ : ByteArray), .int .i64 (1), 6⟩, ⟨.string (⟨#[104]⟩ : ByteArray), .int .i64 (1), 7⟩, ⟨.string (⟨#[105]⟩ : ByteArray), .int .i64 (1), 8⟩, ⟨.string (⟨#[106]⟩ : ByteArray), .int .i64 (1), 9⟩, ⟨.string (⟨#[107]⟩ : ByteArray), .int .i64 (1), 10⟩, ⟨.string (⟨#[108]⟩ : ByteArray), .int .i64 (1), 11⟩, ⟨.string (⟨#[109]⟩ : ByteArray), .int .i64 (1), 12⟩, ⟨.string (⟨#[110]⟩ : ByteArray), .int .i64 (1), 13⟩] 14, unb]
  | .c15 , ls => [rowO (lget ls 0) (esG c_Member w1 w2) 27 w1 3, .cells #[.int .i64 (4), .string (⟨#[115]⟩ : ByteArray), .int .i64 (w0), .bool false, .int .i64 (0), .int .i64 (0), (rowV (lget ls 0) w1 3)] 25, .map #[⟨.string (⟨#[97]⟩ : ByteArray), .int .i64 (1), 0⟩, ⟨.string (⟨#[98]⟩ : ByteArray), .int .i64 (1), 1⟩, ⟨.string (⟨#[99]⟩ : ByteArray), .int .i64 (1), 2⟩, ⟨.string (⟨#[100]⟩ : ByteArray), .int .i64 (1), 3⟩, ⟨.string (⟨#[101]⟩ : ByteArray), .int .i64 (1), 4⟩, ⟨.string (⟨#[102]⟩ : ByteArray), .int .i64 (1), 5⟩, ⟨.string (⟨#[103]⟩ : ByteArray), .int .i64 (1), 6⟩, ⟨.string (⟨#[104]⟩ : ByteArray), .int .i64 (1), 7⟩, ⟨.string (⟨#[105]⟩ : ByteArray), .int .i64 (1), 8⟩, ⟨.string (⟨#[106]⟩ : ByteArray), .int .i64 (1), 9⟩, ⟨.string (⟨#[107]⟩ : ByteArray), .int .i64 (1), 10⟩, ⟨.string (⟨#[108]⟩ : ByteArray), .int .i64 (1), 11⟩, ⟨.string (⟨#[109]⟩ : ByteArray), .int .i64 (1), 12⟩, ⟨.string (⟨#[110]⟩ : ByteArray), .int .i64 (1), 13⟩, ⟨.string (⟨#[111]⟩ : ByteArray), .int .i64 (1), 14⟩] 15, unb]
  | .c16 , ls => [rowO (lget ls 0) (esG c_Member w1 w2) 27 w1 3, .cells #[.int .i64 (4), .string (⟨#[115]⟩ : ByteArray), .int .i64 (w0), .bool false, .int .i64 (0), .int .i64 (0), (rowV (lget ls 0) w1 3)] 25, .map #[⟨.string (⟨#[97]⟩ : ByteArray), .int .i64 (1), 0⟩, ⟨.string (⟨#[98]⟩ : ByteArray), .int .i64 (1), 1⟩, ⟨.string (⟨#[99]⟩ : ByteArray), .int .i64 (1), 2⟩, ⟨.string (⟨#[100]⟩ : ByteArray), .int .i64 (1), 3⟩, ⟨.string (⟨#[101]⟩ : ByteArray), .int .i64 (1), 4⟩, ⟨.string (⟨#[102]⟩ : ByteArray), .int .i64 (1), 5⟩, ⟨.string (⟨#[103]⟩ : ByteArray), .int .i64 (1), 6⟩, ⟨.string (⟨#[104]⟩ : ByteArray), .int .i64 (1), 7⟩, ⟨.string (⟨#[105]⟩ : ByteArray), .int .i64 (1), 8⟩, ⟨.string (⟨#[106]⟩ : ByteArray), .int .i64 (1), 9⟩, ⟨.string (⟨#[107]⟩ : ByteArray), .int .i64 (1), 10⟩, ⟨.string (⟨#[108]⟩ : ByteArray), .int .i64 (1), 11⟩, ⟨.string (⟨#[109]⟩ : ByteArray), .int .i64 (1), 12⟩, ⟨.string (⟨#[110]⟩ : ByteArray), .int .i64 (1), 13⟩, ⟨.string (⟨#[111]⟩ : ByteArray), .int .i64 (1), 14⟩, ⟨.string (⟨#[112]⟩ : ByteArray), .int .i64 (1), 15⟩] 16, unb]
  | .c17 , ls => [rowO (lget ls 0) (esG c_Member w1 w2) 27 w1 3, .cells #[.int .i64 (4), .string (⟨#[115]⟩ : ByteArray), .int .i64 (w0), .bool false, .int .i64 (0), .int .i64 (0), (rowV (lget ls 0) w1 3)] 25, .map #[⟨.string (⟨#[97]⟩ : ByteArray), .int .i64 (1), 0⟩, ⟨.string (⟨#[98]⟩ : ByteArray), .int .i64 (1), 1⟩, ⟨.string (⟨#[99]⟩ : ByteArray), .int .i64 (1), 2⟩, ⟨.string (⟨#[100]⟩ : ByteArray), .int .i64 (1), 3⟩, ⟨.string (⟨#[101]⟩ : ByteArray), .int .i64 (1), 4⟩, ⟨.string (⟨#[102]⟩ : ByteArray), .int .i64 (1), 5⟩, ⟨.string (⟨#[103]⟩ : ByteArray), .int .i64 (1), 6⟩, ⟨.string (⟨#[104]⟩ : ByteArray), .int .i64 (1), 7⟩, ⟨.string (⟨#[105]⟩ : ByteArray), .int .i64 (1), 8⟩, ⟨.string (⟨#[106]⟩ : ByteArray), .int .i64 (1), 9⟩, ⟨.string (⟨#[107]⟩ : ByteArray), .int .i64 (1), 10⟩, ⟨.string (⟨#[108]⟩ : ByteArray), .int .i64 (1), 11⟩, ⟨.string (⟨#[109]⟩ : ByteArray), .int .i64 (1), 12⟩, ⟨.string (⟨#[110]⟩ : ByteArray), .int .i64 (1), 13⟩, ⟨.string (⟨#[111]⟩ : ByteArray), .int .i64 (1), 14⟩, ⟨.string (⟨#[112]⟩ : ByteArray), .int .i64 (1), 15⟩, ⟨.string (⟨#[113]⟩ : ByteArray), .int .i64 (1), 16⟩] 17, unb]
  | .c18 , ls => [rowO (lget ls 0) (esG c_Member w1 w2) 27 w1 3, .cells #[.int .i64 (4), .string (⟨#[115]⟩ : ByteArray), .int .i64 (w0), .bool false, .int .i64 (0), .int .i64 (0), (rowV (lget ls 0) w1 3)] 25, .map #[⟨.string (⟨#[97]⟩ : ByteArray), .int .i64 (1), 0⟩, ⟨.string (⟨#[98]⟩ : ByteArray), .int .i64 (1), 1⟩, ⟨.string (⟨#[99]⟩ : ByteArray), .int .i64 (1), 2⟩, ⟨.string (⟨#[100]⟩ : ByteArray), .int .i64 (1), 3⟩, ⟨.string (⟨#[101]⟩ : ByteArray), .int .i64 (1), 4⟩, ⟨.string (⟨#[102]⟩ : ByteArray), .int .i64 (1), 5⟩, ⟨.string (⟨#[103]⟩ : ByteArray), .int .i64 (1), 6⟩, ⟨.string (⟨#[104]⟩ : ByteArray), .int .i64 (1), 7⟩, ⟨.string (⟨#[105]⟩ : ByteArray), .int .i64 (1), 8⟩, ⟨.string (⟨#[106]⟩ : ByteArray), .int .i64 (1), 9⟩, ⟨.string (⟨#[107]⟩ : ByteArray), .int .i64 (1), 10⟩, ⟨.string (⟨#[108]⟩ : ByteArray), .int .i64 (1), 11⟩, ⟨.string (⟨#[109]⟩ : ByteArray), .int .i64 (1), 12⟩, ⟨.string (⟨#[110]⟩ : ByteArray), .int .i64 (1), 13⟩, ⟨.string (⟨#[111]⟩ : ByteArray), .int .i64 (1), 14⟩, ⟨.string (⟨#[112]⟩ : ByteArray), .int .i64 (1), 15⟩, ⟨.string (⟨#[113]⟩ : ByteArray), .int .i64 (1), 16⟩, ⟨.string (⟨#[114]⟩ : ByteArray), .int .i64 (1), 17⟩] 18, unb]
  | .c19 , ls => [rowO (lget ls 0) (esG c_Member w1 w2) 27 w1 3, .cells #[.int .i64 (4), .string (⟨#[115]⟩ : ByteArray), .int .i64 (w0), .bool false, .int .i64 (0), .int .i64 (0), (rowV (lget ls 0) w1 3)] 25, .map #[⟨.string (⟨#[97]⟩ : ByteArray), .int .i64 (1), 0⟩, ⟨.string (⟨#[98]⟩ : ByteArray), .int .i64 (1), 1⟩, ⟨.string (⟨#[99]⟩ : ByteArray), .int .i64 (1), 2⟩, ⟨.string (⟨#[100]⟩ : ByteArray), .int .i64 (1), 3⟩, ⟨.string (⟨#[101]⟩ : ByteArray), .int .i64 (1), 4⟩, ⟨.string (⟨#[102]⟩ : ByteArray), .int .i64 (1), 5⟩, ⟨.string (⟨#[103]⟩ : ByteArray), .int .i64 (1), 6⟩, ⟨.string (⟨#[104]⟩ : ByteArray), .int .i64 (1), 7⟩, ⟨.string (⟨#[105]⟩ : ByteArray), .int .i64 (1), 8⟩, ⟨.string (⟨#[106]⟩ : ByteArray), .int .i64 (1), 9⟩, ⟨.string (⟨#[107]⟩ : ByteArray), .int .i64 (1), 10⟩, ⟨.string (⟨#[108]⟩ : ByteArray), .int .i64 (1), 11⟩, ⟨.string (⟨#[109]⟩ : ByteArray), .int .i64 (1), 12⟩, ⟨.string (⟨#[110]⟩ : ByteArray), .int .i64 (1), 13⟩, ⟨.string (⟨#[111]⟩ : ByteArray), .int .i64 (1), 14⟩, ⟨.string (⟨#[112]⟩ : ByteArray), .int .i64 (1), 15⟩, ⟨.string (⟨#[113]⟩ : ByteArray), .int .i64 (1), 16⟩, ⟨.string (⟨#[114]⟩ : ByteArray), .int .i64 (1), 17⟩, ⟨.string (⟨#[115]⟩ : ByteArray), .int .i64 (1), 18⟩] 19, unb]
  | .c20 , ls => [rowO (lget ls 0) (esG c_Member w1 w2) 27 w1 3, .cells #[.int .i64 (4), .string (⟨#[115]⟩ : ByteArray), .int .i64 (w0), .bool false, .int .i64 (0), .int .i64 (0), (rowV (lget ls 0) w1 3)] 25, .map #[⟨.string (⟨#[97]⟩ : ByteArray), .int .i64 (1), 0⟩, ⟨.string (⟨#[98]⟩ : ByteArray), .int .i64 (1), 1⟩, ⟨.string (⟨#[99]⟩ : ByteArray), .int .i64 (1), 2⟩, ⟨.string (⟨#[100]⟩ : ByteArray), .int .i64 (1), 3⟩, ⟨.string (⟨#[101]⟩ : ByteArray), .int .i64 (1), 4⟩, ⟨.string (⟨#[102]⟩ : ByteArray), .int .i64 (1), 5⟩, ⟨.string (⟨#[103]⟩ : ByteArray), .int .i64 (1), 6⟩, ⟨.string (⟨#[104]⟩ : ByteArray), .int .i64 (1), 7⟩, ⟨.string (⟨#[105]⟩ : ByteArray), .int .i64 (1), 8⟩, ⟨.string (⟨#[106]⟩ : ByteArray), .int .i64 (1), 9⟩, ⟨.string (⟨#[107]⟩ : ByteArray), .int .i64 (1), 10⟩, ⟨.string (⟨#[108]⟩ : ByteArray), .int .i64 (1), 11⟩, ⟨.string (⟨#[109]⟩ : ByteArray), .int .i64 (1), 12⟩, ⟨.string (⟨#[110]⟩ : ByteArray), .int .i64 (1), 13⟩, ⟨.string (⟨#[111]⟩ : ByteArray), .int .i64 (1), 14⟩, ⟨.string (⟨#[112]⟩ : ByteArray), .int .i64 (1), 15⟩, ⟨.string (⟨#[113]⟩ : ByteArray), .int .i64 (1), 16⟩, ⟨.string (⟨#[114]⟩ : ByteArray), .int .i64 (1), 17⟩, ⟨.string (⟨#[115]⟩ : ByteArray), .int .i64 (1), 18⟩, ⟨.string (⟨#[116]⟩ : ByteArray), .int .i64 (1), 19⟩] 20, unb]
  | .c21 , ls => [rowO (lget ls 0) (esG c_Member w1 w2) 27 w1 3, .cells #[.int .i64 (4), .string (⟨#[115]⟩ : ByteArray), .int .i64 (w0), .bool false, .int .i64 (0), .int .i64 (0), (rowV (lget ls 0) w1 3)] 25, .map #[⟨.string (⟨#[97]⟩ : ByteArray), .int .i64 (1), 0⟩, ⟨.string (⟨#[98]⟩ : ByteArray), .int .i64 (1), 1⟩, ⟨.string (⟨#[99]⟩ : ByteArray), .int .i64 (1), 2⟩, ⟨.string (⟨#[100]⟩ : ByteArray), .int .i64 (1), 3⟩, ⟨.string (⟨#[101]⟩ : ByteArray), .int .i64 (1), 4⟩, ⟨.string (⟨#[102]⟩ : ByteArray), .int .i64 (1), 5⟩, ⟨.string (⟨#[103]⟩ : ByteArray), .int .i64 (1), 6⟩, ⟨.string (⟨#[104]⟩ : ByteArray), .int .i64 (1), 7⟩, ⟨.string (⟨#[105]⟩ : ByteArray), .int .i64 (1), 8⟩, ⟨.string (⟨#[106]⟩ : ByteArray), .int .i64 (1), 9⟩, ⟨.string (⟨#[107]⟩ : ByteArray), .int .i64 (1), 10⟩, ⟨.string (⟨#[108]⟩ : ByteArray), .int .i64 (1), 11⟩, ⟨.string (⟨#[109]⟩ : ByteArray), .int .i64 (1), 12⟩, ⟨.string (⟨#[110]⟩ : ByteArray), .int .i64 (1), 13⟩, ⟨.string (⟨#[111]⟩ : ByteArray), .int .i64 (1), 14⟩, ⟨.string (⟨#[112]⟩ : ByteArray), .int .i64 (1), 15⟩, ⟨.string (⟨#[113]⟩ : ByteArray), .int .i64 (1), 16⟩, ⟨.string (⟨#[114]⟩ : ByteArray), .int .i64 (1), 17⟩, ⟨.string (⟨#[115]⟩ : ByteArray), .int .i64 (1), 18⟩, ⟨.string (⟨#[116]⟩ : ByteArray), .int .i64 (1), 19⟩, ⟨.string (⟨#[117]⟩ : ByteArray), .int .i64 (1), 20⟩] 21, unb]
  | .c22 , ls => [rowO (lget ls 0) (esG c_Member w1 w2) 27 w1 3, .cells #[.int .i64 (4), .string (⟨#[115]⟩ : ByteArray), .int .i64 (w0), .bool false, .int .i64 (0), .int .i64 (0), (rowV (lget ls 0) w1 3)] 25, .map #[⟨.string (⟨#[97]⟩ : ByteArray), .int .i64 (1), 0⟩, ⟨.string (⟨#[98]⟩ : ByteArray), .int .i64 (1), 1⟩, ⟨.string (⟨#[99]⟩ : ByteArray), .int .i64 (1), 2⟩, ⟨.string (⟨#[100]⟩ : ByteArray), .int .i64 (1), 3⟩, ⟨.string (⟨#[101]⟩ : ByteArray), .int .i64 (1), 4⟩, ⟨.string (⟨#[102]⟩ : ByteArray), .int .i64 (1), 5⟩, ⟨.string (⟨#[103]⟩ : ByteArray), .int .i64 (1), 6⟩, ⟨.string (⟨#[104]⟩ : ByteArray), .int .i64 (1), 7⟩, ⟨.string (⟨#[105]⟩ : ByteArray), .int .i64 (1), 8⟩, ⟨.string (⟨#[106]⟩ : ByteArray), .int .i64 (1), 9⟩, ⟨.string (⟨#[107]⟩ : ByteArray), .int .i64 (1), 10⟩, ⟨.string (⟨#[108]⟩ : ByteArray), .int .i64 (1), 11⟩, ⟨.string (⟨#[109]⟩ : ByteArray), .int .i64 (1), 12⟩, ⟨.string (⟨#[110]⟩ : ByteArray), .int .i64 (1), 13⟩, ⟨.string (⟨#[111]⟩ : ByteArray), .int .i64 (1), 14⟩, ⟨.string (⟨#[112]⟩ : ByteArray), .int .i64 (1), 15⟩, ⟨.string (⟨#[113]⟩ : ByteArray), .int .i64 (1), 16⟩, ⟨.string (⟨#[114]⟩ : ByteArray), .int .i64 (1), 17⟩, ⟨.string (⟨#[115]⟩ : ByteArray), .int .i64 (1), 18⟩, ⟨.string (⟨#[116]⟩ : ByteArray), .int .i64 (1), 19⟩, ⟨.string (⟨#[117]⟩ : ByteArray), .int .i64 (1), 20⟩, ⟨.string (⟨#[118]⟩ : ByteArray), .int .i64 (1), 21⟩] 22, unb]
  | .c23 , ls => [rowO (lget ls 0) (esG c_Member w1 w2) 27 w1 3, .cells #[.int .i64 (4), .string (⟨#[115]⟩ : ByteArray), .int .i64 (w0), .bool false, .int .i64 (0), .int .i64 (0), (rowV (lget ls 0) w1 3)] 25, .map #[⟨.string (⟨#[97]⟩ : ByteArray), .int .i64 (1), 0⟩, ⟨.string (⟨#[98]⟩ : ByteArray), .int .i64 (1), 1⟩, ⟨.string (⟨#[99]⟩ : ByteArray), .int .i64 (1), 2⟩, ⟨.string (⟨#[100]⟩ : ByteArray), .int .i64 (1), 3⟩, ⟨.string (⟨#[101]⟩ : ByteArray), .int .i64 (1), 4⟩, ⟨.string (⟨#[102]⟩ : ByteArray), .int .i64 (1), 5⟩, ⟨.string (⟨#[103]⟩ : ByteArray), .int .i64 (1), 6⟩, ⟨.string (⟨#[104]⟩ : ByteArray), .int .i64 (1), 7⟩, ⟨.string (⟨#[105]⟩ : ByteArray), .int .i64 (1), 8⟩, ⟨.string (⟨#[106]⟩ : ByteArray), .int .i64 (1), 9⟩, ⟨.string (⟨#[107]⟩ : ByteArray), .int .i64 (1), 10⟩, ⟨.string (⟨#[108]⟩ : ByteArray), .int .i64 (1), 11⟩, ⟨.string (⟨#[109]⟩ : ByteArray), .int .i64 (1), 12⟩, ⟨.string (⟨#[110]⟩ : ByteArray), .int .i64 (1), 13⟩, ⟨.string (⟨#[111]⟩ : ByteArray), .int .i64 (1), 14⟩, ⟨.string (⟨#[112]⟩ : ByteArray), .int .i64 (1), 15⟩, ⟨.string (⟨#[113]⟩ : ByteArray), .int .i64 (1), 16⟩, ⟨.string (⟨#[114]⟩ : ByteArray), .int .i64 (1), 17⟩, ⟨.string (⟨#[115]⟩ : ByteArray), .int .i64 (1), 18⟩, ⟨.string (⟨#[116]⟩ : ByteArray), .int .i64 (1), 19⟩, ⟨.string (⟨#[117]⟩ : ByteArray), .int .i64 (1), 20⟩, ⟨.string (⟨#[118]⟩ : ByteArray), .int .i64 (1), 21⟩, ⟨.string (⟨#[119]⟩ : ByteArray), .int .i64 (1), 22⟩] 23, unb]
  | .c24 , ls => [rowO (lget ls 0) (esG c_Member w1 w2) 27 w1 3, .cells #[.int .i64 (4), .string (⟨#[115]⟩ : ByteArray), .int .i64 (w0), .bool false, .int .i64 (0), .int .i64 (0), (rowV (lget ls 0) w1 3)] 25, .map #[⟨.string (⟨#[97]⟩ : ByteArray), .int .i64 (1), 0⟩, ⟨.string (⟨#[98]⟩ : ByteArray), .int .i64 (1), 1⟩, ⟨.string (⟨#[99]⟩ : ByteArray), .int .i64 (1), 2⟩, ⟨.string (⟨#[100]⟩ : ByteArray), .int .i64 (1), 3⟩, ⟨.string (⟨#[101]⟩ : ByteArray), .int .i64 (1), 4⟩, ⟨.string (⟨#[102]⟩ : ByteArray), .int .i64 (1), 5⟩, ⟨.string (⟨#[103]⟩ : ByteArray), .int .i64 (1), 6⟩, ⟨.string (⟨#[104]⟩ : ByteArray), .int .i64 (1), 7⟩, ⟨.string (⟨#[105]⟩ : ByteArray), .int .i64 (1), 8⟩, ⟨.string (⟨#[106]⟩ : ByteArray), .int .i64 (1), 9⟩, ⟨.string (⟨#[107]⟩ : ByteArray), .int .i64 (1), 10⟩, ⟨.string (⟨#[108]⟩ : ByteArray), .int .i64 (1), 11⟩, ⟨.string (⟨#[109]⟩ : ByteArray), .int .i64 (1), 12⟩, ⟨.string (⟨#[110]⟩ : ByteArray), .int .i64 (1), 13⟩, ⟨.string (⟨#[111]⟩ : ByteArray), .int .i64 (1), 14⟩, ⟨.string (⟨#[112]⟩ : ByteArray), .int .i64 (1), 15⟩, ⟨.string (⟨#[113]⟩ : ByteArray), .int .i64 (1), 16⟩, ⟨.string (⟨#[114]⟩ : ByteArray), .int .i64 (1), 17⟩, ⟨.string (⟨#[115]⟩ : ByteArray), .int .i64 (1), 18⟩, ⟨.string (⟨#[116]⟩ : ByteArray), .int .i64 (1), 19⟩, ⟨.string (⟨#[117]⟩ : ByteArray), .int .i64 (1), 20⟩, ⟨.string (⟨#[118]⟩ : ByteArray), .int .i64 (1), 21⟩, ⟨.string (⟨#[119]⟩ : ByteArray), .int .i64 (1), 22⟩, ⟨.string (⟨#[120]⟩ : ByteArray), .int .i64 (1), 23⟩] 24, unb]
  | .c25 , ls => [rowO (lget ls 0) (esG c_Member w1 w2) 27 w1 3, .cells #[.int .i64 (4), .string (⟨#[115]⟩ : ByteArray), .int .i64 (w0), .bool false, .int .i64 (0), .int .i64 (0), (rowV (lget ls 0) w1 3)] 25, .map #[⟨.string (⟨#[97]⟩ : ByteArray), .int .i64 (1), 0⟩, ⟨.string (⟨#[98]⟩ : ByteArray), .int .i64 (1), 1⟩, ⟨.string (⟨#[99]⟩ : ByteArray), .int .i64 (1), 2⟩, ⟨.string (⟨#[100]⟩ : ByteArray), .int .i64 (1), 3⟩, ⟨.string (⟨#[101]⟩ : ByteArray), .int .i64 (1), 4⟩, ⟨.string (⟨#[102]⟩ : ByteArray), .int .i64 (1), 5⟩, ⟨.string (⟨#[103]⟩ : ByteArray), .int .i64 (1), 6⟩, ⟨.string (⟨#[104]⟩ : ByteArray), .int .i64 (1), 7⟩, ⟨.string (⟨#[105]⟩ : ByteArray), .int .i64 (1), 8⟩, ⟨.string (⟨#[106]⟩ : ByteArray), .int .i64 (1), 9⟩, ⟨.string (⟨#[107]⟩ : ByteArray), .int .i64 (1), 10⟩, ⟨.string (⟨#[108]⟩ : ByteArray), .int .i64 (1), 11⟩, ⟨.string (⟨#[109]⟩ : ByteArray), .int .i64 (1), 12⟩, ⟨.string (⟨#[110]⟩ : ByteArray), .int .i64 (1), 13⟩, ⟨.string (⟨#[111]⟩ : ByteArray), .int .i64 (1), 14⟩, ⟨.string (⟨#[112]⟩ : ByteArray), .int .i64 (1), 15⟩, ⟨.string (⟨#[113]⟩ : ByteArray), .int .i64 (1), 16⟩, ⟨.string (⟨#[114]⟩ : ByteArray), .int .i64 (1), 17⟩, ⟨.string (⟨#[115]⟩ : ByteArray), .int .i64 (1), 18⟩, ⟨.string (⟨#[116]⟩ : ByteArray), .int .i64 (1), 19⟩, ⟨.string (⟨#[117]⟩ : ByteArray), .int .i64 (1), 20⟩, ⟨.string (⟨#[118]⟩ : ByteArray), .int .i64 (1), 21⟩, ⟨.string (⟨#[119]⟩ : ByteArray), .int .i64 (1), 22⟩, ⟨.string (⟨#[120]⟩ : ByteArray), .int .i64 (1), 23⟩, ⟨.string (⟨#[121]⟩ : ByteArray), .int .i64 (1), 24⟩] 25, unb]
  | .c26 , ls => [rowO (lget ls 0) (esG c_Member w1 w2) 27 w1 3, .cells #[.int .i64 (4), .string (⟨#[115]⟩ : ByteArray), .int .i64 (w0), .bool false, .int .i64 (0), .int .i64 (0), (rowV (lget ls 0) w1 3)] 25, .map #[⟨.string (⟨#[97]⟩ : ByteArray), .int .i64 (1), 0⟩, ⟨.string (⟨#[98]⟩ : ByteArray), .int .i64 (1), 1⟩, ⟨.string (⟨#[99]⟩ : ByteArray), .int .i64 (1), 2⟩, ⟨.string (⟨#[100]⟩ : ByteArray), .int .i64 (1), 3⟩, ⟨.string (⟨#[101]⟩ : ByteArray), .int .i64 (1), 4⟩, ⟨.string (⟨#[102]⟩ : ByteArray), .int .i64 (1), 5⟩, ⟨.string (⟨#[103]⟩ : ByteArray), .int .i64 (1), 6⟩, ⟨.string (⟨#[104]⟩ : ByteArray), .int .i64 (1), 7⟩, ⟨.string (⟨#[105]⟩ : ByteArray), .int .i64 (1), 8⟩, ⟨.string (⟨#[106]⟩ : ByteArray), .int .i64 (1), 9⟩, ⟨.string (⟨#[107]⟩ : ByteArray), .int .i64 (1), 10⟩, ⟨.string (⟨#[108]⟩ : ByteArray), .int .i64 (1), 11⟩, ⟨.string (⟨#[109]⟩ : ByteArray), .int .i64 (1), 12⟩, ⟨.string (⟨#[110]⟩ : ByteArray), .int .i64 (1), 13⟩, ⟨.string (⟨#[111]⟩ : ByteArray), .int .i64 (1), 14⟩, ⟨.string (⟨#[112]⟩ : ByteArray), .int .i64 (1), 15⟩, ⟨.string (⟨#[113]⟩ : ByteArray), .int .i64 (1), 16⟩, ⟨.string (⟨#[114]⟩ : ByteArray), .int .i64 (1), 17⟩, ⟨.string (⟨#[115]⟩ : ByteArray), .int .i64 (1), 18⟩, ⟨.string (⟨#[116]⟩ : ByteArray), .int .i64 (1), 19⟩, ⟨.string (⟨#[117]⟩ : ByteArray), .int .i64 (1), 20⟩, ⟨.string (⟨#[118]⟩ : ByteArray), .int .i64 (1), 21⟩, ⟨.string (⟨#[119]⟩ : ByteArray), .int .i64 (1), 22⟩, ⟨.string (⟨#[120]⟩ : ByteArray), .int .i64 (1), 23⟩, ⟨.string (⟨#[121]⟩ : ByteArray), .int .i64 (1), 24⟩, ⟨.string (⟨#[122]⟩ : ByteArray), .int .i64 (1), 25⟩] 26, unb]
  | .c27 , ls => [rowO (lget ls 0) (esG c_Member w1 w2) 27 w1 3, .cells #[.int .i64 (4), .string (⟨#[115]⟩ : ByteArray), .int .i64 (w0), .bool false, .int .i64 (0), .int .i64 (0), (rowV (lget ls 0) w1 3)] 25, .map #[⟨.string (⟨#[97]⟩ : ByteArray), .int .i64 (1), 0⟩, ⟨.string (⟨#[98]⟩ : ByteArray), .int .i64 (1), 1⟩, ⟨.string (⟨#[99]⟩ : ByteArray), .int .i64 (1), 2⟩, ⟨.string (⟨#[100]⟩ : ByteArray), .int .i64 (1), 3⟩, ⟨.string (⟨#[101]⟩ : ByteArray), .int .i64 (1), 4⟩, ⟨.string (⟨#[102]⟩ : ByteArray), .int .i64 (1), 5⟩, ⟨.string (⟨#[103]⟩ : ByteArray), .int .i64 (1), 6⟩, ⟨.string (⟨#[104]⟩ : ByteArray), .int .i64 (1), 7⟩, ⟨.string (⟨#[105]⟩ : ByteArray), .int .i64 (1), 8⟩, ⟨.string (⟨#[106]⟩ : ByteArray), .int .i64 (1), 9⟩, ⟨.string (⟨#[107]⟩ : ByteArray), .int .i64 (1), 10⟩, ⟨.string (⟨#[108]⟩ : ByteArray), .int .i64 (1), 11⟩, ⟨.string (⟨#[109]⟩ : ByteArray), .int .i64 (1), 12⟩, ⟨.string (⟨#[110]⟩ : ByteArray), .int .i64 (1), 13⟩, ⟨.string (⟨#[111]⟩ : ByteArray), .int .i64 (1), 14⟩, ⟨.string (⟨#[112]⟩ : ByteArray), .int .i64 (1), 15⟩, ⟨.string (⟨#[113]⟩ : ByteArray), .int .i64 (1), 16⟩, ⟨.string (⟨#[114]⟩ : ByteArray), .int .i64 (1), 17⟩, ⟨.string (⟨#[115]⟩ : ByteArray), .int .i64 (1), 18⟩, ⟨.string (⟨#[116]⟩ : ByteArray), .int .i64 (1), 19⟩, ⟨.string (⟨#[117]⟩ : ByteArray), .int .i64 (1), 20⟩, ⟨.string (⟨#[118]⟩ : ByteArray), .int .i64 (1), 21⟩, ⟨.string (⟨#[119]⟩ : ByteArray), .int .i64 (1), 22⟩, ⟨.string (⟨#[120]⟩ : ByteArray), .int .i64 (1), 23⟩, ⟨.string (⟨#[121]⟩ : ByteArray), .int .i64 (1), 24⟩, ⟨.string (⟨#[122]⟩ : ByteArray), .int .i64 (1), 25⟩, ⟨.string (⟨#[65]⟩ : ByteArray), .int .i64 (1), 26⟩] 27, unb]
  | .c28 , ls => [rowO (lget ls 0) (esG c_Member w1 w2) 27 w1 3, .cells #[.int .i64 (4), .string (⟨#[115]⟩ : ByteArray), .int .i64 (w0), .bool false, .int .i64 (0), .int .i64 (0), (rowV (lget ls 0) w1 3)] 25, .map #[⟨.string (⟨#[97]⟩ : ByteArray), .int .i64 (1), 0⟩, ⟨.string (⟨#[98]⟩ : ByteArray), .int .i64 (1), 1⟩, ⟨.string (⟨#[99]⟩ : ByteArray), .int .i64 (1), 2⟩, ⟨.string (⟨#[100]⟩ : ByteArray), .int .i64 (1), 3⟩, ⟨.string (⟨#[101]⟩ : ByteArray), .int .i64 (1), 4⟩, ⟨.string (⟨#[102]⟩ : ByteArray), .int .i64 (1), 5⟩, ⟨.string (⟨#[103]⟩ : ByteArray), .int .i64 (1), 6⟩, ⟨.string (⟨#[104]⟩ : ByteArray), .int .i64 (1), 7⟩, ⟨.string (⟨#[105]⟩ : ByteArray), .int .i64 (1), 8⟩, ⟨.string (⟨#[106]⟩ : ByteArray), .int .i64 (1), 9⟩, ⟨.string (⟨#[107]⟩ : ByteArray), .int .i64 (1), 10⟩, ⟨.string (⟨#[108]⟩ : ByteArray), .int .i64 (1), 11⟩, ⟨.string (⟨#[109]⟩ : ByteArray), .int .i64 (1), 12⟩, ⟨.string (⟨#[110]⟩ : ByteArray), .int .i64 (1), 13⟩, ⟨.string (⟨#[111]⟩ : ByteArray), .int .i64 (1), 14⟩, ⟨.string (⟨#[112]⟩ : ByteArray), .int .i64 (1), 15⟩, ⟨.string (⟨#[113]⟩ : ByteArray), .int .i64 (1), 16⟩, ⟨.string (⟨#[114]⟩ : ByteArray), .int .i64 (1), 17⟩, ⟨.string (⟨#[115]⟩ : ByteArray), .int .i64 (1), 18⟩, ⟨.string (⟨#[116]⟩ : ByteArray), .int .i64 (1), 19⟩, ⟨.string (⟨#[117]⟩ : ByteArray), .int .i64 (1), 20⟩, ⟨.string (⟨#[118]⟩ : ByteArray), .int .i64 (1), 21⟩, ⟨.string (⟨#[119]⟩ : ByteArray), .int .i64 (1), 22⟩, ⟨.string (⟨#[120]⟩ : ByteArray), .int .i64 (1), 23⟩, ⟨.string (⟨#[121]⟩ : ByteArray), .int .i64 (1), 24⟩, ⟨.string (⟨#[122]⟩ : ByteArray), .int .i64 (1), 25⟩, ⟨.string (⟨#[65]⟩ : ByteArray), .int .i64 (1), 26⟩, ⟨.string (⟨#[66]⟩ : ByteArray), .int .i64 (1), 27⟩] 28, unb]
  | .c29 , ls => [rowO (lget ls 0) (esG c_Member w1 w2) 27 w1 3, .cells #[.int .i64 (4), .string (⟨#[115]⟩ : ByteArray), .int .i64 (w0), .bool false, .int .i64 (0), .int .i64 (0), (rowV (lget ls 0) w1 3)] 25, .map #[⟨.string (⟨#[97]⟩ : ByteArray), .int .i64 (1), 0⟩, ⟨.string (⟨#[98]⟩ : ByteArray), .int .i64 (1), 1⟩, ⟨.string (⟨#[99]⟩ : ByteArray), .int .i64 (1), 2⟩, ⟨.string (⟨#[100]⟩ : ByteArray), .int .i64 (1), 3⟩, ⟨.string (⟨#[101]⟩ : ByteArray), .int .i64 (1), 4⟩, ⟨.string (⟨#[102]⟩ : ByteArray), .int .i64 (1), 5⟩, ⟨.string (⟨#[103]⟩ : ByteArray), .int .i64 (1), 6⟩, ⟨.string (⟨#[104]⟩ : ByteArray), .int .i64 (1), 7⟩, ⟨.string (⟨#[105]⟩ : ByteArray), .int .i64 (1), 8⟩, ⟨.string (⟨#[106]⟩ : ByteArray), .int .i64 (1), 9⟩, ⟨.string (⟨#[107]⟩ : ByteArray), .int .i64 (1), 10⟩, ⟨.string (⟨#[108]⟩ : ByteArray), .int .i64 (1), 11⟩, ⟨.string (⟨#[109]⟩ : ByteArray), .int .i64 (1), 12⟩, ⟨.string (⟨#[110]⟩ : ByteArray), .int .i64 (1), 13⟩, ⟨.string (⟨#[111]⟩ : ByteArray), .int .i64 (1), 14⟩, ⟨.string (⟨#[112]⟩ : ByteArray), .int .i64 (1), 15⟩, ⟨.string (⟨#[113]⟩ : ByteArray), .int .i64 (1), 16⟩, ⟨.string (⟨#[114]⟩ : ByteArray), .int .i64 (1), 17⟩, ⟨.string (⟨#[115]⟩ : ByteArray), .int .i64 (1), 18⟩, ⟨.string (⟨#[116]⟩ : ByteArray), .int .i64 (1), 19⟩, ⟨.string (⟨#[117]⟩ : ByteArray), .int .i64 (1), 20⟩, ⟨.string (⟨#[118]⟩ : ByteArray), .int .i64 (1), 21⟩, ⟨.string (⟨#[119]⟩ : ByteArray), .int .i64 (1), 22⟩, ⟨.string (⟨#[120]⟩ : ByteArray), .int .i64 (1), 23⟩, ⟨.string (⟨#[121]⟩ : ByteArray), .int .i64 (1), 24⟩, ⟨.string (⟨#[122]⟩ : ByteArray), .int .i64 (1), 25⟩, ⟨.string (⟨#[65]⟩ : ByteArray), .int .i64 (1), 26⟩, ⟨.string (⟨#[66]⟩ : ByteArray), .int .i64 (1), 27⟩, ⟨.string (⟨#[67]⟩ : ByteArray), .int .i64 (1), 28⟩] 29, unb]
  | .c30 , ls => [rowO (lget ls 0) (esG c_Member w1 w2) 27 w1 3, .cells #[.int .i64 (4), .string (⟨#[115]⟩ : ByteArray), .int .i64 (w0), .bool false, .int .i64 (0), .int .i64 (0), (rowV (lget ls 0) w1 3)] 25, .map #[⟨.string (⟨#[97]⟩ : ByteArray), .int .i64 (1), 0⟩, ⟨.string (⟨#[98]⟩ : ByteArray), .int .i64 (1), 1⟩, ⟨.string (⟨#[99]⟩ : ByteArray), .int .i64 (1), 2⟩, ⟨.string (⟨#[100]⟩ : ByteArray), .int .i64 (1), 3⟩, ⟨.string (⟨#[101]⟩ : ByteArray), .int .i64 (1), 4⟩, ⟨.string (⟨#[102]⟩ : ByteArray), .int .i64 (1), 5⟩, ⟨.string (⟨#[103]⟩ : ByteArray), .int .i64 (1), 6⟩, ⟨.string (⟨#[104]⟩ : ByteArray), .int .i64 (1), 7⟩, ⟨.string (⟨#[105]⟩ : ByteArray), .int .i64 (1), 8⟩, ⟨.string (⟨#[106]⟩ : ByteArray), .int .i64 (1), 9⟩, ⟨.string (⟨#[107]⟩ : ByteArray), .int .i64 (1), 10⟩, ⟨.string (⟨#[108]⟩ : ByteArray), .int .i64 (1), 11⟩, ⟨.string (⟨#[109]⟩ : ByteArray), .int .i64 (1), 12⟩, ⟨.string (⟨#[110]⟩ : ByteArray), .int .i64 (1), 13⟩, ⟨.string (⟨#[111]⟩ : ByteArray), .int .i64 (1), 14⟩, ⟨.string (⟨#[112]⟩ : ByteArray), .int .i64 (1), 15⟩, ⟨.string (⟨#[113]⟩ : ByteArray), .int .i64 (1), 16⟩, ⟨.string (⟨#[114]⟩ : ByteArray), .int .i64 (1), 17⟩, ⟨.string (⟨#[115]⟩ : ByteArray), .int .i64 (1), 18⟩, ⟨.string (⟨#[116]⟩ : ByteArray), .int .i64 (1), 19⟩, ⟨.string (⟨#[117]⟩ : ByteArray), .int .i64 (1), 20⟩, ⟨.string (⟨#[118]⟩ : ByteArray), .int .i64 (1), 21⟩, ⟨.string (⟨#[119]⟩ : ByteArray), .int .i64 (1), 22⟩, ⟨.string (⟨#[120]⟩ : ByteArray), .int .i64 (1), 23⟩, ⟨.string (⟨#[121]⟩ : ByteArray), .int .i64 (1), 24⟩, ⟨.string (⟨#[122]⟩ : ByteArray), .int .i64 (1), 25⟩, ⟨.string (⟨#[65]⟩ : ByteArray), .int .i64 (1), 26⟩, ⟨.string (⟨#[66]⟩ : ByteArray), .int .i64 (1), 27⟩, ⟨.string (⟨#[67]⟩ : ByteArray), .int .i64 (1), 28⟩, ⟨.string (⟨#[68]⟩ : ByteArray), .int .i64 (1), 29⟩] 30, unb]
  | .c31 , ls => [rowO (lget ls 0) (esG c_Member w1 w2) 27 w1 3, .cells #[.int .i64 (4), .string (⟨#[115]⟩ : ByteArray), .int .i64 (w0), .bool false, .int .i64 (0), .int .i64 (0), (rowV (lget ls 0) w1 3)] 25, .map #[⟨.string (⟨#[97]⟩ : ByteArray), .int .i64 (1), 0⟩, ⟨.string (⟨#[98]⟩ : ByteArray), .int .i64 (1), 1⟩, ⟨.string (⟨#[99]⟩ : ByteArray), .int .i64 (1), 2⟩, ⟨.string (⟨#[100]⟩ : ByteArray), .int .i64 (1), 3⟩, ⟨.string (⟨#[101]⟩ : ByteArray), .int .i64 (1), 4⟩, ⟨.string (⟨#[102]⟩ : ByteArray), .int .i64 (1), 5⟩, ⟨.string (⟨#[103]⟩ : ByteArray), .int .i64 (1), 6⟩, ⟨.string (⟨#[104]⟩ : ByteArray), .int .i64 (1), 7⟩, ⟨.string (⟨#[105]⟩ : ByteArray), .int .i64 (1), 8⟩, ⟨.string (⟨#[106]⟩ : ByteArray), .int .i64 (1), 9⟩, ⟨.string (⟨#[107]⟩ : ByteArray), .int .i64 (1), 10⟩, ⟨.string (⟨#[108]⟩ : ByteArray), .int .i64 (1), 11⟩, ⟨.string (⟨#[109]⟩ : ByteArray), .int .i64 (1), 12⟩, ⟨.string (⟨#[110]⟩ : ByteArray), .int .i64 (1), 13⟩, ⟨.string (⟨#[111]⟩ : ByteArray), .int .i64 (1), 14⟩, ⟨.string (⟨#[112]⟩ : ByteArray), .int .i64 (1), 15⟩, ⟨.string (⟨#[113]⟩ : ByteArray), .int .i64 (1), 16⟩, ⟨.string (⟨#[114]⟩ : ByteArray), .int .i64 (1), 17⟩, ⟨.string (⟨#[115]⟩ : ByteArray), .int .i64 (1), 18⟩, ⟨.string (⟨#[116]⟩ : ByteArray), .int .i64 (1), 19⟩, ⟨.string (⟨#[117]⟩ : ByteArray), .int .i64 (1), 20⟩, ⟨.string (⟨#[118]⟩ : ByteArray), .int .i64 (1), 21⟩, ⟨.string (⟨#[119]⟩ : ByteArray), .int .i64 (1), 22⟩, ⟨.string (⟨#[120]⟩ : ByteArray), .int .i64 (1), 23⟩, ⟨.string (⟨#[121]⟩ : ByteArray), .int .i64 (1), 24⟩, ⟨.string (⟨#[122]⟩ : ByteArray), .int .i64 (1), 25⟩, ⟨.string (⟨#[65]⟩ : ByteArray), .int .i64 (1), 26⟩, ⟨.string (⟨#[66]⟩ : ByteArray), .int .i64 (1), 27⟩, ⟨.string (⟨#[67]⟩ : ByteArray), .int .i64 (1), 28⟩, ⟨.string (⟨#[68]⟩ : ByteArray), .int .i64 (1), 29⟩, ⟨.string (⟨#[69]⟩ : ByteArray), .int .i64 (1), 30⟩] 31, unb]
  | .c32 , ls => [rowO (lget ls 0) (esG c_Member w1 w2) 27 w1 3, .cells #[.int .i64 (4), .string (⟨#[115]⟩ : ByteArray), .int .i64 (w0), .bool false, .int .i64 (0), .int .i64 (0), (rowV (lget ls 0) w1 3)] 25, .map #[⟨.string (⟨#[97]⟩ : ByteArray), .int .i64 (1), 0⟩, ⟨.string (⟨#[98]⟩ : ByteArray), .int .i64 (1), 1⟩, ⟨.string (⟨#[99]⟩ : ByteArray), .int .i64 (1), 2⟩, ⟨.string (⟨#[100]⟩ : ByteArray), .int .i64 (1), 3⟩, ⟨.string (⟨#[101]⟩ : ByteArray), .int .i64 (1), 4⟩, ⟨.string (⟨#[102]⟩ : ByteArray), .int .i64 (1), 5⟩, ⟨.string (⟨#[103]⟩ : ByteArray), .int .i64 (1), 6⟩, ⟨.string (⟨#[104]⟩ : ByteArray), .int .i64 (1), 7⟩, ⟨.string (⟨#[105]⟩ : ByteArray), .int .i64 (1), 8⟩, ⟨.string (⟨#[106]⟩ : ByteArray), .int .i64 (1), 9⟩, ⟨.string (⟨#[107]⟩ : ByteArray), .int .i64 (1), 10⟩, ⟨.string (⟨#[108]⟩ : ByteArray), .int .i64 (1), 11⟩, ⟨.string (⟨#[109]⟩ : ByteArray), .int .i64 (1), 12⟩, ⟨.string (⟨#[110]⟩ : ByteArray), .int .i64 (1), 13⟩, ⟨.string (⟨#[111]⟩ : ByteArray), .int .i64 (1), 14⟩, ⟨.string (⟨#[112]⟩ : ByteArray), .int .i64 (1), 15⟩, ⟨.string (⟨#[113]⟩ : ByteArray), .int .i64 (1), 16⟩, ⟨.string (⟨#[114]⟩ : ByteArray), .int .i64 (1), 17⟩, ⟨.string (⟨#[115]⟩ : ByteArray), .int .i64 (1), 18⟩, ⟨.string (⟨#[116]⟩ : ByteArray), .int .i64 (1), 19⟩, ⟨.string (⟨#[117]⟩ : ByteArray), .int .i64 (1), 20⟩, ⟨.string (⟨#[118]⟩ : ByteArray), .int .i64 (1), 21⟩, ⟨.string (⟨#[119]⟩ : ByteArray), .int .i64 (1), 22⟩, ⟨.string (⟨#[120]⟩ : ByteArray), .int .i64 (1), 23⟩, ⟨.string (⟨#[121]⟩ : ByteArray), .int .i64 (1), 24⟩, ⟨.string (⟨#[122]⟩ : ByteArray), .int .i64 (1), 25⟩, ⟨.string (⟨#[65]⟩ : ByteArray), .int .i64 (1), 26⟩, ⟨.string (⟨#[66]⟩ : ByteArray), .int .i64 (1), 27⟩, ⟨.string (⟨#[67]⟩ : ByteArray), .int .i64 (1), 28⟩, ⟨.string (⟨#[68]⟩ : ByteArray), .int .i64 (1), 29⟩, ⟨.string (⟨#[69]⟩ : ByteArray), .int .i64 (1), 30⟩, ⟨.string (⟨#[70]⟩ : ByteArray), .int .i64 (1), 31⟩] 32, unb]
  | .c33 , ls => [rowO (lget ls 0) (esG c_Member w1 w2) 27 w1 3, .cells #[.int .i64 (4), .string (⟨#[115]⟩ : ByteArray), .int .i64 (w0), .bool false, .int .i64 (0), .int .i64 (0), (rowV (lget ls 0) w1 3)] 25, .map #[⟨.string (⟨#[97]⟩ : ByteArray), .int .i64 (1), 0⟩, ⟨.string (⟨#[98]⟩ : ByteArray), .int .i64 (1), 1⟩, ⟨.string (⟨#[99]⟩ : ByteArray), .int .i64 (1), 2⟩, ⟨.string (⟨#[100]⟩ : ByteArray), .int .i64 (1), 3⟩, ⟨.string (⟨#[101]⟩ : ByteArray), .int .i64 (1), 4⟩, ⟨.string (⟨#[102]⟩ : ByteArray), .int .i64 (1), 5⟩, ⟨.string (⟨#[103]⟩ : ByteArray), .int .i64 (1), 6⟩, ⟨.string (⟨#[104]⟩ : ByteArray), .int .i64 (1), 7⟩, ⟨.string (⟨#[105]⟩ : ByteArray), .int .i64 (1), 8⟩, ⟨.string (⟨#[106]⟩ : ByteArray), .int .i64 (1), 9⟩, ⟨.string (⟨#[107]⟩ : ByteArray), .int .i64 (1), 10⟩, ⟨.string (⟨#[108]⟩ : ByteArray), .int .i64 (1), 11⟩, ⟨.string (⟨#[109]⟩ : ByteArray), .int .i64 (1), 12⟩, ⟨.string (⟨#[110]⟩ : ByteArray), .int .i64 (1), 13⟩, ⟨.string (⟨#[111]⟩ : ByteArray), .int .i64 (1), 14⟩, ⟨.string (⟨#[112]⟩ : ByteArray), .int .i64 (1), 15⟩, ⟨.string (⟨#[113]⟩ : ByteArray), .int .i64 (1), 16⟩, ⟨.string (⟨#[114]⟩ : ByteArray), .int .i64 (1), 17⟩, ⟨.string (⟨#[115]⟩ : ByteArray), .int .i64 (1), 18⟩, ⟨.string (⟨#[116]⟩ : ByteArray), .int .i64 (1), 19⟩, ⟨.string (⟨#[117]⟩ : ByteArray), .int .i64 (1), 20⟩, ⟨.string (⟨#[118]⟩ : ByteArray), .int .i64 (1), 21⟩, ⟨.string (⟨#[119]⟩ : ByteArray), .int .i64 (1), 22⟩, ⟨.string (⟨#[120]⟩ : ByteArray), .int .i64 (1), 23⟩, ⟨.string (⟨#[121]⟩ : ByteArray), .int .i64 (1), 24⟩, ⟨.string (⟨#[122]⟩ : ByteArray), .int .i64 (1), 25⟩, ⟨.string (⟨#[65]⟩ : ByteArray), .int .i64 (1), 26⟩, ⟨.string (⟨#[66]⟩ : ByteArray), .int .i64 (1), 27⟩, ⟨.string (⟨#[67]⟩ : ByteArray), .int .i64 (1), 28⟩, ⟨.string (⟨#[68]⟩ : ByteArray), .int .i64 (1), 29⟩, ⟨.string (⟨#[69]⟩ : ByteArray), .int .i64 (1), 30⟩, ⟨.string (⟨#[70]⟩ : ByteArray), .int .i64 (1), 31⟩, ⟨.string (⟨#[71]⟩ : ByteArray), .int .i64 (1), 32⟩] 33, unb]
  | .c34 , ls => [rowO (lget ls 0) (esG c_Member w1 w2) 27 w1 3, .cells #[.int .i64 (4), .string (⟨#[115]⟩ : ByteArray), .int .i64 (w0), .bool false, .int .i64 (0), .int .i64 (0), (rowV (lget ls 0) w1 3)] 25, .map #[⟨.string (⟨#[97]⟩ : ByteArray), .int .i64 (1), 0⟩, ⟨.string (⟨#[98]⟩ : ByteArray), .int .i64 (1), 1⟩, ⟨.string (⟨#[99]⟩ : ByteArray), .int .i64 (1), 2⟩, ⟨.string (⟨#[100]⟩ : ByteArray), .int .i64 (1), 3⟩, ⟨.string (⟨#[101]⟩ : ByteArray), .int .i64 (1), 4⟩, ⟨.string (⟨#[102]⟩ : ByteArray), .int .i64 (1), 5⟩, ⟨.string (⟨#[103]⟩ : ByteArray), .int .i64 (1), 6⟩, ⟨.string (⟨#[104]⟩ : ByteArray), .int .i64 (1), 7⟩, ⟨.string (⟨#[105]⟩ : ByteArray), .int .i64 (1), 8⟩, ⟨.string (⟨#[106]⟩ : ByteArray), .int .i64 (1), 9⟩, ⟨.string (⟨#[107]⟩ : ByteArray), .int .i64 (1), 10⟩, ⟨.string (⟨#[108]⟩ : ByteArray), .int .i64 (1), 11⟩, ⟨.string (⟨#[109]⟩ : ByteArray), .int .i64 (1), 12⟩, ⟨.string (⟨#[110]⟩ : ByteArray), .int .i64 (1), 13⟩, ⟨.string (⟨#[111]⟩ : ByteArray), .int .i64 (1), 14⟩, ⟨.string (⟨#[112]⟩ : ByteArray), .int .i64 (1), 15⟩, ⟨.string (⟨#[113]⟩ : ByteArray), .int .i64 (1), 16⟩, ⟨.string (⟨#[114]⟩ : ByteArray), .int .i64 (1), 17⟩, ⟨.string (⟨#[115]⟩ : ByteArray), .int .i64 (1), 18⟩, ⟨.string (⟨#[116]⟩ : ByteArray), .int .i64 (1), 19⟩, ⟨.string (⟨#[117]⟩ : ByteArray), .int .i64 (1), 20⟩, ⟨.string (⟨#[118]⟩ : ByteArray), .int .i64 (1), 21⟩, ⟨.string (⟨#[119]⟩ : ByteArray), .int .i64 (1), 22⟩, ⟨.string (⟨#[120]⟩ : ByteArray), .int .i64 (1), 23⟩, ⟨.string (⟨#[121]⟩ : ByteArray), .int .i64 (1), 24⟩, ⟨.string (⟨#[122]⟩ : ByteArray), .int .i64 (1), 25⟩, ⟨.string (⟨#[65]⟩ : ByteArray), .int .i64 (1), 26⟩, ⟨.string (⟨#[66]⟩ : ByteArray), .int .i64 (1), 27⟩, ⟨.string (⟨#[67]⟩ : ByteArray), .int .i64 (1), 28⟩, ⟨.string (⟨#[68]⟩ : ByteArray), .int .i64 (1), 29⟩, ⟨.string (⟨#[69]⟩ : ByteArray), .int .i64 (1), 30⟩, ⟨.string (⟨#[70]⟩ : ByteArray), .int .i64 (1), 31⟩, ⟨.string (⟨#[71]⟩ : ByteArray), .int .i64 (1), 32⟩, ⟨.string (⟨#[72]⟩ : ByteArray), .int .i64 (1), 33⟩] 34, unb]
  | .c35 , ls => [rowO (lget ls 0) (esG c_Member w1 w2) 27 w1 3, .cells #[.int .i64 (4), .string (⟨#[115]⟩ : ByteArray), .int .i64 (w0), .bool false, .int .i64 (0), .int .i64 (0), (rowV (lget ls 0) w1 3)] 25, .map #[⟨.string (⟨#[97]⟩ : ByteArray), .int .i64 (1), 0⟩, ⟨.string (⟨#[98]⟩ : ByteArray), .int .i64 (1), 1⟩, ⟨.string (⟨#[99]⟩ : ByteArray), .int .i64 (1), 2⟩, ⟨.string (⟨#[100]⟩ : ByteArray), .int .i64 (1), 3⟩, ⟨.string (⟨#[101]⟩ : ByteArray), .int .i64 (1), 4⟩, ⟨.string (⟨#[102]⟩ : ByteArray), .int .i64 (1), 5⟩, ⟨.string (⟨#[103]⟩ : ByteArray), .int .i64 (1), 6⟩, ⟨.string (⟨#[104]⟩ : ByteArray), .int .i64 (1), 7⟩, ⟨.string (⟨#[105]⟩ : ByteArray), .int .i64 (1), 8⟩, ⟨.string (⟨#[106]⟩ : ByteArray), .int .i64 (1), 9⟩, ⟨.string (⟨#[107]⟩ : ByteArray), .int .i64 (1), 10⟩, ⟨.string (⟨#[108]⟩ : ByteArray), .int .i64 (1), 11⟩, ⟨.string (⟨#[109]⟩ : ByteArray), .int .i64 (1), 12⟩, ⟨.string (⟨#[110]⟩ : ByteArray), .int .i64 (1), 13⟩, ⟨.string (⟨#[111]⟩ : ByteArray), .int .i64 (1), 14⟩, ⟨.string (⟨#[112]⟩ : ByteArray), .int .i64 (1), 15⟩, ⟨.string (⟨#[113]⟩ : ByteArray), .int .i64 (1), 16⟩, ⟨.string (⟨#[114]⟩ : ByteArray), .int .i64 (1), 17⟩, ⟨.string (⟨#[115]⟩ : ByteArray), .int .i64 (1), 18⟩, ⟨.string (⟨#[116]⟩ : ByteArray), .int .i64 (1), 19⟩, ⟨.string (⟨#[117]⟩ : ByteArray), .int .i64 (1), 20⟩, ⟨.string (⟨#[118]⟩ : ByteArray), .int .i64 (1), 21⟩, ⟨.string (⟨#[119]⟩ : ByteArray), .int .i64 (1), 22⟩, ⟨.string (⟨#[120]⟩ : ByteArray), .int .i64 (1), 23⟩, ⟨.string (⟨#[121]⟩ : ByteArray), .int .i64 (1), 24⟩, ⟨.string (⟨#[122]⟩ : ByteArray), .int .i64 (1), 25⟩, ⟨.string (⟨#[65]⟩ : ByteArray), .int .i64 (1), 26⟩, ⟨.string (⟨#[66]⟩ : ByteArray), .int .i64 (1), 27⟩, ⟨.string (⟨#[67]⟩ : ByteArray), .int .i64 (1), 28⟩, ⟨.string (⟨#[68]⟩ : ByteArray), .int .i64 (1), 29⟩, ⟨.string (⟨#[69]⟩ : ByteArray), .int .i64 (1), 30⟩, ⟨.string (⟨#[70]⟩ : ByteArray), .int .i64 (1), 31⟩, ⟨.string (⟨#[71]⟩ : ByteArray), .int .i64 (1), 32⟩, ⟨.string (⟨#[72]⟩ : ByteArray), .int .i64 (1), 33⟩, ⟨.string (⟨#[73]⟩ : ByteArray), .int .i64 (1), 34⟩] 35, unb]
  | .c36 , ls => [rowO (lget ls 0) (esG c_Member w1 w2) 27 w1 3, .cells #[.int .i64 (4), .string (⟨#[115]⟩ : ByteArray), .int .i64 (w0), .bool false, .int .i64 (0), .int .i64 (0), (rowV (lget ls 0) w1 3)] 25, .map #[⟨.string (⟨#[97]⟩ : ByteArray), .int .i64 (1), 0⟩, ⟨.string (⟨#[98]⟩ : ByteArray), .int .i64 (1), 1⟩, ⟨.string (⟨#[99]⟩ : ByteArray), .int .i64 (1), 2⟩, ⟨.string (⟨#[100]⟩ : ByteArray), .int .i64 (1), 3⟩, ⟨.string (⟨#[101]⟩ : ByteArray), .int .i64 (1), 4⟩, ⟨.string (⟨#[102]⟩ : ByteArray), .int .i64 (1), 5⟩, ⟨.string (⟨#[103]⟩ : ByteArray), .int .i64 (1), 6⟩, ⟨.string (⟨#[104]⟩ : ByteArray), .int .i64 (1), 7⟩, ⟨.string (⟨#[105]⟩ : ByteArray), .int .i64 (1), 8⟩, ⟨.string (⟨#[106]⟩ : ByteArray), .int .i64 (1), 9⟩, ⟨.string (⟨#[107]⟩ : ByteArray), .int .i64 (1), 10⟩, ⟨.string (⟨#[108]⟩ : ByteArray), .int .i64 (1), 11⟩, ⟨.string (⟨#[109]⟩ : ByteArray), .int .i64 (1), 12⟩, ⟨.string (⟨#[110]⟩ : ByteArray), .int .i64 (1), 13⟩, ⟨.string (⟨#[111]⟩ : ByteArray), .int .i64 (1), 14⟩, ⟨.string (⟨#[112]⟩ : ByteArray), .int .i64 (1), 15⟩, ⟨.string (⟨#[113]⟩ : ByteArray), .int .i64 (1), 16⟩, ⟨.string (⟨#[114]⟩ : ByteArray), .int .i64 (1), 17⟩, ⟨.string (⟨#[115]⟩ : ByteArray), .int .i64 (1), 18⟩, ⟨.string (⟨#[116]⟩ : ByteArray), .int .i64 (1), 19⟩, ⟨.string (⟨#[117]⟩ : ByteArray), .int .i64 (1), 20⟩, ⟨.string (⟨#[118]⟩ : ByteArray), .int .i64 (1), 21⟩, ⟨.string (⟨#[119]⟩ : ByteArray), .int .i64 (1), 22⟩, ⟨.string (⟨#[120]⟩ : ByteArray), .int .i64 (1), 23⟩, ⟨.string (⟨#[121]⟩ : ByteArray), .int .i64 (1), 24⟩, ⟨.string (⟨#[122]⟩ : ByteArray), .int .i64 (1), 25⟩, ⟨.string (⟨#[65]⟩ : ByteArray), .int .i64 (1), 26⟩, ⟨.string (⟨#[66]⟩ : ByteArray), .int .i64 (1), 27⟩, ⟨.string (⟨#[67]⟩ : ByteArray), .int .i64 (1), 28⟩, ⟨.string (⟨#[68]⟩ : ByteArray), .int .i64 (1), 29⟩, ⟨.string (⟨#[69]⟩ : ByteArray), .int .i64 (1), 30⟩, ⟨.string (⟨#[70]⟩ : ByteArray), .int .i64 (1), 31⟩, ⟨.string (⟨#[71]⟩ : ByteArray), .int .i64 (1), 32⟩, ⟨.string (⟨#[72]⟩ : ByteArray), .int .i64 (1), 33⟩, ⟨.string (⟨#[73]⟩ : ByteArray), .int .i64 (1), 34⟩, ⟨.string (⟨#[74]⟩ : ByteArray), .int .i64 (1), 35⟩] 36, unb]
  | .c37 , ls => [rowO (lget ls 0) (esG c_Member w1 w2) 27 w1 3, .cells #[.int .i64 (4), .string (⟨#[115]⟩ : ByteArray), .int .i64 (w0), .bool false, .int .i64 (0), .int .i64 (0), (rowV (lget ls 0) w1 3)] 25, .map #[⟨.string (⟨#[97]⟩ : ByteArray), .int .i64 (1), 0⟩, ⟨.string (⟨#[98]⟩ : ByteArray), .int .i64 (1), 1⟩, ⟨.string (⟨#[99]⟩ : ByteArray), .int .i64 (1), 2⟩, ⟨.string (⟨#[100]⟩ : ByteArray), .int .i64 (1), 3⟩, ⟨.string (⟨#[101]⟩ : ByteArray), .int .i64 (1), 4⟩, ⟨.string (⟨#[102]⟩ : ByteArray), .int .i64 (1), 5⟩, ⟨.string (⟨#[103]⟩ : ByteArray), .int .i64 (1), 6⟩, ⟨.string (⟨#[104]⟩ : ByteArray), .int .i64 (1), 7⟩, ⟨.string (⟨#[105]⟩ : ByteArray), .int .i64 (1), 8⟩, ⟨.string (⟨#[106]⟩ : ByteArray), .int .i64 (1), 9⟩, ⟨.string (⟨#[107]⟩ : ByteArray), .int .i64 (1), 10⟩, ⟨.string (⟨#[108]⟩ : ByteArray), .int .i64 (1), 11⟩, ⟨.string (⟨#[109]⟩ : ByteArray), .int .i64 (1), 12⟩, ⟨.string (⟨#[110]⟩ : ByteArray), .int .i64 (1), 13⟩, ⟨.string (⟨#[111]⟩ : ByteArray), .int .i64 (1), 14⟩, ⟨.string (⟨#[112]⟩ : ByteArray), .int .i64 (1), 15⟩, ⟨.string (⟨#[113]⟩ : ByteArray), .int .i64 (1), 16⟩, ⟨.string (⟨#[114]⟩ : ByteArray), .int .i64 (1), 17⟩, ⟨.string (⟨#[115]⟩ : ByteArray), .int .i64 (1), 18⟩, ⟨.string (⟨#[116]⟩ : ByteArray), .int .i64 (1), 19⟩, ⟨.string (⟨#[117]⟩ : ByteArray), .int .i64 (1), 20⟩, ⟨.string (⟨#[118]⟩ : ByteArray), .int .i64 (1), 21⟩, ⟨.string (⟨#[119]⟩ : ByteArray), .int .i64 (1), 22⟩, ⟨.string (⟨#[120]⟩ : ByteArray), .int .i64 (1), 23⟩, ⟨.string (⟨#[121]⟩ : ByteArray), .int .i64 (1), 24⟩, ⟨.string (⟨#[122]⟩ : ByteArray), .int .i64 (1), 25⟩, ⟨.string (⟨#[65]⟩ : ByteArray), .int .i64 (1), 26⟩, ⟨.string (⟨#[66]⟩ : ByteArray), .int .i64 (1), 27⟩, ⟨.string (⟨#[67]⟩ : ByteArray), .int .i64 (1), 28⟩, ⟨.string (⟨#[68]⟩ : ByteArray), .int .i64 (1), 29⟩, ⟨.string (⟨#[69]⟩ : ByteArray), .int .i64 (1), 30⟩, ⟨.string (⟨#[70]⟩ : ByteArray), .int .i64 (1), 31⟩, ⟨.string (⟨#[71]⟩ : ByteArray), .int .i64 (1), 32⟩, ⟨.string (⟨#[72]⟩ : ByteArray), .int .i64 (1), 33⟩, ⟨.string (⟨#[73]⟩ : ByteArray), .int .i64 (1), 34⟩, ⟨.string (⟨#[74]⟩ : ByteArray), .int .i64 (1), 35⟩, ⟨.string (⟨#[75]⟩ : ByteArray), .int .i64 (1), 36⟩] 37, unb]
  | .c38 , ls => [rowO (lget ls 0) (esG c_Member w1 w2) 27 w1 3, .cells #[.int .i64 (4), .string (⟨#[115]⟩ : ByteArray), .int .i64 (w0), .bool false, .int .i64 (0), .int .i64 (0), (rowV (lget ls 0) w1 3)] 25, .map #[⟨.string (⟨#[97]⟩ : ByteArray), .int .i64 (1), 0⟩, ⟨.string (⟨#[98]⟩ : ByteArray), .int .i64 (1), 1⟩, ⟨.string (⟨#[99]⟩ : ByteArray), .int .i64 (1), 2⟩, ⟨.string (⟨#[100]⟩ : ByteArray), .int .i64 (1), 3⟩, ⟨.string (⟨#[101]⟩ : ByteArray), .int .i64 (1), 4⟩, ⟨.string (⟨#[102]⟩ : ByteArray), .int .i64 (1), 5⟩, ⟨.string (⟨#[103]⟩ : ByteArray), .int .i64 (1), 6⟩, ⟨.string (⟨#[104]⟩ : ByteArray), .int .i64 (1), 7⟩, ⟨.string (⟨#[105]⟩ : ByteArray), .int .i64 (1), 8⟩, ⟨.string (⟨#[106]⟩ : ByteArray), .int .i64 (1), 9⟩, ⟨.string (⟨#[107]⟩ : ByteArray), .int .i64 (1), 10⟩, ⟨.string (⟨#[108]⟩ : ByteArray), .int .i64 (1), 11⟩, ⟨.string (⟨#[109]⟩ : ByteArray), .int .i64 (1), 12⟩, ⟨.string (⟨#[110]⟩ : ByteArray), .int .i64 (1), 13⟩, ⟨.string (⟨#[111]⟩ : ByteArray), .int .i64 (1), 14⟩, ⟨.string (⟨#[112]⟩ : ByteArray), .int .i64 (1), 15⟩, ⟨.string (⟨#[113]⟩ : ByteArray), .int .i64 (1), 16⟩, ⟨.string (⟨#[114]⟩ : ByteArray), .int .i64 (1), 17⟩, ⟨.string (⟨#[115]⟩ : ByteArray), .int .i64 (1), 18⟩, ⟨.string (⟨#[116]⟩ : ByteArray), .int .i64 (1), 19⟩, ⟨.string (⟨#[117]⟩ : ByteArray), .int .i64 (1), 20⟩, ⟨.string (⟨#[118]⟩ : ByteArray), .int .i64 (1), 21⟩, ⟨.string (⟨#[119]⟩ : ByteArray), .int .i64 (1), 22⟩, ⟨.string (⟨#[120]⟩ : ByteArray), .int .i64 (1), 23⟩, ⟨.string (⟨#[121]⟩ : ByteArray), .int .i64 (1), 24⟩, ⟨.string (⟨#[122]⟩ : ByteArray), .int .i64 (1), 25⟩, ⟨.string (⟨#[65]⟩ : ByteArray), .int .i64 (1), 26⟩, ⟨.string (⟨#[66]⟩ : ByteArray), .int .i64 (1), 27⟩, ⟨.string (⟨#[67]⟩ : ByteArray), .int .i64 (1), 28⟩, ⟨.string (⟨#[68]⟩ : ByteArray), .int .i64 (1), 29⟩, ⟨.string (⟨#[69]⟩ : ByteArray), .int .i64 (1), 30⟩, ⟨.string (⟨#[70]⟩ : ByteArray), .int .i64 (1), 31⟩, ⟨.string (⟨#[71]⟩ : ByteArray), .int .i64 (1), 32⟩, ⟨.string (⟨#[72]⟩ : ByteArray), .int .i64 (1), 33⟩, ⟨.string (⟨#[73]⟩ : ByteArray), .int .i64 (1), 34⟩, ⟨.string (⟨#[74]⟩ : ByteArray), .int .i64 (1), 35⟩, ⟨.string (⟨#[75]⟩ : ByteArray), .int .i64 (1), 36⟩, ⟨.string (⟨#[76]⟩ : ByteArray), .int .i64 (1), 37⟩] 38, unb]
  | .c39 , ls => [rowO (lget ls 0) (esG c_Member w1 w2) 27 w1 3, .cells #[.int .i64 (4), .string (⟨#[115]⟩ : ByteArray), .int .i64 (w0), .bool false, .int .i64 (0), .int .i64 (0), (rowV (lget ls 0) w1 3)] 25, .map #[⟨.string (⟨#[97]⟩ : ByteArray), .int .i64 (1), 0⟩, ⟨.string (⟨#[98]⟩ : ByteArray), .int .i64 (1), 1⟩, ⟨.string (⟨#[99]⟩ : ByteArray), .int .i64 (1), 2⟩, ⟨.string (⟨#[100]⟩ : ByteArray), .int .i64 (1), 3⟩, ⟨.string (⟨#[101]⟩ : ByteArray), .int .i64 (1), 4⟩, ⟨.string (⟨#[102]⟩ : ByteArray), .int .i64 (1), 5⟩, ⟨.string (⟨#[103]⟩ : ByteArray), .int .i64 (1), 6⟩, ⟨.string (⟨#[104]⟩ : ByteArray), .int .i64 (1), 7⟩, ⟨.string (⟨#[105]⟩ : ByteArray), .int .i64 (1), 8⟩, ⟨.string (⟨#[106]⟩ : ByteArray), .int .i64 (1), 9⟩, ⟨.string (⟨#[107]⟩ : ByteArray), .int .i64 (1), 10⟩, ⟨.string (⟨#[108]⟩ : ByteArray), .int .i64 (1), 11⟩, ⟨.string (⟨#[109]⟩ : ByteArray), .int .i64 (1), 12⟩, ⟨.string (⟨#[110]⟩ : ByteArray), .int .i64 (1), 13⟩, ⟨.string (⟨#[111]⟩ : ByteArray), .int .i64 (1), 14⟩, ⟨.string (⟨#[112]⟩ : ByteArray), .int .i64 (1), 15⟩, ⟨.string (⟨#[113]⟩ : ByteArray), .int .i64 (1), 16⟩, ⟨.string (⟨#[114]⟩ : ByteArray), .int .i64 (1), 17⟩, ⟨.string (⟨#[115]⟩ : ByteArray), .int .i64 (1), 18⟩, ⟨.string (⟨#[116]⟩ : ByteArray), .int .i64 (1), 19⟩, ⟨.string (⟨#[117]⟩ : ByteArray), .int .i64 (1), 20⟩, ⟨.string (⟨#[118]⟩ : ByteArray), .int .i64 (1), 21⟩, ⟨.string (⟨#[119]⟩ : ByteArray), .int .i64 (1), 22⟩, ⟨.string (⟨#[120]⟩ : ByteArray), .int .i64 (1), 23⟩, ⟨.string (⟨#[121]⟩ : ByteArray), .int .i64 (1), 24⟩, ⟨.string (⟨#[122]⟩ : ByteArray), .int .i64 (1), 25⟩, ⟨.string (⟨#[65]⟩ : ByteArray), .int .i64 (1), 26⟩, ⟨.string (⟨#[66]⟩ : ByteArray), .int .i64 (1), 27⟩, ⟨.string (⟨#[67]⟩ : ByteArray), .int .i64 (1), 28⟩, ⟨.string (⟨#[68]⟩ : ByteArray), .int .i64 (1), 29⟩, ⟨.string (⟨#[69]⟩ : ByteArray), .int .i64 (1), 30⟩, ⟨.string (⟨#[70]⟩ : ByteArray), .int .i64 (1), 31⟩, ⟨.string (⟨#[71]⟩ : ByteArray), .int .i64 (1), 32⟩, ⟨.string (⟨#[72]⟩ : ByteArray), .int .i64 (1), 33⟩, ⟨.string (⟨#[73]⟩ : ByteArray), .int .i64 (1), 34⟩, ⟨.string (⟨#[74]⟩ : ByteArray), .int .i64 (1), 35⟩, ⟨.string (⟨#[75]⟩ : ByteArray), .int .i64 (1), 36⟩, ⟨.string (⟨#[76]⟩ : ByteArray), .int .i64 (1), 37⟩, ⟨.string (⟨#[77]⟩ : ByteArray), .int .i64 (1), 38⟩] 39, unb]
  | .c40 , ls => [rowO (lget ls 0) (esG c_Member w1 w2) 27 w1 3, .cells #[.int .i64 (4), .string (⟨#[115]⟩ : ByteArray), .int .i64 (w0), .bool false, .int .i64 (0), .int .i64 (0), (rowV (lget ls 0) w1 3)] 25, .map #[⟨.string (⟨#[97]⟩ : ByteArray), .int .i64 (1), 0⟩, ⟨.string (⟨#[98]⟩ : ByteArray), .int .i64 (1), 1⟩, ⟨.string (⟨#[99]⟩ : ByteArray), .int .i64 (1), 2⟩, ⟨.string (⟨#[100]⟩ : ByteArray), .int .i64 (1), 3⟩, ⟨.string (⟨#[101]⟩ : ByteArray), .int .i64 (1), 4⟩, ⟨.string (⟨#[102]⟩ : ByteArray), .int .i64 (1), 5⟩, ⟨.string (⟨#[103]⟩ : ByteArray), .int .i64 (1), 6⟩, ⟨.string (⟨#[104]⟩ : ByteArray), .int .i64 (1), 7⟩, ⟨.string (⟨#[105]⟩ : ByteArray), .int .i64 (1), 8⟩, ⟨.string (⟨#[106]⟩ : ByteArray), .int .i64 (1), 9⟩, ⟨.string (⟨#[107]⟩ : ByteArray), .int .i64 (1), 10⟩, ⟨.string (⟨#[108]⟩ : ByteArray), .int .i64 (1), 11⟩, ⟨.string (⟨#[109]⟩ : ByteArray), .int .i64 (1), 12⟩, ⟨.string (⟨#[110]⟩ : ByteArray), .int .i64 (1), 13⟩, ⟨.string (⟨#[111]⟩ : ByteArray), .int .i64 (1), 14⟩, ⟨.string (⟨#[112]⟩ : ByteArray), .int .i64 (1), 15⟩, ⟨.string (⟨#[113]⟩ : ByteArray), .int .i64 (1), 16⟩, ⟨.string (⟨#[114]⟩ : ByteArray), .int .i64 (1), 17⟩, ⟨.string (⟨#[115]⟩ : ByteArray), .int .i64 (1), 18⟩, ⟨.string (⟨#[116]⟩ : ByteArray), .int .i64 (1), 19⟩, ⟨.string (⟨#[117]⟩ : ByteArray), .int .i64 (1), 20⟩, ⟨.string (⟨#[118]⟩ : ByteArray), .int .i64 (1), 21⟩, ⟨.string (⟨#[119]⟩ : ByteArray), .int .i64 (1), 22⟩, ⟨.string (⟨#[120]⟩ : ByteArray), .int .i64 (1), 23⟩, ⟨.string (⟨#[121]⟩ : ByteArray), .int .i64 (1), 24⟩, ⟨.string (⟨#[122]⟩ : ByteArray), .int .i64 (1), 25⟩, ⟨.string (⟨#[65]⟩ : ByteArray), .int .i64 (1), 26⟩, ⟨.string (⟨#[66]⟩ : ByteArray), .int .i64 (1), 27⟩, ⟨.string (⟨#[67]⟩ : ByteArray), .int .i64 (1), 28⟩, ⟨.string (⟨#[68]⟩ : ByteArray), .int .i64 (1), 29⟩, ⟨.string (⟨#[69]⟩ : ByteArray), .int .i64 (1), 30⟩, ⟨.string (⟨#[70]⟩ : ByteArray), .int .i64 (1), 31⟩, ⟨.string (⟨#[71]⟩ : ByteArray), .int .i64 (1), 32⟩, ⟨.string (⟨#[72]⟩ : ByteArray), .int .i64 (1), 33⟩, ⟨.string (⟨#[73]⟩ : ByteArray), .int .i64 (1), 34⟩, ⟨.string (⟨#[74]⟩ : ByteArray), .int .i64 (1), 35⟩, ⟨.string (⟨#[75]⟩ : ByteArray), .int .i64 (1), 36⟩, ⟨.string (⟨#[76]⟩ : ByteArray), .int .i64 (1), 37⟩, ⟨.string (⟨#[77]⟩ : ByteArray), .int .i64 (1), 38⟩, ⟨.string (⟨#[78]⟩ : ByteArray), .int .i64 (1), 39⟩] 40, unb]
def vl_btf_rightMemberNames_v3_L0 (w0 : Int) (w1 : Nat) (w2 : Nat → Member) : Ex_btf_rightMemberNames_v3_L0 → List L1 → List Value
  | .e0 , ls => [.pointer (some ⟨(lget ls 1).n, 0, none⟩), .bool false, .map (some (lget ls 2).n), (rowV (lget ls 0) w1 3), .int .i64 ((w1 : Int))]
  | .e1 , ls => [.pointer (some ⟨(lget ls 1).n, 0, none⟩), .bool false, .map (some (lget ls 2).n), (rowV (lget ls 0) w1 3), .int .i64 ((w1 : Int))]
  | .e2 , ls => [.pointer (some ⟨(lget ls 1).n, 0, none⟩), .bool false, .map (some (lget ls 2).n), (rowV (lget ls 0) w1 3), .int .i64 ((w1 : Int))]
  | .e3 , ls => [.pointer (some ⟨(lget ls 1).n, 0, none⟩), .bool false, .map (some (lget ls 2).n), (rowV (lget ls 0) w1 3), .int .i64 ((w1 : Int))]
  | .e4 , ls => [.pointer (some ⟨(lget ls 1).n, 0, none⟩), .bool false, .map (some (lget ls 2).n), (rowV (lget ls 0) w1 3), .int .i64 ((w1 : Int))]
  | .e5 , ls => [.pointer (some ⟨(lget ls 1).n, 0, none⟩), .bool false, .map (some (lget ls 2).n), (rowV (lget ls 0) w1 3), .int .i64 ((w1 : Int))]
  | .e6 , ls => [.pointer (some ⟨(lget ls 1).n, 0, none⟩), .bool false, .map (some (lget ls 2).n), (rowV (lget ls 0) w1 3), .int .i64 ((w1 : Int))]
  | .e7 , ls => [.pointer (some ⟨(lget ls 1).n, 0, none⟩), .bool false, .map (some (lget ls 2).n), (rowV (lget ls 0) w1 3), .int .i64 ((w1 : Int))]
  | .e8 , ls => [.pointer (some ⟨(lget ls 1).n, 0, none⟩), .bool false, .map (some (lget ls 2).n), (rowV (lget ls 0) w1 3), .int .i64 ((w1 : Int))]
  | .e9 , ls => [.pointer (some ⟨(lget ls 1).n, 0, none⟩), .bool false, .map (some (lget ls 2).n), (rowV (lget ls 0) w1 3), .int .i64 ((w1 : Int))]
  | .e10 , ls => [.pointer (some ⟨(lget ls 1).n, 0, none⟩), .bool false, .map (some (lget ls 2).n), (rowV (lget ls 0) w1 3), .int .i64 ((w1 : Int))]
  | .e11 , ls => [.pointer (some ⟨(lget ls 1).n, 0, none⟩), .bool false, .map (some (lget ls 2).n), (rowV (lget ls 0) w1 3), .int .i64 ((w1 : Int))]
  | .e12 , ls => [.pointer (some ⟨(lget ls 1).n, 0, none⟩), .bool false, .map (some (lget ls 2).n), (rowV (lget ls 0) w1 3), .int .i64 ((w1 : Int))]
  | .e13 , ls => [.pointer (some ⟨(lget ls 1).n, 0, none⟩), .bool false, .map (some (lget ls 2).n), (rowV (lget ls 0) w1 3), .int .i64 ((w1 : Int))]
  | .e14 , ls => [.pointer (some ⟨(lget ls 1).n, 0, none⟩), .bool false, .map (some (lget ls 2).n), (rowV (lget ls 0) w1 3), .int .i64 ((w1 : Int))]
  | .e15 , ls => [.pointer (some ⟨(lget ls 1).n, 0, none⟩), .bool false, .map (some (lget ls 2).n), (rowV (lget ls 0) w1 3), .int .i64 ((w1 : Int))]
  | .e16 , ls => [.pointer (some ⟨(lget ls 1).n, 0, none⟩), .bool false, .map (some (lget ls 2).n), (rowV (lget ls 0) w1 3), .int .i64 ((w1 : Int))]
  | .e17 , ls => [.pointer (some ⟨(lget ls 1).n, 0, none⟩), .bool false, .map (some (lget ls 2).n), (rowV (lget ls 0) w1 3), .int .i64 ((w1 : Int))]
  | .e18 , ls => [.pointer (some ⟨(lget ls 1).n, 0, none⟩), .bool false, .map (some (lget ls 2).n), (rowV (lget ls 0) w1 3), .int .i64 ((w1 : Int))]
  | .e19 , ls => [.pointer (some ⟨(lget ls 1).n, 0, none⟩), .bool false, .map (some (lget ls 2).n), (rowV (lget ls 0) w1 3), .int .i64 ((w1 : Int))]
  | .e20 , ls => [.pointer (some ⟨(lget ls 1).n, 0, none⟩), .bool false, .map (some (lget ls 2).n), (rowV (lget ls 0) w1 3), .int .i64 ((w1 : Int))]
  | .e21 , ls => [.pointer (some ⟨(lget ls 1).n, 0, none⟩), .bool false, .map (some (lget ls 2).n), (rowV (lget ls 0) w1 3), .int .i64 ((w1 : Int))]
  | .e22 , ls => [.pointer (some ⟨(lget ls 1).n, 0, none⟩), .bool false, .map (some (lget ls 2).n), (rowV (lget ls 0) w1 3), .int .i64 ((w1 : Int))]
  | .e23 , ls => [.pointer (some ⟨(lget ls 1).n, 0, none⟩), .bool false, .map (some (lget ls 2).n), (rowV (lget ls 0) w1 3), .int .i64 ((w1 : Int))]
  | .e24 , ls => [.pointer (some ⟨(lget ls 1).n, 0, none⟩), .bool false, .map (some (lget ls 2).n), (rowV (lget ls 0) w1 3), .int .i64 ((w1 : Int))]
  | .e25 , ls => [.pointer (some ⟨(lget ls 1).n, 0, none⟩), .bool false, .map (some (lget ls 2).n), (rowV (lget ls 0) w1 3), .int .i64 ((w1 : Int))]
  | .e26 , ls => [.pointer (some ⟨(lget ls 1).n, 0, none⟩), .bool false, .map (some (lget ls 2).n), (rowV (lget ls 0) w1 3), .int .i64 ((w1 : Int))]
  | .e27 , ls => [.pointer (some ⟨(lget ls 1).n, 0, none⟩), .bool false, .map (some (lget ls 2).n), (rowV (lget ls 0) w1 3), .int .i64 ((w1 : Int))]
  | .e28 , ls => [.pointer (some ⟨(lget ls 1).n, 0, none⟩), .bool false, .map (some (lget ls 2).n), (rowV (lget ls 0) w1 3), .int .i64 ((w1 : Int))]
  | .e29 , ls => [.pointer (some ⟨(lget ls 1).n, 0, none⟩), .bool false, .map (some (lget ls 2).n), (rowV (lget ls 0) w1 3), .int .i64 ((w1 : Int))]
  | .e30 , ls => [.pointer (some ⟨(lget ls 1).n, 0, none⟩), .bool false, .map (some (lget ls 2).n), (rowV (lget ls 0) w1 3), .int .i64 ((w1 : Int))]
  | .e31 , ls => [.pointer (some ⟨(lget ls 1).n, 0, none⟩), .bool false, .map (some (lget ls 2).n), (rowV (lget ls 0) w1 3), .int .i64 ((w1 : Int))]
  | .e32 , ls => [.pointer (some ⟨(lget ls 1).n, 0, none⟩), .bool false, .map (some (lget ls 2).n), (rowV (lget ls 0) w1 3), .int .i64 ((w1 : Int))]
  | .e33 , ls => [.pointer (some ⟨(lget ls 1).n, 0, none⟩), .bool false, .map (some (lget ls 2).n), (rowV (lget ls 0) w1 3), .int .i64 ((w1 : Int))]
  | .e34 , ls => [.pointer (some ⟨(lget ls 1).n, 0, none⟩), .bool false, .map (some (lget ls 2).n), (rowV (lget ls 0) w1 3), .int .i64 ((w1 : Int))]
  | .e35 , ls => [.pointer (some ⟨(lget ls 1).n, 0, none⟩), .bool false, .map (some (lget ls 2).n), (rowV (lget ls 0) w1 3), .int .i64 ((w1 : Int))]
  | .e36 , ls => [.pointer (some ⟨(lget ls 1).n, 0, none⟩), .bool false, .map (some (lget ls 2).n), (rowV (lget ls 0) w1 3), .int .i64 ((w1 : Int))]
  | .e37 , ls => [.pointer (some ⟨(lget ls 1).n, 0, none⟩), .bool false, .map (some (lget ls 2).n), (rowV (lget ls 0) w1 3), .int .i64 ((w1 : Int))]
  | .e38 , ls => [.pointer (some ⟨(lget ls 1).n, 0, none⟩), .bool false, .map (some (lget ls 2).n), (rowV (lget ls 0) w1 3), .int .i64 ((w1 : Int))]
  | .e39 , ls => [.pointer (some ⟨(lget ls 1).n, 0, none⟩), .bool false, .map (some (lget ls 2).n), (rowV (lget ls 0) w1 3), .int .i64 ((w1 : Int))]
  | .e40 , ls => [.pointer (some ⟨(lget ls 1).n, 0, none⟩), .bool false, .map (some (lget ls 2).n), (rowV (lget ls 0) w1 3), .int .i64 ((w1 : Int))]
def mk_btf_rightMemberNames_v3_L0 : Ex_btf_rightMemberNames_v3_L0 → List (Nat × Nat)
  | .e0  => [(0, 1), (3, 5), (2, 33)]
  | .e1  => [(0, 1), (3, 5), (2, 33)]
  | .e2  => [(0, 1), (3, 5), (2, 33)]
  | .e3  => [(0, 1), (3, 5), (2, 33)]
  | .e4  => [(0, 1), (3, 5), (2, 33)]
  | .e5  => [(0, 1), (3, 5), (2, 33)]
  | .e6  => [(0, 1), (3, 5), (2, 33)]
  | .e7  => [(0, 1), (3, 5), (2, 33)]
  | .e8  => [(0, 1), (3, 5), (2, 33)]
  | .e9  => [(0, 1), (3, 5), (2, 33)]
  | .e10  => [(0, 1), (3, 5), (2, 33)]
  | .e11  => [(0, 1), (3, 5), (2, 33)]
  | .e12  => [(0, 1), (3, 5), (2, 33)]
  | .e13  => [(0, 1), (3, 5), (2, 33)]
  | .e14  => [(0, 1), (3, 5), (2, 33)]
  | .e15  => [(0, 1), (3, 5), (2, 33)]
  | .e16  => [(0, 1), (3, 5), (2, 33)]
  | .e17  => [(0, 1), (3, 5), (2, 33)]
  | .e18  => [(0, 1), (3, 5), (2, 33)]
  | .e19  => [(0, 1), (3, 5), (2, 33)]
  | .e20  => [(0, 1), (3, 5), (2, 33)]
  | .e21  => [(0, 1), (3, 5), (2, 33)]
  | .e22  => [(0, 1), (3, 5), (2, 33)]
  | .e23  => [(0, 1), (3, 5), (2, 33)]
  | .e24  => [(0, 1), (3, 5), (2, 33)]
  | .e25  => [(0, 1), (3, 5), (2, 33)]
  | .e26  => [(0, 1), (3, 5), (2, 33)]
  | .e27  => [(0, 1), (3, 5), (2, 33)]
  | .e28  => [(0, 1), (3, 5), (2, 33)]
  | .e29  => [(0, 1), (3, 5), (2, 33)]
  | .e30  => [(0, 1), (3, 5), (2, 33)]
  | .e31  => [(0, 1), (3, 5), (2, 33)]
  | .e32  => [(0, 1), (3, 5), (2, 33)]
  | .e33  => [(0, 1), (3, 5), (2, 33)]
  | .e34  => [(0, 1), (3, 5), (2, 33)]
  | .e35  => [(0, 1), (3, 5), (2, 33)]
  | .e36  => [(0, 1), (3, 5), (2, 33)]
  | .e37  => [(0, 1), (3, 5), (2, 33)]
  | .e38  => [(0, 1), (3, 5), (2, 33)]
  | .e39  => [(0, 1), (3, 5), (2, 33)]
  | .e40  => [(0, 1), (3, 5), (2, 33)]
noncomputable def vf_btf_rightMemberNames_v3_L0 (w0 : Int) (w1 : Nat) (w2 : Nat → Member) (r : Ex_btf_rightMemberNames_v3_L0) : List L1 → List Value := mrgF (mk_btf_rightMemberNames_v3_L0 r) (vl_btf_rightMemberNames_v3_L0 w0 w1 w2 r) 3
def Hf_btf_rightMemberNames_v3_L0 (w0 : Int) (w1 : Nat) (w2 : Nat → Member) : Ex_btf_rightMemberNames_v3_L0 → List L1 → List Obj
  | .e0 , ls => [rowO (lget ls 0) (esG c_Member w1 w2) 27 w1 3, .cells #[.int .i64 (4), .string (⟨#[115]⟩ : ByteArray), .int .i64 (w0), .bool false, .int .i64 (0), .int .i64 (0), (rowV (lget ls 0) w1 3)] 25, .map #[] 0, unb]
  | .e1 , ls => [rowO (lget ls 0) (esG c_Member w1 w2) 27 w1 3, .cells #[.int .i64 (4), .string (⟨#[115]⟩ : ByteArray), .int .i64 (w0), .bool false, .int .i64 (0), .int .i64 (0), (rowV (lget ls 0) w1 3)] 25, .map #[⟨.string (⟨#[97]⟩ : ByteArray), .int .i64 (1), 0⟩] 1, unb]
  | .e2 , ls => [rowO (lget ls 0) (esG c_Member w1 w2) 27 w1 3, .cells #[.int .i64 (4), .string (⟨#[115]⟩ : ByteArray), .int .i64 (w0), .bool false, .int .i64 (0), .int .i64 (0), (rowV (lget ls 0) w1 3)] 25, .map #[⟨.string (⟨#[97]⟩ : ByteArray), .int .i64 (1), 0⟩, ⟨.string (⟨#[98]⟩ : ByteArray), .int .i64 (1), 1⟩] 2, unb]
  | .e3 , ls => [rowO (lget ls 0) (esG c_Member w1 w2) 27 w1 3, .cells #[.int .i64 (4), .string (⟨#[115]⟩ : ByteArray), .int .i64 (w0), .bool false, .int .i64 (0), .int .i64 (0), (rowV (lget ls 0) w1 3)] 25, .map #[⟨.string (⟨#[97]⟩ : ByteArray), .int .i64 (1), 0⟩, ⟨.string (⟨#[98]⟩ : ByteArray), .int .i64 (1), 1⟩, ⟨.string (⟨#[99]⟩ : ByteArray), .int .i64 (1), 2⟩] 3, unb]
  | .e4 , ls => [rowO (lget ls 0) (esG c_Member w1 w2) 27 w1 3, .cells #[.int .i64 (4), .string (⟨#[115]⟩ : ByteArray), .int .i64 (w0), .bool false, .int .i64 (0), .int .i64 (0), (rowV (lget ls 0) w1 3)] 25, .map #[⟨.string (⟨#[97]⟩ : ByteArray), .int .i64 (1), 0⟩, ⟨.string (⟨#[98]⟩ : ByteArray), .int .i64 (1), 1⟩, ⟨.string (⟨#[99]⟩ : ByteArray), .int .i64 (1), 2⟩, ⟨.string (⟨#[100]⟩ : ByteArray), .int .i64 (1), 3⟩] 4, unb]
  | .e5 , ls => [rowO (lget ls 0) (esG c_Member w1 w2) 27 w1 3, .cells #[.int .i64 (4), .string (⟨#[115]⟩ : ByteArray), .int .i64 (w0), .bool false, .int .i64 (0), .int .i64 (0), (rowV (lget ls 0) w1 3)] 25, .map #[⟨.string (⟨#[97]⟩ : ByteArray), .int .i64 (1), 0⟩, ⟨.string (⟨#[98]⟩ : ByteArray), .int .i64 (1), 1⟩, ⟨.string (⟨#[99]⟩ : ByteArray), .int .i64 (1), 2⟩, ⟨.string (⟨#[100]⟩ : ByteArray), .int .i64 (1), 3⟩, ⟨.string (⟨#[101]⟩ : ByteArray), .int .i64 (1), 4⟩] 5, unb]
  | .e6 , ls => [rowO (lget ls 0) (esG c_Member w1 w2) 27 w1 3, .cells #[.int .i64 (4), .string (⟨#[115]⟩ : ByteArray), .int .i64 (w0), .bool false, .int .i64 (0), .int .i64 (0), (rowV (lget ls 0) w1 3)] 25, .map #[⟨.string (⟨#[97]⟩ : ByteArray), .int .i64 (1), 0⟩, ⟨.string (⟨#[98]⟩ : ByteArray), .int .i64 (1), 1⟩, ⟨.string (⟨#[99]⟩ : ByteArray), .int .i64 (1), 2⟩, ⟨.string (⟨#[100]⟩ : ByteArray), .int .i64 (1), 3⟩, ⟨.string (⟨#[101]⟩ : ByteArray), .int .i64 (1), 4⟩, ⟨.string (⟨#[102]⟩ : ByteArray), .int .i64 (1), 5⟩] 6, unb]
  | .e7 , ls => [rowO (lget ls 0) (esG c_Member w1 w2) 27 w1 3, .cells #[.int .i64 (4), .string (⟨#[115]⟩ : ByteArray), .int .i64 (w0), .bool false, .int .i64 (0), .int .i64 (0), (rowV (lget ls 0) w1 3)] 25, .map #[⟨.string (⟨#[97]⟩ : ByteArray), .int .i64 (1), 0⟩, ⟨.string (⟨#[98]⟩ : ByteArray), .int .i64 (1), 1⟩, ⟨.string (⟨#[99]⟩ : ByteArray), .int .i64 (1), 2⟩, ⟨.string (⟨#[100]⟩ : ByteArray), .int .i64 (1), 3⟩, ⟨.string (⟨#[101]⟩ : ByteArray), .int .i64 (1), 4⟩, ⟨.string (⟨#[102]⟩ : ByteArray), .int .i64 (1), 5⟩, ⟨.string (⟨#[103]⟩ : ByteArray), .int .i64 (1), 6⟩] 7, unb]
  | .e8 , ls => [rowO (lget ls 0) (esG c_Member w1 w2) 27 w1 3, .cells #[.int .i64 (4), .string (⟨#[115]⟩ : ByteArray), .int .i64 (w0), .bool false, .int .i64 (0), .int .i64 (0), (rowV (lget ls 0) w1 3)] 25, .map #[⟨.string (⟨#[97]⟩ : ByteArray), .int .i64 (1), 0⟩, ⟨.string (⟨#[98]⟩ : ByteArray), .int .i64 (1), 1⟩, ⟨.string (⟨#[99]⟩ : ByteArray), .int .i64 (1), 2⟩, ⟨.string (⟨#[100]⟩ : ByteArray), .int .i64 (1), 3⟩, ⟨.string (⟨#[101]⟩ : ByteArray), .int .i64 (1), 4⟩, ⟨.string (⟨#[102]⟩ : ByteArray), .int .i64 (1), 5⟩, ⟨.string (⟨#[103]⟩ : ByteArray), .int .i64 (1), 6⟩, ⟨.string (⟨#[104]⟩ : ByteArray), .int .i64 (1), 7⟩] 8, unb]
  | .e9 , ls => [rowO (lget ls 0) (esG c_Member w1 w2) 27 w1 3, .cells #[.int .i64 (4), .string (⟨#[115]⟩ : ByteArray), .int .i64 (w0), .bool false, .int .i64 (0), .int .i64 (0), (rowV (lget ls 0) w1 3)] 25, .map #[⟨.string (⟨#[97]⟩ : ByteArray), .int .i64 (1), 0⟩, ⟨.string (⟨#[98]⟩ : ByteArray), .int .i64 (1), 1⟩, ⟨.string (⟨#[99]⟩ : ByteArray), .int .i64 (1), 2⟩, ⟨.string (⟨#[100]⟩ : ByteArray), .int .i64 (1), 3⟩, ⟨.string (⟨#[101]⟩ : ByteArray), .int .i64 (1), 4⟩, ⟨.string (⟨#[102]⟩ : ByteArray), .int .i64 (1), 5⟩, ⟨.string (⟨#[103]⟩ : ByteArray), .int .i64 (1), 6⟩, ⟨.string (⟨#[104]⟩ : ByteArray), .int .i64 (1), 7⟩, ⟨.string (⟨#[105]⟩ : ByteArray), .int .i64 (1), 8⟩] 9, unb]
  | .e10 , ls => [rowO (lget ls 0) (esG c_Member w1 w2) 27 w1 3, .cells #[.int .i64 (4), .string (⟨#[115]⟩ : ByteArray), .int .i64 (w0), .bool false, .int .i64 (0), .int .i64 (0), (rowV (lget ls 0) w1 3)] 25, .map #[⟨.string (⟨#[97]⟩ : ByteArray), .int .i64 (1), 0⟩, ⟨.string (⟨#[98]⟩ : ByteArray), .int .i64 (1), 1⟩, ⟨.string (⟨#[99]⟩ : ByteArray), .int .i64 (1), 2⟩, ⟨.string (⟨#[100]⟩ : ByteArray), .int .i64 (1), 3⟩, ⟨.string (⟨#[101]⟩ : ByteArray), .int .i64 (1), 4⟩, ⟨.string (⟨#[102]⟩ : ByteArray), .int .i64 (1), 5⟩, ⟨.string (⟨#[103]⟩ : ByteArray), .int .i64 (1), 6⟩, ⟨.string (⟨#[104]⟩ : ByteArray), .int .i64 (1), 7⟩, ⟨.string (⟨#[105]⟩ : ByteArray), .int .i64 (1), 8⟩, ⟨.string (⟨#[106]⟩ : ByteArray), .int .i64 (1), 9⟩] 10, unb]
  | .e11 , ls => [rowO (lget ls 0) (esG c_Member w1 w2) 27 w1 3, .cells #[.int .i64 (4), .string (⟨#[115]⟩ : ByteArray), .int .i64 (w0), .bool false, .int .i64 (0), .int .i64 (0), (rowV (lget ls 0) w1 3)] 25, .map #[⟨.string (⟨#[97]⟩ : ByteArray), .int .i64 (1), 0⟩, ⟨.string (⟨#[98]⟩ : ByteArray), .int .i64 (1), 1⟩, ⟨.string (⟨#[99]⟩ : ByteArray), .int .i64 (1), 2⟩, ⟨.string (⟨#[100]⟩ : ByteArray), .int .i64 (1), 3⟩, ⟨.string (⟨#[101]⟩ : ByteArray), .int .i64 (1), 4⟩, ⟨.string (⟨#[102]⟩ : ByteArray), .int .i64 (1), 5⟩, ⟨.string (⟨#[103]⟩ : ByteArray), .int .i64 (1), 6⟩, ⟨.string (⟨#[104]⟩ : ByteArray), .int .i64 (1), 7⟩, ⟨.string (⟨#[105]⟩ : ByteArray), .int .i64 (1), 8⟩, ⟨.string (⟨#[106]⟩ : ByteArray), .int .i64 (1), 9⟩, ⟨.string (⟨#[107]⟩ : ByteArray), .int .i64 (1), 10⟩] 11, unb]
  | .e12 , ls => [rowO (lget ls 0) (esG c_Member w1 w2) 27 w1 3, .cells #[.int .i64 (4), .string (⟨#[115]⟩ : ByteArray), .int .i64 (w0), .bool false, .int .i64 (0), .int .i64 (0), (rowV (lget ls 0) w1 3)] 25, .map #[⟨.string (⟨#[97]⟩ : ByteArray), .int .i64 (1), 0⟩, ⟨.string (⟨#[98]⟩ : ByteArray), .int .i64 (1), 1⟩, ⟨.string (⟨#[99]⟩ : ByteArray), .int .i64 (1), 2⟩, ⟨.string (⟨#[100]⟩ : ByteArray), .int .i64 (1), 3⟩, ⟨.string (⟨#[101]⟩ : ByteArray), .int .i64 (1), 4⟩, ⟨.string (⟨#[102]⟩ : ByteArray), .int .i64 (1), 5⟩, ⟨.string (⟨#[103]⟩ : ByteArray), .int .i64 (1), 6⟩, ⟨.string (⟨#[104]⟩ : ByteArray), .int .i64 (1), 7⟩, ⟨.string (⟨#[105]⟩ : ByteArray), .int .i64 (1), 8⟩, ⟨.string (⟨#[106]⟩ : ByteArray), .int .i64 (1), 9⟩, ⟨.string (⟨#[107]⟩ : ByteArray), .int .i64 (1), 10⟩, ⟨.string (⟨#[108]⟩ : ByteArray), .int .i64 (1), 11⟩] 12, unb]
  | .e13 , ls => [rowO (lget ls 0) (esG c_Member w1 w2) 27 w1 3, .cells #[.int .i64 (4), .string (⟨#[115]⟩ : ByteArray), .int .i64 (w0), .bool false, .int .i64 (0), .int .i64 (0), (rowV (lget ls 0) w1 3)] 25, .map #[⟨.string (⟨#[97]⟩ : ByteArray), .int .i64 (1), 0⟩, ⟨.string (⟨#[98]⟩ : ByteArray), .int .i64 (1), 1⟩, ⟨.string (⟨#[99]⟩ : ByteArray), .int .i64 (1), 2⟩, ⟨.string (⟨#[100]⟩ : ByteArray), .int .i64 (1), 3⟩, ⟨.string (⟨#[101]⟩ : ByteArray), .int .i64 (1), 4⟩, ⟨.string (⟨#[102]⟩ : ByteArray), .int .i64 (1), 5⟩, ⟨.string (⟨#[103]⟩ : ByteArray), .int .i64 (1), 6⟩, ⟨.string (⟨#[104]⟩ : ByteArray), .int .i64 (1), 7⟩, ⟨.string (⟨#[105]⟩ : ByteArray), .int .i64 (1), 8⟩, ⟨.string (⟨#[106]⟩ : ByteArray), .int .i64 (1), 9⟩, ⟨.string (⟨#[107]⟩ : ByteArray), .int .i64 (1), 10⟩, ⟨.string (⟨#[108]⟩ : ByteArray), .int .i64 (1), 11⟩, ⟨.string (⟨#[109]⟩ : ByteArray), .int .i64 (1), 12⟩] 13, unb]
  | .e14 , ls => [rowO (lget ls 0) (esG c_Member w1 w2) 27 w1 3, .cells #[.int .i64 (4), .string (⟨#[115]⟩ : ByteArray), .int .i64 (w0), .bool false, .int .i64 (0), .int .i64 (0), (rowV (lget ls 0) w1 3)] 25, .map #[⟨.string (⟨#[97]⟩ : ByteArray), .int .i64 (1), 0⟩, ⟨.string (⟨#[98]⟩ : ByteArray), .int .i64 (1), 1⟩, ⟨.string (⟨#[99]⟩ : ByteArray), .int .i64 (1), 2⟩, ⟨.string (⟨#[100]⟩ : ByteArray), .int .i64 (1), 3⟩, ⟨.string (⟨#[101]⟩ : ByteArray), .int .i64 (1), 4⟩, ⟨.string (⟨#[102]⟩ : ByteArray), .int .i64 (1), 5⟩, ⟨.string (⟨#[103]⟩ : ByteArray), .int .i64 (1), 6⟩, ⟨.string (⟨#[104]⟩ : ByteArray), .int .i64 (1), 7⟩, ⟨.string (⟨#[105]⟩ : ByteArray), .int .i64 (1), 8⟩, ⟨.string (⟨#[106]⟩ : ByteArray), .int .i64 (1), 9⟩, ⟨.string (⟨#[107]⟩ : ByteArray), .int .i64 (1), 10⟩, ⟨.string (⟨#[108]⟩ : ByteArray), .int .i64 (1), 11⟩, ⟨.string (⟨#[109]⟩ : ByteArray), .int .i64 (1), 12⟩, ⟨.string (⟨#[110]⟩ : ByteArray), .int .i64 (1), 13⟩] 14, unb]
  | .e15 , ls => [rowO (lget ls 0) (esG c_Member w1 w2) 27 w1 3, .cells #[.int .i64 (4), .string (⟨#[115]⟩ : ByteArray), .int .i64 (w0), .bool false, .int .i64 (0), .int .i64 (0), (rowV (lget ls 0) w1 3)] 25, .map #[⟨.string (⟨#[97]⟩ : ByteArray), .int .i64 (1), 0⟩, ⟨.string (⟨#[98]⟩ : ByteArray), .int .i64 (1), 1⟩, ⟨.string (⟨#[99]⟩ : ByteArray), .int .i64 (1), 2⟩, ⟨.string (⟨#[100]⟩ : ByteArray), .int .i64 (1), 3⟩, ⟨.string (⟨#[101]⟩ : ByteArray), .int .i64 (1), 4⟩, ⟨.string (⟨#[102]⟩ : ByteArray), .int .i64 (1), 5⟩, ⟨.string (⟨#[103]⟩ : ByteArray), .int .i64 (1), 6⟩, ⟨.string (⟨#[104]⟩ : ByteArray), .int .i64 (1), 7⟩, ⟨.string (⟨#[105]⟩ : ByteArray), .int .i64 (1), 8⟩, ⟨.string (⟨#[106]⟩ : ByteArray), .int .i64 (1), 9⟩, ⟨.string (⟨#[107]⟩ : ByteArray), .int .i64 (1), 10⟩, ⟨.string (⟨#[108]⟩ : ByteArray), .int .i64 (1), 11⟩, ⟨.string (⟨#[109]⟩ : ByteArray), .int .i64 (1), 12⟩, ⟨.string (⟨#[110]⟩ : ByteArray), .int .i64 (1), 13⟩, ⟨.string (⟨#[111]⟩ : ByteArray), .int .i64 (1), 14⟩] 15, unb]
  | .e16 , ls => [rowO (lget ls 0) (esG c_Member w1 w2) 27 w1 3, .cells #[.int .i64 (4), .string (⟨#[115]⟩ : ByteArray), .int .i64 (w0), .bool false, .int .i64 (0), .int .i64 (0), (rowV (lget ls 0) w1 3)] 25, .map #[⟨.string (⟨#[97]⟩ : ByteArray), .int .i64 (1), 0⟩, ⟨.string (⟨#[98]⟩ : ByteArray), .int .i64 (1), 1⟩, ⟨.string (⟨#[99]⟩ : ByteArray), .int .i64 (1), 2⟩, ⟨.string (⟨#[100]⟩ : ByteArray), .int .i64 (1), 3⟩, ⟨.string (⟨#[101]⟩ : ByteArray), .int .i64 (1), 4⟩, ⟨.string (⟨#[102]⟩ : ByteArray), .int .i64 (1), 5⟩, ⟨.string (⟨#[103]⟩ : ByteArray), .int .i64 (1), 6⟩, ⟨.string (⟨#[104]⟩ : ByteArray), .int .i64 (1), 7⟩, ⟨.string (⟨#[105]⟩ : ByteArray), .int .i64 (1), 8⟩, ⟨.string (⟨#[106]⟩ : ByteArray), .int .i64 (1), 9⟩, ⟨.string (⟨#[107]⟩ : ByteArray), .int .i64 (1), 10⟩, ⟨.string (⟨#[108]⟩ : ByteArray), .int .i64 (1), 11⟩, ⟨.string (⟨#[109]⟩ : ByteArray), .int .i64 (1), 12⟩, ⟨.string (⟨#[110]⟩ : ByteArray), .int .i64 (1), 13⟩, ⟨.string (⟨#[111]⟩ : ByteArray), .int .i64 (1), 14⟩, ⟨.string (⟨#[112]⟩ : ByteArray), .int .i64 (1), 15⟩] 16, unb]
  | .e17 , ls => [rowO (lget ls 0) (esG c_Member w1 w2) 27 w1 3, .cells #[.int .i64 (4), .string (⟨#[115]⟩ : ByteArray), .int .i64 (w0), .bool false, .int .i64 (0), .int .i64 (0), (rowV (lget ls 0) w1 3)] 25, .map #[⟨.string (⟨#[97]⟩ : ByteArray), .int .i64 (1), 0⟩, ⟨.string (⟨#[98]⟩ : ByteArray), .int .i64 (1), 1⟩, ⟨.string (⟨#[99]⟩ : ByteArray), .int .i64 (1), 2⟩, ⟨.string (⟨#[100]⟩ : ByteArray), .int .i64 (1), 3⟩, ⟨.string (⟨#[101]⟩ : ByteArray), .int .i64 (1), 4⟩, ⟨.string (⟨#[102]⟩ : ByteArray), .int .i64 (1), 5⟩, ⟨.string (⟨#[103]⟩ : ByteArray), .int .i64 (1), 6⟩, ⟨.string (⟨#[104]⟩ : ByteArray), .int .i64 (1), 7⟩, ⟨.string (⟨#[105]⟩ : ByteArray), .int .i64 (1), 8⟩, ⟨.string (⟨#[106]⟩ : ByteArray), .int .i64 (1), 9⟩, ⟨.string (⟨#[107]⟩ : ByteArray), .int .i64 (1), 10⟩, ⟨.string (⟨#[108]⟩ : ByteArray), .int .i64 (1), 11⟩, ⟨.string (⟨#[109]⟩ : ByteArray), .int .i64 (1), 12⟩, ⟨.string (⟨#[110]⟩ : ByteArray), .int .i64 (1), 13⟩, ⟨.string (⟨#[111]⟩ : ByteArray), .int .i64 (1), 14⟩, ⟨.string (⟨#[112]⟩ : ByteArray), .int .i64 (1), 15⟩, ⟨.string (⟨#[113]⟩ : ByteArray), .int .i64 (1), 16⟩] 17, unb]
  | .e18 , ls => [rowO (lget ls 0) (esG c_Member w1 w2) 27 w1 3, .cells #[.int .i64 (4), .string (⟨#[115]⟩ : ByteArray), .int .i64 (w0), .bool false, .int .i64 (0), .int .i64 (0), (rowV (lget ls 0) w1 3)] 25, .map #[⟨.string (⟨#[97]⟩ : ByteArray), .int .i64 (1), 0⟩, ⟨.string (⟨#[98]⟩ : ByteArray), .int .i64 (1), 1⟩, ⟨.string (⟨#[99]⟩ : ByteArray), .int .i64 (1), 2⟩, ⟨.string (⟨#[100]⟩ : ByteArray), .int .i64 (1), 3⟩, ⟨.string (⟨#[101]⟩ : ByteArray), .int .i64 (1), 4⟩, ⟨.string (⟨#[102]⟩ : ByteArray), .int .i64 (1), 5⟩, ⟨.string (⟨#[103]⟩ : ByteArray), .int .i64 (1), 6⟩, ⟨.string (⟨#[104]⟩ : ByteArray), .int .i64 (1), 7⟩, ⟨.string (⟨#[105]⟩ : ByteArray), .int .i64 (1), 8⟩, ⟨.string (⟨#[106]⟩ : ByteArray), .int .i64 (1), 9⟩, ⟨.string (⟨#[107]⟩ : ByteArray), .int .i64 (1), 10⟩, ⟨.string (⟨#[108]⟩ : ByteArray), .int .i64 (1), 11⟩, ⟨.string (⟨#[109]⟩ : ByteArray), .int .i64 (1), 12⟩, ⟨.string (⟨#[110]⟩ : ByteArray), .int .i64 (1), 13⟩, ⟨.string (⟨#[111]⟩ : ByteArray), .int .i64 (1), 14⟩, ⟨.string (⟨#[112]⟩ : ByteArray), .int .i64 (1), 15⟩, ⟨.string (⟨#[113]⟩ : ByteArray), .int .i64 (1), 16⟩, ⟨.string (⟨#[114]⟩ : ByteArray), .int .i64 (1), 17⟩] 18, unb]
  | .e19 , ls => [rowO (lget ls 0) (esG c_Member w1 w2) 27 w1 3, .cells #[.int .i64 (4), .string (⟨#[115]⟩ : ByteArray), .int .i64 (w0), .bool false, .int .i64 (0), .int .i64 (0), (rowV (lget ls 0) w1 3)] 25, .map #[⟨.string (⟨#[97]⟩ : ByteArray), .int .i64 (1), 0⟩, ⟨.string (⟨#[98]⟩ : ByteArray), .int .i64 (1), 1⟩, ⟨.string (⟨#[99]⟩ : ByteArray), .int .i64 (1), 2⟩, ⟨.string (⟨#[100]⟩ : ByteArray), .int .i64 (1), 3⟩, ⟨.string (⟨#[101]⟩ : ByteArray), .int .i64 (1), 4⟩, ⟨.string (⟨#[102]⟩ : ByteArray), .int .i64 (1), 5⟩, ⟨.string (⟨#[103]⟩ : ByteArray), .int .i64 (1), 6⟩, ⟨.string (⟨#[104]⟩ : ByteArray), .int .i64 (1), 7⟩, ⟨.string (⟨#[105]⟩ : ByteArray), .int .i64 (1), 8⟩, ⟨.string (⟨#[106]⟩ : ByteArray), .int .i64 (1), 9⟩, ⟨.string (⟨#[107]⟩ : ByteArray), .int .i64 (1), 10⟩, ⟨.string (⟨#[108]⟩ : ByteArray), .int .i64 (1), 11⟩, ⟨.string (⟨#[109]⟩ : ByteArray), .int .i64 (1), 12⟩, ⟨.string (⟨#[110]⟩ : ByteArray), .int .i64 (1), 13⟩, ⟨.string (⟨#[111]⟩ : ByteArray), .int .i64 (1), 14⟩, ⟨.string (⟨#[112]⟩ : ByteArray), .int .i64 (1), 15⟩, ⟨.string (⟨#[113]⟩ : ByteArray), .int .i64 (1), 16⟩, ⟨.string (⟨#[114]⟩ : ByteArray), .int .i64 (1), 17⟩, ⟨.string (⟨#[115]⟩ : ByteArray), .int .i64 (1), 18⟩] 19, unb]
  | .e20 , ls => [rowO (lget ls 0) (esG c_Member w1 w2) 27 w1 3, .cells #[.int .i64 (4), .string (⟨#[115]⟩ : ByteArray), .int .i64 (w0), .bool false, .int .i64 (0), .int .i64 (0), (rowV (lget ls 0) w1 3)] 25, .map #[⟨.string (⟨#[97]⟩ : ByteArray), .int .i64 (1), 0⟩, ⟨.string (⟨#[98]⟩ : ByteArray), .int .i64 (1), 1⟩, ⟨.string (⟨#[99]⟩ : ByteArray), .int .i64 (1), 2⟩, ⟨.string (⟨#[100]⟩ : ByteArray), .int .i64 (1), 3⟩, ⟨.string (⟨#[101]⟩ : ByteArray), .int .i64 (1), 4⟩, ⟨.string (⟨#[102]⟩ : ByteArray), .int .i64 (1), 5⟩, ⟨.string (⟨#[103]⟩ : ByteArray), .int .i64 (1), 6⟩, ⟨.string (⟨#[104]⟩ : ByteArray), .int .i64 (1), 7⟩, ⟨.string (⟨#[105]⟩ : ByteArray), .int .i64 (1), 8⟩, ⟨.string (⟨#[106]⟩ : ByteArray), .int .i64 (1), 9⟩, ⟨.string (⟨#[107]⟩ : ByteArray), .int .i64 (1), 10⟩, ⟨.string (⟨#[108]⟩ : ByteArray), .int .i64 (1), 11⟩, ⟨.string (⟨#[109]⟩ : ByteArray), .int .i64 (1), 12⟩, ⟨.string (⟨#[110]⟩ : ByteArray), .int .i64 (1), 13⟩, ⟨.string (⟨#[111]⟩ : ByteArray), .int .i64 (1), 14⟩, ⟨.string (⟨#[112]⟩ : ByteArray), .int .i64 (1), 15⟩, ⟨.string (⟨#[113]⟩ : ByteArray), .int .i64 (1), 16⟩, ⟨.string (⟨#[114]⟩ : ByteArray), .int .i64 (1), 17⟩, ⟨.string (⟨#[115]⟩ : ByteArray), .int .i64 (1), 18⟩, ⟨.string (⟨#[116]⟩ : ByteArray), .int .i64 (1), 19⟩] 20, unb]
  | .e21 , ls => [rowO (lget ls 0) (esG c_Member w1 w2) 27 w1 3, .cells #[.int .i64 (4), .string (⟨#[115]⟩ : ByteArray), .int .i64 (w0), .bool false, .int .i64 (0), .int .i64 (0), (rowV (lget ls 0) w1 3)] 25, .map #[⟨.string (⟨#[97]⟩ : ByteArray), .int .i64 (1), 0⟩, ⟨.string (⟨#[98]⟩ : ByteArray), .int .i64 (1), 1⟩, ⟨.string (⟨#[99]⟩ : ByteArray), .int .i64 (1), 2⟩, ⟨.string (⟨#[100]⟩ : ByteArray), .int .i64 (1), 3⟩, ⟨.string (⟨#[101]⟩ : ByteArray), .int .i64 (1), 4⟩, ⟨.string (⟨#[102]⟩ : ByteArray), .int .i64 (1), 5⟩, ⟨.string (⟨#[103]⟩ : ByteArray), .int .i64 (1), 6⟩, ⟨.string (⟨#[104]⟩ : ByteArray), .int .i64 (1), 7⟩, ⟨.string (⟨#[105]⟩ : ByteArray), .int .i64 (1), 8⟩, ⟨.string (⟨#[106]⟩ : ByteArray), .int .i64 (1), 9⟩, ⟨.string (⟨#[107]⟩ : ByteArray), .int .i64 (1), 10⟩, ⟨.string (⟨#[108]⟩ : ByteArray), .int .i64 (1), 11⟩, ⟨.string (⟨#[109]⟩ : ByteArray), .int .i64 (1), 12⟩, ⟨.string (⟨#[110]⟩ : ByteArray), .int .i64 (1), 13⟩, ⟨.string (⟨#[111]⟩ : ByteArray), .int .i64 (1), 14⟩, ⟨.string (⟨#[112]⟩ : ByteArray), .int .i64 (1), 15⟩, ⟨.string (⟨#[113]⟩ : ByteArray), .int .i64 (1), 16⟩, ⟨.string (⟨#[114]⟩ : ByteArray), .int .i64 (1), 17⟩, ⟨.string (⟨#[115]⟩ : ByteArray), .int .i64 (1), 18⟩, ⟨.string (⟨#[116]⟩ : ByteArray), .int .i64 (1), 19⟩, ⟨.string (⟨#[117]⟩ : ByteArray), .int .i64 (1), 20⟩] 21, unb]
  | .e22 , ls => [rowO (lget ls 0) (esG c_Member w1 w2) 27 w1 3, .cells #[.int .i64 (4), .string (⟨#[115]⟩ : ByteArray), .int .i64 (w0), .bool false, .int .i64 (0), .int .i64 (0), (rowV (lget ls 0) w1 3)] 25, .map #[⟨.string (⟨#[97]⟩ : ByteArray), .int .i64 (1), 0⟩, ⟨.string (⟨#[98]⟩ : ByteArray), .int .i64 (1), 1⟩, ⟨.string (⟨#[99]⟩ : ByteArray), .int .i64 (1), 2⟩, ⟨.string (⟨#[100]⟩ : ByteArray), .int .i64 (1), 3⟩, ⟨.string (⟨#[101]⟩ : ByteArray), .int .i64 (1), 4⟩, ⟨.string (⟨#[102]⟩ : ByteArray), .int .i64 (1), 5⟩, ⟨.string (⟨#[103]⟩ : ByteArray), .int .i64 (1), 6⟩, ⟨.string (⟨#[104]⟩ : ByteArray), .int .i64 (1), 7⟩, ⟨.string (⟨#[105]⟩ : ByteArray), .int .i64 (1), 8⟩, ⟨.string (⟨#[106]⟩ : ByteArray), .int .i64 (1), 9⟩, ⟨.string (⟨#[107]⟩ : ByteArray), .int .i64 (1), 10⟩, ⟨.string (⟨#[108]⟩ : ByteArray), .int .i64 (1), 11⟩, ⟨.string (⟨#[109]⟩ : ByteArray), .int .i64 (1), 12⟩, ⟨.string (⟨#[110]⟩ : ByteArray), .int .i64 (1), 13⟩, ⟨.string (⟨#[111]⟩ : ByteArray), .int .i64 (1), 14⟩, ⟨.string (⟨#[112]⟩ : ByteArray), .int .i64 (1), 15⟩, ⟨.string (⟨#[113]⟩ : ByteArray), .int .i64 (1), 16⟩, ⟨.string (⟨#[114]⟩ : ByteArray), .int .i64 (1), 17⟩, ⟨.string (⟨#[115]⟩ : ByteArray), .int .i64 (1), 18⟩, ⟨.string (⟨#[116]⟩ : ByteArray), .int .i64 (1), 19⟩, ⟨.string (⟨#[117]⟩ : ByteArray), .int .i64 (1), 20⟩, ⟨.string (⟨#[118]⟩ : ByteArray), .int .i64 (1), 21⟩] 22, unb]
  | .e23 , ls => [rowO (lget ls 0) (esG c_Member w1 w2) 27 w1 3, .cells #[.int .i64 (4), .string (⟨#[115]⟩ : ByteArray), .int .i64 (w0), .bool false, .int .i64 (0), .int .i64 (0), (rowV (lget ls 0) w1 3)] 25, .map #[⟨.string (⟨#[97]⟩ : ByteArray), .int .i64 (1), 0⟩, ⟨.string (⟨#[98]⟩ : ByteArray), .int .i64 (1), 1⟩, ⟨.string (⟨#[99]⟩ : ByteArray), .int .i64 (1), 2⟩, ⟨.string (⟨#[100]⟩ : ByteArray), .int .i64 (1), 3⟩, ⟨.string (⟨#[101]⟩ : ByteArray), .int .i64 (1), 4⟩, ⟨.string (⟨#[102]⟩ : ByteArray), .int .i64 (1), 5⟩, ⟨.string (⟨#[103]⟩ : ByteArray), .int .i64 (1), 6⟩, ⟨.string (⟨#[104]⟩ : ByteArray), .int .i64 (1), 7⟩, ⟨.string (⟨#[105]⟩ : ByteArray), .int .i64 (1), 8⟩, ⟨.string (⟨#[106]⟩ : ByteArray), .int .i64 (1), 9⟩, ⟨.string (⟨#[107]⟩ : ByteArray), .int .i64 (1), 10⟩, ⟨.string (⟨#[108]⟩ : ByteArray), .int .i64 (1), 11⟩, ⟨.string (⟨#[109]⟩ : ByteArray), .int .i64 (1), 12⟩, ⟨.string (⟨#[110]⟩ : ByteArray), .int .i64 (1), 13⟩, ⟨.string (⟨#[111]⟩ : ByteArray), .int .i64 (1), 14⟩, ⟨.string (⟨#[112]⟩ : ByteArray), .int .i64 (1), 15⟩, ⟨.string (⟨#[113]⟩ : ByteArray), .int .i64 (1), 16⟩, ⟨.string (⟨#[114]⟩ : ByteArray), .int .i64 (1), 17⟩, ⟨.string (⟨#[115]⟩ : ByteArray), .int .i64 (1), 18⟩, ⟨.string (⟨#[116]⟩ : ByteArray), .int .i64 (1), 19⟩, ⟨.string (⟨#[117]⟩ : ByteArray), .int .i64 (1), 20⟩, ⟨.string (⟨#[118]⟩ : ByteArray), .int .i64 (1), 21⟩, ⟨.string (⟨#[119]⟩ : ByteArray), .int .i64 (1), 22⟩] 23, unb]
  | .e24 , ls => [rowO (lget ls 0) (esG c_Member w1 w2) 27 w1 3, .cells #[.int .i64 (4), .string (⟨#[115]⟩ : ByteArray), .int .i64 (w0), .bool false, .int .i64 (0), .int .i64 (0), (rowV (lget ls 0) w1 3)] 25, .map #[⟨.string (⟨#[97]⟩ : ByteArray), .int .i64 (1), 0⟩, ⟨.string (⟨#[98]⟩ : ByteArray), .int .i64 (1), 1⟩, ⟨.string (⟨#[99]⟩ : ByteArray), .int .i64 (1), 2⟩, ⟨.string (⟨#[100]⟩ : ByteArray), .int .i64 (1), 3⟩, ⟨.string (⟨#[101]⟩ : ByteArray), .int .i64 (1), 4⟩, ⟨.string (⟨#[102]⟩ : ByteArray), .int .i64 (1), 5⟩, ⟨.string (⟨#[103]⟩ : ByteArray), .int .i64 (1), 6⟩, ⟨.string (⟨#[104]⟩ : ByteArray), .int .i64 (1), 7⟩, ⟨.string (⟨#[105]⟩ : ByteArray), .int .i64 (1), 8⟩, ⟨.string (⟨#[106]⟩ : ByteArray), .int .i64 (1), 9⟩, ⟨.string (⟨#[107]⟩ : ByteArray), .int .i64 (1), 10⟩, ⟨.string (⟨#[108]⟩ : ByteArray), .int .i64 (1), 11⟩, ⟨.string (⟨#[109]⟩ : ByteArray), .int .i64 (1), 12⟩, ⟨.string (⟨#[110]⟩ : ByteArray), .int .i64 (1), 13⟩, ⟨.string (⟨#[111]⟩ : ByteArray), .int .i64 (1), 14⟩, ⟨.string (⟨#[112]⟩ : ByteArray), .int .i64 (1), 15⟩, ⟨.string (⟨#[113]⟩ : ByteArray), .int .i64 (1), 16⟩, ⟨.string (⟨#[114]⟩ : ByteArray), .int .i64 (1), 17⟩, ⟨.string (⟨#[115]⟩ : ByteArray), .int .i64 (1), 18⟩, ⟨.string (⟨#[116]⟩ : ByteArray), .int .i64 (1), 19⟩, ⟨.string (⟨#[117]⟩ : ByteArray), .int .i64 (1), 20⟩, ⟨.string (⟨#[118]⟩ : ByteArray), .int .i64 (1), 21⟩, ⟨.string (⟨#[119]⟩ : ByteArray), .int .i64 (1), 22⟩, ⟨.string (⟨#[120]⟩ : ByteArray), .int .i64 (1), 23⟩] 24, unb]
  | .e25 , ls => [rowO (lget ls 0) (esG c_Member w1 w2) 27 w1 3, .cells #[.int .i64 (4), .string (⟨#[115]⟩ : ByteArray), .int .i64 (w0), .bool false, .int .i64 (0), .int .i64 (0), (rowV (lget ls 0) w1 3)] 25, .map #[⟨.string (⟨#[97]⟩ : ByteArray), .int .i64 (1), 0⟩, ⟨.string (⟨#[98]⟩ : ByteArray), .int .i64 (1), 1⟩, ⟨.string (⟨#[99]⟩ : ByteArray), .int .i64 (1), 2⟩, ⟨.string (⟨#[100]⟩ : ByteArray), .int .i64 (1), 3⟩, ⟨.string (⟨#[101]⟩ : ByteArray), .int .i64 (1), 4⟩, ⟨.string (⟨#[102]⟩ : ByteArray), .int .i64 (1), 5⟩, ⟨.string (⟨#[103]⟩ : ByteArray), .int .i64 (1), 6⟩, ⟨.string (⟨#[104]⟩ : ByteArray), .int .i64 (1), 7⟩, ⟨.string (⟨#[105]⟩ : ByteArray), .int .i64 (1), 8⟩, ⟨.string (⟨#[106]⟩ : ByteArray), .int .i64 (1), 9⟩, ⟨.string (⟨#[107]⟩ : ByteArray), .int .i64 (1), 10⟩, ⟨.string (⟨#[108]⟩ : ByteArray), .int .i64 (1), 11⟩, ⟨.string (⟨#[109]⟩ : ByteArray), .int .i64 (1), 12⟩, ⟨.string (⟨#[110]⟩ : ByteArray), .int .i64 (1), 13⟩, ⟨.string (⟨#[111]⟩ : ByteArray), .int .i64 (1), 14⟩, ⟨.string (⟨#[112]⟩ : ByteArray), .int .i64 (1), 15⟩, ⟨.string (⟨#[113]⟩ : ByteArray), .int .i64 (1), 16⟩, ⟨.string (⟨#[114]⟩ : ByteArray), .int .i64 (1), 17⟩, ⟨.string (⟨#[115]⟩ : ByteArray), .int .i64 (1), 18⟩, ⟨.string (⟨#[116]⟩ : ByteArray), .int .i64 (1), 19⟩, ⟨.string (⟨#[117]⟩ : ByteArray), .int .i64 (1), 20⟩, ⟨.string (⟨#[118]⟩ : ByteArray), .int .i64 (1), 21⟩, ⟨.string (⟨#[119]⟩ : ByteArray), .int .i64 (1), 22⟩, ⟨.string (⟨#[120]⟩ : ByteArray), .int .i64 (1), 23⟩, ⟨.string (⟨#[121]⟩ : ByteArray), .int .i64 (1), 24⟩] 25, unb]
  | .e26 , ls => [rowO (lget ls 0) (esG c_Member w1 w2) 27 w1 3, .cells #[.int .i64 (4), .string (⟨#[115]⟩ : ByteArray), .int .i64 (w0), .bool false, .int .i64 (0), .int .i64 (0), (rowV (lget ls 0) w1 3)] 25, .map #[⟨.string (⟨#[97]⟩ : ByteArray), .int .i64 (1), 0⟩, ⟨.string (⟨#[98]⟩ : ByteArray), .int .i64 (1), 1⟩, ⟨.string (⟨#[99]⟩ : ByteArray), .int .i64 (1), 2⟩, ⟨.string (⟨#[100]⟩ : ByteArray), .int .i64 (1), 3⟩, ⟨.string (⟨#[101]⟩ : ByteArray), .int .i64 (1), 4⟩, ⟨.string (⟨#[102]⟩ : ByteArray), .int .i64 (1), 5⟩, ⟨.string (⟨#[103]⟩ : ByteArray), .int .i64 (1), 6⟩, ⟨.string (⟨#[104]⟩ : ByteArray), .int .i64 (1), 7⟩, ⟨.string (⟨#[105]⟩ : ByteArray), .int .i64 (1), 8⟩, ⟨.string (⟨#[106]⟩ : ByteArray), .int .i64 (1), 9⟩, ⟨.string (⟨#[107]⟩ : ByteArray), .int .i64 (1), 10⟩, ⟨.string (⟨#[108]⟩ : ByteArray), .int .i64 (1), 11⟩, ⟨.string (⟨#[109]⟩ : ByteArray), .int .i64 (1), 12⟩, ⟨.string (⟨#[110]⟩ : ByteArray), .int .i64 (1), 13⟩, ⟨.string (⟨#[111]⟩ : ByteArray), .int .i64 (1), 14⟩, ⟨.string (⟨#[112]⟩ : ByteArray), .int .i64 (1), 15⟩, ⟨.string (⟨#[113]⟩ : ByteArray), .int .i64 (1), 16⟩, ⟨.string (⟨#[114]⟩ : ByteArray), .int .i64 (1), 17⟩, ⟨.string (⟨#[115]⟩ : ByteArray), .int .i64 (1), 18⟩, ⟨.string (⟨#[116]⟩ : ByteArray), .int .i64 (1), 19⟩, ⟨.string (⟨#[117]⟩ : ByteArray), .int .i64 (1), 20⟩, ⟨.string (⟨#[118]⟩ : ByteArray), .int .i64 (1), 21⟩, ⟨.string (⟨#[119]⟩ : ByteArray), .int .i64 (1), 22⟩, ⟨.string (⟨#[120]⟩ : ByteArray), .int .i64 (1), 23⟩, ⟨.string (⟨#[121]⟩ : ByteArray), .int .i64 (1), 24⟩, ⟨.string (⟨#[122]⟩ : ByteArray), .int .i64 (1), 25⟩] 26, unb]
  | .e27 , ls => [rowO (lget ls 0) (esG c_Member w1 w2) 27 w1 3, .cells #[.int .i64 (4), .string (⟨#[115]⟩ : ByteArray), .int .i64 (w0), .bool false, .int .i64 (0), .int .i64 (0), (rowV (lget ls 0) w1 3)] 25, .map #[⟨.string (⟨#[97]⟩ : ByteArray), .int .i64 (1), 0⟩, ⟨.string (⟨#[98]⟩ : ByteArray), .int .i64 (1), 1⟩, ⟨.string (⟨#[99]⟩ : ByteArray), .int .i64 (1), 2⟩, ⟨.string (⟨#[100]⟩ : ByteArray), .int .i64 (1), 3⟩, ⟨.string (⟨#[101]⟩ : ByteArray), .int .i64 (1), 4⟩, ⟨.string (⟨#[102]⟩ : ByteArray), .int .i64 (1), 5⟩, ⟨.string (⟨#[103]⟩ : ByteArray), .int .i64 (1), 6⟩, ⟨.string (⟨#[104]⟩ : ByteArray), .int .i64 (1), 7⟩, ⟨.string (⟨#[105]⟩ : ByteArray), .int .i64 (1), 8⟩, ⟨.string (⟨#[106]⟩ : ByteArray), .int .i64 (1), 9⟩, ⟨.string (⟨#[107]⟩ : ByteArray), .int .i64 (1), 10⟩, ⟨.string (⟨#[108]⟩ : ByteArray), .int .i64 (1), 11⟩, ⟨.string (⟨#[109]⟩ : ByteArray), .int .i64 (1), 12⟩, ⟨.string (⟨#[110]⟩ : ByteArray), .int .i64 (1), 13⟩, ⟨.string (⟨#[111]⟩ : ByteArray), .int .i64 (1), 14⟩, ⟨.string (⟨#[112]⟩ : ByteArray), .int .i64 (1), 15⟩, ⟨.string (⟨#[113]⟩ : ByteArray), .int .i64 (1), 16⟩, ⟨.string (⟨#[114]⟩ : ByteArray), .int .i64 (1), 17⟩, ⟨.string (⟨#[115]⟩ : ByteArray), .int .i64 (1), 18⟩, ⟨.string (⟨#[116]⟩ : ByteArray), .int .i64 (1), 19⟩, ⟨.string (⟨#[117]⟩ : ByteArray), .int .i64 (1), 20⟩, ⟨.string (⟨#[118]⟩ : ByteArray), .int .i64 (1), 21⟩, ⟨.string (⟨#[119]⟩ : ByteArray), .int .i64 (1), 22⟩, ⟨.string (⟨#[120]⟩ : ByteArray), .int .i64 (1), 23⟩, ⟨.string (⟨#[121]⟩ : ByteArray), .int .i64 (1), 24⟩, ⟨.string (⟨#[122]⟩ : ByteArray), .int .i64 (1), 25⟩, ⟨.string (⟨#[65]⟩ : ByteArray), .int .i64 (1), 26⟩] 27, unb]
  | .e28 , ls => [rowO (lget ls 0) (esG c_Member w1 w2) 27 w1 3, .cells #[.int .i64 (4), .string (⟨#[115]⟩ : ByteArray), .int .i64 (w0), .bool false, .int .i64 (0), .int .i64 (0), (rowV (lget ls 0) w1 3)] 25, .map #[⟨.string (⟨#[97]⟩ : ByteArray), .int .i64 (1), 0⟩, ⟨.string (⟨#[98]⟩ : ByteArray), .int .i64 (1), 1⟩, ⟨.string (⟨#[99]⟩ : ByteArray), .int .i64 (1), 2⟩, ⟨.string (⟨#[100]⟩ : ByteArray), .int .i64 (1), 3⟩, ⟨.string (⟨#[101]⟩ : ByteArray), .int .i64 (1), 4⟩, ⟨.string (⟨#[102]⟩ : ByteArray), .int .i64 (1), 5⟩, ⟨.string (⟨#[103]⟩ : ByteArray), .int .i64 (1), 6⟩, ⟨.string (⟨#[104]⟩ : ByteArray), .int .i64 (1), 7⟩, ⟨.string (⟨#[105]⟩ : ByteArray), .int .i64 (1), 8⟩, ⟨.string (⟨#[106]⟩ : ByteArray), .int .i64 (1), 9⟩, ⟨.string (⟨#[107]⟩ : ByteArray), .int .i64 (1), 10⟩, ⟨.string (⟨#[108]⟩ : ByteArray), .int .i64 (1), 11⟩, ⟨.string (⟨#[109]⟩ : ByteArray), .int .i64 (1), 12⟩, ⟨.string (⟨#[110]⟩ : ByteArray), .int .i64 (1), 13⟩, ⟨.string (⟨#[111]⟩ : ByteArray), .int .i64 (1), 14⟩, ⟨.string (⟨#[112]⟩ : ByteArray), .int .i64 (1), 15⟩, ⟨.string (⟨#[113]⟩ : ByteArray), .int .i64 (1), 16⟩, ⟨.string (⟨#[114]⟩ : ByteArray), .int .i64 (1), 17⟩, ⟨.string (⟨#[115]⟩ : ByteArray), .int .i64 (1), 18⟩, ⟨.string (⟨#[116]⟩ : ByteArray), .int .i64 (1), 19⟩, ⟨.string (⟨#[117]⟩ : ByteArray), .int .i64 (1), 20⟩, ⟨.string (⟨#[118]⟩ : ByteArray), .int .i64 (1), 21⟩, ⟨.string (⟨#[119]⟩ : ByteArray), .int .i64 (1), 22⟩, ⟨.string (⟨#[120]⟩ : ByteArray), .int .i64 (1), 23⟩, ⟨.string (⟨#[121]⟩ : ByteArray), .int .i64 (1), 24⟩, ⟨.string (⟨#[122]⟩ : ByteArray), .int .i64 (1), 25⟩, ⟨.string (⟨#[65]⟩ : ByteArray), .int .i64 (1), 26⟩, ⟨.string (⟨#[66]⟩ : ByteArray), .int .i64 (1), 27⟩] 28, unb]
  | .e29 , ls => [rowO (lget ls 0) (esG c_Member w1 w2) 27 w1 3, .cells #[.int .i64 (4), .string (⟨#[115]⟩ : ByteArray), .int .i64 (w0), .bool false, .int .i64 (0), .int .i64 (0), (rowV (lget ls 0) w1 3)] 25, .map #[⟨.string (⟨#[97]⟩ : ByteArray), .int .i64 (1), 0⟩, ⟨.string (⟨#[98]⟩ : ByteArray), .int .i64 (1), 1⟩, ⟨.string (⟨#[99]⟩ : ByteArray), .int .i64 (1), 2⟩, ⟨.string (⟨#[100]⟩ : ByteArray), .int .i64 (1), 3⟩, ⟨.string (⟨#[101]⟩ : ByteArray), .int .i64 (1), 4⟩, ⟨.string (⟨#[102]⟩ : ByteArray), .int .i64 (1), 5⟩, ⟨.string (⟨#[103]⟩ : ByteArray), .int .i64 (1), 6⟩, ⟨.string (⟨#[104]⟩ : ByteArray), .int .i64 (1), 7⟩, ⟨.string (⟨#[105]⟩ : ByteArray), .int .i64 (1), 8⟩, ⟨.string (⟨#[106]⟩ : ByteArray), .int .i64 (1), 9⟩, ⟨.string (⟨#[107]⟩ : ByteArray), .int .i64 (1), 10⟩, ⟨.string (⟨#[108]⟩ : ByteArray), .int .i64 (1), 11⟩, ⟨.string (⟨#[109]⟩ : ByteArray), .int .i64 (1), 12⟩, ⟨.string (⟨#[110]⟩ : ByteArray), .int .i64 (1), 13⟩, ⟨.string (⟨#[111]⟩ : ByteArray), .int .i64 (1), 14⟩, ⟨.string (⟨#[112]⟩ : ByteArray), .int .i64 (1), 15⟩, ⟨.string (⟨#[113]⟩ : ByteArray), .int .i64 (1), 16⟩, ⟨.string (⟨#[114]⟩ : ByteArray), .int .i64 (1), 17⟩, ⟨.string (⟨#[115]⟩ : ByteArray), .int .i64 (1), 18⟩, ⟨.string (⟨#[116]⟩ : ByteArray), .int .i64 (1), 19⟩, ⟨.string (⟨#[117]⟩ : ByteArray), .int .i64 (1), 20⟩, ⟨.string (⟨#[118]⟩ : ByteArray), .int .i64 (1), 21⟩, ⟨.string (⟨#[119]⟩ : ByteArray), .int .i64 (1), 22⟩, ⟨.string (⟨#[120]⟩ : ByteArray), .int .i64 (1), 23⟩, ⟨.string (⟨#[121]⟩ : ByteArray), .int .i64 (1), 24⟩, ⟨.string (⟨#[122]⟩ : ByteArray), .int .i64 (1), 25⟩, ⟨.string (⟨#[65]⟩ : ByteArray), .int .i64 (1), 26⟩, ⟨.string (⟨#[66]⟩ : ByteArray), .int .i64 (1), 27⟩, ⟨.string (⟨#[67]⟩ : ByteArray), .int .i64 (1), 28⟩] 29, unb]
  | .e30 , ls => [rowO (lget ls 0) (esG c_Member w1 w2) 27 w1 3, .cells #[.int .i64 (4), .string (⟨#[115]⟩ : ByteArray), .int .i64 (w0), .bool false, .int .i64 (0), .int .i64 (0), (rowV (lget ls 0) w1 3)] 25, .map #[⟨.string (⟨#[97]⟩ : ByteArray), .int .i64 (1), 0⟩, ⟨.string (⟨#[98]⟩ : ByteArray), .int .i64 (1), 1⟩, ⟨.string (⟨#[99]⟩ : ByteArray), .int .i64 (1), 2⟩, ⟨.string (⟨#[100]⟩ : ByteArray), .int .i64 (1), 3⟩, ⟨.string (⟨#[101]⟩ : ByteArray), .int .i64 (1), 4⟩, ⟨.string (⟨#[102]⟩ : ByteArray), .int .i64 (1), 5⟩, ⟨.string (⟨#[103]⟩ : ByteArray), .int .i64 (1), 6⟩, ⟨.string (⟨#[104]⟩ : ByteArray), .int .i64 (1), 7⟩, ⟨.string (⟨#[105]⟩ : ByteArray), .int .i64 (1), 8⟩, ⟨.string (⟨#[106]⟩ : ByteArray), .int .i64 (1), 9⟩, ⟨.string (⟨#[107]⟩ : ByteArray), .int .i64 (1), 10⟩, ⟨.string (⟨#[108]⟩ : ByteArray), .int .i64 (1), 11⟩, ⟨.string (⟨#[109]⟩ : ByteArray), .int .i64 (1), 12⟩, ⟨.string (⟨#[110]⟩ : ByteArray), .int .i64 (1), 13⟩, ⟨.string (⟨#[111]⟩ : ByteArray), .int .i64 (1), 14⟩, ⟨.string (⟨#[112]⟩ : ByteArray), .int .i64 (1), 15⟩, ⟨.string (⟨#[113]⟩ : ByteArray), .int .i64 (1), 16⟩, ⟨.string (⟨#[114]⟩ : ByteArray), .int .i64 (1), 17⟩, ⟨.string (⟨#[115]⟩ : ByteArray), .int .i64 (1), 18⟩, ⟨.string (⟨#[116]⟩ : ByteArray), .int .i64 (1), 19⟩, ⟨.string (⟨#[117]⟩ : ByteArray), .int .i64 (1), 20⟩, ⟨.string (⟨#[118]⟩ : ByteArray), .int .i64 (1), 21⟩, ⟨.string (⟨#[119]⟩ : ByteArray), .int .i64 (1), 22⟩, ⟨.string (⟨#[120]⟩ : ByteArray), .int .i64 (1), 23⟩, ⟨.string (⟨#[121]⟩ : ByteArray), .int .i64 (1), 24⟩, ⟨.string (⟨#[122]⟩ : ByteArray), .int .i64 (1), 25⟩, ⟨.string (⟨#[65]⟩ : ByteArray), .int .i64 (1), 26⟩, ⟨.string (⟨#[66]⟩ : ByteArray), .int .i64 (1), 27⟩, ⟨.string (⟨#[67]⟩ : ByteArray), .int .i64 (1), 28⟩, ⟨.string (⟨#[68]⟩ : ByteArray), .int .i64 (1), 29⟩] 30, unb]
  | .e31 , ls => [rowO (lget ls 0) (esG c_Member w1 w2) 27 w1 3, .cells #[.int .i64 (4), .string (⟨#[115]⟩ : ByteArray), .int .i64 (w0), .bool false, .int .i64 (0), .int .i64 (0), (rowV (lget ls 0) w1 3)] 25, .map #[⟨.string (⟨#[97]⟩ : ByteArray), .int .i64 (1), 0⟩, ⟨.string (⟨#[98]⟩ : ByteArray), .int .i64 (1), 1⟩, ⟨.string (⟨#[99]⟩ : ByteArray), .int .i64 (1), 2⟩, ⟨.string (⟨#[100]⟩ : ByteArray), .int .i64 (1), 3⟩, ⟨.string (⟨#[101]⟩ : ByteArray), .int .i64 (1), 4⟩, ⟨.string (⟨#[102]⟩ : ByteArray), .int .i64 (1), 5⟩, ⟨.string (⟨#[103]⟩ : ByteArray), .int .i64 (1), 6⟩, ⟨.string (⟨#[104]⟩ : ByteArray), .int .i64 (1), 7⟩, ⟨.string (⟨#[105]⟩ : ByteArray), .int .i64 (1), 8⟩, ⟨.string (⟨#[106]⟩ : ByteArray), .int .i64 (1), 9⟩, ⟨.string (⟨#[107]⟩ : ByteArray), .int .i64 (1), 10⟩, ⟨.string (⟨#[108]⟩ : ByteArray), .int .i64 (1), 11⟩, ⟨.string (⟨#[109]⟩ : ByteArray), .int .i64 (1), 12⟩, ⟨.string (⟨#[110]⟩ : ByteArray), .int .i64 (1), 13⟩, ⟨.string (⟨#[111]⟩ : ByteArray), .int .i64 (1), 14⟩, ⟨.string (⟨#[112]⟩ : ByteArray), .int .i64 (1), 15⟩, ⟨.string (⟨#[113]⟩ : ByteArray), .int .i64 (1), 16⟩, ⟨.string (⟨#[114]⟩ : ByteArray), .int .i64 (1), 17⟩, ⟨.string (⟨#[115]⟩ : ByteArray), .int .i64 (1), 18⟩, ⟨.string (⟨#[116]⟩ : ByteArray), .int .i64 (1), 19⟩, ⟨.string (⟨#[117]⟩ : ByteArray), .int .i64 (1), 20⟩, ⟨.string (⟨#[118]⟩ : ByteArray), .int .i64 (1), 21⟩, ⟨.string (⟨#[119]⟩ : ByteArray), .int .i64 (1), 22⟩, ⟨.string (⟨#[120]⟩ : ByteArray), .int .i64 (1), 23⟩, ⟨.string (⟨#[121]⟩ : ByteArray), .int .i64 (1), 24⟩, ⟨.string (⟨#[122]⟩ : ByteArray), .int .i64 (1), 25⟩, ⟨.string (⟨#[65]⟩ : ByteArray), .int .i64 (1), 26⟩, ⟨.string (⟨#[66]⟩ : ByteArray), .int .i64 (1), 27⟩, ⟨.string (⟨#[67]⟩ : ByteArray), .int .i64 (1), 28⟩, ⟨.string (⟨#[68]⟩ : ByteArray), .int .i64 (1), 29⟩, ⟨.string (⟨#[69]⟩ : ByteArray), .int .i64 (1), 30⟩] 31, unb]
  | .e32 , ls => [rowO (lget ls 0) (esG c_Member w1 w2) 27 w1 3, .cells #[.int .i64 (4), .string (⟨#[115]⟩ : ByteArray), .int .i64 (w0), .bool false, .int .i64 (0), .int .i64 (0), (rowV (lget ls 0) w1 3)] 25, .map #[⟨.string (⟨#[97]⟩ : ByteArray), .int .i64 (1), 0⟩, ⟨.string (⟨#[98]⟩ : ByteArray), .int .i64 (1), 1⟩, ⟨.string (⟨#[99]⟩ : ByteArray), .int .i64 (1), 2⟩, ⟨.string (⟨#[100]⟩ : ByteArray), .int .i64 (1), 3⟩, ⟨.string (⟨#[101]⟩ : ByteArray), .int .i64 (1), 4⟩, ⟨.string (⟨#[102]⟩ : ByteArray), .int .i64 (1), 5⟩, ⟨.string (⟨#[103]⟩ : ByteArray), .int .i64 (1), 6⟩, ⟨.string (⟨#[104]⟩ : ByteArray), .int .i64 (1), 7⟩, ⟨.string (⟨#[105]⟩ : ByteArray), .int .i64 (1), 8⟩, ⟨.string (⟨#[106]⟩ : ByteArray), .int .i64 (1), 9⟩, ⟨.string (⟨#[107]⟩ : ByteArray), .int .i64 (1), 10⟩, ⟨.string (⟨#[108]⟩ : ByteArray), .int .i64 (1), 11⟩, ⟨.string (⟨#[109]⟩ : ByteArray), .int .i64 (1), 12⟩, ⟨.string (⟨#[110]⟩ : ByteArray), .int .i64 (1), 13⟩, ⟨.string (⟨#[111]⟩ : ByteArray), .int .i64 (1), 14⟩, ⟨.string (⟨#[112]⟩ : ByteArray), .int .i64 (1), 15⟩, ⟨.string (⟨#[113]⟩ : ByteArray), .int .i64 (1), 16⟩, ⟨.string (⟨#[114]⟩ : ByteArray), .int .i64 (1), 17⟩, ⟨.string (⟨#[115]⟩ : ByteArray), .int .i64 (1), 18⟩, ⟨.string (⟨#[116]⟩ : ByteArray), .int .i64 (1), 19⟩, ⟨.string (⟨#[117]⟩ : ByteArray), .int .i64 (1), 20⟩, ⟨.string (⟨#[118]⟩ : ByteArray), .int .i64 (1), 21⟩, ⟨.string (⟨#[119]⟩ : ByteArray), .int .i64 (1), 22⟩, ⟨.string (⟨#[120]⟩ : ByteArray), .int .i64 (1), 23⟩, ⟨.string (⟨#[121]⟩ : ByteArray), .int .i64 (1), 24⟩, ⟨.string (⟨#[122]⟩ : ByteArray), .int .i64 (1), 25⟩, ⟨.string (⟨#[65]⟩ : ByteArray), .int .i64 (1), 26⟩, ⟨.string (⟨#[66]⟩ : ByteArray), .int .i64 (1), 27⟩, ⟨.string (⟨#[67]⟩ : ByteArray), .int .i64 (1), 28⟩, ⟨.string (⟨#[68]⟩ : ByteArray), .int .i64 (1), 29⟩, ⟨.string (⟨#[69]⟩ : ByteArray), .int .i64 (1), 30⟩, ⟨.string (⟨#[70]⟩ : ByteArray), .int .i64 (1), 31⟩] 32, unb]
  | .e33 , ls => [rowO (lget ls 0) (esG c_Member w1 w2) 27 w1 3, .cells #[.int .i64 (4), .string (⟨#[115]⟩ : ByteArray), .int .i64 (w0), .bool false, .int .i64 (0), .int .i64 (0), (rowV (lget ls 0) w1 3)] 25, .map #[⟨.string (⟨#[97]⟩ : ByteArray), .int .i64 (1), 0⟩, ⟨.string (⟨#[98]⟩ : ByteArray), .int .i64 (1), 1⟩, ⟨.string (⟨#[99]⟩ : ByteArray), .int .i64 (1), 2⟩, ⟨.string (⟨#[100]⟩ : ByteArray), .int .i64 (1), 3⟩, ⟨.string (⟨#[101]⟩ : ByteArray), .int .i64 (1), 4⟩, ⟨.string (⟨#[102]⟩ : ByteArray), .int .i64 (1), 5⟩, ⟨.string (⟨#[103]⟩ : ByteArray), .int .i64 (1), 6⟩, ⟨.string (⟨#[104]⟩ : ByteArray), .int .i64 (1), 7⟩, ⟨.string (⟨#[105]⟩ : ByteArray), .int .i64 (1), 8⟩, ⟨.string (⟨#[106]⟩ : ByteArray), .int .i64 (1), 9⟩, ⟨.string (⟨#[107]⟩ : ByteArray), .int .i64 (1), 10⟩, ⟨.string (⟨#[108]⟩ : ByteArray), .int .i64 (1), 11⟩, ⟨.string (⟨#[109]⟩ : ByteArray), .int .i64 (1), 12⟩, ⟨.string (⟨#[110]⟩ : ByteArray), .int .i64 (1), 13⟩, ⟨.string (⟨#[111]⟩ : ByteArray), .int .i64 (1), 14⟩, ⟨.string (⟨#[112]⟩ : ByteArray), .int .i64 (1), 15⟩, ⟨.string (⟨#[113]⟩ : ByteArray), .int .i64 (1), 16⟩, ⟨.string (⟨#[114]⟩ : ByteArray), .int .i64 (1), 17⟩, ⟨.string (⟨#[115]⟩ : ByteArray), .int .i64 (1), 18⟩, ⟨.string (⟨#[116]⟩ : ByteArray), .int .i64 (1), 19⟩, ⟨.string (⟨#[117]⟩ : ByteArray), .int .i64 (1), 20⟩, ⟨.string (⟨#[118]⟩ : ByteArray), .int .i64 (1), 21⟩, ⟨.string (⟨#[119]⟩ : ByteArray), .int .i64 (1), 22⟩, ⟨.string (⟨#[120]⟩ : ByteArray), .int .i64 (1), 23⟩, ⟨.string (⟨#[121]⟩ : ByteArray), .int .i64 (1), 24⟩, ⟨.string (⟨#[122]⟩ : ByteArray), .int .i64 (1), 25⟩, ⟨.string (⟨#[65]⟩ : ByteArray), .int .i64 (1), 26⟩, ⟨.string (⟨#[66]⟩ : ByteArray), .int .i64 (1), 27⟩, ⟨.string (⟨#[67]⟩ : ByteArray), .int .i64 (1), 28⟩, ⟨.string (⟨#[68]⟩ : ByteArray), .int .i64 (1), 29⟩, ⟨.string (⟨#[69]⟩ : ByteArray), .int .i64 (1), 30⟩, ⟨.string (⟨#[70]⟩ : ByteArray), .int .i64 (1), 31⟩, ⟨.string (⟨#[71]⟩ : ByteArray), .int .i64 (1), 32⟩] 33, unb]
  | .e34 , ls => [rowO (lget ls 0) (esG c_Member w1 w2) 27 w1 3, .cells #[.int .i64 (4), .string (⟨#[115]⟩ : ByteArray), .int .i64 (w0), .bool false, .int .i64 (0), .int .i64 (0), (rowV (lget ls 0) w1 3)] 25, .map #[⟨.string (⟨#[97]⟩ : ByteArray), .int .i64 (1), 0⟩, ⟨.string (⟨#[98]⟩ : ByteArray), .int .i64 (1), 1⟩, ⟨.string (⟨#[99]⟩ : ByteArray), .int .i64 (1), 2⟩, ⟨.string (⟨#[100]⟩ : ByteArray), .int .i64 (1), 3⟩, ⟨.string (⟨#[101]⟩ : ByteArray), .int .i64 (1), 4⟩, ⟨.string (⟨#[102]⟩ : ByteArray), .int .i64 (1), 5⟩, ⟨.string (⟨#[103]⟩ : ByteArray), .int .i64 (1), 6⟩, ⟨.string (⟨#[104]⟩ : ByteArray), .int .i64 (1), 7⟩, ⟨.string (⟨#[105]⟩ : ByteArray), .int .i64 (1), 8⟩, ⟨.string (⟨#[106]⟩ : ByteArray), .int .i64 (1), 9⟩, ⟨.string (⟨#[107]⟩ : ByteArray), .int .i64 (1), 10⟩, ⟨.string (⟨#[108]⟩ : ByteArray), .int .i64 (1), 11⟩, ⟨.string (⟨#[109]⟩ : ByteArray), .int .i64 (1), 12⟩, ⟨.string (⟨#[110]⟩ : ByteArray), .int .i64 (1), 13⟩, ⟨.string (⟨#[111]⟩ : ByteArray), .int .i64 (1), 14⟩, ⟨.string (⟨#[112]⟩ : ByteArray), .int .i64 (1), 15⟩, ⟨.string (⟨#[113]⟩ : ByteArray), .int .i64 (1), 16⟩, ⟨.string (⟨#[114]⟩ : ByteArray), .int .i64 (1), 17⟩, ⟨.string (⟨#[115]⟩ : ByteArray), .int .i64 (1), 18⟩, ⟨.string (⟨#[116]⟩ : ByteArray), .int .i64 (1), 19⟩, ⟨.string (⟨#[117]⟩ : ByteArray), .int .i64 (1), 20⟩, ⟨.string (⟨#[118]⟩ : ByteArray), .int .i64 (1), 21⟩, ⟨.string (⟨#[119]⟩ : ByteArray), .int .i64 (1), 22⟩, ⟨.string (⟨#[120]⟩ : ByteArray), .int .i64 (1), 23⟩, ⟨.string (⟨#[121]⟩ : ByteArray), .int .i64 (1), 24⟩, ⟨.string (⟨#[122]⟩ : ByteArray), .int .i64 (1), 25⟩, ⟨.string (⟨#[65]⟩ : ByteArray), .int .i64 (1), 26⟩, ⟨.string (⟨#[66]⟩ : ByteArray), .int .i64 (1), 27⟩, ⟨.string (⟨#[67]⟩ : ByteArray), .int .i64 (1), 28⟩, ⟨.string (⟨#[68]⟩ : ByteArray), .int .i64 (1), 29⟩, ⟨.string (⟨#[69]⟩ : ByteArray), .int .i64 (1), 30⟩, ⟨.string (⟨#[70]⟩ : ByteArray), .int .i64 (1), 31⟩, ⟨.string (⟨#[71]⟩ : ByteArray), .int .i64 (1), 32⟩, ⟨.string (⟨#[72]⟩ : ByteArray), .int .i64 (1), 33⟩] 34, unb]
  | .e35 , ls => [rowO (lget ls 0) (esG c_Member w1 w2) 27 w1 3, .cells #[.int .i64 (4), .string (⟨#[115]⟩ : ByteArray), .int .i64 (w0), .bool false, .int .i64 (0), .int .i64 (0), (rowV (lget ls 0) w1 3)] 25, .map #[⟨.string (⟨#[97]⟩ : ByteArray), .int .i64 (1), 0⟩, ⟨.string (⟨#[98]⟩ : ByteArray), .int .i64 (1), 1⟩, ⟨.string (⟨#[99]⟩ : ByteArray), .int .i64 (1), 2⟩, ⟨.string (⟨#[100]⟩ : ByteArray), .int .i64 (1), 3⟩, ⟨.string (⟨#[101]⟩ : ByteArray), .int .i64 (1), 4⟩, ⟨.string (⟨#[102]⟩ : ByteArray), .int .i64 (1), 5⟩, ⟨.string (⟨#[103]⟩ : ByteArray), .int .i64 (1), 6⟩, ⟨.string (⟨#[104]⟩ : ByteArray), .int .i64 (1), 7⟩, ⟨.string (⟨#[105]⟩ : ByteArray), .int .i64 (1), 8⟩, ⟨.string (⟨#[106]⟩ : ByteArray), .int .i64 (1), 9⟩, ⟨.string (⟨#[107]⟩ : ByteArray), .int .i64 (1), 10⟩, ⟨.string (⟨#[108]⟩ : ByteArray), .int .i64 (1), 11⟩, ⟨.string (⟨#[109]⟩ : ByteArray), .int .i64 (1), 12⟩, ⟨.string (⟨#[110]⟩ : ByteArray), .int .i64 (1), 13⟩, ⟨.string (⟨#[111]⟩ : ByteArray), .int .i64 (1), 14⟩, ⟨.string (⟨#[112]⟩ : ByteArray), .int .i64 (1), 15⟩, ⟨.string (⟨#[113]⟩ : ByteArray), .int .i64 (1), 16⟩, ⟨.string (⟨#[114]⟩ : ByteArray), .int .i64 (1), 17⟩, ⟨.string (⟨#[115]⟩ : ByteArray), .int .i64 (1), 18⟩, ⟨.string (⟨#[116]⟩ : ByteArray), .int .i64 (1), 19⟩, ⟨.string (⟨#[117]⟩ : ByteArray), .int .i64 (1), 20⟩, ⟨.string (⟨#[118]⟩ : ByteArray), .int .i64 (1), 21⟩, ⟨.string (⟨#[119]⟩ : ByteArray), .int .i64 (1), 22⟩, ⟨.string (⟨#[120]⟩ : ByteArray), .int .i64 (1), 23⟩, ⟨.string (⟨#[121]⟩ : ByteArray), .int .i64 (1), 24⟩, ⟨.string (⟨#[122]⟩ : ByteArray), .int .i64 (1), 25⟩, ⟨.string (⟨#[65]⟩ : ByteArray), .int .i64 (1), 26⟩, ⟨.string (⟨#[66]⟩ : ByteArray), .int .i64 (1), 27⟩, ⟨.string (⟨#[67]⟩ : ByteArray), .int .i64 (1), 28⟩, ⟨.string (⟨#[68]⟩ : ByteArray), .int .i64 (1), 29⟩, ⟨.string (⟨#[69]⟩ : ByteArray), .int .i64 (1), 30⟩, ⟨.string (⟨#[70]⟩ : ByteArray), .int .i64 (1), 31⟩, ⟨.string (⟨#[71]⟩ : ByteArray), .int .i64 (1), 32⟩, ⟨.string (⟨#[72]⟩ : ByteArray), .int .i64 (1), 33⟩, ⟨.string (⟨#[73]⟩ : ByteArray), .int .i64 (1), 34⟩] 35, unb]
  | .e36 , ls => [rowO (lget ls 0) (esG c_Member w1 w2) 27 w1 3, .cells #[.int .i64 (4), .string (⟨#[115]⟩ : ByteArray), .int .i64 (w0), .bool false, .int .i64 (0), .int .i64 (0), (rowV (lget ls 0) w1 3)] 25, .map #[⟨.string (⟨#[97]⟩ : ByteArray), .int .i64 (1), 0⟩, ⟨.string (⟨#[98]⟩ : ByteArray), .int .i64 (1), 1⟩, ⟨.string (⟨#[99]⟩ : ByteArray), .int .i64 (1), 2⟩, ⟨.string (⟨#[100]⟩ : ByteArray), .int .i64 (1), 3⟩, ⟨.string (⟨#[101]⟩ : ByteArray), .int .i64 (1), 4⟩, ⟨.string (⟨#[102]⟩ : ByteArray), .int .i64 (1), 5⟩, ⟨.string (⟨#[103]⟩ : ByteArray), .int .i64 (1), 6⟩, ⟨.string (⟨#[104]⟩ : ByteArray), .int .i64 (1), 7⟩, ⟨.string (⟨#[105]⟩ : ByteArray), .int .i64 (1), 8⟩, ⟨.string (⟨#[106]⟩ : ByteArray), .int .i64 (1), 9⟩, ⟨.string (⟨#[107]⟩ : ByteArray), .int .i64 (1), 10⟩, ⟨.string (⟨#[108]⟩ : ByteArray), .int .i64 (1), 11⟩, ⟨.string (⟨#[109]⟩ : ByteArray), .int .i64 (1), 12⟩, ⟨.string (⟨#[110]⟩ : ByteArray), .int .i64 (1), 13⟩, ⟨.string (⟨#[111]⟩ : ByteArray), .int .i64 (1), 14⟩, ⟨.string (⟨#[112]⟩ : ByteArray), .int .i64 (1), 15⟩, ⟨.string (⟨#[113]⟩ : ByteArray), .int .i64 (1), 16⟩, ⟨.string (⟨#[114]⟩ : ByteArray), .int .i64 (1), 17⟩, ⟨.string (⟨#[115]⟩ : ByteArray), .int .i64 (1), 18⟩, ⟨.string (⟨#[116]⟩ : ByteArray), .int .i64 (1), 19⟩, ⟨.string (⟨#[117]⟩ : ByteArray), .int .i64 (1), 20⟩, ⟨.string (⟨#[118]⟩ : ByteArray), .int .i64 (1), 21⟩, ⟨.string (⟨#[119]⟩ : ByteArray), .int .i64 (1), 22⟩, ⟨.string (⟨#[120]⟩ : ByteArray), .int .i64 (1), 23⟩, ⟨.string (⟨#[121]⟩ : ByteArray), .int .i64 (1), 24⟩, ⟨.string (⟨#[122]⟩ : ByteArray), .int .i64 (1), 25⟩, ⟨.string (⟨#[65]⟩ : ByteArray), .int .i64 (1), 26⟩, ⟨.string (⟨#[66]⟩ : ByteArray), .int .i64 (1), 27⟩, ⟨.string (⟨#[67]⟩ : ByteArray), .int .i64 (1), 28⟩, ⟨.string (⟨#[68]⟩ : ByteArray), .int .i64 (1), 29⟩, ⟨.string (⟨#[69]⟩ : ByteArray), .int .i64 (1), 30⟩, ⟨.string (⟨#[70]⟩ : ByteArray), .int .i64 (1), 31⟩, ⟨.string (⟨#[71]⟩ : ByteArray), .int .i64 (1), 32⟩, ⟨.string (⟨#[72]⟩ : ByteArray), .int .i64 (1), 33⟩, ⟨.string (⟨#[73]⟩ : ByteArray), .int .i64 (1), 34⟩, ⟨.string (⟨#[74]⟩ : ByteArray), .int .i64 (1), 35⟩] 36, unb]
  | .e37 , ls => [rowO (lget ls 0) (esG c_Member w1 w2) 27 w1 3, .cells #[.int .i64 (4), .string (⟨#[115]⟩ : ByteArray), .int .i64 (w0), .bool false, .int .i64 (0), .int .i64 (0), (rowV (lget ls 0) w1 3)] 25, .map #[⟨.string (⟨#[97]⟩ : ByteArray), .int .i64 (1), 0⟩, ⟨.string (⟨#[98]⟩ : ByteArray), .int .i64 (1), 1⟩, ⟨.string (⟨#[99]⟩ : ByteArray), .int .i64 (1), 2⟩, ⟨.string (⟨#[100]⟩ : ByteArray), .int .i64 (1), 3⟩, ⟨.string (⟨#[101]⟩ : ByteArray), .int .i64 (1), 4⟩, ⟨.string (⟨#[102]⟩ : ByteArray), .int .i64 (1), 5⟩, ⟨.string (⟨#[103]⟩ : ByteArray), .int .i64 (1), 6⟩, ⟨.string (⟨#[104]⟩ : ByteArray), .int .i64 (1), 7⟩, ⟨.string (⟨#[105]⟩ : ByteArray), .int .i64 (1), 8⟩, ⟨.string (⟨#[106]⟩ : ByteArray), .int .i64 (1), 9⟩, ⟨.string (⟨#[107]⟩ : ByteArray), .int .i64 (1), 10⟩, ⟨.string (⟨#[108]⟩ : ByteArray), .int .i64 (1), 11⟩, ⟨.string (⟨#[109]⟩ : ByteArray), .int .i64 (1), 12⟩, ⟨.string (⟨#[110]⟩ : ByteArray), .int .i64 (1), 13⟩, ⟨.string (⟨#[111]⟩ : ByteArray), .int .i64 (1), 14⟩, ⟨.string (⟨#[112]⟩ : ByteArray), .int .i64 (1), 15⟩, ⟨.string (⟨#[113]⟩ : ByteArray), .int .i64 (1), 16⟩, ⟨.string (⟨#[114]⟩ : ByteArray), .int .i64 (1), 17⟩, ⟨.string (⟨#[115]⟩ : ByteArray), .int .i64 (1), 18⟩, ⟨.string (⟨#[116]⟩ : ByteArray), .int .i64 (1), 19⟩, ⟨.string (⟨#[117]⟩ : ByteArray), .int .i64 (1), 20⟩, ⟨.string (⟨#[118]⟩ : ByteArray), .int .i64 (1), 21⟩, ⟨.string (⟨#[119]⟩ : ByteArray), .int .i64 (1), 22⟩, ⟨.string (⟨#[120]⟩ : ByteArray), .int .i64 (1), 23⟩, ⟨.string (⟨#[121]⟩ : ByteArray), .int .i64 (1), 24⟩, ⟨.string (⟨#[122]⟩ : ByteArray), .int .i64 (1), 25⟩, ⟨.string (⟨#[65]⟩ : ByteArray), .int .i64 (1), 26⟩, ⟨.string (⟨#[66]⟩ : ByteArray), .int .i64 (1), 27⟩, ⟨.string (⟨#[67]⟩ : ByteArray), .int .i64 (1), 28⟩, ⟨.string (⟨#[68]⟩ : ByteArray), .int .i64 (1), 29⟩, ⟨.string (⟨#[69]⟩ : ByteArray), .int .i64 (1), 30⟩, ⟨.string (⟨#[70]⟩ : ByteArray), .int .i64 (1), 31⟩, ⟨.string (⟨#[71]⟩ : ByteArray), .int .i64 (1), 32⟩, ⟨.string (⟨#[72]⟩ : ByteArray), .int .i64 (1), 33⟩, ⟨.string (⟨#[73]⟩ : ByteArray), .int .i64 (1), 34⟩, ⟨.string (⟨#[74]⟩ : ByteArray), .int .i64 (1), 35⟩, ⟨.string (⟨#[75]⟩ : ByteArray), .int .i64 (1), 36⟩] 37, unb]
  | .e38 , ls => [rowO (lget ls 0) (esG c_Member w1 w2) 27 w1 3, .cells #[.int .i64 (4), .string (⟨#[115]⟩ : ByteArray), .int .i64 (w0), .bool false, .int .i64 (0), .int .i64 (0), (rowV (lget ls 0) w1 3)] 25, .map #[⟨.string (⟨#[97]⟩ : ByteArray), .int .i64 (1), 0⟩, ⟨.string (⟨#[98]⟩ : ByteArray), .int .i64 (1), 1⟩, ⟨.string (⟨#[99]⟩ : ByteArray), .int .i64 (1), 2⟩, ⟨.string (⟨#[100]⟩ : ByteArray), .int .i64 (1), 3⟩, ⟨.string (⟨#[101]⟩ : ByteArray), .int .i64 (1), 4⟩, ⟨.string (⟨#[102]⟩ : ByteArray), .int .i64 (1), 5⟩, ⟨.string (⟨#[103]⟩ : ByteArray), .int .i64 (1), 6⟩, ⟨.string (⟨#[104]⟩ : ByteArray), .int .i64 (1), 7⟩, ⟨.string (⟨#[105]⟩ : ByteArray), .int .i64 (1), 8⟩, ⟨.string (⟨#[106]⟩ : ByteArray), .int .i64 (1), 9⟩, ⟨.string (⟨#[107]⟩ : ByteArray), .int .i64 (1), 10⟩, ⟨.string (⟨#[108]⟩ : ByteArray), .int .i64 (1), 11⟩, ⟨.string (⟨#[109]⟩ : ByteArray), .int .i64 (1), 12⟩, ⟨.string (⟨#[110]⟩ : ByteArray), .int .i64 (1), 13⟩, ⟨.string (⟨#[111]⟩ : ByteArray), .int .i64 (1), 14⟩, ⟨.string (⟨#[112]⟩ : ByteArray), .int .i64 (1), 15⟩, ⟨.string (⟨#[113]⟩ : ByteArray), .int .i64 (1), 16⟩, ⟨.string (⟨#[114]⟩ : ByteArray), .int .i64 (1), 17⟩, ⟨.string (⟨#[115]⟩ : ByteArray), .int .i64 (1), 18⟩, ⟨.string (⟨#[116]⟩ : ByteArray), .int .i64 (1), 19⟩, ⟨.string (⟨#[117]⟩ : ByteArray), .int .i64 (1), 20⟩, ⟨.string (⟨#[118]⟩ : ByteArray), .int .i64 (1), 21⟩, ⟨.string (⟨#[119]⟩ : ByteArray), .int .i64 (1), 22⟩, ⟨.string (⟨#[120]⟩ : ByteArray), .int .i64 (1), 23⟩, ⟨.string (⟨#[121]⟩ : ByteArray), .int .i64 (1), 24⟩, ⟨.string (⟨#[122]⟩ : ByteArray), .int .i64 (1), 25⟩, ⟨.string (⟨#[65]⟩ : ByteArray), .int .i64 (1), 26⟩, ⟨.string (⟨#[66]⟩ : ByteArray), .int .i64 (1), 27⟩, ⟨.string (⟨#[67]⟩ : ByteArray), .int .i64 (1), 28⟩, ⟨.string (⟨#[68]⟩ : ByteArray), .int .i64 (1), 29⟩, ⟨.string (⟨#[69]⟩ : ByteArray), .int .i64 (1), 30⟩, ⟨.string (⟨#[70]⟩ : ByteArray), .int .i64 (1), 31⟩, ⟨.string (⟨#[71]⟩ : ByteArray), .int .i64 (1), 32⟩, ⟨.string (⟨#[72]⟩ : ByteArray), .int .i64 (1), 33⟩, ⟨.string (⟨#[73]⟩ : ByteArray), .int .i64 (1), 34⟩, ⟨.string (⟨#[74]⟩ : ByteArray), .int .i64 (1), 35⟩, ⟨.string (⟨#[75]⟩ : ByteArray), .int .i64 (1), 36⟩, ⟨.string (⟨#[76]⟩ : ByteArray), .int .i64 (1), 37⟩] 38, unb]
  | .e39 , ls => [rowO (lget ls 0) (esG c_Member w1 w2) 27 w1 3, .cells #[.int .i64 (4), .string (⟨#[115]⟩ : ByteArray), .int .i64 (w0), .bool false, .int .i64 (0), .int .i64 (0), (rowV (lget ls 0) w1 3)] 25, .map #[⟨.string (⟨#[97]⟩ : ByteArray), .int .i64 (1), 0⟩, ⟨.string (⟨#[98]⟩ : ByteArray), .int .i64 (1), 1⟩, ⟨.string (⟨#[99]⟩ : ByteArray), .int .i64 (1), 2⟩, ⟨.string (⟨#[100]⟩ : ByteArray), .int .i64 (1), 3⟩, ⟨.string (⟨#[101]⟩ : ByteArray), .int .i64 (1), 4⟩, ⟨.string (⟨#[102]⟩ : ByteArray), .int .i64 (1), 5⟩, ⟨.string (⟨#[103]⟩ : ByteArray), .int .i64 (1), 6⟩, ⟨.string (⟨#[104]⟩ : ByteArray), .int .i64 (1), 7⟩, ⟨.string (⟨#[105]⟩ : ByteArray), .int .i64 (1), 8⟩, ⟨.string (⟨#[106]⟩ : ByteArray), .int .i64 (1), 9⟩, ⟨.string (⟨#[107]⟩ : ByteArray), .int .i64 (1), 10⟩, ⟨.string (⟨#[108]⟩ : ByteArray), .int .i64 (1), 11⟩, ⟨.string (⟨#[109]⟩ : ByteArray), .int .i64 (1), 12⟩, ⟨.string (⟨#[110]⟩ : ByteArray), .int .i64 (1), 13⟩, ⟨.string (⟨#[111]⟩ : ByteArray), .int .i64 (1), 14⟩, ⟨.string (⟨#[112]⟩ : ByteArray), .int .i64 (1), 15⟩, ⟨.string (⟨#[113]⟩ : ByteArray), .int .i64 (1), 16⟩, ⟨.string (⟨#[114]⟩ : ByteArray), .int .i64 (1), 17⟩, ⟨.string (⟨#[115]⟩ : ByteArray), .int .i64 (1), 18⟩, ⟨.string (⟨#[116]⟩ : ByteArray), .int .i64 (1), 19⟩, ⟨.string (⟨#[117]⟩ : ByteArray), .int .i64 (1), 20⟩, ⟨.string (⟨#[118]⟩ : ByteArray), .int .i64 (1), 21⟩, ⟨.string (⟨#[119]⟩ : ByteArray), .int .i64 (1), 22⟩, ⟨.string (⟨#[120]⟩ : ByteArray), .int .i64 (1), 23⟩, ⟨.string (⟨#[121]⟩ : ByteArray), .int .i64 (1), 24⟩, ⟨.string (⟨#[122]⟩ : ByteArray), .int .i64 (1), 25⟩, ⟨.string (⟨#[65]⟩ : ByteArray), .int .i64 (1), 26⟩, ⟨.string (⟨#[66]⟩ : ByteArray), .int .i64 (1), 27⟩, ⟨.string (⟨#[67]⟩ : ByteArray), .int .i64 (1), 28⟩, ⟨.string (⟨#[68]⟩ : ByteArray), .int .i64 (1), 29⟩, ⟨.string (⟨#[69]⟩ : ByteArray), .int .i64 (1), 30⟩, ⟨.string (⟨#[70]⟩ : ByteArray), .int .i64 (1), 31⟩, ⟨.string (⟨#[71]⟩ : ByteArray), .int .i64 (1), 32⟩, ⟨.string (⟨#[72]⟩ : ByteArray), .int .i64 (1), 33⟩, ⟨.string (⟨#[73]⟩ : ByteArray), .int .i64 (1), 34⟩, ⟨.string (⟨#[74]⟩ : ByteArray), .int .i64 (1), 35⟩, ⟨.string (⟨#[75]⟩ : ByteArray), .int .i64 (1), 36⟩, ⟨.string (⟨#[76]⟩ : ByteArray), .int .i64 (1), 37⟩, ⟨.string (⟨#[77]⟩ : ByteArray), .int .i64 (1), 38⟩] 39, unb]
  | .e40 , ls => [rowO (lget ls 0) (esG c_Member w1 w2) 27 w1 3, .cells #[.int .i64 (4), .string (⟨#[115]⟩ : ByteArray), .int .i64 (w0), .bool false, .int .i64 (0), .int .i64 (0), (rowV (lget ls 0) w1 3)] 25, .map #[⟨.string (⟨#[97]⟩ : ByteArray), .int .i64 (1), 0⟩, ⟨.string (⟨#[98]⟩ : ByteArray), .int .i64 (1), 1⟩, ⟨.string (⟨#[99]⟩ : ByteArray), .int .i64 (1), 2⟩, ⟨.string (⟨#[100]⟩ : ByteArray), .int .i64 (1), 3⟩, ⟨.string (⟨#[101]⟩ : ByteArray), .int .i64 (1), 4⟩, ⟨.string (⟨#[102]⟩ : ByteArray), .int .i64 (1), 5⟩, ⟨.string (⟨#[103]⟩ : ByteArray), .int .i64 (1), 6⟩, ⟨.string (⟨#[104]⟩ : ByteArray), .int .i64 (1), 7⟩, ⟨.string (⟨#[105]⟩ : ByteArray), .int .i64 (1), 8⟩, ⟨.string (⟨#[106]⟩ : ByteArray), .int .i64 (1), 9⟩, ⟨.string (⟨#[107]⟩ : ByteArray), .int .i64 (1), 10⟩, ⟨.string (⟨#[108]⟩ : ByteArray), .int .i64 (1), 11⟩, ⟨.string (⟨#[109]⟩ : ByteArray), .int .i64 (1), 12⟩, ⟨.string (⟨#[110]⟩ : ByteArray), .int .i64 (1), 13⟩, ⟨.string (⟨#[111]⟩ : ByteArray), .int .i64 (1), 14⟩, ⟨.string (⟨#[112]⟩ : ByteArray), .int .i64 (1), 15⟩, ⟨.string (⟨#[113]⟩ : ByteArray), .int .i64 (1), 16⟩, ⟨.string (⟨#[114]⟩ : ByteArray), .int .i64 (1), 17⟩, ⟨.string (⟨#[115]⟩ : ByteArray), .int .i64 (1), 18⟩, ⟨.string (⟨#[116]⟩ : ByteArray), .int .i64 (1), 19⟩, ⟨.string (⟨#[117]⟩ : ByteArray), .int .i64 (1), 20⟩, ⟨.string (⟨#[118]⟩ : ByteArray), .int .i64 (1), 21⟩, ⟨.string (⟨#[119]⟩ : ByteArray), .int .i64 (1), 22⟩, ⟨.string (⟨#[120]⟩ : ByteArray), .int .i64 (1), 23⟩, ⟨.string (⟨#[121]⟩ : ByteArray), .int .i64 (1), 24⟩, ⟨.string (⟨#[122]⟩ : ByteArray), .int .i64 (1), 25⟩, ⟨.string (⟨#[65]⟩ : ByteArray), .int .i64 (1), 26⟩, ⟨.string (⟨#[66]⟩ : ByteArray), .int .i64 (1), 27⟩, ⟨.string (⟨#[67]⟩ : ByteArray), .int .i64 (1), 28⟩, ⟨.string (⟨#[68]⟩ : ByteArray), .int .i64 (1), 29⟩, ⟨.string (⟨#[69]⟩ : ByteArray), .int .i64 (1), 30⟩, ⟨.string (⟨#[70]⟩ : ByteArray), .int .i64 (1), 31⟩, ⟨.string (⟨#[71]⟩ : ByteArray), .int .i64 (1), 32⟩, ⟨.string (⟨#[72]⟩ : ByteArray), .int .i64 (1), 33⟩, ⟨.string (⟨#[73]⟩ : ByteArray), .int .i64 (1), 34⟩, ⟨.string (⟨#[74]⟩ : ByteArray), .int .i64 (1), 35⟩, ⟨.string (⟨#[75]⟩ : ByteArray), .int .i64 (1), 36⟩, ⟨.string (⟨#[76]⟩ : ByteArray), .int .i64 (1), 37⟩, ⟨.string (⟨#[77]⟩ : ByteArray), .int .i64 (1), 38⟩, ⟨.string (⟨#[78]⟩ : ByteArray), .int .i64 (1), 39⟩] 40, unb]
def ex_btf_rightMemberNames_v3_L0 : Ex_btf_rightMemberNames_v3_L0 → Ex
  | .e0  => (.exit 0)
  | .e1  => (.exit 0)
  | .e2  => (.exit 0)
  | .e3  => (.exit 0)
  | .e4  => (.exit 0)
  | .e5  => (.exit 0)
  | .e6  => (.exit 0)
  | .e7  => (.exit 0)
  | .e8  => (.exit 0)
  | .e9  => (.exit 0)
  | .e10  => (.exit 0)
  | .e11  => (.exit 0)
  | .e12  => (.exit 0)
  | .e13  => (.exit 0)
  | .e14  => (.exit 0)
  | .e15  => (.exit 0)
  | .e16  => (.exit 0)
  | .e17  => (.exit 0)
  | .e18  => (.exit 0)
  | .e19  => (.exit 0)
  | .e20  => (.exit 0)
  | .e21  => (.exit 0)
  | .e22  => (.exit 0)
  | .e23  => (.exit 0)
  | .e24  => (.exit 0)
  | .e25  => (.exit 0)
  | .e26  => (.exit 0)
  | .e27  => (.exit 0)
  | .e28  => (.exit 0)
  | .e29  => (.exit 0)
  | .e30  => (.exit 0)
  | .e31  => (.exit 0)
  | .e32  => (.exit 0)
  | .e33  => (.exit 0)
  | .e34  => (.exit 0)
  | .e35  => (.exit 0)
  | .e36  => (.exit 0)
  | .e37  => (.exit 0)
  | .e38  => (.exit 0)
  | .e39  => (.exit 0)
  | .e40  => (.exit 0)
end

end Go.Proofs.YtfphpdhjcbhehaaDoor
