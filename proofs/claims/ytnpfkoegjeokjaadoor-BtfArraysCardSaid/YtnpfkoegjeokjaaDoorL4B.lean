/-
  The law on arrays of arrays, by the program's text.
-/
import Derived.Test.YtnpfkoegjeokjaaDoorL4A
namespace Go.Proofs.YtnpfkoegjeokjaaDoor
open Go.RowKit
set_option linter.unusedVariables false
set_option linter.unusedSimpArgs false
set_option linter.unusedSectionVars false
set_option maxRecDepth 100000
set_option maxHeartbeats 4000000
abbrev cu8 (x : BitVec 8) : List Value := [.int .u8 (nn x)]
theorem cu8_len (x : BitVec 8) : (cu8 x).length = 1 := rfl
theorem cu8_one (x : BitVec 8) : ((cu8 x).all fun u => u.oneCell') = true := rfl
noncomputable def zr27 : Value := (Tryd.prog.info? 26).bind TypeInfo.zero |>.getD undef
theorem rt27 : RowT Tryd.prog 27 26 ((Tryd.prog.info? 26).getD default) zr27 7 80 := ⟨by kernel_rfl, by kernel_rfl, by kernel_rfl, by kernel_rfl, by kernel_rfl, by kernel_rfl, by decide⟩
section
variable {M : Nat → Prop} {B0 : Nat} {S : World → Prop} (hU : Up M B0 S)
include hU
theorem ok_btf_isName_v4 : ConG Tryd.prog S 28 #[.string (⟨#[117, 110, 105, 116]⟩ : ByteArray)] (.bool true) :=
  fn_conG hU (P := Tryd.prog) Tryd.func28 (fun xs w => by kernel_rfl) [.string (⟨#[117, 110, 105, 116]⟩ : ByteArray)] (.bool true)
    [.o, .o, .o, .o, .o, .o, .o, .o, .o, .o, .o, .o, .o, .o, .o, .o, .o, .o, .o, .o, .o, .o, .o, .o, .o, .o, .o, .o, .o, .o, .o, .o, .o, .o, .o, .o, .o, .o, .o, .o, .o, .o, .o, .o, .o, .o, .o, .o, .o, .o, .o, .o, .o, .o, .o, .o, .o, .o, .o, .o, .o, .o, .o, .o, .o, .o, .o, .o, .o, .o, .o, .o, .o, .o, .o, .o, .o, .o, .o, .o, .o, .o, .o, .o, .o, .o, .o, .o]
    [] (fun b => by kernel_rfl)
inductive R_btf_rightName_v2 where
  | e0 
  | e1 (c1_0 : Bool)
noncomputable def m_btf_rightName_v2 (w0 : Int) (w1 : ByteArray) (w2 : Int) (w3 : Bool) (w4 : Int) (w5 : Int) : Option R_btf_rightName_v2 :=
  bif w0 == 1 then
    (bif w1 == (⟨#[117, 110, 105, 116]⟩ : ByteArray) then
      (some (.e0))
    else (none))
  else (bif w0 == 4 then
    (none)
  else (bif w0 == 5 then
    (none)
  else (some (.e1 (w1 == (⟨#[]⟩ : ByteArray))))))
def sq0_btf_rightName_v2 (w0 : Int) (w1 : ByteArray) (w2 : Int) (w3 : Bool) (w4 : Int) (w5 : Int)  : Spc := ⟨fun ls => .call 17 #[.agg #[.int .i64 (w0), .string w1, .int .i64 (w2), .bool (w3), .int .i64 (w4), .int .i64 (w5), .slice none 0 0], .map (some (lget ls 0).n)], fun ls => [.map #[] 0], 0, .normal, fun ls => [.bool true], fun ls => [.map #[⟨.agg #[.int .i64 (1), .string (⟨#[117, 110, 105, 116]⟩ : ByteArray)], .int .i64 (1), 0⟩] 1], fun ls => []⟩
def sq1_btf_rightName_v2 (w0 : Int) (w1 : ByteArray) (w2 : Int) (w3 : Bool) (w4 : Int) (w5 : Int) (c1_0 : Bool) : Spc := ⟨fun ls => .call 17 #[.agg #[.int .i64 (w0), .string w1, .int .i64 (w2), .bool (w3), .int .i64 (w4), .int .i64 (w5), .slice none 0 0], .map (some (lget ls 0).n)], fun ls => [.map #[] 0], 0, .normal, fun ls => [.bool (c1_0)], fun ls => [.map #[] 0], fun ls => []⟩
end
section
variable {M : Nat → Prop} {B0 : Nat} {S : World → Prop} (hU : Up M B0 S) (w0 : Int) (w1 : ByteArray) (w2 : Int) (w3 : Bool) (w4 : Int) (w5 : Int)
include hU w0 w1 w2 w3 w4 w5
theorem ok0_btf_rightName_v2 (e : m_btf_rightName_v2 w0 w1 w2 w3 w4 w5 = some (.e0 )) : SpcG Tryd.prog M B0 S (sq0_btf_rightName_v2 w0 w1 w2 w3 w4 w5 ) := by
  unfold m_btf_rightName_v2 at e
  replace e := cond_eq_or e
  rcases e with ⟨hq0, e⟩ | ⟨hq0, e⟩
  · have hq0 := eq_of_beq hq0
    subst hq0
    replace e := cond_eq_or e
    rcases e with ⟨hq1, e⟩ | ⟨hq1, e⟩
    · have hq1 := ba_eq hq1
      subst hq1
      exact fn_specG hU (P := Tryd.prog) Tryd.func17 (fun xs w => by kernel_rfl) 1 _ _ (fun _ => rfl) _ _ _ [] [.o, .o, .o, .a 1, .o, .o, .o, .a 1, .o, .a 1, .o, .o, .a 2, .r [] [] [], .o, .a 2, .a 0, .o, .a 0, .o, .a 0, .o, .a 1, .cg (ok_btf_isName_v4 hU  ), .o, .o, .a 2, .a 0, .o, .o, .o] [] (fun b => by kernel_rfl)
    · exact none_some e
  · replace e := cond_eq_or e
    rcases e with ⟨hq1, e⟩ | ⟨hq1, e⟩
    · have hq1 := eq_of_beq hq1
      subst hq1
      exact none_some e
    · replace e := cond_eq_or e
      rcases e with ⟨hq2, e⟩ | ⟨hq2, e⟩
      · have hq2 := eq_of_beq hq2
        subst hq2
        exact none_some e
      · cases e
theorem ok1_btf_rightName_v2 (c1_0 : Bool) (e : m_btf_rightName_v2 w0 w1 w2 w3 w4 w5 = some (.e1 c1_0)) : SpcG Tryd.prog M B0 S (sq1_btf_rightName_v2 w0 w1 w2 w3 w4 w5 c1_0) := by
  unfold m_btf_rightName_v2 at e
  replace e := cond_eq_or e
  rcases e with ⟨hq0, e⟩ | ⟨hq0, e⟩
  · have hq0 := eq_of_beq hq0
    subst hq0
    replace e := cond_eq_or e
    rcases e with ⟨hq1, e⟩ | ⟨hq1, e⟩
    · have hq1 := ba_eq hq1
      subst hq1
      cases e
    · exact none_some e
  · replace e := cond_eq_or e
    rcases e with ⟨hq1, e⟩ | ⟨hq1, e⟩
    · have hq1 := eq_of_beq hq1
      subst hq1
      exact none_some e
    · replace e := cond_eq_or e
      rcases e with ⟨hq2, e⟩ | ⟨hq2, e⟩
      · have hq2 := eq_of_beq hq2
        subst hq2
        exact none_some e
      · injection e with e; injection e with i0; subst i0; exact fn_specG hU (P := Tryd.prog) Tryd.func17 (fun xs w => by kernel_rfl) 1 _ _ (fun _ => rfl) _ _ _ [] [.o, .o, .o, .a 1, .b (z_eqlF hq0), .o, .b (z_eqlF hq1), .o, .b (z_eqlF hq2), .o, .o, .a 1, .ov (str_eql 9 w1 (⟨#[]⟩ : ByteArray) (by kernel_rfl) (.tmp 34) (.const (.string (⟨#[]⟩ : ByteArray)))), .o] [] (fun b => by kernel_rfl)
end
section
variable {M : Nat → Prop} {B0 : Nat} {S : World → Prop} (hU : Up M B0 S) (y0 : Type0)
include hU y0
theorem ok_btf_rightMemberNames_v2 : ConG Tryd.prog S 19 #[(v_Type0 y0)] (.bool true) :=
  fn_conG hU (P := Tryd.prog) Tryd.func19 (fun xs w => by kernel_rfl) [(v_Type0 y0)] (.bool true)
    [.o, .o, .o, .o, .o, .a 0, .o, .o, .o, .o]
    [] (fun b => by kernel_rfl)
inductive R_btf_checkType_v2 where
  | e0 (c0_0 : Int)
  | e1 (c1_0 : Int)
noncomputable def m_btf_checkType_v2 (y0 : Type0) (y1 : Int) : Option R_btf_checkType_v2 :=
  bif decide (y0.fKind < 1) then
    (some (.e0 41))
  else (bif decide (6 < y0.fKind) then
    (some (.e0 41))
  else ((m_btf_rightName_v2 y0.fKind y0.fName y0.fSize y0.fSigned y0.fTo y0.fCount).bind fun g0 => match g0 with
  | .e0  => (bif m_btf_rightSize_v2 (⟨y0.fKind, y0.fName, y0.fSize, y0.fSigned, y0.fTo, y0.fCount, ()⟩ : Type0) then
      (bif m_btf_rightReferences_v2 (⟨y0.fKind, y0.fName, y0.fSize, y0.fSigned, y0.fTo, y0.fCount, ()⟩ : Type0) y1 then
        (bif m_btf_onlyOwnFields_v2 (⟨y0.fKind, y0.fName, y0.fSize, y0.fSigned, y0.fTo, y0.fCount, ()⟩ : Type0) then
          (some (.e1 0))
        else (some (.e1 41)))
      else (some (.e1 41)))
    else (some (.e1 43)))
  | .e1 g0_0 => (bif g0_0 then
      (bif m_btf_rightSize_v2 (⟨y0.fKind, y0.fName, y0.fSize, y0.fSigned, y0.fTo, y0.fCount, ()⟩ : Type0) then
        (bif m_btf_rightReferences_v2 (⟨y0.fKind, y0.fName, y0.fSize, y0.fSigned, y0.fTo, y0.fCount, ()⟩ : Type0) y1 then
          (bif m_btf_onlyOwnFields_v2 (⟨y0.fKind, y0.fName, y0.fSize, y0.fSigned, y0.fTo, y0.fCount, ()⟩ : Type0) then
            (some (.e0 0))
          else (some (.e0 41)))
        else (some (.e0 41)))
      else (some (.e0 43)))
    else (some (.e0 44)))))
def sq0_btf_checkType_v2 (y0 : Type0) (y1 : Int) (c0_0 : Int) : Spc := ⟨fun ls => .call 10 #[(v_Type0 y0), .int .i64 (y1), .map (some (lget ls 0).n)], fun ls => [.map #[] 0], 0, .normal, fun ls => [.int .i64 (c0_0)], fun ls => [.map #[] 0], fun ls => []⟩
def sq1_btf_checkType_v2 (y0 : Type0) (y1 : Int) (c1_0 : Int) : Spc := ⟨fun ls => .call 10 #[(v_Type0 y0), .int .i64 (y1), .map (some (lget ls 0).n)], fun ls => [.map #[] 0], 0, .normal, fun ls => [.int .i64 (c1_0)], fun ls => [.map #[⟨.agg #[.int .i64 (1), .string (⟨#[117, 110, 105, 116]⟩ : ByteArray)], .int .i64 (1), 0⟩] 1], fun ls => []⟩
theorem ok0_btf_checkType_v2 (y1 : Int) (c0_0 : Int) (e : m_btf_checkType_v2 y0 y1 = some (.e0 c0_0)) : SpcG Tryd.prog M B0 S (sq0_btf_checkType_v2 y0 y1 c0_0) := by
  unfold m_btf_checkType_v2 at e
  replace e := cond_eq_or e
  rcases e with ⟨hq0, e⟩ | ⟨hq0, e⟩
  · injection e with e; injection e with i0; subst i0; exact fn_specG hU (P := Tryd.prog) Tryd.func10 (fun xs w => by kernel_rfl) 1 _ _ (fun _ => rfl) _ _ _ [] [.o, .o, .o, .a 1, .b (z_lssT hq0), .o, .o, .o, .o] [] (fun b => by kernel_rfl)
  · replace e := cond_eq_or e
    rcases e with ⟨hq1, e⟩ | ⟨hq1, e⟩
    · injection e with e; injection e with i0; subst i0; exact fn_specG hU (P := Tryd.prog) Tryd.func10 (fun xs w => by kernel_rfl) 1 _ _ (fun _ => rfl) _ _ _ [] [.o, .o, .o, .a 1, .b (z_lssF hq0), .o, .o, .a 1, .b (z_gtrT hq1), .o, .o, .o] [] (fun b => by kernel_rfl)
    · replace e := bindO_eq e
      obtain ⟨g0, e_g0, e⟩ := e
      rcases g0 with _ | ⟨g0_0⟩
      · try dsimp only at e
        replace e := cond_eq_or e
        rcases e with ⟨hq2, e⟩ | ⟨hq2, e⟩
        · replace e := cond_eq_or e
          rcases e with ⟨hq3, e⟩ | ⟨hq3, e⟩
          · replace e := cond_eq_or e
            rcases e with ⟨hq4, e⟩ | ⟨hq4, e⟩
            · cases e
            · cases e
          · cases e
        · cases e
      · try dsimp only at e
        replace e := cond_eq_or e
        rcases e with ⟨hq2, e⟩ | ⟨hq2, e⟩
        · subst hq2
          replace e := cond_eq_or e
          rcases e with ⟨hq3, e⟩ | ⟨hq3, e⟩
          · replace e := cond_eq_or e
            rcases e with ⟨hq4, e⟩ | ⟨hq4, e⟩
            · replace e := cond_eq_or e
              rcases e with ⟨hq5, e⟩ | ⟨hq5, e⟩
              · injection e with e; injection e with i0; subst i0; exact fn_specG hU (P := Tryd.prog) Tryd.func10 (fun xs w => by kernel_rfl) 1 _ _ (fun _ => rfl) _ _ _ [] [.o, .o, .o, .a 1, .b (z_lssF hq0), .o, .o, .a 1, .b (z_gtrF hq1), .o, .o, .a 1, .o, .xg (ok1_btf_rightName_v2 hU y0.fKind y0.fName y0.fSize y0.fSigned y0.fTo y0.fCount true e_g0) [0], .o, .o, .a 1, .cg (ok_btf_rightSize_v2 hU (⟨y0.fKind, y0.fName, y0.fSize, y0.fSigned, y0.fTo, y0.fCount, ()⟩ : Type0) true hq3), .o, .o, .a 1, .cg (ok_btf_rightMemberNames_v2 hU (⟨y0.fKind, y0.fName, y0.fSize, y0.fSigned, y0.fTo, y0.fCount, ()⟩ : Type0) ), .o, .o, .a 1, .o, .cg (ok_btf_rightReferences_v2 hU (⟨y0.fKind, y0.fName, y0.fSize, y0.fSigned, y0.fTo, y0.fCount, ()⟩ : Type0) y1 true hq4), .o, .o, .a 1, .cg (ok_btf_onlyOwnFields_v2 hU (⟨y0.fKind, y0.fName, y0.fSize, y0.fSigned, y0.fTo, y0.fCount, ()⟩ : Type0) true hq5), .o, .o, .o, .o] [] (fun b => by kernel_rfl)
              · injection e with e; injection e with i0; subst i0; exact fn_specG hU (P := Tryd.prog) Tryd.func10 (fun xs w => by kernel_rfl) 1 _ _ (fun _ => rfl) _ _ _ [] [.o, .o, .o, .a 1, .b (z_lssF hq0), .o, .o, .a 1, .b (z_gtrF hq1), .o, .o, .a 1, .o, .xg (ok1_btf_rightName_v2 hU y0.fKind y0.fName y0.fSize y0.fSigned y0.fTo y0.fCount true e_g0) [0], .o, .o, .a 1, .cg (ok_btf_rightSize_v2 hU (⟨y0.fKind, y0.fName, y0.fSize, y0.fSigned, y0.fTo, y0.fCount, ()⟩ : Type0) true hq3), .o, .o, .a 1, .cg (ok_btf_rightMemberNames_v2 hU (⟨y0.fKind, y0.fName, y0.fSize, y0.fSigned, y0.fTo, y0.fCount, ()⟩ : Type0) ), .o, .o, .a 1, .o, .cg (ok_btf_rightReferences_v2 hU (⟨y0.fKind, y0.fName, y0.fSize, y0.fSigned, y0.fTo, y0.fCount, ()⟩ : Type0) y1 true hq4), .o, .o, .a 1, .cg (ok_btf_onlyOwnFields_v2 hU (⟨y0.fKind, y0.fName, y0.fSize, y0.fSigned, y0.fTo, y0.fCount, ()⟩ : Type0) false hq5), .o, .o, .o, .o] [] (fun b => by kernel_rfl)
            · injection e with e; injection e with i0; subst i0; exact fn_specG hU (P := Tryd.prog) Tryd.func10 (fun xs w => by kernel_rfl) 1 _ _ (fun _ => rfl) _ _ _ [] [.o, .o, .o, .a 1, .b (z_lssF hq0), .o, .o, .a 1, .b (z_gtrF hq1), .o, .o, .a 1, .o, .xg (ok1_btf_rightName_v2 hU y0.fKind y0.fName y0.fSize y0.fSigned y0.fTo y0.fCount true e_g0) [0], .o, .o, .a 1, .cg (ok_btf_rightSize_v2 hU (⟨y0.fKind, y0.fName, y0.fSize, y0.fSigned, y0.fTo, y0.fCount, ()⟩ : Type0) true hq3), .o, .o, .a 1, .cg (ok_btf_rightMemberNames_v2 hU (⟨y0.fKind, y0.fName, y0.fSize, y0.fSigned, y0.fTo, y0.fCount, ()⟩ : Type0) ), .o, .o, .a 1, .o, .cg (ok_btf_rightReferences_v2 hU (⟨y0.fKind, y0.fName, y0.fSize, y0.fSigned, y0.fTo, y0.fCount, ()⟩ : Type0) y1 false hq4), .o, .o, .o, .o, .o] [] (fun b => by kernel_rfl)
          · injection e with e; injection e with i0; subst i0; exact fn_specG hU (P := Tryd.prog) Tryd.func10 (fun xs w => by kernel_rfl) 1 _ _ (fun _ => rfl) _ _ _ [] [.o, .o, .o, .a 1, .b (z_lssF hq0), .o, .o, .a 1, .b (z_gtrF hq1), .o, .o, .a 1, .o, .xg (ok1_btf_rightName_v2 hU y0.fKind y0.fName y0.fSize y0.fSigned y0.fTo y0.fCount true e_g0) [0], .o, .o, .a 1, .cg (ok_btf_rightSize_v2 hU (⟨y0.fKind, y0.fName, y0.fSize, y0.fSigned, y0.fTo, y0.fCount, ()⟩ : Type0) false hq3), .o, .o, .o] [] (fun b => by kernel_rfl)
        · subst hq2
          injection e with e; injection e with i0; subst i0; exact fn_specG hU (P := Tryd.prog) Tryd.func10 (fun xs w => by kernel_rfl) 1 _ _ (fun _ => rfl) _ _ _ [] [.o, .o, .o, .a 1, .b (z_lssF hq0), .o, .o, .a 1, .b (z_gtrF hq1), .o, .o, .a 1, .o, .xg (ok1_btf_rightName_v2 hU y0.fKind y0.fName y0.fSize y0.fSigned y0.fTo y0.fCount false e_g0) [0], .o, .o, .o] [] (fun b => by kernel_rfl)
theorem ok1_btf_checkType_v2 (y1 : Int) (c1_0 : Int) (e : m_btf_checkType_v2 y0 y1 = some (.e1 c1_0)) : SpcG Tryd.prog M B0 S (sq1_btf_checkType_v2 y0 y1 c1_0) := by
  unfold m_btf_checkType_v2 at e
  replace e := cond_eq_or e
  rcases e with ⟨hq0, e⟩ | ⟨hq0, e⟩
  · cases e
  · replace e := cond_eq_or e
    rcases e with ⟨hq1, e⟩ | ⟨hq1, e⟩
    · cases e
    · replace e := bindO_eq e
      obtain ⟨g0, e_g0, e⟩ := e
      rcases g0 with _ | ⟨g0_0⟩
      · try dsimp only at e
        replace e := cond_eq_or e
        rcases e with ⟨hq2, e⟩ | ⟨hq2, e⟩
        · replace e := cond_eq_or e
          rcases e with ⟨hq3, e⟩ | ⟨hq3, e⟩
          · replace e := cond_eq_or e
            rcases e with ⟨hq4, e⟩ | ⟨hq4, e⟩
            · injection e with e; injection e with i0; subst i0; exact fn_specG hU (P := Tryd.prog) Tryd.func10 (fun xs w => by kernel_rfl) 1 _ _ (fun _ => rfl) _ _ _ [] [.o, .o, .o, .a 1, .b (z_lssF hq0), .o, .o, .a 1, .b (z_gtrF hq1), .o, .o, .a 1, .o, .xg (ok0_btf_rightName_v2 hU y0.fKind y0.fName y0.fSize y0.fSigned y0.fTo y0.fCount  e_g0) [0], .o, .o, .a 1, .cg (ok_btf_rightSize_v2 hU (⟨y0.fKind, y0.fName, y0.fSize, y0.fSigned, y0.fTo, y0.fCount, ()⟩ : Type0) true hq2), .o, .o, .a 1, .cg (ok_btf_rightMemberNames_v2 hU (⟨y0.fKind, y0.fName, y0.fSize, y0.fSigned, y0.fTo, y0.fCount, ()⟩ : Type0) ), .o, .o, .a 1, .o, .cg (ok_btf_rightReferences_v2 hU (⟨y0.fKind, y0.fName, y0.fSize, y0.fSigned, y0.fTo, y0.fCount, ()⟩ : Type0) y1 true hq3), .o, .o, .a 1, .cg (ok_btf_onlyOwnFields_v2 hU (⟨y0.fKind, y0.fName, y0.fSize, y0.fSigned, y0.fTo, y0.fCount, ()⟩ : Type0) true hq4), .o, .o, .o, .o] [] (fun b => by kernel_rfl)
            · injection e with e; injection e with i0; subst i0; exact fn_specG hU (P := Tryd.prog) Tryd.func10 (fun xs w => by kernel_rfl) 1 _ _ (fun _ => rfl) _ _ _ [] [.o, .o, .o, .a 1, .b (z_lssF hq0), .o, .o, .a 1, .b (z_gtrF hq1), .o, .o, .a 1, .o, .xg (ok0_btf_rightName_v2 hU y0.fKind y0.fName y0.fSize y0.fSigned y0.fTo y0.fCount  e_g0) [0], .o, .o, .a 1, .cg (ok_btf_rightSize_v2 hU (⟨y0.fKind, y0.fName, y0.fSize, y0.fSigned, y0.fTo, y0.fCount, ()⟩ : Type0) true hq2), .o, .o, .a 1, .cg (ok_btf_rightMemberNames_v2 hU (⟨y0.fKind, y0.fName, y0.fSize, y0.fSigned, y0.fTo, y0.fCount, ()⟩ : Type0) ), .o, .o, .a 1, .o, .cg (ok_btf_rightReferences_v2 hU (⟨y0.fKind, y0.fName, y0.fSize, y0.fSigned, y0.fTo, y0.fCount, ()⟩ : Type0) y1 true hq3), .o, .o, .a 1, .cg (ok_btf_onlyOwnFields_v2 hU (⟨y0.fKind, y0.fName, y0.fSize, y0.fSigned, y0.fTo, y0.fCount, ()⟩ : Type0) false hq4), .o, .o, .o, .o] [] (fun b => by kernel_rfl)
          · injection e with e; injection e with i0; subst i0; exact fn_specG hU (P := Tryd.prog) Tryd.func10 (fun xs w => by kernel_rfl) 1 _ _ (fun _ => rfl) _ _ _ [] [.o, .o, .o, .a 1, .b (z_lssF hq0), .o, .o, .a 1, .b (z_gtrF hq1), .o, .o, .a 1, .o, .xg (ok0_btf_rightName_v2 hU y0.fKind y0.fName y0.fSize y0.fSigned y0.fTo y0.fCount  e_g0) [0], .o, .o, .a 1, .cg (ok_btf_rightSize_v2 hU (⟨y0.fKind, y0.fName, y0.fSize, y0.fSigned, y0.fTo, y0.fCount, ()⟩ : Type0) true hq2), .o, .o, .a 1, .cg (ok_btf_rightMemberNames_v2 hU (⟨y0.fKind, y0.fName, y0.fSize, y0.fSigned, y0.fTo, y0.fCount, ()⟩ : Type0) ), .o, .o, .a 1, .o, .cg (ok_btf_rightReferences_v2 hU (⟨y0.fKind, y0.fName, y0.fSize, y0.fSigned, y0.fTo, y0.fCount, ()⟩ : Type0) y1 false hq3), .o, .o, .o, .o, .o] [] (fun b => by kernel_rfl)
        · injection e with e; injection e with i0; subst i0; exact fn_specG hU (P := Tryd.prog) Tryd.func10 (fun xs w => by kernel_rfl) 1 _ _ (fun _ => rfl) _ _ _ [] [.o, .o, .o, .a 1, .b (z_lssF hq0), .o, .o, .a 1, .b (z_gtrF hq1), .o, .o, .a 1, .o, .xg (ok0_btf_rightName_v2 hU y0.fKind y0.fName y0.fSize y0.fSigned y0.fTo y0.fCount  e_g0) [0], .o, .o, .a 1, .cg (ok_btf_rightSize_v2 hU (⟨y0.fKind, y0.fName, y0.fSize, y0.fSigned, y0.fTo, y0.fCount, ()⟩ : Type0) false hq2), .o, .o, .o] [] (fun b => by kernel_rfl)
      · try dsimp only at e
        replace e := cond_eq_or e
        rcases e with ⟨hq2, e⟩ | ⟨hq2, e⟩
        · subst hq2
          replace e := cond_eq_or e
          rcases e with ⟨hq3, e⟩ | ⟨hq3, e⟩
          · replace e := cond_eq_or e
            rcases e with ⟨hq4, e⟩ | ⟨hq4, e⟩
            · replace e := cond_eq_or e
              rcases e with ⟨hq5, e⟩ | ⟨hq5, e⟩
              · cases e
              · cases e
            · cases e
          · cases e
        · subst hq2
          cases e
inductive R_btf_rightName_v3 where
  | e0 (c0_0 : Int) (c0_1 : Bool)
noncomputable def m_btf_rightName_v3 (w0 : Int) (w1 : ByteArray) (w2 : Int) (w3 : Bool) (w4 : Int) (w5 : Int) (w6 : Int) : Option R_btf_rightName_v3 :=
  bif w0 == 1 then
    (bif w1 == (⟨#[117, 110, 105, 116]⟩ : ByteArray) then
      (some (.e0 (IntKind.i64.wrap (w6 + 1)) ((IntKind.i64.wrap (w6 + 1)) == 1)))
    else (none))
  else (bif w0 == 4 then
    (none)
  else (bif w0 == 5 then
    (none)
  else (some (.e0 w6 (w1 == (⟨#[]⟩ : ByteArray))))))
def sq0_btf_rightName_v3 (w0 : Int) (w1 : ByteArray) (w2 : Int) (w3 : Bool) (w4 : Int) (w5 : Int) (w6 : Int) (c0_0 : Int) (c0_1 : Bool) : Spc := ⟨fun ls => .call 17 #[.agg #[.int .i64 (w0), .string w1, .int .i64 (w2), .bool (w3), .int .i64 (w4), .int .i64 (w5), .slice none 0 0], .map (some (lget ls 0).n)], fun ls => [.map #[⟨.agg #[.int .i64 (1), .string (⟨#[117, 110, 105, 116]⟩ : ByteArray)], .int .i64 (w6), 0⟩] 1], 0, .normal, fun ls => [.bool (c0_1)], fun ls => [.map #[⟨.agg #[.int .i64 (1), .string (⟨#[117, 110, 105, 116]⟩ : ByteArray)], .int .i64 (c0_0), 0⟩] 1], fun ls => []⟩
end
section
variable {M : Nat → Prop} {B0 : Nat} {S : World → Prop} (hU : Up M B0 S)
include hU
theorem ok0_btf_rightName_v3 (w0 : Int) (w1 : ByteArray) (w2 : Int) (w3 : Bool) (w4 : Int) (w5 : Int) (w6 : Int) (c0_0 : Int) (c0_1 : Bool) (e : m_btf_rightName_v3 w0 w1 w2 w3 w4 w5 w6 = some (.e0 c0_0 c0_1)) : SpcG Tryd.prog M B0 S (sq0_btf_rightName_v3 w0 w1 w2 w3 w4 w5 w6 c0_0 c0_1) := by
  unfold m_btf_rightName_v3 at e
  replace e := cond_eq_or e
  rcases e with ⟨hq0, e⟩ | ⟨hq0, e⟩
  · have hq0 := eq_of_beq hq0
    subst hq0
    replace e := cond_eq_or e
    rcases e with ⟨hq1, e⟩ | ⟨hq1, e⟩
    · have hq1 := ba_eq hq1
      subst hq1
      injection e with e; injection e with i0 i1; subst i0 i1; exact fn_specG hU (P := Tryd.prog) Tryd.func17 (fun xs w => by kernel_rfl) 1 _ _ (fun _ => rfl) _ _ _ [] [.o, .o, .o, .a 1, .o, .o, .o, .a 1, .o, .a 1, .o, .o, .a 2, .r [] [] [], .o, .a 2, .a 0, .o, .a 0, .o, .a 0, .o, .a 1, .cg (ok_btf_isName_v4 hU  ), .o, .o, .a 2, .a 0, .o, .o, .o] [] (fun b => by kernel_rfl)
    · exact none_some e
  · replace e := cond_eq_or e
    rcases e with ⟨hq1, e⟩ | ⟨hq1, e⟩
    · have hq1 := eq_of_beq hq1
      subst hq1
      exact none_some e
    · replace e := cond_eq_or e
      rcases e with ⟨hq2, e⟩ | ⟨hq2, e⟩
      · have hq2 := eq_of_beq hq2
        subst hq2
        exact none_some e
      · injection e with e; injection e with i0 i1; subst i0 i1; exact fn_specG hU (P := Tryd.prog) Tryd.func17 (fun xs w => by kernel_rfl) 1 _ _ (fun _ => rfl) _ _ _ [] [.o, .o, .o, .a 1, .b (z_eqlF hq0), .o, .b (z_eqlF hq1), .o, .b (z_eqlF hq2), .o, .o, .a 1, .ov (str_eql 9 w1 (⟨#[]⟩ : ByteArray) (by kernel_rfl) (.tmp 34) (.const (.string (⟨#[]⟩ : ByteArray)))), .o] [] (fun b => by kernel_rfl)
inductive R_btf_checkType_v3 where
  | e0 (c0_0 : Int) (c0_1 : Int)
noncomputable def m_btf_checkType_v3 (y0 : Type0) (y1 : Int) (w0 : Int) : Option R_btf_checkType_v3 :=
  bif decide (y0.fKind < 1) then
    (some (.e0 w0 41))
  else (bif decide (6 < y0.fKind) then
    (some (.e0 w0 41))
  else ((m_btf_rightName_v3 y0.fKind y0.fName y0.fSize y0.fSigned y0.fTo y0.fCount w0).bind fun g0 => match g0 with
  | .e0 g0_0 g0_1 =>
  bif g0_1 then
    (bif m_btf_rightSize_v2 (⟨y0.fKind, y0.fName, y0.fSize, y0.fSigned, y0.fTo, y0.fCount, ()⟩ : Type0) then
      (bif m_btf_rightReferences_v2 (⟨y0.fKind, y0.fName, y0.fSize, y0.fSigned, y0.fTo, y0.fCount, ()⟩ : Type0) y1 then
        (bif m_btf_onlyOwnFields_v2 (⟨y0.fKind, y0.fName, y0.fSize, y0.fSigned, y0.fTo, y0.fCount, ()⟩ : Type0) then
          (some (.e0 g0_0 0))
        else (some (.e0 g0_0 41)))
      else (some (.e0 g0_0 41)))
    else (some (.e0 g0_0 43)))
  else (some (.e0 g0_0 44))))
def sq0_btf_checkType_v3 (y0 : Type0) (y1 : Int) (w0 : Int) (c0_0 : Int) (c0_1 : Int) : Spc := ⟨fun ls => .call 10 #[(v_Type0 y0), .int .i64 (y1), .map (some (lget ls 0).n)], fun ls => [.map #[⟨.agg #[.int .i64 (1), .string (⟨#[117, 110, 105, 116]⟩ : ByteArray)], .int .i64 (w0), 0⟩] 1], 0, .normal, fun ls => [.int .i64 (c0_1)], fun ls => [.map #[⟨.agg #[.int .i64 (1), .string (⟨#[117, 110, 105, 116]⟩ : ByteArray)], .int .i64 (c0_0), 0⟩] 1], fun ls => []⟩
theorem ok0_btf_checkType_v3 (y0 : Type0) (y1 : Int) (w0 : Int) (c0_0 : Int) (c0_1 : Int) (e : m_btf_checkType_v3 y0 y1 w0 = some (.e0 c0_0 c0_1)) : SpcG Tryd.prog M B0 S (sq0_btf_checkType_v3 y0 y1 w0 c0_0 c0_1) := by
  unfold m_btf_checkType_v3 at e
  replace e := cond_eq_or e
  rcases e with ⟨hq0, e⟩ | ⟨hq0, e⟩
  · injection e with e; injection e with i0 i1; subst i0 i1; exact fn_specG hU (P := Tryd.prog) Tryd.func10 (fun xs w => by kernel_rfl) 1 _ _ (fun _ => rfl) _ _ _ [] [.o, .o, .o, .a 1, .b (z_lssT hq0), .o, .o, .o, .o] [] (fun b => by kernel_rfl)
  · replace e := cond_eq_or e
    rcases e with ⟨hq1, e⟩ | ⟨hq1, e⟩
    · injection e with e; injection e with i0 i1; subst i0 i1; exact fn_specG hU (P := Tryd.prog) Tryd.func10 (fun xs w => by kernel_rfl) 1 _ _ (fun _ => rfl) _ _ _ [] [.o, .o, .o, .a 1, .b (z_lssF hq0), .o, .o, .a 1, .b (z_gtrT hq1), .o, .o, .o] [] (fun b => by kernel_rfl)
    · replace e := bindO_eq e
      obtain ⟨g0, e_g0, e⟩ := e
      obtain ⟨g0_0, g0_1⟩ := g0
      try dsimp only at e
      replace e := cond_eq_or e
      rcases e with ⟨hq2, e⟩ | ⟨hq2, e⟩
      · subst hq2
        replace e := cond_eq_or e
        rcases e with ⟨hq3, e⟩ | ⟨hq3, e⟩
        · replace e := cond_eq_or e
          rcases e with ⟨hq4, e⟩ | ⟨hq4, e⟩
          · replace e := cond_eq_or e
            rcases e with ⟨hq5, e⟩ | ⟨hq5, e⟩
            · injection e with e; injection e with i0 i1; subst i0 i1; exact fn_specG hU (P := Tryd.prog) Tryd.func10 (fun xs w => by kernel_rfl) 1 _ _ (fun _ => rfl) _ _ _ [] [.o, .o, .o, .a 1, .b (z_lssF hq0), .o, .o, .a 1, .b (z_gtrF hq1), .o, .o, .a 1, .o, .xg (ok0_btf_rightName_v3 hU y0.fKind y0.fName y0.fSize y0.fSigned y0.fTo y0.fCount w0 g0_0 true e_g0) [0], .o, .o, .a 1, .cg (ok_btf_rightSize_v2 hU (⟨y0.fKind, y0.fName, y0.fSize, y0.fSigned, y0.fTo, y0.fCount, ()⟩ : Type0) true hq3), .o, .o, .a 1, .cg (ok_btf_rightMemberNames_v2 hU (⟨y0.fKind, y0.fName, y0.fSize, y0.fSigned, y0.fTo, y0.fCount, ()⟩ : Type0) ), .o, .o, .a 1, .o, .cg (ok_btf_rightReferences_v2 hU (⟨y0.fKind, y0.fName, y0.fSize, y0.fSigned, y0.fTo, y0.fCount, ()⟩ : Type0) y1 true hq4), .o, .o, .a 1, .cg (ok_btf_onlyOwnFields_v2 hU (⟨y0.fKind, y0.fName, y0.fSize, y0.fSigned, y0.fTo, y0.fCount, ()⟩ : Type0) true hq5), .o, .o, .o, .o] [] (fun b => by kernel_rfl)
            · injection e with e; injection e with i0 i1; subst i0 i1; exact fn_specG hU (P := Tryd.prog) Tryd.func10 (fun xs w => by kernel_rfl) 1 _ _ (fun _ => rfl) _ _ _ [] [.o, .o, .o, .a 1, .b (z_lssF hq0), .o, .o, .a 1, .b (z_gtrF hq1), .o, .o, .a 1, .o, .xg (ok0_btf_rightName_v3 hU y0.fKind y0.fName y0.fSize y0.fSigned y0.fTo y0.fCount w0 g0_0 true e_g0) [0], .o, .o, .a 1, .cg (ok_btf_rightSize_v2 hU (⟨y0.fKind, y0.fName, y0.fSize, y0.fSigned, y0.fTo, y0.fCount, ()⟩ : Type0) true hq3), .o, .o, .a 1, .cg (ok_btf_rightMemberNames_v2 hU (⟨y0.fKind, y0.fName, y0.fSize, y0.fSigned, y0.fTo, y0.fCount, ()⟩ : Type0) ), .o, .o, .a 1, .o, .cg (ok_btf_rightReferences_v2 hU (⟨y0.fKind, y0.fName, y0.fSize, y0.fSigned, y0.fTo, y0.fCount, ()⟩ : Type0) y1 true hq4), .o, .o, .a 1, .cg (ok_btf_onlyOwnFields_v2 hU (⟨y0.fKind, y0.fName, y0.fSize, y0.fSigned, y0.fTo, y0.fCount, ()⟩ : Type0) false hq5), .o, .o, .o, .o] [] (fun b => by kernel_rfl)
          · injection e with e; injection e with i0 i1; subst i0 i1; exact fn_specG hU (P := Tryd.prog) Tryd.func10 (fun xs w => by kernel_rfl) 1 _ _ (fun _ => rfl) _ _ _ [] [.o, .o, .o, .a 1, .b (z_lssF hq0), .o, .o, .a 1, .b (z_gtrF hq1), .o, .o, .a 1, .o, .xg (ok0_btf_rightName_v3 hU y0.fKind y0.fName y0.fSize y0.fSigned y0.fTo y0.fCount w0 g0_0 true e_g0) [0], .o, .o, .a 1, .cg (ok_btf_rightSize_v2 hU (⟨y0.fKind, y0.fName, y0.fSize, y0.fSigned, y0.fTo, y0.fCount, ()⟩ : Type0) true hq3), .o, .o, .a 1, .cg (ok_btf_rightMemberNames_v2 hU (⟨y0.fKind, y0.fName, y0.fSize, y0.fSigned, y0.fTo, y0.fCount, ()⟩ : Type0) ), .o, .o, .a 1, .o, .cg (ok_btf_rightReferences_v2 hU (⟨y0.fKind, y0.fName, y0.fSize, y0.fSigned, y0.fTo, y0.fCount, ()⟩ : Type0) y1 false hq4), .o, .o, .o, .o, .o] [] (fun b => by kernel_rfl)
        · injection e with e; injection e with i0 i1; subst i0 i1; exact fn_specG hU (P := Tryd.prog) Tryd.func10 (fun xs w => by kernel_rfl) 1 _ _ (fun _ => rfl) _ _ _ [] [.o, .o, .o, .a 1, .b (z_lssF hq0), .o, .o, .a 1, .b (z_gtrF hq1), .o, .o, .a 1, .o, .xg (ok0_btf_rightName_v3 hU y0.fKind y0.fName y0.fSize y0.fSigned y0.fTo y0.fCount w0 g0_0 true e_g0) [0], .o, .o, .a 1, .cg (ok_btf_rightSize_v2 hU (⟨y0.fKind, y0.fName, y0.fSize, y0.fSigned, y0.fTo, y0.fCount, ()⟩ : Type0) false hq3), .o, .o, .o] [] (fun b => by kernel_rfl)
      · subst hq2
        injection e with e; injection e with i0 i1; subst i0 i1; exact fn_specG hU (P := Tryd.prog) Tryd.func10 (fun xs w => by kernel_rfl) 1 _ _ (fun _ => rfl) _ _ _ [] [.o, .o, .o, .a 1, .b (z_lssF hq0), .o, .o, .a 1, .b (z_gtrF hq1), .o, .o, .a 1, .o, .xg (ok0_btf_rightName_v3 hU y0.fKind y0.fName y0.fSize y0.fSigned y0.fTo y0.fCount w0 g0_0 false e_g0) [0], .o, .o, .o] [] (fun b => by kernel_rfl)
inductive R_btf_holdsItself_1_v3 where
  | e0 (c0_0 : Nat → Bool) (c0_1 : Bool)
inductive Sh_btf_holdsItself_1_v3_L0 where
  | c0 (s0_0 : Nat → Bool) (s0_1 : Int)
inductive Ex_btf_holdsItself_1_v3_L0 where
  | e0 (c0_0 : Nat → Bool)
  | e1 (c1_0 : Nat → Bool)
noncomputable def st_btf_holdsItself_1_v3_L0 (w0 : Nat) (w1 : Nat → Type0) (w2 : Int) (mr0 : (Int) → (Nat) → (Nat → Type0) → (Int) → (Nat → Bool) → Option R_btf_holdsItself_1_v3) (g0_0 : Nat → Int) : Sh_btf_holdsItself_1_v3_L0 → Option (Sh_btf_holdsItself_1_v3_L0 ⊕ Ex_btf_holdsItself_1_v3_L0)
  | .c0 s0_0 s0_1 =>
    bif decide (s0_1 < 1) then
      (bif inR s0_1 1 then
        (bif (g0_0 (s0_1).toNat) == w2 then
          (some (.inr (.e1 s0_0)))
        else (bif inR (g0_0 (s0_1).toNat) 257 then
          (bif (s0_0 ((g0_0 (s0_1).toNat)).toNat) then
            (some (.inl (.c0 s0_0 (IntKind.i64.wrap (s0_1 + 1)))))
          else ((mr0 (g0_0 (s0_1).toNat) w0 w1 w2 (updF s0_0 ((g0_0 (s0_1).toNat)).toNat true)).bind fun gb0 => match gb0 with
          | .e0 gb0_0 gb0_1 =>
          bif gb0_1 then
            (some (.inr (.e1 gb0_0)))
          else (some (.inl (.c0 gb0_0 (IntKind.i64.wrap (s0_1 + 1)))))))
        else (none)))
      else (none))
    else (some (.inr (.e0 s0_0)))
noncomputable def bd_btf_holdsItself_1_v3_L0 : Code := codeOf Tryd.f22 [1, 0, 1, 0, 0]
def fl_btf_holdsItself_1_v3_L0 (y0 : Int) (w0 : Nat) (w1 : Nat → Type0) (w2 : Int) (w3 : Nat → Bool) (mr0 : (Int) → (Nat) → (Nat → Type0) → (Int) → (Nat → Bool) → Option R_btf_holdsItself_1_v3) (ih0 : ∀ {M : Nat → Prop} {B0 : Nat} {S : World → Prop} (hU : Up M B0 S) (y0 : Int) (w0 : Nat) (w1 : Nat → Type0) (w2 : Int) (w3 : Nat → Bool) (c0_0 : Nat → Bool) (c0_1 : Bool), mr0 y0 w0 w1 w2 w3 = some (.e0 c0_0 c0_1) → SpcG Tryd.prog M B0 S ⟨fun ls => .call 22 #[.int .i64 (y0), .pointer (some ⟨(lget ls 0).n, 0, none⟩), .pointer (some ⟨(lget ls 2).n, 0, none⟩), .pointer (some ⟨(lget ls 3).n, 0, none⟩), .pointer (some ⟨(lget ls 4).n, 0, none⟩)], fun ls => [.cells #[(rowV (lget ls 1) w0 7)] 27, rowO (lget ls 1) (esG c_Type0 w0 w1) 26 w0 7, .cells #[.int .i64 (w2)] 3, .cells ⟨esG cB 257 w3⟩ 50, .cells #[.func (.func 22) #[] #[.pointer (some ⟨(lget ls 0).n, 0, none⟩), .pointer (some ⟨(lget ls 2).n, 0, none⟩), .pointer (some ⟨(lget ls 3).n, 0, none⟩), .pointer (some ⟨(lget ls 4).n, 0, none⟩)]] 51], 0, .normal, fun ls => [.bool (c0_1)], fun ls => [.cells #[(rowV (lget ls 1) w0 7)] 27, rowO (lget ls 1) (esG c_Type0 w0 w1) 26 w0 7, .cells #[.int .i64 (w2)] 3, .cells ⟨esG cB 257 c0_0⟩ 50, .cells #[.func (.func 22) #[] #[.pointer (some ⟨(lget ls 0).n, 0, none⟩), .pointer (some ⟨(lget ls 2).n, 0, none⟩), .pointer (some ⟨(lget ls 3).n, 0, none⟩), .pointer (some ⟨(lget ls 4).n, 0, none⟩)]] 51], fun ls => []⟩) (g0_0 : Nat → Int) : Sh_btf_holdsItself_1_v3_L0 → List L1 → List Value
  | .c0 s0_0 s0_1, ls => [.pointer (some ⟨(lget ls 2).n, 0, none⟩), .pointer (some ⟨(lget ls 3).n, 0, none⟩), .pointer (some ⟨(lget ls 4).n, 0, none⟩), .bool false, (rowV (lget ls 5) 1 1), .int .i64 (1), .int .i64 (s0_1)]
def mf_btf_holdsItself_1_v3_L0 : Sh_btf_holdsItself_1_v3_L0 → List (Nat × Nat)
  | .c0 _ _ => [(0, 2), (3, 1), (1, 7), (3, 15)]
noncomputable def fr_btf_holdsItself_1_v3_L0 (y0 : Int) (w0 : Nat) (w1 : Nat → Type0) (w2 : Int) (w3 : Nat → Bool) (mr0 : (Int) → (Nat) → (Nat → Type0) → (Int) → (Nat → Bool) → Option R_btf_holdsItself_1_v3) (ih0 : ∀ {M : Nat → Prop} {B0 : Nat} {S : World → Prop} (hU : Up M B0 S) (y0 : Int) (w0 : Nat) (w1 : Nat → Type0) (w2 : Int) (w3 : Nat → Bool) (c0_0 : Nat → Bool) (c0_1 : Bool), mr0 y0 w0 w1 w2 w3 = some (.e0 c0_0 c0_1) → SpcG Tryd.prog M B0 S ⟨fun ls => .call 22 #[.int .i64 (y0), .pointer (some ⟨(lget ls 0).n, 0, none⟩), .pointer (some ⟨(lget ls 2).n, 0, none⟩), .pointer (some ⟨(lget ls 3).n, 0, none⟩), .pointer (some ⟨(lget ls 4).n, 0, none⟩)], fun ls => [.cells #[(rowV (lget ls 1) w0 7)] 27, rowO (lget ls 1) (esG c_Type0 w0 w1) 26 w0 7, .cells #[.int .i64 (w2)] 3, .cells ⟨esG cB 257 w3⟩ 50, .cells #[.func (.func 22) #[] #[.pointer (some ⟨(lget ls 0).n, 0, none⟩), .pointer (some ⟨(lget ls 2).n, 0, none⟩), .pointer (some ⟨(lget ls 3).n, 0, none⟩), .pointer (some ⟨(lget ls 4).n, 0, none⟩)]] 51], 0, .normal, fun ls => [.bool (c0_1)], fun ls => [.cells #[(rowV (lget ls 1) w0 7)] 27, rowO (lget ls 1) (esG c_Type0 w0 w1) 26 w0 7, .cells #[.int .i64 (w2)] 3, .cells ⟨esG cB 257 c0_0⟩ 50, .cells #[.func (.func 22) #[] #[.pointer (some ⟨(lget ls 0).n, 0, none⟩), .pointer (some ⟨(lget ls 2).n, 0, none⟩), .pointer (some ⟨(lget ls 3).n, 0, none⟩), .pointer (some ⟨(lget ls 4).n, 0, none⟩)]] 51], fun ls => []⟩) (g0_0 : Nat → Int) (s : Sh_btf_holdsItself_1_v3_L0) : List L1 → List Value := mrgF (mf_btf_holdsItself_1_v3_L0 s) (fl_btf_holdsItself_1_v3_L0 y0 w0 w1 w2 w3 mr0 ih0 g0_0 s) 6
def Hs_btf_holdsItself_1_v3_L0 (y0 : Int) (w0 : Nat) (w1 : Nat → Type0) (w2 : Int) (w3 : Nat → Bool) (mr0 : (Int) → (Nat) → (Nat → Type0) → (Int) → (Nat → Bool) → Option R_btf_holdsItself_1_v3) (ih0 : ∀ {M : Nat → Prop} {B0 : Nat} {S : World → Prop} (hU : Up M B0 S) (y0 : Int) (w0 : Nat) (w1 : Nat → Type0) (w2 : Int) (w3 : Nat → Bool) (c0_0 : Nat → Bool) (c0_1 : Bool), mr0 y0 w0 w1 w2 w3 = some (.e0 c0_0 c0_1) → SpcG Tryd.prog M B0 S ⟨fun ls => .call 22 #[.int .i64 (y0), .pointer (some ⟨(lget ls 0).n, 0, none⟩), .pointer (some ⟨(lget ls 2).n, 0, none⟩), .pointer (some ⟨(lget ls 3).n, 0, none⟩), .pointer (some ⟨(lget ls 4).n, 0, none⟩)], fun ls => [.cells #[(rowV (lget ls 1) w0 7)] 27, rowO (lget ls 1) (esG c_Type0 w0 w1) 26 w0 7, .cells #[.int .i64 (w2)] 3, .cells ⟨esG cB 257 w3⟩ 50, .cells #[.func (.func 22) #[] #[.pointer (some ⟨(lget ls 0).n, 0, none⟩), .pointer (some ⟨(lget ls 2).n, 0, none⟩), .pointer (some ⟨(lget ls 3).n, 0, none⟩), .pointer (some ⟨(lget ls 4).n, 0, none⟩)]] 51], 0, .normal, fun ls => [.bool (c0_1)], fun ls => [.cells #[(rowV (lget ls 1) w0 7)] 27, rowO (lget ls 1) (esG c_Type0 w0 w1) 26 w0 7, .cells #[.int .i64 (w2)] 3, .cells ⟨esG cB 257 c0_0⟩ 50, .cells #[.func (.func 22) #[] #[.pointer (some ⟨(lget ls 0).n, 0, none⟩), .pointer (some ⟨(lget ls 2).n, 0, none⟩), .pointer (some ⟨(lget ls 3).n, 0, none⟩), .pointer (some ⟨(lget ls 4).n, 0, none⟩)]] 51], fun ls => []⟩) (g0_0 : Nat → Int) : Sh_btf_holdsItself_1_v3_L0 → List L1 → List Obj
  | .c0 s0_0 s0_1, ls => [.cells #[(rowV (lget ls 1) w0 7)] 27, rowO (lget ls 1) (esG c_Type0 w0 w1) 26 w0 7, .cells #[.int .i64 (w2)] 3, .cells ⟨esG cB 257 s0_0⟩ 50, .cells #[.func (.func 22) #[] #[.pointer (some ⟨(lget ls 0).n, 0, none⟩), .pointer (some ⟨(lget ls 2).n, 0, none⟩), .pointer (some ⟨(lget ls 3).n, 0, none⟩), .pointer (some ⟨(lget ls 4).n, 0, none⟩)]] 51, rowO (lget ls 5) (esG cZ 1 g0_0) 3 1 1, unb]
def vl_btf_holdsItself_1_v3_L0 (y0 : Int) (w0 : Nat) (w1 : Nat → Type0) (w2 : Int) (w3 : Nat → Bool) (mr0 : (Int) → (Nat) → (Nat → Type0) → (Int) → (Nat → Bool) → Option R_btf_holdsItself_1_v3) (ih0 : ∀ {M : Nat → Prop} {B0 : Nat} {S : World → Prop} (hU : Up M B0 S) (y0 : Int) (w0 : Nat) (w1 : Nat → Type0) (w2 : Int) (w3 : Nat → Bool) (c0_0 : Nat → Bool) (c0_1 : Bool), mr0 y0 w0 w1 w2 w3 = some (.e0 c0_0 c0_1) → SpcG Tryd.prog M B0 S ⟨fun ls => .call 22 #[.int .i64 (y0), .pointer (some ⟨(lget ls 0).n, 0, none⟩), .pointer (some ⟨(lget ls 2).n, 0, none⟩), .pointer (some ⟨(lget ls 3).n, 0, none⟩), .pointer (some ⟨(lget ls 4).n, 0, none⟩)], fun ls => [.cells #[(rowV (lget ls 1) w0 7)] 27, rowO (lget ls 1) (esG c_Type0 w0 w1) 26 w0 7, .cells #[.int .i64 (w2)] 3, .cells ⟨esG cB 257 w3⟩ 50, .cells #[.func (.func 22) #[] #[.pointer (some ⟨(lget ls 0).n, 0, none⟩), .pointer (some ⟨(lget ls 2).n, 0, none⟩), .pointer (some ⟨(lget ls 3).n, 0, none⟩), .pointer (some ⟨(lget ls 4).n, 0, none⟩)]] 51], 0, .normal, fun ls => [.bool (c0_1)], fun ls => [.cells #[(rowV (lget ls 1) w0 7)] 27, rowO (lget ls 1) (esG c_Type0 w0 w1) 26 w0 7, .cells #[.int .i64 (w2)] 3, .cells ⟨esG cB 257 c0_0⟩ 50, .cells #[.func (.func 22) #[] #[.pointer (some ⟨(lget ls 0).n, 0, none⟩), .pointer (some ⟨(lget ls 2).n, 0, none⟩), .pointer (some ⟨(lget ls 3).n, 0, none⟩), .pointer (some ⟨(lget ls 4).n, 0, none⟩)]] 51], fun ls => []⟩) (g0_0 : Nat → Int) : Ex_btf_holdsItself_1_v3_L0 → List L1 → List Value
  | .e0 c0_0, ls => [.pointer (some ⟨(lget ls 2).n, 0, none⟩), .pointer (some ⟨(lget ls 3).n, 0, none⟩), .pointer (some ⟨(lget ls 4).n, 0, none⟩), .bool false, (rowV (lget ls 5) 1 1), .int .i64 (1)]
  | .e1 c1_0, ls => [.pointer (some ⟨(lget ls 2).n, 0, none⟩), .pointer (some ⟨(lget ls 3).n, 0, none⟩), .pointer (some ⟨(lget ls 4).n, 0, none⟩), .bool true, (rowV (lget ls 5) 1 1), .int .i64 (1)]
def mk_btf_holdsItself_1_v3_L0 : Ex_btf_holdsItself_1_v3_L0 → List (Nat × Nat)
  | .e0 _ => [(0, 2), (3, 1), (1, 7), (2, 16)]
  | .e1 _ => [(0, 2), (3, 1), (1, 7), (2, 16)]
noncomputable def vf_btf_holdsItself_1_v3_L0 (y0 : Int) (w0 : Nat) (w1 : Nat → Type0) (w2 : Int) (w3 : Nat → Bool) (mr0 : (Int) → (Nat) → (Nat → Type0) → (Int) → (Nat → Bool) → Option R_btf_holdsItself_1_v3) (ih0 : ∀ {M : Nat → Prop} {B0 : Nat} {S : World → Prop} (hU : Up M B0 S) (y0 : Int) (w0 : Nat) (w1 : Nat → Type0) (w2 : Int) (w3 : Nat → Bool) (c0_0 : Nat → Bool) (c0_1 : Bool), mr0 y0 w0 w1 w2 w3 = some (.e0 c0_0 c0_1) → SpcG Tryd.prog M B0 S ⟨fun ls => .call 22 #[.int .i64 (y0), .pointer (some ⟨(lget ls 0).n, 0, none⟩), .pointer (some ⟨(lget ls 2).n, 0, none⟩), .pointer (some ⟨(lget ls 3).n, 0, none⟩), .pointer (some ⟨(lget ls 4).n, 0, none⟩)], fun ls => [.cells #[(rowV (lget ls 1) w0 7)] 27, rowO (lget ls 1) (esG c_Type0 w0 w1) 26 w0 7, .cells #[.int .i64 (w2)] 3, .cells ⟨esG cB 257 w3⟩ 50, .cells #[.func (.func 22) #[] #[.pointer (some ⟨(lget ls 0).n, 0, none⟩), .pointer (some ⟨(lget ls 2).n, 0, none⟩), .pointer (some ⟨(lget ls 3).n, 0, none⟩), .pointer (some ⟨(lget ls 4).n, 0, none⟩)]] 51], 0, .normal, fun ls => [.bool (c0_1)], fun ls => [.cells #[(rowV (lget ls 1) w0 7)] 27, rowO (lget ls 1) (esG c_Type0 w0 w1) 26 w0 7, .cells #[.int .i64 (w2)] 3, .cells ⟨esG cB 257 c0_0⟩ 50, .cells #[.func (.func 22) #[] #[.pointer (some ⟨(lget ls 0).n, 0, none⟩), .pointer (some ⟨(lget ls 2).n, 0, none⟩), .pointer (some ⟨(lget ls 3).n, 0, none⟩), .pointer (some ⟨(lget ls 4).n, 0, none⟩)]] 51], fun ls => []⟩) (g0_0 : Nat → Int) (r : Ex_btf_holdsItself_1_v3_L0) : List L1 → List Value := mrgF (mk_btf_holdsItself_1_v3_L0 r) (vl_btf_holdsItself_1_v3_L0 y0 w0 w1 w2 w3 mr0 ih0 g0_0 r) 6
def Hf_btf_holdsItself_1_v3_L0 (y0 : Int) (w0 : Nat) (w1 : Nat → Type0) (w2 : Int) (w3 : Nat → Bool) (mr0 : (Int) → (Nat) → (Nat → Type0) → (Int) → (Nat → Bool) → Option R_btf_holdsItself_1_v3) (ih0 : ∀ {M : Nat → Prop} {B0 : Nat} {S : World → Prop} (hU : Up M B0 S) (y0 : Int) (w0 : Nat) (w1 : Nat → Type0) (w2 : Int) (w3 : Nat → Bool) (c0_0 : Nat → Bool) (c0_1 : Bool), mr0 y0 w0 w1 w2 w3 = some (.e0 c0_0 c0_1) → SpcG Tryd.prog M B0 S ⟨fun ls => .call 22 #[.int .i64 (y0), .pointer (some ⟨(lget ls 0).n, 0, none⟩), .pointer (some ⟨(lget ls 2).n, 0, none⟩), .pointer (some ⟨(lget ls 3).n, 0, none⟩), .pointer (some ⟨(lget ls 4).n, 0, none⟩)], fun ls => [.cells #[(rowV (lget ls 1) w0 7)] 27, rowO (lget ls 1) (esG c_Type0 w0 w1) 26 w0 7, .cells #[.int .i64 (w2)] 3, .cells ⟨esG cB 257 w3⟩ 50, .cells #[.func (.func 22) #[] #[.pointer (some ⟨(lget ls 0).n, 0, none⟩), .pointer (some ⟨(lget ls 2).n, 0, none⟩), .pointer (some ⟨(lget ls 3).n, 0, none⟩), .pointer (some ⟨(lget ls 4).n, 0, none⟩)]] 51], 0, .normal, fun ls => [.bool (c0_1)], fun ls => [.cells #[(rowV (lget ls 1) w0 7)] 27, rowO (lget ls 1) (esG c_Type0 w0 w1) 26 w0 7, .cells #[.int .i64 (w2)] 3, .cells ⟨esG cB 257 c0_0⟩ 50, .cells #[.func (.func 22) #[] #[.pointer (some ⟨(lget ls 0).n, 0, none⟩), .pointer (some ⟨(lget ls 2).n, 0, none⟩), .pointer (some ⟨(lget ls 3).n, 0, none⟩), .pointer (some ⟨(lget ls 4).n, 0, none⟩)]] 51], fun ls => []⟩) (g0_0 : Nat → Int) : Ex_btf_holdsItself_1_v3_L0 → List L1 → List Obj
  | .e0 c0_0, ls => [.cells #[(rowV (lget ls 1) w0 7)] 27, rowO (lget ls 1) (esG c_Type0 w0 w1) 26 w0 7, .cells #[.int .i64 (w2)] 3, .cells ⟨esG cB 257 c0_0⟩ 50, .cells #[.func (.func 22) #[] #[.pointer (some ⟨(lget ls 0).n, 0, none⟩), .pointer (some ⟨(lget ls 2).n, 0, none⟩), .pointer (some ⟨(lget ls 3).n, 0, none⟩), .pointer (some ⟨(lget ls 4).n, 0, none⟩)]] 51, rowO (lget ls 5) (esG cZ 1 g0_0) 3 1 1, unb]
  | .e1 c1_0, ls => [.cells #[(rowV (lget ls 1) w0 7)] 27, rowO (lget ls 1) (esG c_Type0 w0 w1) 26 w0 7, .cells #[.int .i64 (w2)] 3, .cells ⟨esG cB 257 c1_0⟩ 50, .cells #[.func (.func 22) #[] #[.pointer (some ⟨(lget ls 0).n, 0, none⟩), .pointer (some ⟨(lget ls 2).n, 0, none⟩), .pointer (some ⟨(lget ls 3).n, 0, none⟩), .pointer (some ⟨(lget ls 4).n, 0, none⟩)]] 51, rowO (lget ls 5) (esG cZ 1 g0_0) 3 1 1, unb]
def ex_btf_holdsItself_1_v3_L0 : Ex_btf_holdsItself_1_v3_L0 → Ex
  | .e0 _ => (.exit 0)
  | .e1 _ => .ret
end
section
variable {M : Nat → Prop} {B0 : Nat} {S : World → Prop} (hU : Up M B0 S) (y0 : Int) (w0 : Nat) (w1 : Nat → Type0) (w2 : Int) (w3 : Nat → Bool) (mr0 : (Int) → (Nat) → (Nat → Type0) → (Int) → (Nat → Bool) → Option R_btf_holdsItself_1_v3) (ih0 : ∀ {M : Nat → Prop} {B0 : Nat} {S : World → Prop} (hU : Up M B0 S) (y0 : Int) (w0 : Nat) (w1 : Nat → Type0) (w2 : Int) (w3 : Nat → Bool) (c0_0 : Nat → Bool) (c0_1 : Bool), mr0 y0 w0 w1 w2 w3 = some (.e0 c0_0 c0_1) → SpcG Tryd.prog M B0 S ⟨fun ls => .call 22 #[.int .i64 (y0), .pointer (some ⟨(lget ls 0).n, 0, none⟩), .pointer (some ⟨(lget ls 2).n, 0, none⟩), .pointer (some ⟨(lget ls 3).n, 0, none⟩), .pointer (some ⟨(lget ls 4).n, 0, none⟩)], fun ls => [.cells #[(rowV (lget ls 1) w0 7)] 27, rowO (lget ls 1) (esG c_Type0 w0 w1) 26 w0 7, .cells #[.int .i64 (w2)] 3, .cells ⟨esG cB 257 w3⟩ 50, .cells #[.func (.func 22) #[] #[.pointer (some ⟨(lget ls 0).n, 0, none⟩), .pointer (some ⟨(lget ls 2).n, 0, none⟩), .pointer (some ⟨(lget ls 3).n, 0, none⟩), .pointer (some ⟨(lget ls 4).n, 0, none⟩)]] 51], 0, .normal, fun ls => [.bool (c0_1)], fun ls => [.cells #[(rowV (lget ls 1) w0 7)] 27, rowO (lget ls 1) (esG c_Type0 w0 w1) 26 w0 7, .cells #[.int .i64 (w2)] 3, .cells ⟨esG cB 257 c0_0⟩ 50, .cells #[.func (.func 22) #[] #[.pointer (some ⟨(lget ls 0).n, 0, none⟩), .pointer (some ⟨(lget ls 2).n, 0, none⟩), .pointer (some ⟨(lget ls 3).n, 0, none⟩), .pointer (some ⟨(lget ls 4).n, 0, none⟩)]] 51], fun ls => []⟩) (g0_0 : Nat → Int)
include hU y0 w0 w1 w2 w3 mr0 ih0 g0_0
theorem go_btf_holdsItself_1_v3_L0 (s : Sh_btf_holdsItself_1_v3_L0) (r : Ex_btf_holdsItself_1_v3_L0) (h : lpO (st_btf_holdsItself_1_v3_L0 w0 w1 w2 mr0 g0_0) s = some r) : GoesG Tryd.prog M B0 S (.loop bd_btf_holdsItself_1_v3_L0) 7 (fr_btf_holdsItself_1_v3_L0 y0 w0 w1 w2 w3 mr0 ih0 g0_0 s) (Hs_btf_holdsItself_1_v3_L0 y0 w0 w1 w2 w3 mr0 ih0 g0_0 s) (ex_btf_holdsItself_1_v3_L0 r) 6 (vf_btf_holdsItself_1_v3_L0 y0 w0 w1 w2 w3 mr0 ih0 g0_0 r) (Hf_btf_holdsItself_1_v3_L0 y0 w0 w1 w2 w3 mr0 ih0 g0_0 r) 7 :=
  goes_lpO (fun s q e => by
    cases s with
    | c0 s0_0 s0_1 =>
      unfold st_btf_holdsItself_1_v3_L0 at e
      dsimp only at e
      replace e := cond_eq_or e
      rcases e with ⟨hq0, e⟩ | ⟨hq0, e⟩
      · replace e := cond_eq_or e
        rcases e with ⟨hq1, e⟩ | ⟨hq1, e⟩
        · replace e := cond_eq_or e
          rcases e with ⟨hq2, e⟩ | ⟨hq2, e⟩
          · cases e; exact ⟨ne_ret, goes_runM hU [.b (z_lssT hq0), .q (ixM_ok (kd := .i64) (T := 52) (x := s0_1) (N := 1) (sz := 1) rfl (fun w => by kernel_rfl) hq1), .l (accG (i := 5) (f := cZ) (A := g0_0) (k := (s0_1).toNat) 0 [.int .i64 ((g0_0 (s0_1).toNat))] cZ_len (inR_nat hq1) rfl), .o, .o, .a 2, .b (z_eqlT hq2), .o] [0, 1, 2, 3, 4, 5] (fun b => rfl) (by decide) rfl rfl (fun b => by kernel_rfl)⟩
          · replace e := cond_eq_or e
            rcases e with ⟨hq3, e⟩ | ⟨hq3, e⟩
            · replace e := cond_eq_or e
              rcases e with ⟨hq4, e⟩ | ⟨hq4, e⟩
              · cases e; exact goes_runM hU [.b (z_lssT hq0), .q (ixM_ok (kd := .i64) (T := 52) (x := s0_1) (N := 1) (sz := 1) rfl (fun w => by kernel_rfl) hq1), .l (accG (i := 5) (f := cZ) (A := g0_0) (k := (s0_1).toNat) 0 [.int .i64 ((g0_0 (s0_1).toNat))] cZ_len (inR_nat hq1) rfl), .o, .o, .a 2, .b (z_eqlF hq2), .o, .q (ixA_ok (kd := .i64) (T := 50) (x := (g0_0 (s0_1).toNat)) (sz := 1) (N := 257) rfl rfl (fun w => by kernel_rfl) hq3), .l (accF (i := 3) (f := cB) (A := s0_0) (k := ((g0_0 (s0_1).toNat)).toNat) 0 [.bool true] cB_len (inR_nat hq3) (congrArg (fun b => [Value.bool b]) hq4)), .o, .o] [0, 1, 2, 3, 4, 5] (fun b => rfl) (by decide) rfl rfl (fun b => by kernel_rfl)
              · replace e := bindO_eq e
                obtain ⟨gb0, e_gb0, e⟩ := e
                obtain ⟨gb0_0, gb0_1⟩ := gb0
                try dsimp only at e
                replace e := cond_eq_or e
                rcases e with ⟨hq5, e⟩ | ⟨hq5, e⟩
                · subst hq5
                  cases e; exact ⟨ne_ret, goes_runM hU [.b (z_lssT hq0), .q (ixM_ok (kd := .i64) (T := 52) (x := s0_1) (N := 1) (sz := 1) rfl (fun w => by kernel_rfl) hq1), .l (accG (i := 5) (f := cZ) (A := g0_0) (k := (s0_1).toNat) 0 [.int .i64 ((g0_0 (s0_1).toNat))] cZ_len (inR_nat hq1) rfl), .o, .o, .a 2, .b (z_eqlF hq2), .o, .q (ixA_ok (kd := .i64) (T := 50) (x := (g0_0 (s0_1).toNat)) (sz := 1) (N := 257) rfl rfl (fun w => by kernel_rfl) hq3), .l (accF (i := 3) (f := cB) (A := s0_0) (k := ((g0_0 (s0_1).toNat)).toNat) 0 [.bool false] cB_len (inR_nat hq3) (congrArg (fun b => [Value.bool b]) hq4)), .o, .q (ixA_ok (kd := .i64) (T := 50) (x := (g0_0 (s0_1).toNat)) (sz := 1) (N := 257) rfl rfl (fun w => by kernel_rfl) hq3), .x (sqStF_ok (T := 4) (e := 50) (f := cB) (A := s0_0) (v := true) 0 (.bool true) cB_len cB_one rfl rfl (fun w => by kernel_rfl) (inR_nat hq3)) [3], .a 4, .o, .xg (ih0 hU (g0_0 (s0_1).toNat) w0 w1 w2 (updF s0_0 ((g0_0 (s0_1).toNat)).toNat true) gb0_0 true e_gb0) [0, 1, 2, 3, 4], .o] [0, 1, 2, 3, 4, 5] (fun b => rfl) (by decide) rfl rfl (fun b => by kernel_rfl)⟩
                · subst hq5
                  cases e; exact goes_runM hU [.b (z_lssT hq0), .q (ixM_ok (kd := .i64) (T := 52) (x := s0_1) (N := 1) (sz := 1) rfl (fun w => by kernel_rfl) hq1), .l (accG (i := 5) (f := cZ) (A := g0_0) (k := (s0_1).toNat) 0 [.int .i64 ((g0_0 (s0_1).toNat))] cZ_len (inR_nat hq1) rfl), .o, .o, .a 2, .b (z_eqlF hq2), .o, .q (ixA_ok (kd := .i64) (T := 50) (x := (g0_0 (s0_1).toNat)) (sz := 1) (N := 257) rfl rfl (fun w => by kernel_rfl) hq3), .l (accF (i := 3) (f := cB) (A := s0_0) (k := ((g0_0 (s0_1).toNat)).toNat) 0 [.bool false] cB_len (inR_nat hq3) (congrArg (fun b => [Value.bool b]) hq4)), .o, .q (ixA_ok (kd := .i64) (T := 50) (x := (g0_0 (s0_1).toNat)) (sz := 1) (N := 257) rfl rfl (fun w => by kernel_rfl) hq3), .x (sqStF_ok (T := 4) (e := 50) (f := cB) (A := s0_0) (v := true) 0 (.bool true) cB_len cB_one rfl rfl (fun w => by kernel_rfl) (inR_nat hq3)) [3], .a 4, .o, .xg (ih0 hU (g0_0 (s0_1).toNat) w0 w1 w2 (updF s0_0 ((g0_0 (s0_1).toNat)).toNat true) gb0_0 false e_gb0) [0, 1, 2, 3, 4], .o, .o] [0, 1, 2, 3, 4, 5] (fun b => rfl) (by decide) rfl rfl (fun b => by kernel_rfl)
            · exact none_some e
        · exact none_some e
      · cases e; exact ⟨ne_exit 0, goes_runM hU [.b (z_lssF hq0)] [0, 1, 2, 3, 4, 5] (fun b => rfl) (by decide) rfl rfl (fun b => by kernel_rfl)⟩) s r h
noncomputable def t0_btf_holdsItself_1_v3_L0_0 (y0 : Int) (w0 : Nat) (w1 : Nat → Type0) (w2 : Int) (w3 : Nat → Bool) (mr0 : (Int) → (Nat) → (Nat → Type0) → (Int) → (Nat → Bool) → Option R_btf_holdsItself_1_v3) (ih0 : ∀ {M : Nat → Prop} {B0 : Nat} {S : World → Prop} (hU : Up M B0 S) (y0 : Int) (w0 : Nat) (w1 : Nat → Type0) (w2 : Int) (w3 : Nat → Bool) (c0_0 : Nat → Bool) (c0_1 : Bool), mr0 y0 w0 w1 w2 w3 = some (.e0 c0_0 c0_1) → SpcG Tryd.prog M B0 S ⟨fun ls => .call 22 #[.int .i64 (y0), .pointer (some ⟨(lget ls 0).n, 0, none⟩), .pointer (some ⟨(lget ls 2).n, 0, none⟩), .pointer (some ⟨(lget ls 3).n, 0, none⟩), .pointer (some ⟨(lget ls 4).n, 0, none⟩)], fun ls => [.cells #[(rowV (lget ls 1) w0 7)] 27, rowO (lget ls 1) (esG c_Type0 w0 w1) 26 w0 7, .cells #[.int .i64 (w2)] 3, .cells ⟨esG cB 257 w3⟩ 50, .cells #[.func (.func 22) #[] #[.pointer (some ⟨(lget ls 0).n, 0, none⟩), .pointer (some ⟨(lget ls 2).n, 0, none⟩), .pointer (some ⟨(lget ls 3).n, 0, none⟩), .pointer (some ⟨(lget ls 4).n, 0, none⟩)]] 51], 0, .normal, fun ls => [.bool (c0_1)], fun ls => [.cells #[(rowV (lget ls 1) w0 7)] 27, rowO (lget ls 1) (esG c_Type0 w0 w1) 26 w0 7, .cells #[.int .i64 (w2)] 3, .cells ⟨esG cB 257 c0_0⟩ 50, .cells #[.func (.func 22) #[] #[.pointer (some ⟨(lget ls 0).n, 0, none⟩), .pointer (some ⟨(lget ls 2).n, 0, none⟩), .pointer (some ⟨(lget ls 3).n, 0, none⟩), .pointer (some ⟨(lget ls 4).n, 0, none⟩)]] 51], fun ls => []⟩) (g0_0 : Nat → Int) (s0_0 : Nat → Bool) (s0_1 : Int) (ls : List L1) : List Value := List.append [.int .i64 (y0), .pointer (some ⟨(lget ls 0).n, 0, none⟩), .pointer (some ⟨(lget ls 2).n, 0, none⟩), .pointer (some ⟨(lget ls 3).n, 0, none⟩), .pointer (some ⟨(lget ls 4).n, 0, none⟩), undef, .bool false, undef, undef, (rowV (lget ls 1) w0 7), .int .i64 (y0), .int .i64 ((IntKind.i64.wrap (y0 - 1))), .pointer (some ⟨(lget ls 1).n, 0 + ((IntKind.i64.wrap (y0 - 1))).toNat * 7, none⟩), .agg #[.int .i64 (((w1 ((IntKind.i64.wrap (y0 - 1))).toNat)).fKind), .string ((w1 ((IntKind.i64.wrap (y0 - 1))).toNat)).fName, .int .i64 (((w1 ((IntKind.i64.wrap (y0 - 1))).toNat)).fSize), .bool (((w1 ((IntKind.i64.wrap (y0 - 1))).toNat)).fSigned), .int .i64 (((w1 ((IntKind.i64.wrap (y0 - 1))).toNat)).fTo), .int .i64 (((w1 ((IntKind.i64.wrap (y0 - 1))).toNat)).fCount), .slice none 0 0], (rowV (lget ls 5) 1 1), .int .i64 (1), .int .i64 (s0_1)] (und 15)
def pre_btf_holdsItself_1_v3_L0_0 (y0 : Int) (w0 : Nat) (w1 : Nat → Type0) (w2 : Int) (w3 : Nat → Bool) (mr0 : (Int) → (Nat) → (Nat → Type0) → (Int) → (Nat → Bool) → Option R_btf_holdsItself_1_v3) (ih0 : ∀ {M : Nat → Prop} {B0 : Nat} {S : World → Prop} (hU : Up M B0 S) (y0 : Int) (w0 : Nat) (w1 : Nat → Type0) (w2 : Int) (w3 : Nat → Bool) (c0_0 : Nat → Bool) (c0_1 : Bool), mr0 y0 w0 w1 w2 w3 = some (.e0 c0_0 c0_1) → SpcG Tryd.prog M B0 S ⟨fun ls => .call 22 #[.int .i64 (y0), .pointer (some ⟨(lget ls 0).n, 0, none⟩), .pointer (some ⟨(lget ls 2).n, 0, none⟩), .pointer (some ⟨(lget ls 3).n, 0, none⟩), .pointer (some ⟨(lget ls 4).n, 0, none⟩)], fun ls => [.cells #[(rowV (lget ls 1) w0 7)] 27, rowO (lget ls 1) (esG c_Type0 w0 w1) 26 w0 7, .cells #[.int .i64 (w2)] 3, .cells ⟨esG cB 257 w3⟩ 50, .cells #[.func (.func 22) #[] #[.pointer (some ⟨(lget ls 0).n, 0, none⟩), .pointer (some ⟨(lget ls 2).n, 0, none⟩), .pointer (some ⟨(lget ls 3).n, 0, none⟩), .pointer (some ⟨(lget ls 4).n, 0, none⟩)]] 51], 0, .normal, fun ls => [.bool (c0_1)], fun ls => [.cells #[(rowV (lget ls 1) w0 7)] 27, rowO (lget ls 1) (esG c_Type0 w0 w1) 26 w0 7, .cells #[.int .i64 (w2)] 3, .cells ⟨esG cB 257 c0_0⟩ 50, .cells #[.func (.func 22) #[] #[.pointer (some ⟨(lget ls 0).n, 0, none⟩), .pointer (some ⟨(lget ls 2).n, 0, none⟩), .pointer (some ⟨(lget ls 3).n, 0, none⟩), .pointer (some ⟨(lget ls 4).n, 0, none⟩)]] 51], fun ls => []⟩) (g0_0 : Nat → Int) (s0_0 : Nat → Bool) (s0_1 : Int) (ls : List L1) : List Obj := [.cells #[(rowV (lget ls 1) w0 7)] 27, rowO (lget ls 1) (esG c_Type0 w0 w1) 26 w0 7, .cells #[.int .i64 (w2)] 3, .cells ⟨esG cB 257 s0_0⟩ 50, .cells #[.func (.func 22) #[] #[.pointer (some ⟨(lget ls 0).n, 0, none⟩), .pointer (some ⟨(lget ls 2).n, 0, none⟩), .pointer (some ⟨(lget ls 3).n, 0, none⟩), .pointer (some ⟨(lget ls 4).n, 0, none⟩)]] 51, rowO (lget ls 5) (esG cZ 1 g0_0) 3 1 1]
theorem sp0_btf_holdsItself_1_v3_L0_0_ok (s0_0 : Nat → Bool) (s0_1 : Int) (c0_0 : Nat → Bool) (h : lpO (st_btf_holdsItself_1_v3_L0 w0 w1 w2 mr0 g0_0) (.c0 s0_0 s0_1) = some (.e0 c0_0)) : SpcG Tryd.prog M B0 S ⟨fun ls => .code (.loop bd_btf_holdsItself_1_v3_L0) (t0_btf_holdsItself_1_v3_L0_0 y0 w0 w1 w2 w3 mr0 ih0 g0_0 s0_0 s0_1 ls), pre_btf_holdsItself_1_v3_L0_0 y0 w0 w1 w2 w3 mr0 ih0 g0_0 s0_0 s0_1, 1, (.exit 0), fun ls => vf_btf_holdsItself_1_v3_L0 y0 w0 w1 w2 w3 mr0 ih0 g0_0 (.e0 c0_0) (ls.take 6 ++ ls.drop 6), fun ls => (Hf_btf_holdsItself_1_v3_L0 y0 w0 w1 w2 w3 mr0 ih0 g0_0 (.e0 c0_0) (ls.take 6 ++ ls.drop 6)).take 6 ++ List.replicate 0 unb, fun ls => (Hf_btf_holdsItself_1_v3_L0 y0 w0 w1 w2 w3 mr0 ih0 g0_0 (.e0 c0_0) (ls.take 6 ++ ls.drop 6)).drop 6⟩ :=
  spc_of_goesM hU 0 (k0 := 6) (go_btf_holdsItself_1_v3_L0 hU y0 w0 w1 w2 w3 mr0 ih0 g0_0 _ _ h) (t0_btf_holdsItself_1_v3_L0_0 y0 w0 w1 w2 w3 mr0 ih0 g0_0 s0_0 s0_1) (pre_btf_holdsItself_1_v3_L0_0 y0 w0 w1 w2 w3 mr0 ih0 g0_0 s0_0 s0_1) (fun _ => rfl) (fun ls h => by match ls, h with | [l0, l1, l2, l3, l4, l5], _ => exact ⟨by kernel_rfl, by kernel_rfl⟩) (fun ls h => by match ls, h with | [l0, l1, l2, l3, l4, l5], _ => rfl) (by decide) (by decide) (fun ls => rfl)
theorem sp1_btf_holdsItself_1_v3_L0_0_ok (s0_0 : Nat → Bool) (s0_1 : Int) (c1_0 : Nat → Bool) (h : lpO (st_btf_holdsItself_1_v3_L0 w0 w1 w2 mr0 g0_0) (.c0 s0_0 s0_1) = some (.e1 c1_0)) : SpcG Tryd.prog M B0 S ⟨fun ls => .code (.loop bd_btf_holdsItself_1_v3_L0) (t0_btf_holdsItself_1_v3_L0_0 y0 w0 w1 w2 w3 mr0 ih0 g0_0 s0_0 s0_1 ls), pre_btf_holdsItself_1_v3_L0_0 y0 w0 w1 w2 w3 mr0 ih0 g0_0 s0_0 s0_1, 1, .ret, fun ls => vf_btf_holdsItself_1_v3_L0 y0 w0 w1 w2 w3 mr0 ih0 g0_0 (.e1 c1_0) (ls.take 6 ++ ls.drop 6), fun ls => (Hf_btf_holdsItself_1_v3_L0 y0 w0 w1 w2 w3 mr0 ih0 g0_0 (.e1 c1_0) (ls.take 6 ++ ls.drop 6)).take 6 ++ List.replicate 0 unb, fun ls => (Hf_btf_holdsItself_1_v3_L0 y0 w0 w1 w2 w3 mr0 ih0 g0_0 (.e1 c1_0) (ls.take 6 ++ ls.drop 6)).drop 6⟩ :=
  spc_of_goesM hU 0 (k0 := 6) (go_btf_holdsItself_1_v3_L0 hU y0 w0 w1 w2 w3 mr0 ih0 g0_0 _ _ h) (t0_btf_holdsItself_1_v3_L0_0 y0 w0 w1 w2 w3 mr0 ih0 g0_0 s0_0 s0_1) (pre_btf_holdsItself_1_v3_L0_0 y0 w0 w1 w2 w3 mr0 ih0 g0_0 s0_0 s0_1) (fun _ => rfl) (fun ls h => by match ls, h with | [l0, l1, l2, l3, l4, l5], _ => exact ⟨by kernel_rfl, by kernel_rfl⟩) (fun ls h => by match ls, h with | [l0, l1, l2, l3, l4, l5], _ => rfl) (by decide) (by decide) (fun ls => rfl)
noncomputable def m_btf_holdsItself_1_v3 (y0 : Int) (w0 : Nat) (w1 : Nat → Type0) (w2 : Int) (w3 : Nat → Bool) (mr0 : (Int) → (Nat) → (Nat → Type0) → (Int) → (Nat → Bool) → Option R_btf_holdsItself_1_v3) : Option R_btf_holdsItself_1_v3 :=
  bif inR (IntKind.i64.wrap (y0 - 1)) w0 then
    ((m_btf_held_v2 (⟨((w1 ((IntKind.i64.wrap (y0 - 1))).toNat)).fKind, ((w1 ((IntKind.i64.wrap (y0 - 1))).toNat)).fName, ((w1 ((IntKind.i64.wrap (y0 - 1))).toNat)).fSize, ((w1 ((IntKind.i64.wrap (y0 - 1))).toNat)).fSigned, ((w1 ((IntKind.i64.wrap (y0 - 1))).toNat)).fTo, ((w1 ((IntKind.i64.wrap (y0 - 1))).toNat)).fCount, ()⟩ : Type0)).bind fun g0 => match g0 with
    | .e0 g0_0 => ((lpO (st_btf_holdsItself_1_v3_L0 w0 w1 w2 mr0 g0_0) (.c0 w3 0)).bind fun g1 => match g1 with
      | .e0 g1_0 => (some (.e0 g1_0 false))
      | .e1 g1_0 => (some (.e0 g1_0 true)))
    | .e1  => (some (.e0 w3 false)))
  else (none)
def sq0_btf_holdsItself_1_v3 (y0 : Int) (w0 : Nat) (w1 : Nat → Type0) (w2 : Int) (w3 : Nat → Bool) (mr0 : (Int) → (Nat) → (Nat → Type0) → (Int) → (Nat → Bool) → Option R_btf_holdsItself_1_v3) (ih0 : ∀ {M : Nat → Prop} {B0 : Nat} {S : World → Prop} (hU : Up M B0 S) (y0 : Int) (w0 : Nat) (w1 : Nat → Type0) (w2 : Int) (w3 : Nat → Bool) (c0_0 : Nat → Bool) (c0_1 : Bool), mr0 y0 w0 w1 w2 w3 = some (.e0 c0_0 c0_1) → SpcG Tryd.prog M B0 S ⟨fun ls => .call 22 #[.int .i64 (y0), .pointer (some ⟨(lget ls 0).n, 0, none⟩), .pointer (some ⟨(lget ls 2).n, 0, none⟩), .pointer (some ⟨(lget ls 3).n, 0, none⟩), .pointer (some ⟨(lget ls 4).n, 0, none⟩)], fun ls => [.cells #[(rowV (lget ls 1) w0 7)] 27, rowO (lget ls 1) (esG c_Type0 w0 w1) 26 w0 7, .cells #[.int .i64 (w2)] 3, .cells ⟨esG cB 257 w3⟩ 50, .cells #[.func (.func 22) #[] #[.pointer (some ⟨(lget ls 0).n, 0, none⟩), .pointer (some ⟨(lget ls 2).n, 0, none⟩), .pointer (some ⟨(lget ls 3).n, 0, none⟩), .pointer (some ⟨(lget ls 4).n, 0, none⟩)]] 51], 0, .normal, fun ls => [.bool (c0_1)], fun ls => [.cells #[(rowV (lget ls 1) w0 7)] 27, rowO (lget ls 1) (esG c_Type0 w0 w1) 26 w0 7, .cells #[.int .i64 (w2)] 3, .cells ⟨esG cB 257 c0_0⟩ 50, .cells #[.func (.func 22) #[] #[.pointer (some ⟨(lget ls 0).n, 0, none⟩), .pointer (some ⟨(lget ls 2).n, 0, none⟩), .pointer (some ⟨(lget ls 3).n, 0, none⟩), .pointer (some ⟨(lget ls 4).n, 0, none⟩)]] 51], fun ls => []⟩) (c0_0 : Nat → Bool) (c0_1 : Bool) : Spc := ⟨fun ls => .call 22 #[.int .i64 (y0), .pointer (some ⟨(lget ls 0).n, 0, none⟩), .pointer (some ⟨(lget ls 2).n, 0, none⟩), .pointer (some ⟨(lget ls 3).n, 0, none⟩), .pointer (some ⟨(lget ls 4).n, 0, none⟩)], fun ls => [.cells #[(rowV (lget ls 1) w0 7)] 27, rowO (lget ls 1) (esG c_Type0 w0 w1) 26 w0 7, .cells #[.int .i64 (w2)] 3, .cells ⟨esG cB 257 w3⟩ 50, .cells #[.func (.func 22) #[] #[.pointer (some ⟨(lget ls 0).n, 0, none⟩), .pointer (some ⟨(lget ls 2).n, 0, none⟩), .pointer (some ⟨(lget ls 3).n, 0, none⟩), .pointer (some ⟨(lget ls 4).n, 0, none⟩)]] 51], 0, .normal, fun ls => [.bool (c0_1)], fun ls => [.cells #[(rowV (lget ls 1) w0 7)] 27, rowO (lget ls 1) (esG c_Type0 w0 w1) 26 w0 7, .cells #[.int .i64 (w2)] 3, .cells ⟨esG cB 257 c0_0⟩ 50, .cells #[.func (.func 22) #[] #[.pointer (some ⟨(lget ls 0).n, 0, none⟩), .pointer (some ⟨(lget ls 2).n, 0, none⟩), .pointer (some ⟨(lget ls 3).n, 0, none⟩), .pointer (some ⟨(lget ls 4).n, 0, none⟩)]] 51], fun ls => []⟩
end
section
variable {M : Nat → Prop} {B0 : Nat} {S : World → Prop} (hU : Up M B0 S)
include hU
theorem ok0_btf_holdsItself_1_v3 (y0 : Int) (w0 : Nat) (w1 : Nat → Type0) (w2 : Int) (w3 : Nat → Bool) (mr0 : (Int) → (Nat) → (Nat → Type0) → (Int) → (Nat → Bool) → Option R_btf_holdsItself_1_v3) (ih0 : ∀ {M : Nat → Prop} {B0 : Nat} {S : World → Prop} (hU : Up M B0 S) (y0 : Int) (w0 : Nat) (w1 : Nat → Type0) (w2 : Int) (w3 : Nat → Bool) (c0_0 : Nat → Bool) (c0_1 : Bool), mr0 y0 w0 w1 w2 w3 = some (.e0 c0_0 c0_1) → SpcG Tryd.prog M B0 S ⟨fun ls => .call 22 #[.int .i64 (y0), .pointer (some ⟨(lget ls 0).n, 0, none⟩), .pointer (some ⟨(lget ls 2).n, 0, none⟩), .pointer (some ⟨(lget ls 3).n, 0, none⟩), .pointer (some ⟨(lget ls 4).n, 0, none⟩)], fun ls => [.cells #[(rowV (lget ls 1) w0 7)] 27, rowO (lget ls 1) (esG c_Type0 w0 w1) 26 w0 7, .cells #[.int .i64 (w2)] 3, .cells ⟨esG cB 257 w3⟩ 50, .cells #[.func (.func 22) #[] #[.pointer (some ⟨(lget ls 0).n, 0, none⟩), .pointer (some ⟨(lget ls 2).n, 0, none⟩), .pointer (some ⟨(lget ls 3).n, 0, none⟩), .pointer (some ⟨(lget ls 4).n, 0, none⟩)]] 51], 0, .normal, fun ls => [.bool (c0_1)], fun ls => [.cells #[(rowV (lget ls 1) w0 7)] 27, rowO (lget ls 1) (esG c_Type0 w0 w1) 26 w0 7, .cells #[.int .i64 (w2)] 3, .cells ⟨esG cB 257 c0_0⟩ 50, .cells #[.func (.func 22) #[] #[.pointer (some ⟨(lget ls 0).n, 0, none⟩), .pointer (some ⟨(lget ls 2).n, 0, none⟩), .pointer (some ⟨(lget ls 3).n, 0, none⟩), .pointer (some ⟨(lget ls 4).n, 0, none⟩)]] 51], fun ls => []⟩) (c0_0 : Nat → Bool) (c0_1 : Bool) (e : m_btf_holdsItself_1_v3 y0 w0 w1 w2 w3 mr0 = some (.e0 c0_0 c0_1)) : SpcG Tryd.prog M B0 S (sq0_btf_holdsItself_1_v3 y0 w0 w1 w2 w3 mr0 ih0 c0_0 c0_1) := by
  unfold m_btf_holdsItself_1_v3 at e
  replace e := cond_eq_or e
  rcases e with ⟨hq0, e⟩ | ⟨hq0, e⟩
  · replace e := bindO_eq e
    obtain ⟨g0, e_g0, e⟩ := e
    rcases g0 with ⟨g0_0⟩ | _
    · try dsimp only at e
      replace e := bindO_eq e
      obtain ⟨g1, e_g1, e⟩ := e
      rcases g1 with ⟨g1_0⟩ | ⟨g1_0⟩
      · try dsimp only at e
        injection e with e; injection e with i0 i1; subst i0 i1; exact fn_specG hU (P := Tryd.prog) Tryd.func22 (fun xs w => by kernel_rfl) 5 _ _ (fun _ => rfl) _ _ _ [] [.o, .a 0, .o, .o, .q (ixM_ok (kd := .i64) (T := 27) (x := (IntKind.i64.wrap (y0 - 1))) (N := w0) (sz := 7) rfl (fun w => by kernel_rfl) hq0), .l (accG (i := 1) (f := c_Type0) (A := w1) (k := ((IntKind.i64.wrap (y0 - 1))).toNat) 0 [.int .i64 (((w1 ((IntKind.i64.wrap (y0 - 1))).toNat)).fKind), .string ((w1 ((IntKind.i64.wrap (y0 - 1))).toNat)).fName, .int .i64 (((w1 ((IntKind.i64.wrap (y0 - 1))).toNat)).fSize), .bool (((w1 ((IntKind.i64.wrap (y0 - 1))).toNat)).fSigned), .int .i64 (((w1 ((IntKind.i64.wrap (y0 - 1))).toNat)).fTo), .int .i64 (((w1 ((IntKind.i64.wrap (y0 - 1))).toNat)).fCount), .slice none 0 0] c_Type0_len (inR_nat hq0) rfl), .xg (ok0_btf_held_v2 hU (⟨((w1 ((IntKind.i64.wrap (y0 - 1))).toNat)).fKind, ((w1 ((IntKind.i64.wrap (y0 - 1))).toNat)).fName, ((w1 ((IntKind.i64.wrap (y0 - 1))).toNat)).fSize, ((w1 ((IntKind.i64.wrap (y0 - 1))).toNat)).fSigned, ((w1 ((IntKind.i64.wrap (y0 - 1))).toNat)).fTo, ((w1 ((IntKind.i64.wrap (y0 - 1))).toNat)).fCount, ()⟩ : Type0) g0_0 e_g0) [], .o, .o, .cp, .cx (sp0_btf_holdsItself_1_v3_L0_0_ok hU y0 w0 w1 w2 w3 mr0 ih0 g0_0 w3 0 g1_0 e_g1) [0, 1, 2, 3, 4, 5], .o] [] (fun b => by kernel_rfl)
      · try dsimp only at e
        injection e with e; injection e with i0 i1; subst i0 i1; exact fn_specG hU (P := Tryd.prog) Tryd.func22 (fun xs w => by kernel_rfl) 5 _ _ (fun _ => rfl) _ _ _ [] [.o, .a 0, .o, .o, .q (ixM_ok (kd := .i64) (T := 27) (x := (IntKind.i64.wrap (y0 - 1))) (N := w0) (sz := 7) rfl (fun w => by kernel_rfl) hq0), .l (accG (i := 1) (f := c_Type0) (A := w1) (k := ((IntKind.i64.wrap (y0 - 1))).toNat) 0 [.int .i64 (((w1 ((IntKind.i64.wrap (y0 - 1))).toNat)).fKind), .string ((w1 ((IntKind.i64.wrap (y0 - 1))).toNat)).fName, .int .i64 (((w1 ((IntKind.i64.wrap (y0 - 1))).toNat)).fSize), .bool (((w1 ((IntKind.i64.wrap (y0 - 1))).toNat)).fSigned), .int .i64 (((w1 ((IntKind.i64.wrap (y0 - 1))).toNat)).fTo), .int .i64 (((w1 ((IntKind.i64.wrap (y0 - 1))).toNat)).fCount), .slice none 0 0] c_Type0_len (inR_nat hq0) rfl), .xg (ok0_btf_held_v2 hU (⟨((w1 ((IntKind.i64.wrap (y0 - 1))).toNat)).fKind, ((w1 ((IntKind.i64.wrap (y0 - 1))).toNat)).fName, ((w1 ((IntKind.i64.wrap (y0 - 1))).toNat)).fSize, ((w1 ((IntKind.i64.wrap (y0 - 1))).toNat)).fSigned, ((w1 ((IntKind.i64.wrap (y0 - 1))).toNat)).fTo, ((w1 ((IntKind.i64.wrap (y0 - 1))).toNat)).fCount, ()⟩ : Type0) g0_0 e_g0) [], .o, .o, .cp, .cx (sp1_btf_holdsItself_1_v3_L0_0_ok hU y0 w0 w1 w2 w3 mr0 ih0 g0_0 w3 0 g1_0 e_g1) [0, 1, 2, 3, 4, 5]] [] (fun b => by kernel_rfl)
    · try dsimp only at e
      injection e with e; injection e with i0 i1; subst i0 i1; exact fn_specG hU (P := Tryd.prog) Tryd.func22 (fun xs w => by kernel_rfl) 5 _ _ (fun _ => rfl) _ _ _ [] [.o, .a 0, .o, .o, .q (ixM_ok (kd := .i64) (T := 27) (x := (IntKind.i64.wrap (y0 - 1))) (N := w0) (sz := 7) rfl (fun w => by kernel_rfl) hq0), .l (accG (i := 1) (f := c_Type0) (A := w1) (k := ((IntKind.i64.wrap (y0 - 1))).toNat) 0 [.int .i64 (((w1 ((IntKind.i64.wrap (y0 - 1))).toNat)).fKind), .string ((w1 ((IntKind.i64.wrap (y0 - 1))).toNat)).fName, .int .i64 (((w1 ((IntKind.i64.wrap (y0 - 1))).toNat)).fSize), .bool (((w1 ((IntKind.i64.wrap (y0 - 1))).toNat)).fSigned), .int .i64 (((w1 ((IntKind.i64.wrap (y0 - 1))).toNat)).fTo), .int .i64 (((w1 ((IntKind.i64.wrap (y0 - 1))).toNat)).fCount), .slice none 0 0] c_Type0_len (inR_nat hq0) rfl), .xg (ok1_btf_held_v2 hU (⟨((w1 ((IntKind.i64.wrap (y0 - 1))).toNat)).fKind, ((w1 ((IntKind.i64.wrap (y0 - 1))).toNat)).fName, ((w1 ((IntKind.i64.wrap (y0 - 1))).toNat)).fSize, ((w1 ((IntKind.i64.wrap (y0 - 1))).toNat)).fSigned, ((w1 ((IntKind.i64.wrap (y0 - 1))).toNat)).fTo, ((w1 ((IntKind.i64.wrap (y0 - 1))).toNat)).fCount, ()⟩ : Type0)  e_g0) [], .o, .o, .o, .o] [] (fun b => by kernel_rfl)
  · exact none_some e
noncomputable def m_btf_holdsItself_1_v3_F : Nat → (Int) → (Nat) → (Nat → Type0) → (Int) → (Nat → Bool) → Option R_btf_holdsItself_1_v3
  | 0 => fun _ _ _ _ _ => none
  | k + 1 => fun y0 w0 w1 w2 w3 => m_btf_holdsItself_1_v3 y0 w0 w1 w2 w3 (m_btf_holdsItself_1_v3_F k)
end
theorem okA_btf_holdsItself_1_v3_F (k : Nat) : (∀ {M : Nat → Prop} {B0 : Nat} {S : World → Prop} (hU : Up M B0 S) (y0 : Int) (w0 : Nat) (w1 : Nat → Type0) (w2 : Int) (w3 : Nat → Bool) (c0_0 : Nat → Bool) (c0_1 : Bool) (e : m_btf_holdsItself_1_v3_F k y0 w0 w1 w2 w3 = some (.e0 c0_0 c0_1)), SpcG Tryd.prog M B0 S ⟨fun ls => .call 22 #[.int .i64 (y0), .pointer (some ⟨(lget ls 0).n, 0, none⟩), .pointer (some ⟨(lget ls 2).n, 0, none⟩), .pointer (some ⟨(lget ls 3).n, 0, none⟩), .pointer (some ⟨(lget ls 4).n, 0, none⟩)], fun ls => [.cells #[(rowV (lget ls 1) w0 7)] 27, rowO (lget ls 1) (esG c_Type0 w0 w1) 26 w0 7, .cells #[.int .i64 (w2)] 3, .cells ⟨esG cB 257 w3⟩ 50, .cells #[.func (.func 22) #[] #[.pointer (some ⟨(lget ls 0).n, 0, none⟩), .pointer (some ⟨(lget ls 2).n, 0, none⟩), .pointer (some ⟨(lget ls 3).n, 0, none⟩), .pointer (some ⟨(lget ls 4).n, 0, none⟩)]] 51], 0, .normal, fun ls => [.bool (c0_1)], fun ls => [.cells #[(rowV (lget ls 1) w0 7)] 27, rowO (lget ls 1) (esG c_Type0 w0 w1) 26 w0 7, .cells #[.int .i64 (w2)] 3, .cells ⟨esG cB 257 c0_0⟩ 50, .cells #[.func (.func 22) #[] #[.pointer (some ⟨(lget ls 0).n, 0, none⟩), .pointer (some ⟨(lget ls 2).n, 0, none⟩), .pointer (some ⟨(lget ls 3).n, 0, none⟩), .pointer (some ⟨(lget ls 4).n, 0, none⟩)]] 51], fun ls => []⟩) := by
  induction k with
  | zero => exact fun {M} {B0} {S} hU y0 w0 w1 w2 w3 c0_0 c0_1 e => by cases e
  | succ k ih => exact fun {M} {B0} {S} hU y0 w0 w1 w2 w3 c0_0 c0_1 e => ok0_btf_holdsItself_1_v3 hU y0 w0 w1 w2 w3 (m_btf_holdsItself_1_v3_F k) (fun hU y0 w0 w1 w2 w3 c0_0 c0_1 e => ih hU y0 w0 w1 w2 w3 c0_0 c0_1 e) c0_0 c0_1 e
theorem ok0_btf_holdsItself_1_v3_F (k : Nat) : ∀ {M : Nat → Prop} {B0 : Nat} {S : World → Prop} (hU : Up M B0 S) (y0 : Int) (w0 : Nat) (w1 : Nat → Type0) (w2 : Int) (w3 : Nat → Bool) (c0_0 : Nat → Bool) (c0_1 : Bool) (e : m_btf_holdsItself_1_v3_F k y0 w0 w1 w2 w3 = some (.e0 c0_0 c0_1)), SpcG Tryd.prog M B0 S ⟨fun ls => .call 22 #[.int .i64 (y0), .pointer (some ⟨(lget ls 0).n, 0, none⟩), .pointer (some ⟨(lget ls 2).n, 0, none⟩), .pointer (some ⟨(lget ls 3).n, 0, none⟩), .pointer (some ⟨(lget ls 4).n, 0, none⟩)], fun ls => [.cells #[(rowV (lget ls 1) w0 7)] 27, rowO (lget ls 1) (esG c_Type0 w0 w1) 26 w0 7, .cells #[.int .i64 (w2)] 3, .cells ⟨esG cB 257 w3⟩ 50, .cells #[.func (.func 22) #[] #[.pointer (some ⟨(lget ls 0).n, 0, none⟩), .pointer (some ⟨(lget ls 2).n, 0, none⟩), .pointer (some ⟨(lget ls 3).n, 0, none⟩), .pointer (some ⟨(lget ls 4).n, 0, none⟩)]] 51], 0, .normal, fun ls => [.bool (c0_1)], fun ls => [.cells #[(rowV (lget ls 1) w0 7)] 27, rowO (lget ls 1) (esG c_Type0 w0 w1) 26 w0 7, .cells #[.int .i64 (w2)] 3, .cells ⟨esG cB 257 c0_0⟩ 50, .cells #[.func (.func 22) #[] #[.pointer (some ⟨(lget ls 0).n, 0, none⟩), .pointer (some ⟨(lget ls 2).n, 0, none⟩), .pointer (some ⟨(lget ls 3).n, 0, none⟩), .pointer (some ⟨(lget ls 4).n, 0, none⟩)]] 51], fun ls => []⟩ := (okA_btf_holdsItself_1_v3_F k)
inductive Sh_btf_holdsItself_v1_L0 where
  | c0 (s0_0 : Int)
inductive Ex_btf_holdsItself_v1_L0 where
  | e0 
  | e1 (c1_0 : Int)
noncomputable def st_btf_holdsItself_v1_L0 (w0 : Nat) (w1 : Nat → Type0) : Sh_btf_holdsItself_v1_L0 → Option (Sh_btf_holdsItself_v1_L0 ⊕ Ex_btf_holdsItself_v1_L0)
  | .c0 s0_0 =>
    bif decide (s0_0 ≤ (w0 : Int)) then
      ((m_btf_holdsItself_1_v3_F 64 s0_0 w0 w1 s0_0 (fun _ => false)).bind fun gb0 => match gb0 with
      | .e0 gb0_0 gb0_1 =>
      bif gb0_1 then
        (some (.inr (.e1 s0_0)))
      else (some (.inl (.c0 (IntKind.i64.wrap (s0_0 + 1))))))
    else (some (.inr (.e0 )))
noncomputable def bd_btf_holdsItself_v1_L0 : Code := codeOf Tryd.f11 [1, 0, 1, 0, 0]
def fl_btf_holdsItself_v1_L0 (w0 : Nat) (w1 : Nat → Type0) : Sh_btf_holdsItself_v1_L0 → List L1 → List Value
  | .c0 s0_0, ls => [.pointer (some ⟨(lget ls 1).n, 0, none⟩), .int .i64 (0), .pointer (some ⟨(lget ls 2).n, 0, none⟩)]
def mf_btf_holdsItself_v1_L0 : Sh_btf_holdsItself_v1_L0 → List (Nat × Nat)
  | .c0 _ => [(0, 1), (3, 14)]
noncomputable def fr_btf_holdsItself_v1_L0 (w0 : Nat) (w1 : Nat → Type0) (s : Sh_btf_holdsItself_v1_L0) : List L1 → List Value := mrgF (mf_btf_holdsItself_v1_L0 s) (fl_btf_holdsItself_v1_L0 w0 w1 s) 3
def Hs_btf_holdsItself_v1_L0 (w0 : Nat) (w1 : Nat → Type0) : Sh_btf_holdsItself_v1_L0 → List L1 → List Obj
  | .c0 s0_0, ls => [rowO (lget ls 0) (esG c_Type0 w0 w1) 26 w0 7, .cells #[(rowV (lget ls 0) w0 7)] 27, .cells #[.int .i64 (s0_0)] 3, unb]
def vl_btf_holdsItself_v1_L0 (w0 : Nat) (w1 : Nat → Type0) : Ex_btf_holdsItself_v1_L0 → List L1 → List Value
  | .e0 , ls => [.pointer (some ⟨(lget ls 1).n, 0, none⟩), .int .i64 (0)]
  | .e1 c1_0, ls => [.pointer (some ⟨(lget ls 1).n, 0, none⟩), .int .i64 (c1_0)]
def mk_btf_holdsItself_v1_L0 : Ex_btf_holdsItself_v1_L0 → List (Nat × Nat)
  | .e0  => [(0, 1), (2, 15)]
  | .e1 _ => [(0, 1), (2, 15)]
noncomputable def vf_btf_holdsItself_v1_L0 (w0 : Nat) (w1 : Nat → Type0) (r : Ex_btf_holdsItself_v1_L0) : List L1 → List Value := mrgF (mk_btf_holdsItself_v1_L0 r) (vl_btf_holdsItself_v1_L0 w0 w1 r) 3
def Hf_btf_holdsItself_v1_L0 (w0 : Nat) (w1 : Nat → Type0) : Ex_btf_holdsItself_v1_L0 → List L1 → List Obj
  | .e0 , ls => [rowO (lget ls 0) (esG c_Type0 w0 w1) 26 w0 7, .cells #[(rowV (lget ls 0) w0 7)] 27, unb, unb]
  | .e1 c1_0, ls => [rowO (lget ls 0) (esG c_Type0 w0 w1) 26 w0 7, .cells #[(rowV (lget ls 0) w0 7)] 27, unb, unb]
def ex_btf_holdsItself_v1_L0 : Ex_btf_holdsItself_v1_L0 → Ex
  | .e0  => (.exit 0)
  | .e1 _ => .ret
section
variable {M : Nat → Prop} {B0 : Nat} {S : World → Prop} (hU : Up M B0 S) (w0 : Nat) (w1 : Nat → Type0)
include hU w0 w1
theorem go_btf_holdsItself_v1_L0 (s : Sh_btf_holdsItself_v1_L0) (r : Ex_btf_holdsItself_v1_L0) (h : lpO (st_btf_holdsItself_v1_L0 w0 w1) s = some r) : GoesG Tryd.prog M B0 S (.loop bd_btf_holdsItself_v1_L0) 4 (fr_btf_holdsItself_v1_L0 w0 w1 s) (Hs_btf_holdsItself_v1_L0 w0 w1 s) (ex_btf_holdsItself_v1_L0 r) 2 (vf_btf_holdsItself_v1_L0 w0 w1 r) (Hf_btf_holdsItself_v1_L0 w0 w1 r) 4 :=
  goes_lpO (fun s q e => by
    cases s with
    | c0 s0_0 =>
      unfold st_btf_holdsItself_v1_L0 at e
      dsimp only at e
      replace e := cond_eq_or e
      rcases e with ⟨hq0, e⟩ | ⟨hq0, e⟩
      · replace e := bindO_eq e
        obtain ⟨gb0, e_gb0, e⟩ := e
        obtain ⟨gb0_0, gb0_1⟩ := gb0
        try dsimp only at e
        replace e := cond_eq_or e
        rcases e with ⟨hq1, e⟩ | ⟨hq1, e⟩
        · subst hq1
          cases e; exact ⟨ne_ret, goes_runM hU [.a 2, .a 1, .o, .b (z_leqT hq0), .o, .o, .o, .a 5, .a 5, .a 2, .xg (ok0_btf_holdsItself_1_v3_F 64 hU s0_0 w0 w1 s0_0 (fun _ => false) gb0_0 true e_gb0) [1, 0, 2, 4, 5], .a 2, .o] [0, 1, 3] (fun b => rfl) (by decide) rfl rfl (fun b => by kernel_rfl)⟩
        · subst hq1
          cases e; exact goes_runM hU [.a 2, .a 1, .o, .b (z_leqT hq0), .o, .o, .o, .a 5, .a 5, .a 2, .xg (ok0_btf_holdsItself_1_v3_F 64 hU s0_0 w0 w1 s0_0 (fun _ => false) gb0_0 false e_gb0) [1, 0, 2, 4, 5], .a 2, .o, .a 6, .a 6, .o, .a 6] [0, 1, 6] (fun b => rfl) (by decide) rfl rfl (fun b => by kernel_rfl)
      · cases e; exact ⟨ne_exit 0, goes_runM hU [.a 2, .a 1, .o, .b (z_leqF hq0)] [0, 1, 3] (fun b => rfl) (by decide) rfl rfl (fun b => by kernel_rfl)⟩) s r h
noncomputable def t0_btf_holdsItself_v1_L0_0 (w0 : Nat) (w1 : Nat → Type0) (s0_0 : Int) (ls : List L1) : List Value := List.append [(rowV (lget ls 0) w0 7), .pointer (some ⟨(lget ls 1).n, 0, none⟩), .int .i64 (0), .pointer (some ⟨(lget ls 2).n, 0, none⟩)] (und 14)
def pre_btf_holdsItself_v1_L0_0 (w0 : Nat) (w1 : Nat → Type0) (s0_0 : Int) (ls : List L1) : List Obj := [rowO (lget ls 0) (esG c_Type0 w0 w1) 26 w0 7, .cells #[(rowV (lget ls 0) w0 7)] 27, .cells #[.int .i64 (s0_0)] 3]
theorem sp0_btf_holdsItself_v1_L0_0_ok (s0_0 : Int) (h : lpO (st_btf_holdsItself_v1_L0 w0 w1) (.c0 s0_0) = some (.e0 )) : SpcG Tryd.prog M B0 S ⟨fun ls => .code (.loop bd_btf_holdsItself_v1_L0) (t0_btf_holdsItself_v1_L0_0 w0 w1 s0_0 ls), pre_btf_holdsItself_v1_L0_0 w0 w1 s0_0, 2, (.exit 0), fun ls => vf_btf_holdsItself_v1_L0 w0 w1 (.e0 ) (ls.take 2 ++ ls.drop 3), fun ls => (Hf_btf_holdsItself_v1_L0 w0 w1 (.e0 ) (ls.take 2 ++ ls.drop 3)).take 2 ++ List.replicate 1 unb, fun ls => (Hf_btf_holdsItself_v1_L0 w0 w1 (.e0 ) (ls.take 2 ++ ls.drop 3)).drop 2⟩ :=
  spc_of_goesM hU 0 (k0 := 3) (go_btf_holdsItself_v1_L0 hU w0 w1 _ _ h) (t0_btf_holdsItself_v1_L0_0 w0 w1 s0_0) (pre_btf_holdsItself_v1_L0_0 w0 w1 s0_0) (fun _ => rfl) (fun ls h => by match ls, h with | [l0, l1, l2], _ => exact ⟨by kernel_rfl, by kernel_rfl⟩) (fun ls h => by match ls, h with | [l0, l1, l2], _ => rfl) (by decide) (by decide) (fun ls => rfl)
theorem sp1_btf_holdsItself_v1_L0_0_ok (s0_0 : Int) (c1_0 : Int) (h : lpO (st_btf_holdsItself_v1_L0 w0 w1) (.c0 s0_0) = some (.e1 c1_0)) : SpcG Tryd.prog M B0 S ⟨fun ls => .code (.loop bd_btf_holdsItself_v1_L0) (t0_btf_holdsItself_v1_L0_0 w0 w1 s0_0 ls), pre_btf_holdsItself_v1_L0_0 w0 w1 s0_0, 2, .ret, fun ls => vf_btf_holdsItself_v1_L0 w0 w1 (.e1 c1_0) (ls.take 2 ++ ls.drop 3), fun ls => (Hf_btf_holdsItself_v1_L0 w0 w1 (.e1 c1_0) (ls.take 2 ++ ls.drop 3)).take 2 ++ List.replicate 1 unb, fun ls => (Hf_btf_holdsItself_v1_L0 w0 w1 (.e1 c1_0) (ls.take 2 ++ ls.drop 3)).drop 2⟩ :=
  spc_of_goesM hU 0 (k0 := 3) (go_btf_holdsItself_v1_L0 hU w0 w1 _ _ h) (t0_btf_holdsItself_v1_L0_0 w0 w1 s0_0) (pre_btf_holdsItself_v1_L0_0 w0 w1 s0_0) (fun _ => rfl) (fun ls h => by match ls, h with | [l0, l1, l2], _ => exact ⟨by kernel_rfl, by kernel_rfl⟩) (fun ls h => by match ls, h with | [l0, l1, l2], _ => rfl) (by decide) (by decide) (fun ls => rfl)
inductive R_btf_holdsItself_v1 where
  | e0 (c0_0 : Int)
noncomputable def m_btf_holdsItself_v1 (w0 : Nat) (w1 : Nat → Type0) : Option R_btf_holdsItself_v1 :=
  (lpO (st_btf_holdsItself_v1_L0 w0 w1) (.c0 1)).bind fun g0 => match g0 with
  | .e0  => (some (.e0 0))
  | .e1 g0_0 => (some (.e0 g0_0))
def sq0_btf_holdsItself_v1 (w0 : Nat) (w1 : Nat → Type0) (c0_0 : Int) : Spc := ⟨fun ls => .call 11 #[(rowV (lget ls 0) w0 7)], fun ls => [rowO (lget ls 0) (esG c_Type0 w0 w1) 26 w0 7], 0, .normal, fun ls => [.int .i64 (c0_0)], fun ls => [rowO (lget ls 0) (esG c_Type0 w0 w1) 26 w0 7], fun ls => []⟩
theorem ok0_btf_holdsItself_v1 (c0_0 : Int) (e : m_btf_holdsItself_v1 w0 w1 = some (.e0 c0_0)) : SpcG Tryd.prog M B0 S (sq0_btf_holdsItself_v1 w0 w1 c0_0) := by
  unfold m_btf_holdsItself_v1 at e
  replace e := bindO_eq e
  obtain ⟨g0, e_g0, e⟩ := e
  rcases g0 with _ | ⟨g0_0⟩
  · try dsimp only at e
    injection e with e; injection e with i0; subst i0; exact fn_specG hU (P := Tryd.prog) Tryd.func11 (fun xs w => by kernel_rfl) 1 _ _ (fun _ => rfl) _ _ _ [] [.o, .o, .o, .a 2, .cp, .cx (sp0_btf_holdsItself_v1_L0_0_ok hU w0 w1 1  e_g0) [0, 1, 2], .o] [] (fun b => by kernel_rfl)
  · try dsimp only at e
    injection e with e; injection e with i0; subst i0; exact fn_specG hU (P := Tryd.prog) Tryd.func11 (fun xs w => by kernel_rfl) 1 _ _ (fun _ => rfl) _ _ _ [] [.o, .o, .o, .a 2, .cp, .cx (sp1_btf_holdsItself_v1_L0_0_ok hU w0 w1 1 g0_0 e_g0) [0, 1, 2]] [] (fun b => by kernel_rfl)
inductive Sh_btf_Check_v1_L0 where
  | c0 (s0_0 : Int)
  | c1 (s0_0 : Int) (s0_1 : Int)
inductive Ex_btf_Check_v1_L0 where
  | e0 
  | e1 (c1_0 : Int)
  | e2 (c2_0 : Int) (c2_1 : Int)
  | e3 (c3_0 : Int) (c3_1 : Int) (c3_2 : Int)
noncomputable def st_btf_Check_v1_L0 (w0 : Nat) (w1 : Nat → Type0) : Sh_btf_Check_v1_L0 → Option (Sh_btf_Check_v1_L0 ⊕ Ex_btf_Check_v1_L0)
  | .c0 s0_0 =>
    bif decide (s0_0 < (w0 : Int)) then
      (bif inR s0_0 w0 then
        ((m_btf_checkType_v2 (⟨((w1 (s0_0).toNat)).fKind, ((w1 (s0_0).toNat)).fName, ((w1 (s0_0).toNat)).fSize, ((w1 (s0_0).toNat)).fSigned, ((w1 (s0_0).toNat)).fTo, ((w1 (s0_0).toNat)).fCount, ()⟩ : Type0) (w0 : Int)).bind fun gb0 => match gb0 with
        | .e0 gb0_0 => (bif gb0_0 == 0 then
            (some (.inl (.c0 (IntKind.i64.wrap (s0_0 + 1)))))
          else (some (.inr (.e2 (IntKind.i64.wrap (s0_0 + 1)) gb0_0))))
        | .e1 gb0_0 => (bif gb0_0 == 0 then
            (some (.inl (.c1 1 (IntKind.i64.wrap (s0_0 + 1)))))
          else (some (.inr (.e3 1 (IntKind.i64.wrap (s0_0 + 1)) gb0_0)))))
      else (none))
    else (some (.inr (.e0 )))
  | .c1 s0_0 s0_1 =>
    bif decide (s0_1 < (w0 : Int)) then
      (bif inR s0_1 w0 then
        ((m_btf_checkType_v3 (⟨((w1 (s0_1).toNat)).fKind, ((w1 (s0_1).toNat)).fName, ((w1 (s0_1).toNat)).fSize, ((w1 (s0_1).toNat)).fSigned, ((w1 (s0_1).toNat)).fTo, ((w1 (s0_1).toNat)).fCount, ()⟩ : Type0) (w0 : Int) s0_0).bind fun gb0 => match gb0 with
        | .e0 gb0_0 gb0_1 =>
        bif gb0_1 == 0 then
          (some (.inl (.c1 gb0_0 (IntKind.i64.wrap (s0_1 + 1)))))
        else (some (.inr (.e3 gb0_0 (IntKind.i64.wrap (s0_1 + 1)) gb0_1))))
      else (none))
    else (some (.inr (.e1 s0_0)))
noncomputable def bd_btf_Check_v1_L0 : Code := codeOf Tryd.f5 [1, 1, 1, 0, 1, 0, 0]
def fl_btf_Check_v1_L0 (w0 : Nat) (w1 : Nat → Type0) : Sh_btf_Check_v1_L0 → List L1 → List Value
  | .c0 s0_0, ls => [(rowV (lget ls 0) w0 7), .int .i64 (0), .int .i64 (0), .map (some (lget ls 1).n), (rowV (lget ls 0) w0 7), .int .i64 ((w0 : Int)), .int .i64 (s0_0)]
  | .c1 s0_0 s0_1, ls => [(rowV (lget ls 0) w0 7), .int .i64 (0), .int .i64 (0), .map (some (lget ls 1).n), (rowV (lget ls 0) w0 7), .int .i64 ((w0 : Int)), .int .i64 (s0_1)]
def mf_btf_Check_v1_L0 : Sh_btf_Check_v1_L0 → List (Nat × Nat)
  | .c0 _ => [(1, 1), (3, 10), (3, 46)]
  | .c1 _ _ => [(1, 1), (3, 10), (3, 46)]
noncomputable def fr_btf_Check_v1_L0 (w0 : Nat) (w1 : Nat → Type0) (s : Sh_btf_Check_v1_L0) : List L1 → List Value := mrgF (mf_btf_Check_v1_L0 s) (fl_btf_Check_v1_L0 w0 w1 s) 2
def Hs_btf_Check_v1_L0 (w0 : Nat) (w1 : Nat → Type0) : Sh_btf_Check_v1_L0 → List L1 → List Obj
  | .c0 s0_0, ls => [rowO (lget ls 0) (esG c_Type0 w0 w1) 26 w0 7, .map #[] 0, unb]
  | .c1 s0_0 s0_1, ls => [rowO (lget ls 0) (esG c_Type0 w0 w1) 26 w0 7, .map #[⟨.agg #[.int .i64 (1), .string (⟨#[117, 110, 105, 116]⟩ : ByteArray)], .int .i64 (s0_0), 0⟩] 1, unb]
def vl_btf_Check_v1_L0 (w0 : Nat) (w1 : Nat → Type0) : Ex_btf_Check_v1_L0 → List L1 → List Value
  | .e0 , ls => [(rowV (lget ls 0) w0 7), .int .i64 (0), .int .i64 (0), .map (some (lget ls 1).n), (rowV (lget ls 0) w0 7), .int .i64 ((w0 : Int))]
  | .e1 c1_0, ls => [(rowV (lget ls 0) w0 7), .int .i64 (0), .int .i64 (0), .map (some (lget ls 1).n), (rowV (lget ls 0) w0 7), .int .i64 ((w0 : Int))]
  | .e2 c2_0 c2_1, ls => [(rowV (lget ls 0) w0 7), .int .i64 (c2_0), .int .i64 (c2_1), .map (some (lget ls 1).n), (rowV (lget ls 0) w0 7), .int .i64 ((w0 : Int))]
  | .e3 c3_0 c3_1 c3_2, ls => [(rowV (lget ls 0) w0 7), .int .i64 (c3_1), .int .i64 (c3_2), .map (some (lget ls 1).n), (rowV (lget ls 0) w0 7), .int .i64 ((w0 : Int))]
def mk_btf_Check_v1_L0 : Ex_btf_Check_v1_L0 → List (Nat × Nat)
  | .e0  => [(1, 1), (3, 10), (2, 47)]
  | .e1 _ => [(1, 1), (3, 10), (2, 47)]
  | .e2 _ _ => [(1, 1), (3, 10), (2, 47)]
  | .e3 _ _ _ => [(1, 1), (3, 10), (2, 47)]
noncomputable def vf_btf_Check_v1_L0 (w0 : Nat) (w1 : Nat → Type0) (r : Ex_btf_Check_v1_L0) : List L1 → List Value := mrgF (mk_btf_Check_v1_L0 r) (vl_btf_Check_v1_L0 w0 w1 r) 2
def Hf_btf_Check_v1_L0 (w0 : Nat) (w1 : Nat → Type0) : Ex_btf_Check_v1_L0 → List L1 → List Obj
  | .e0 , ls => [rowO (lget ls 0) (esG c_Type0 w0 w1) 26 w0 7, .map #[] 0, unb]
  | .e1 c1_0, ls => [rowO (lget ls 0) (esG c_Type0 w0 w1) 26 w0 7, .map #[⟨.agg #[.int .i64 (1), .string (⟨#[117, 110, 105, 116]⟩ : ByteArray)], .int .i64 (c1_0), 0⟩] 1, unb]
  | .e2 c2_0 c2_1, ls => [rowO (lget ls 0) (esG c_Type0 w0 w1) 26 w0 7, .map #[] 0, unb]
  | .e3 c3_0 c3_1 c3_2, ls => [rowO (lget ls 0) (esG c_Type0 w0 w1) 26 w0 7, .map #[⟨.agg #[.int .i64 (1), .string (⟨#[117, 110, 105, 116]⟩ : ByteArray)], .int .i64 (c3_0), 0⟩] 1, unb]
def ex_btf_Check_v1_L0 : Ex_btf_Check_v1_L0 → Ex
  | .e0  => (.exit 0)
  | .e1 _ => (.exit 0)
  | .e2 _ _ => .ret
  | .e3 _ _ _ => .ret
theorem go_btf_Check_v1_L0 (s : Sh_btf_Check_v1_L0) (r : Ex_btf_Check_v1_L0) (h : lpO (st_btf_Check_v1_L0 w0 w1) s = some r) : GoesG Tryd.prog M B0 S (.loop bd_btf_Check_v1_L0) 3 (fr_btf_Check_v1_L0 w0 w1 s) (Hs_btf_Check_v1_L0 w0 w1 s) (ex_btf_Check_v1_L0 r) 2 (vf_btf_Check_v1_L0 w0 w1 r) (Hf_btf_Check_v1_L0 w0 w1 r) 3 :=
  goes_lpO (fun s q e => by
    cases s with
    | c0 s0_0 =>
      unfold st_btf_Check_v1_L0 at e
      dsimp only at e
      replace e := cond_eq_or e
      rcases e with ⟨hq0, e⟩ | ⟨hq0, e⟩
      · replace e := cond_eq_or e
        rcases e with ⟨hq1, e⟩ | ⟨hq1, e⟩
        · replace e := bindO_eq e
          obtain ⟨gb0, e_gb0, e⟩ := e
          rcases gb0 with ⟨gb0_0⟩ | ⟨gb0_0⟩
          · try dsimp only at e
            replace e := cond_eq_or e
            rcases e with ⟨hq2, e⟩ | ⟨hq2, e⟩
            · cases e; exact goes_runM hU [.b (z_lssT hq0), .o, .q (ixM_ok (kd := .i64) (T := 27) (x := s0_0) (N := w0) (sz := 7) rfl (fun w => by kernel_rfl) hq1), .l (accG (i := 0) (f := c_Type0) (A := w1) (k := (s0_0).toNat) 0 [.int .i64 (((w1 (s0_0).toNat)).fKind), .string ((w1 (s0_0).toNat)).fName, .int .i64 (((w1 (s0_0).toNat)).fSize), .bool (((w1 (s0_0).toNat)).fSigned), .int .i64 (((w1 (s0_0).toNat)).fTo), .int .i64 (((w1 (s0_0).toNat)).fCount), .slice none 0 0] c_Type0_len (inR_nat hq1) rfl), .o, .o, .a 3, .a 3, .o, .o, .o, .xg (ok0_btf_checkType_v2 hU (⟨((w1 (s0_0).toNat)).fKind, ((w1 (s0_0).toNat)).fName, ((w1 (s0_0).toNat)).fSize, ((w1 (s0_0).toNat)).fSigned, ((w1 (s0_0).toNat)).fTo, ((w1 (s0_0).toNat)).fCount, ()⟩ : Type0) (w0 : Int) gb0_0 e_gb0) [1], .o, .o, .b (z_neqT hq2), .o, .o] [0, 1] (fun b => rfl) (by decide) rfl rfl (fun b => by kernel_rfl)
            · cases e; exact ⟨ne_ret, goes_runM hU [.b (z_lssT hq0), .o, .q (ixM_ok (kd := .i64) (T := 27) (x := s0_0) (N := w0) (sz := 7) rfl (fun w => by kernel_rfl) hq1), .l (accG (i := 0) (f := c_Type0) (A := w1) (k := (s0_0).toNat) 0 [.int .i64 (((w1 (s0_0).toNat)).fKind), .string ((w1 (s0_0).toNat)).fName, .int .i64 (((w1 (s0_0).toNat)).fSize), .bool (((w1 (s0_0).toNat)).fSigned), .int .i64 (((w1 (s0_0).toNat)).fTo), .int .i64 (((w1 (s0_0).toNat)).fCount), .slice none 0 0] c_Type0_len (inR_nat hq1) rfl), .o, .o, .a 3, .a 3, .o, .o, .o, .xg (ok0_btf_checkType_v2 hU (⟨((w1 (s0_0).toNat)).fKind, ((w1 (s0_0).toNat)).fName, ((w1 (s0_0).toNat)).fSize, ((w1 (s0_0).toNat)).fSigned, ((w1 (s0_0).toNat)).fTo, ((w1 (s0_0).toNat)).fCount, ()⟩ : Type0) (w0 : Int) gb0_0 e_gb0) [1], .o, .o, .b (z_neqF hq2), .o, .o, .o, .o, .o] [0, 1] (fun b => rfl) (by decide) rfl rfl (fun b => by kernel_rfl)⟩
          · try dsimp only at e
            replace e := cond_eq_or e
            rcases e with ⟨hq2, e⟩ | ⟨hq2, e⟩
            · cases e; exact goes_runM hU [.b (z_lssT hq0), .o, .q (ixM_ok (kd := .i64) (T := 27) (x := s0_0) (N := w0) (sz := 7) rfl (fun w => by kernel_rfl) hq1), .l (accG (i := 0) (f := c_Type0) (A := w1) (k := (s0_0).toNat) 0 [.int .i64 (((w1 (s0_0).toNat)).fKind), .string ((w1 (s0_0).toNat)).fName, .int .i64 (((w1 (s0_0).toNat)).fSize), .bool (((w1 (s0_0).toNat)).fSigned), .int .i64 (((w1 (s0_0).toNat)).fTo), .int .i64 (((w1 (s0_0).toNat)).fCount), .slice none 0 0] c_Type0_len (inR_nat hq1) rfl), .o, .o, .a 3, .a 3, .o, .o, .o, .xg (ok1_btf_checkType_v2 hU (⟨((w1 (s0_0).toNat)).fKind, ((w1 (s0_0).toNat)).fName, ((w1 (s0_0).toNat)).fSize, ((w1 (s0_0).toNat)).fSigned, ((w1 (s0_0).toNat)).fTo, ((w1 (s0_0).toNat)).fCount, ()⟩ : Type0) (w0 : Int) gb0_0 e_gb0) [1], .o, .o, .b (z_neqT hq2), .o, .o] [0, 1] (fun b => rfl) (by decide) rfl rfl (fun b => by kernel_rfl)
            · cases e; exact ⟨ne_ret, goes_runM hU [.b (z_lssT hq0), .o, .q (ixM_ok (kd := .i64) (T := 27) (x := s0_0) (N := w0) (sz := 7) rfl (fun w => by kernel_rfl) hq1), .l (accG (i := 0) (f := c_Type0) (A := w1) (k := (s0_0).toNat) 0 [.int .i64 (((w1 (s0_0).toNat)).fKind), .string ((w1 (s0_0).toNat)).fName, .int .i64 (((w1 (s0_0).toNat)).fSize), .bool (((w1 (s0_0).toNat)).fSigned), .int .i64 (((w1 (s0_0).toNat)).fTo), .int .i64 (((w1 (s0_0).toNat)).fCount), .slice none 0 0] c_Type0_len (inR_nat hq1) rfl), .o, .o, .a 3, .a 3, .o, .o, .o, .xg (ok1_btf_checkType_v2 hU (⟨((w1 (s0_0).toNat)).fKind, ((w1 (s0_0).toNat)).fName, ((w1 (s0_0).toNat)).fSize, ((w1 (s0_0).toNat)).fSigned, ((w1 (s0_0).toNat)).fTo, ((w1 (s0_0).toNat)).fCount, ()⟩ : Type0) (w0 : Int) gb0_0 e_gb0) [1], .o, .o, .b (z_neqF hq2), .o, .o, .o, .o, .o] [0, 1] (fun b => rfl) (by decide) rfl rfl (fun b => by kernel_rfl)⟩
        · exact none_some e
      · cases e; exact ⟨ne_exit 0, goes_runM hU [.b (z_lssF hq0)] [0, 1] (fun b => rfl) (by decide) rfl rfl (fun b => by kernel_rfl)⟩
    | c1 s0_0 s0_1 =>
      unfold st_btf_Check_v1_L0 at e
      dsimp only at e
      replace e := cond_eq_or e
      rcases e with ⟨hq0, e⟩ | ⟨hq0, e⟩
      · replace e := cond_eq_or e
        rcases e with ⟨hq1, e⟩ | ⟨hq1, e⟩
        · replace e := bindO_eq e
          obtain ⟨gb0, e_gb0, e⟩ := e
          obtain ⟨gb0_0, gb0_1⟩ := gb0
          try dsimp only at e
          replace e := cond_eq_or e
          rcases e with ⟨hq2, e⟩ | ⟨hq2, e⟩
          · cases e; exact goes_runM hU [.b (z_lssT hq0), .o, .q (ixM_ok (kd := .i64) (T := 27) (x := s0_1) (N := w0) (sz := 7) rfl (fun w => by kernel_rfl) hq1), .l (accG (i := 0) (f := c_Type0) (A := w1) (k := (s0_1).toNat) 0 [.int .i64 (((w1 (s0_1).toNat)).fKind), .string ((w1 (s0_1).toNat)).fName, .int .i64 (((w1 (s0_1).toNat)).fSize), .bool (((w1 (s0_1).toNat)).fSigned), .int .i64 (((w1 (s0_1).toNat)).fTo), .int .i64 (((w1 (s0_1).toNat)).fCount), .slice none 0 0] c_Type0_len (inR_nat hq1) rfl), .o, .o, .a 3, .a 3, .o, .o, .o, .xg (ok0_btf_checkType_v3 hU (⟨((w1 (s0_1).toNat)).fKind, ((w1 (s0_1).toNat)).fName, ((w1 (s0_1).toNat)).fSize, ((w1 (s0_1).toNat)).fSigned, ((w1 (s0_1).toNat)).fTo, ((w1 (s0_1).toNat)).fCount, ()⟩ : Type0) (w0 : Int) s0_0 gb0_0 gb0_1 e_gb0) [1], .o, .o, .b (z_neqT hq2), .o, .o] [0, 1] (fun b => rfl) (by decide) rfl rfl (fun b => by kernel_rfl)
          · cases e; exact ⟨ne_ret, goes_runM hU [.b (z_lssT hq0), .o, .q (ixM_ok (kd := .i64) (T := 27) (x := s0_1) (N := w0) (sz := 7) rfl (fun w => by kernel_rfl) hq1), .l (accG (i := 0) (f := c_Type0) (A := w1) (k := (s0_1).toNat) 0 [.int .i64 (((w1 (s0_1).toNat)).fKind), .string ((w1 (s0_1).toNat)).fName, .int .i64 (((w1 (s0_1).toNat)).fSize), .bool (((w1 (s0_1).toNat)).fSigned), .int .i64 (((w1 (s0_1).toNat)).fTo), .int .i64 (((w1 (s0_1).toNat)).fCount), .slice none 0 0] c_Type0_len (inR_nat hq1) rfl), .o, .o, .a 3, .a 3, .o, .o, .o, .xg (ok0_btf_checkType_v3 hU (⟨((w1 (s0_1).toNat)).fKind, ((w1 (s0_1).toNat)).fName, ((w1 (s0_1).toNat)).fSize, ((w1 (s0_1).toNat)).fSigned, ((w1 (s0_1).toNat)).fTo, ((w1 (s0_1).toNat)).fCount, ()⟩ : Type0) (w0 : Int) s0_0 gb0_0 gb0_1 e_gb0) [1], .o, .o, .b (z_neqF hq2), .o, .o, .o, .o, .o] [0, 1] (fun b => rfl) (by decide) rfl rfl (fun b => by kernel_rfl)⟩
        · exact none_some e
      · cases e; exact ⟨ne_exit 0, goes_runM hU [.b (z_lssF hq0)] [0, 1] (fun b => rfl) (by decide) rfl rfl (fun b => by kernel_rfl)⟩) s r h
noncomputable def t0_btf_Check_v1_L0_0 (w0 : Nat) (w1 : Nat → Type0) (s0_0 : Int) (ls : List L1) : List Value := List.append [(rowV (lget ls 0) w0 7), undef, .int .i64 (0), .int .i64 (0), .map (some (lget ls 1).n)] (List.append (und 7) (List.append [(rowV (lget ls 0) w0 7), .bool false, .map (some (lget ls 1).n), (rowV (lget ls 0) w0 7), .int .i64 ((w0 : Int)), .int .i64 (s0_0)] (und 46)))
def pre_btf_Check_v1_L0_0 (w0 : Nat) (w1 : Nat → Type0) (s0_0 : Int) (ls : List L1) : List Obj := [rowO (lget ls 0) (esG c_Type0 w0 w1) 26 w0 7, .map #[] 0]
theorem sp0_btf_Check_v1_L0_0_ok (s0_0 : Int) (h : lpO (st_btf_Check_v1_L0 w0 w1) (.c0 s0_0) = some (.e0 )) : SpcG Tryd.prog M B0 S ⟨fun ls => .code (.loop bd_btf_Check_v1_L0) (t0_btf_Check_v1_L0_0 w0 w1 s0_0 ls), pre_btf_Check_v1_L0_0 w0 w1 s0_0, 1, (.exit 0), fun ls => vf_btf_Check_v1_L0 w0 w1 (.e0 ) (ls.take 2 ++ ls.drop 2), fun ls => (Hf_btf_Check_v1_L0 w0 w1 (.e0 ) (ls.take 2 ++ ls.drop 2)).take 2 ++ List.replicate 0 unb, fun ls => (Hf_btf_Check_v1_L0 w0 w1 (.e0 ) (ls.take 2 ++ ls.drop 2)).drop 2⟩ :=
  spc_of_goesM hU 0 (k0 := 2) (go_btf_Check_v1_L0 hU w0 w1 _ _ h) (t0_btf_Check_v1_L0_0 w0 w1 s0_0) (pre_btf_Check_v1_L0_0 w0 w1 s0_0) (fun _ => rfl) (fun ls h => by match ls, h with | [l0, l1], _ => exact ⟨by kernel_rfl, by kernel_rfl⟩) (fun ls h => by match ls, h with | [l0, l1], _ => rfl) (by decide) (by decide) (fun ls => rfl)
theorem sp1_btf_Check_v1_L0_0_ok (s0_0 : Int) (c1_0 : Int) (h : lpO (st_btf_Check_v1_L0 w0 w1) (.c0 s0_0) = some (.e1 c1_0)) : SpcG Tryd.prog M B0 S ⟨fun ls => .code (.loop bd_btf_Check_v1_L0) (t0_btf_Check_v1_L0_0 w0 w1 s0_0 ls), pre_btf_Check_v1_L0_0 w0 w1 s0_0, 1, (.exit 0), fun ls => vf_btf_Check_v1_L0 w0 w1 (.e1 c1_0) (ls.take 2 ++ ls.drop 2), fun ls => (Hf_btf_Check_v1_L0 w0 w1 (.e1 c1_0) (ls.take 2 ++ ls.drop 2)).take 2 ++ List.replicate 0 unb, fun ls => (Hf_btf_Check_v1_L0 w0 w1 (.e1 c1_0) (ls.take 2 ++ ls.drop 2)).drop 2⟩ :=
  spc_of_goesM hU 0 (k0 := 2) (go_btf_Check_v1_L0 hU w0 w1 _ _ h) (t0_btf_Check_v1_L0_0 w0 w1 s0_0) (pre_btf_Check_v1_L0_0 w0 w1 s0_0) (fun _ => rfl) (fun ls h => by match ls, h with | [l0, l1], _ => exact ⟨by kernel_rfl, by kernel_rfl⟩) (fun ls h => by match ls, h with | [l0, l1], _ => rfl) (by decide) (by decide) (fun ls => rfl)
theorem sp2_btf_Check_v1_L0_0_ok (s0_0 : Int) (c2_0 : Int) (c2_1 : Int) (h : lpO (st_btf_Check_v1_L0 w0 w1) (.c0 s0_0) = some (.e2 c2_0 c2_1)) : SpcG Tryd.prog M B0 S ⟨fun ls => .code (.loop bd_btf_Check_v1_L0) (t0_btf_Check_v1_L0_0 w0 w1 s0_0 ls), pre_btf_Check_v1_L0_0 w0 w1 s0_0, 1, .ret, fun ls => vf_btf_Check_v1_L0 w0 w1 (.e2 c2_0 c2_1) (ls.take 2 ++ ls.drop 2), fun ls => (Hf_btf_Check_v1_L0 w0 w1 (.e2 c2_0 c2_1) (ls.take 2 ++ ls.drop 2)).take 2 ++ List.replicate 0 unb, fun ls => (Hf_btf_Check_v1_L0 w0 w1 (.e2 c2_0 c2_1) (ls.take 2 ++ ls.drop 2)).drop 2⟩ :=
  spc_of_goesM hU 0 (k0 := 2) (go_btf_Check_v1_L0 hU w0 w1 _ _ h) (t0_btf_Check_v1_L0_0 w0 w1 s0_0) (pre_btf_Check_v1_L0_0 w0 w1 s0_0) (fun _ => rfl) (fun ls h => by match ls, h with | [l0, l1], _ => exact ⟨by kernel_rfl, by kernel_rfl⟩) (fun ls h => by match ls, h with | [l0, l1], _ => rfl) (by decide) (by decide) (fun ls => rfl)
theorem sp3_btf_Check_v1_L0_0_ok (s0_0 : Int) (c3_0 : Int) (c3_1 : Int) (c3_2 : Int) (h : lpO (st_btf_Check_v1_L0 w0 w1) (.c0 s0_0) = some (.e3 c3_0 c3_1 c3_2)) : SpcG Tryd.prog M B0 S ⟨fun ls => .code (.loop bd_btf_Check_v1_L0) (t0_btf_Check_v1_L0_0 w0 w1 s0_0 ls), pre_btf_Check_v1_L0_0 w0 w1 s0_0, 1, .ret, fun ls => vf_btf_Check_v1_L0 w0 w1 (.e3 c3_0 c3_1 c3_2) (ls.take 2 ++ ls.drop 2), fun ls => (Hf_btf_Check_v1_L0 w0 w1 (.e3 c3_0 c3_1 c3_2) (ls.take 2 ++ ls.drop 2)).take 2 ++ List.replicate 0 unb, fun ls => (Hf_btf_Check_v1_L0 w0 w1 (.e3 c3_0 c3_1 c3_2) (ls.take 2 ++ ls.drop 2)).drop 2⟩ :=
  spc_of_goesM hU 0 (k0 := 2) (go_btf_Check_v1_L0 hU w0 w1 _ _ h) (t0_btf_Check_v1_L0_0 w0 w1 s0_0) (pre_btf_Check_v1_L0_0 w0 w1 s0_0) (fun _ => rfl) (fun ls h => by match ls, h with | [l0, l1], _ => exact ⟨by kernel_rfl, by kernel_rfl⟩) (fun ls h => by match ls, h with | [l0, l1], _ => rfl) (by decide) (by decide) (fun ls => rfl)
inductive Sh_btf_Check_v1_L1 where
  | c0 (s0_0 : Int)
inductive Ex_btf_Check_v1_L1 where
  | e0 
  | e1 (c1_0 : Int)
noncomputable def st_btf_Check_v1_L1 (w0 : Nat) (w1 : Nat → Type0) : Sh_btf_Check_v1_L1 → Option (Sh_btf_Check_v1_L1 ⊕ Ex_btf_Check_v1_L1)
  | .c0 s0_0 =>
    bif decide (s0_0 < (w0 : Int)) then
      (bif inR s0_0 w0 then
        ((m_btf_holdsFunction_v2 w0 w1 (⟨((w1 (s0_0).toNat)).fKind, ((w1 (s0_0).toNat)).fName, ((w1 (s0_0).toNat)).fSize, ((w1 (s0_0).toNat)).fSigned, ((w1 (s0_0).toNat)).fTo, ((w1 (s0_0).toNat)).fCount, ()⟩ : Type0)).bind fun rb0 =>
        bif rb0 then
          (some (.inr (.e1 (IntKind.i64.wrap (s0_0 + 1)))))
        else (some (.inl (.c0 (IntKind.i64.wrap (s0_0 + 1))))))
      else (none))
    else (some (.inr (.e0 )))
noncomputable def bd_btf_Check_v1_L1 : Code := codeOf Tryd.f5 [1, 1, 1, 1, 1, 0, 1, 0, 0]
def fl_btf_Check_v1_L1 (w0 : Nat) (w1 : Nat → Type0) (g2_0 : Int) : Sh_btf_Check_v1_L1 → List L1 → List Value
  | .c0 s0_0, ls => [(rowV (lget ls 0) w0 7), .int .i64 (0), .int .i64 (0), (rowV (lget ls 0) w0 7), .int .i64 ((w0 : Int)), .int .i64 (s0_0)]
def mf_btf_Check_v1_L1 : Sh_btf_Check_v1_L1 → List (Nat × Nat)
  | .c0 _ => [(1, 1), (2, 34), (3, 23)]
noncomputable def fr_btf_Check_v1_L1 (w0 : Nat) (w1 : Nat → Type0) (g2_0 : Int) (s : Sh_btf_Check_v1_L1) : List L1 → List Value := mrgF (mf_btf_Check_v1_L1 s) (fl_btf_Check_v1_L1 w0 w1 g2_0 s) 3
def Hs_btf_Check_v1_L1 (w0 : Nat) (w1 : Nat → Type0) (g2_0 : Int) : Sh_btf_Check_v1_L1 → List L1 → List Obj
  | .c0 s0_0, ls => [rowO (lget ls 0) (esG c_Type0 w0 w1) 26 w0 7, .map #[] 0, unb, unb]
def vl_btf_Check_v1_L1 (w0 : Nat) (w1 : Nat → Type0) (g2_0 : Int) : Ex_btf_Check_v1_L1 → List L1 → List Value
  | .e0 , ls => [(rowV (lget ls 0) w0 7), .int .i64 (0), .int .i64 (0), (rowV (lget ls 0) w0 7), .int .i64 ((w0 : Int))]
  | .e1 c1_0, ls => [(rowV (lget ls 0) w0 7), .int .i64 (c1_0), .int .i64 (41), (rowV (lget ls 0) w0 7), .int .i64 ((w0 : Int))]
def mk_btf_Check_v1_L1 : Ex_btf_Check_v1_L1 → List (Nat × Nat)
  | .e0  => [(1, 1), (2, 34), (2, 24)]
  | .e1 _ => [(1, 1), (2, 34), (2, 24)]
noncomputable def vf_btf_Check_v1_L1 (w0 : Nat) (w1 : Nat → Type0) (g2_0 : Int) (r : Ex_btf_Check_v1_L1) : List L1 → List Value := mrgF (mk_btf_Check_v1_L1 r) (vl_btf_Check_v1_L1 w0 w1 g2_0 r) 3
def Hf_btf_Check_v1_L1 (w0 : Nat) (w1 : Nat → Type0) (g2_0 : Int) : Ex_btf_Check_v1_L1 → List L1 → List Obj
  | .e0 , ls => [rowO (lget ls 0) (esG c_Type0 w0 w1) 26 w0 7, .map #[] 0, unb, unb]
  | .e1 c1_0, ls => [rowO (lget ls 0) (esG c_Type0 w0 w1) 26 w0 7, .map #[] 0, unb, unb]
def ex_btf_Check_v1_L1 : Ex_btf_Check_v1_L1 → Ex
  | .e0  => (.exit 2)
  | .e1 _ => .ret
theorem go_btf_Check_v1_L1 (g2_0 : Int) (s : Sh_btf_Check_v1_L1) (r : Ex_btf_Check_v1_L1) (h : lpO (st_btf_Check_v1_L1 w0 w1) s = some r) : GoesG Tryd.prog M B0 S (.loop bd_btf_Check_v1_L1) 4 (fr_btf_Check_v1_L1 w0 w1 g2_0 s) (Hs_btf_Check_v1_L1 w0 w1 g2_0 s) (ex_btf_Check_v1_L1 r) 3 (vf_btf_Check_v1_L1 w0 w1 g2_0 r) (Hf_btf_Check_v1_L1 w0 w1 g2_0 r) 4 :=
  goes_lpO (fun s q e => by
    cases s with
    | c0 s0_0 =>
      unfold st_btf_Check_v1_L1 at e
      dsimp only at e
      replace e := cond_eq_or e
      rcases e with ⟨hq0, e⟩ | ⟨hq0, e⟩
      · replace e := cond_eq_or e
        rcases e with ⟨hq1, e⟩ | ⟨hq1, e⟩
        · replace e := bindO_eq e
          obtain ⟨rb0, e_rb0, e⟩ := e
          try dsimp only at e
          replace e := cond_eq_or e
          rcases e with ⟨hq2, e⟩ | ⟨hq2, e⟩
          · subst hq2
            cases e; exact ⟨ne_ret, goes_runM hU [.b (z_lssT hq0), .o, .q (ixM_ok (kd := .i64) (T := 27) (x := s0_0) (N := w0) (sz := 7) rfl (fun w => by kernel_rfl) hq1), .l (accG (i := 0) (f := c_Type0) (A := w1) (k := (s0_0).toNat) 0 [.int .i64 (((w1 (s0_0).toNat)).fKind), .string ((w1 (s0_0).toNat)).fName, .int .i64 (((w1 (s0_0).toNat)).fSize), .bool (((w1 (s0_0).toNat)).fSigned), .int .i64 (((w1 (s0_0).toNat)).fTo), .int .i64 (((w1 (s0_0).toNat)).fCount), .slice none 0 0] c_Type0_len (inR_nat hq1) rfl), .o, .o, .a 4, .o, .a 4, .xg (SpcG.ownC hU c_Type0_len w0 w1 26 fun hU x u v z hr => ok_btf_holdsFunction_v2 hU x u v w0 z w1 hr (⟨((w1 (s0_0).toNat)).fKind, ((w1 (s0_0).toNat)).fName, ((w1 (s0_0).toNat)).fSize, ((w1 (s0_0).toNat)).fSigned, ((w1 (s0_0).toNat)).fTo, ((w1 (s0_0).toNat)).fCount, ()⟩ : Type0) true e_rb0) [0], .o, .o, .o, .o] [0, 1, 2] (fun b => rfl) (by decide) rfl rfl (fun b => by kernel_rfl)⟩
          · subst hq2
            cases e; exact goes_runM hU [.b (z_lssT hq0), .o, .q (ixM_ok (kd := .i64) (T := 27) (x := s0_0) (N := w0) (sz := 7) rfl (fun w => by kernel_rfl) hq1), .l (accG (i := 0) (f := c_Type0) (A := w1) (k := (s0_0).toNat) 0 [.int .i64 (((w1 (s0_0).toNat)).fKind), .string ((w1 (s0_0).toNat)).fName, .int .i64 (((w1 (s0_0).toNat)).fSize), .bool (((w1 (s0_0).toNat)).fSigned), .int .i64 (((w1 (s0_0).toNat)).fTo), .int .i64 (((w1 (s0_0).toNat)).fCount), .slice none 0 0] c_Type0_len (inR_nat hq1) rfl), .o, .o, .a 4, .o, .a 4, .xg (SpcG.ownC hU c_Type0_len w0 w1 26 fun hU x u v z hr => ok_btf_holdsFunction_v2 hU x u v w0 z w1 hr (⟨((w1 (s0_0).toNat)).fKind, ((w1 (s0_0).toNat)).fName, ((w1 (s0_0).toNat)).fSize, ((w1 (s0_0).toNat)).fSigned, ((w1 (s0_0).toNat)).fTo, ((w1 (s0_0).toNat)).fCount, ()⟩ : Type0) false e_rb0) [0], .o, .o] [0, 1, 2] (fun b => rfl) (by decide) rfl rfl (fun b => by kernel_rfl)
        · exact none_some e
      · cases e; exact ⟨ne_exit 2, goes_runM hU [.b (z_lssF hq0)] [0, 1, 2] (fun b => rfl) (by decide) rfl rfl (fun b => by kernel_rfl)⟩) s r h
noncomputable def t0_btf_Check_v1_L1_0 (w0 : Nat) (w1 : Nat → Type0) (g2_0 : Int) (s0_0 : Int) (ls : List L1) : List Value := List.append [(rowV (lget ls 0) w0 7), ((lget ls 2).u 1), .int .i64 (0), .int .i64 (0), .map (some (lget ls 1).n), ((lget ls 2).u 5), ((lget ls 2).u 6), ((lget ls 2).u 7), .int .i64 (g2_0)] (List.append (jks (lget ls 2).u 9 6) (List.append [(rowV (lget ls 0) w0 7), .int .i64 ((w0 : Int))] (List.append (jks (lget ls 2).u 17 16) (List.append [(rowV (lget ls 0) w0 7), .int .i64 (g2_0), .int .i64 (g2_0), .bool false, ((lget ls 2).u 37), (rowV (lget ls 0) w0 7), .int .i64 ((w0 : Int)), .int .i64 (s0_0)] (jks (lget ls 2).u 41 23)))))
def pre_btf_Check_v1_L1_0 (w0 : Nat) (w1 : Nat → Type0) (g2_0 : Int) (s0_0 : Int) (ls : List L1) : List Obj := [rowO (lget ls 0) (esG c_Type0 w0 w1) 26 w0 7, .map #[] 0, unb]
theorem sp0_btf_Check_v1_L1_0_ok (g2_0 : Int) (s0_0 : Int) (h : lpO (st_btf_Check_v1_L1 w0 w1) (.c0 s0_0) = some (.e0 )) : SpcG Tryd.prog M B0 S ⟨fun ls => .code (.loop bd_btf_Check_v1_L1) (t0_btf_Check_v1_L1_0 w0 w1 g2_0 s0_0 ls), pre_btf_Check_v1_L1_0 w0 w1 g2_0 s0_0, 1, (.exit 2), fun ls => vf_btf_Check_v1_L1 w0 w1 g2_0 (.e0 ) (ls.take 3 ++ ls.drop 3), fun ls => (Hf_btf_Check_v1_L1 w0 w1 g2_0 (.e0 ) (ls.take 3 ++ ls.drop 3)).take 3 ++ List.replicate 0 unb, fun ls => (Hf_btf_Check_v1_L1 w0 w1 g2_0 (.e0 ) (ls.take 3 ++ ls.drop 3)).drop 3⟩ :=
  spc_of_goesM hU 0 (k0 := 3) (go_btf_Check_v1_L1 hU w0 w1 g2_0 _ _ h) (t0_btf_Check_v1_L1_0 w0 w1 g2_0 s0_0) (pre_btf_Check_v1_L1_0 w0 w1 g2_0 s0_0) (fun _ => rfl) (fun ls h => by match ls, h with | [l0, l1, l2], _ => exact ⟨by kernel_rfl, by kernel_rfl⟩) (fun ls h => by match ls, h with | [l0, l1, l2], _ => rfl) (by decide) (by decide) (fun ls => rfl)
theorem sp1_btf_Check_v1_L1_0_ok (g2_0 : Int) (s0_0 : Int) (c1_0 : Int) (h : lpO (st_btf_Check_v1_L1 w0 w1) (.c0 s0_0) = some (.e1 c1_0)) : SpcG Tryd.prog M B0 S ⟨fun ls => .code (.loop bd_btf_Check_v1_L1) (t0_btf_Check_v1_L1_0 w0 w1 g2_0 s0_0 ls), pre_btf_Check_v1_L1_0 w0 w1 g2_0 s0_0, 1, .ret, fun ls => vf_btf_Check_v1_L1 w0 w1 g2_0 (.e1 c1_0) (ls.take 3 ++ ls.drop 3), fun ls => (Hf_btf_Check_v1_L1 w0 w1 g2_0 (.e1 c1_0) (ls.take 3 ++ ls.drop 3)).take 3 ++ List.replicate 0 unb, fun ls => (Hf_btf_Check_v1_L1 w0 w1 g2_0 (.e1 c1_0) (ls.take 3 ++ ls.drop 3)).drop 3⟩ :=
  spc_of_goesM hU 0 (k0 := 3) (go_btf_Check_v1_L1 hU w0 w1 g2_0 _ _ h) (t0_btf_Check_v1_L1_0 w0 w1 g2_0 s0_0) (pre_btf_Check_v1_L1_0 w0 w1 g2_0 s0_0) (fun _ => rfl) (fun ls h => by match ls, h with | [l0, l1, l2], _ => exact ⟨by kernel_rfl, by kernel_rfl⟩) (fun ls h => by match ls, h with | [l0, l1, l2], _ => rfl) (by decide) (by decide) (fun ls => rfl)
inductive Sh_btf_Check_v1_L2 where
  | c0 (s0_0 : Int)
inductive Ex_btf_Check_v1_L2 where
  | e0 
  | e1 (c1_0 : Int)
noncomputable def st_btf_Check_v1_L2 (w0 : Nat) (w1 : Nat → Type0) : Sh_btf_Check_v1_L2 → Option (Sh_btf_Check_v1_L2 ⊕ Ex_btf_Check_v1_L2)
  | .c0 s0_0 =>
    bif decide (s0_0 < (w0 : Int)) then
      ((m_btf_fits_v2 w0 w1 (IntKind.i64.wrap (s0_0 + 1))).bind fun rb0 =>
      bif rb0 then
        (some (.inl (.c0 (IntKind.i64.wrap (s0_0 + 1)))))
      else (some (.inr (.e1 (IntKind.i64.wrap (s0_0 + 1))))))
    else (some (.inr (.e0 )))
noncomputable def bd_btf_Check_v1_L2 : Code := codeOf Tryd.f5 [1, 1, 1, 1, 1, 1, 0, 1, 0, 0]
def fl_btf_Check_v1_L2 (w0 : Nat) (w1 : Nat → Type0) (g2_0 : Int) : Sh_btf_Check_v1_L2 → List L1 → List Value
  | .c0 s0_0, ls => [(rowV (lget ls 0) w0 7), .int .i64 (0), .int .i64 (0), .int .i64 ((w0 : Int)), .int .i64 (s0_0)]
def mf_btf_Check_v1_L2 : Sh_btf_Check_v1_L2 → List (Nat × Nat)
  | .c0 _ => [(1, 1), (2, 48), (2, 10)]
noncomputable def fr_btf_Check_v1_L2 (w0 : Nat) (w1 : Nat → Type0) (g2_0 : Int) (s : Sh_btf_Check_v1_L2) : List L1 → List Value := mrgF (mf_btf_Check_v1_L2 s) (fl_btf_Check_v1_L2 w0 w1 g2_0 s) 4
def Hs_btf_Check_v1_L2 (w0 : Nat) (w1 : Nat → Type0) (g2_0 : Int) : Sh_btf_Check_v1_L2 → List L1 → List Obj
  | .c0 s0_0, ls => [rowO (lget ls 0) (esG c_Type0 w0 w1) 26 w0 7, .map #[] 0, unb, unb, unb]
def vl_btf_Check_v1_L2 (w0 : Nat) (w1 : Nat → Type0) (g2_0 : Int) : Ex_btf_Check_v1_L2 → List L1 → List Value
  | .e0 , ls => [(rowV (lget ls 0) w0 7), .int .i64 (0), .int .i64 (0), .int .i64 ((w0 : Int))]
  | .e1 c1_0, ls => [(rowV (lget ls 0) w0 7), .int .i64 (c1_0), .int .i64 (43), .int .i64 ((w0 : Int))]
def mk_btf_Check_v1_L2 : Ex_btf_Check_v1_L2 → List (Nat × Nat)
  | .e0  => [(1, 1), (2, 48), (1, 11)]
  | .e1 _ => [(1, 1), (2, 48), (1, 11)]
noncomputable def vf_btf_Check_v1_L2 (w0 : Nat) (w1 : Nat → Type0) (g2_0 : Int) (r : Ex_btf_Check_v1_L2) : List L1 → List Value := mrgF (mk_btf_Check_v1_L2 r) (vl_btf_Check_v1_L2 w0 w1 g2_0 r) 4
def Hf_btf_Check_v1_L2 (w0 : Nat) (w1 : Nat → Type0) (g2_0 : Int) : Ex_btf_Check_v1_L2 → List L1 → List Obj
  | .e0 , ls => [rowO (lget ls 0) (esG c_Type0 w0 w1) 26 w0 7, .map #[] 0, unb, unb, unb]
  | .e1 c1_0, ls => [rowO (lget ls 0) (esG c_Type0 w0 w1) 26 w0 7, .map #[] 0, unb, unb, unb]
def ex_btf_Check_v1_L2 : Ex_btf_Check_v1_L2 → Ex
  | .e0  => (.exit 4)
  | .e1 _ => .ret
theorem go_btf_Check_v1_L2 (g2_0 : Int) (s : Sh_btf_Check_v1_L2) (r : Ex_btf_Check_v1_L2) (h : lpO (st_btf_Check_v1_L2 w0 w1) s = some r) : GoesG Tryd.prog M B0 S (.loop bd_btf_Check_v1_L2) 5 (fr_btf_Check_v1_L2 w0 w1 g2_0 s) (Hs_btf_Check_v1_L2 w0 w1 g2_0 s) (ex_btf_Check_v1_L2 r) 4 (vf_btf_Check_v1_L2 w0 w1 g2_0 r) (Hf_btf_Check_v1_L2 w0 w1 g2_0 r) 5 :=
  goes_lpO (fun s q e => by
    cases s with
    | c0 s0_0 =>
      unfold st_btf_Check_v1_L2 at e
      dsimp only at e
      replace e := cond_eq_or e
      rcases e with ⟨hq0, e⟩ | ⟨hq0, e⟩
      · replace e := bindO_eq e
        obtain ⟨rb0, e_rb0, e⟩ := e
        try dsimp only at e
        replace e := cond_eq_or e
        rcases e with ⟨hq1, e⟩ | ⟨hq1, e⟩
        · subst hq1
          cases e; exact goes_runM hU [.b (z_lssT hq0), .o, .o, .o, .o, .o, .xg (SpcG.ownC hU c_Type0_len w0 w1 26 fun hU x u v z hr => ok_btf_fits_v2 hU x u v w0 z w1 hr (IntKind.i64.wrap (s0_0 + 1)) true e_rb0) [0], .o, .o, .o] [0, 1, 2, 3] (fun b => rfl) (by decide) rfl rfl (fun b => by kernel_rfl)
        · subst hq1
          cases e; exact ⟨ne_ret, goes_runM hU [.b (z_lssT hq0), .o, .o, .o, .o, .o, .xg (SpcG.ownC hU c_Type0_len w0 w1 26 fun hU x u v z hr => ok_btf_fits_v2 hU x u v w0 z w1 hr (IntKind.i64.wrap (s0_0 + 1)) false e_rb0) [0], .o, .o, .o, .o, .o] [0, 1, 2, 3] (fun b => rfl) (by decide) rfl rfl (fun b => by kernel_rfl)⟩
      · cases e; exact ⟨ne_exit 4, goes_runM hU [.b (z_lssF hq0)] [0, 1, 2, 3] (fun b => rfl) (by decide) rfl rfl (fun b => by kernel_rfl)⟩) s r h
noncomputable def t0_btf_Check_v1_L2_0 (w0 : Nat) (w1 : Nat → Type0) (g2_0 : Int) (s0_0 : Int) (ls : List L1) : List Value := List.append [(rowV (lget ls 0) w0 7), ((lget ls 3).u 1), .int .i64 (0), .int .i64 (0)] (List.append (jks (lget ls 3).u 4 34) (List.append [(rowV (lget ls 0) w0 7), .int .i64 ((w0 : Int))] (List.append (jks (lget ls 3).u 40 11) (List.append [(rowV (lget ls 0) w0 7), .int .i64 ((w0 : Int)), .int .i64 (s0_0)] (jks (lget ls 3).u 54 10)))))
def pre_btf_Check_v1_L2_0 (w0 : Nat) (w1 : Nat → Type0) (g2_0 : Int) (s0_0 : Int) (ls : List L1) : List Obj := [rowO (lget ls 0) (esG c_Type0 w0 w1) 26 w0 7, .map #[] 0, unb, unb]
theorem sp0_btf_Check_v1_L2_0_ok (g2_0 : Int) (s0_0 : Int) (h : lpO (st_btf_Check_v1_L2 w0 w1) (.c0 s0_0) = some (.e0 )) : SpcG Tryd.prog M B0 S ⟨fun ls => .code (.loop bd_btf_Check_v1_L2) (t0_btf_Check_v1_L2_0 w0 w1 g2_0 s0_0 ls), pre_btf_Check_v1_L2_0 w0 w1 g2_0 s0_0, 1, (.exit 4), fun ls => vf_btf_Check_v1_L2 w0 w1 g2_0 (.e0 ) (ls.take 4 ++ ls.drop 4), fun ls => (Hf_btf_Check_v1_L2 w0 w1 g2_0 (.e0 ) (ls.take 4 ++ ls.drop 4)).take 4 ++ List.replicate 0 unb, fun ls => (Hf_btf_Check_v1_L2 w0 w1 g2_0 (.e0 ) (ls.take 4 ++ ls.drop 4)).drop 4⟩ :=
  spc_of_goesM hU 0 (k0 := 4) (go_btf_Check_v1_L2 hU w0 w1 g2_0 _ _ h) (t0_btf_Check_v1_L2_0 w0 w1 g2_0 s0_0) (pre_btf_Check_v1_L2_0 w0 w1 g2_0 s0_0) (fun _ => rfl) (fun ls h => by match ls, h with | [l0, l1, l2, l3], _ => exact ⟨by kernel_rfl, by kernel_rfl⟩) (fun ls h => by match ls, h with | [l0, l1, l2, l3], _ => rfl) (by decide) (by decide) (fun ls => rfl)
theorem sp1_btf_Check_v1_L2_0_ok (g2_0 : Int) (s0_0 : Int) (c1_0 : Int) (h : lpO (st_btf_Check_v1_L2 w0 w1) (.c0 s0_0) = some (.e1 c1_0)) : SpcG Tryd.prog M B0 S ⟨fun ls => .code (.loop bd_btf_Check_v1_L2) (t0_btf_Check_v1_L2_0 w0 w1 g2_0 s0_0 ls), pre_btf_Check_v1_L2_0 w0 w1 g2_0 s0_0, 1, .ret, fun ls => vf_btf_Check_v1_L2 w0 w1 g2_0 (.e1 c1_0) (ls.take 4 ++ ls.drop 4), fun ls => (Hf_btf_Check_v1_L2 w0 w1 g2_0 (.e1 c1_0) (ls.take 4 ++ ls.drop 4)).take 4 ++ List.replicate 0 unb, fun ls => (Hf_btf_Check_v1_L2 w0 w1 g2_0 (.e1 c1_0) (ls.take 4 ++ ls.drop 4)).drop 4⟩ :=
  spc_of_goesM hU 0 (k0 := 4) (go_btf_Check_v1_L2 hU w0 w1 g2_0 _ _ h) (t0_btf_Check_v1_L2_0 w0 w1 g2_0 s0_0) (pre_btf_Check_v1_L2_0 w0 w1 g2_0 s0_0) (fun _ => rfl) (fun ls h => by match ls, h with | [l0, l1, l2, l3], _ => exact ⟨by kernel_rfl, by kernel_rfl⟩) (fun ls h => by match ls, h with | [l0, l1, l2, l3], _ => rfl) (by decide) (by decide) (fun ls => rfl)
inductive Sh_btf_Check_v1_L1v1 where
  | c0 (s0_0 : Int)
inductive Ex_btf_Check_v1_L1v1 where
  | e0 
  | e1 (c1_0 : Int)
noncomputable def st_btf_Check_v1_L1v1 (w0 : Nat) (w1 : Nat → Type0) : Sh_btf_Check_v1_L1v1 → Option (Sh_btf_Check_v1_L1v1 ⊕ Ex_btf_Check_v1_L1v1)
  | .c0 s0_0 =>
    bif decide (s0_0 < (w0 : Int)) then
      (bif inR s0_0 w0 then
        ((m_btf_holdsFunction_v2 w0 w1 (⟨((w1 (s0_0).toNat)).fKind, ((w1 (s0_0).toNat)).fName, ((w1 (s0_0).toNat)).fSize, ((w1 (s0_0).toNat)).fSigned, ((w1 (s0_0).toNat)).fTo, ((w1 (s0_0).toNat)).fCount, ()⟩ : Type0)).bind fun rb0 =>
        bif rb0 then
          (some (.inr (.e1 (IntKind.i64.wrap (s0_0 + 1)))))
        else (some (.inl (.c0 (IntKind.i64.wrap (s0_0 + 1))))))
      else (none))
    else (some (.inr (.e0 )))
noncomputable def bd_btf_Check_v1_L1v1 : Code := codeOf Tryd.f5 [1, 1, 1, 1, 1, 0, 1, 0, 0]
def fl_btf_Check_v1_L1v1 (w0 : Nat) (w1 : Nat → Type0) (g1_0 : Int) (g2_0 : Int) : Sh_btf_Check_v1_L1v1 → List L1 → List Value
  | .c0 s0_0, ls => [(rowV (lget ls 0) w0 7), .int .i64 (0), .int .i64 (0), (rowV (lget ls 0) w0 7), .int .i64 ((w0 : Int)), .int .i64 (s0_0)]
def mf_btf_Check_v1_L1v1 : Sh_btf_Check_v1_L1v1 → List (Nat × Nat)
  | .c0 _ => [(1, 1), (2, 34), (3, 23)]
noncomputable def fr_btf_Check_v1_L1v1 (w0 : Nat) (w1 : Nat → Type0) (g1_0 : Int) (g2_0 : Int) (s : Sh_btf_Check_v1_L1v1) : List L1 → List Value := mrgF (mf_btf_Check_v1_L1v1 s) (fl_btf_Check_v1_L1v1 w0 w1 g1_0 g2_0 s) 3
def Hs_btf_Check_v1_L1v1 (w0 : Nat) (w1 : Nat → Type0) (g1_0 : Int) (g2_0 : Int) : Sh_btf_Check_v1_L1v1 → List L1 → List Obj
  | .c0 s0_0, ls => [rowO (lget ls 0) (esG c_Type0 w0 w1) 26 w0 7, .map #[⟨.agg #[.int .i64 (1), .string (⟨#[117, 110, 105, 116]⟩ : ByteArray)], .int .i64 (g1_0), 0⟩] 1, unb, unb]
def vl_btf_Check_v1_L1v1 (w0 : Nat) (w1 : Nat → Type0) (g1_0 : Int) (g2_0 : Int) : Ex_btf_Check_v1_L1v1 → List L1 → List Value
  | .e0 , ls => [(rowV (lget ls 0) w0 7), .int .i64 (0), .int .i64 (0), (rowV (lget ls 0) w0 7), .int .i64 ((w0 : Int))]
  | .e1 c1_0, ls => [(rowV (lget ls 0) w0 7), .int .i64 (c1_0), .int .i64 (41), (rowV (lget ls 0) w0 7), .int .i64 ((w0 : Int))]
def mk_btf_Check_v1_L1v1 : Ex_btf_Check_v1_L1v1 → List (Nat × Nat)
  | .e0  => [(1, 1), (2, 34), (2, 24)]
  | .e1 _ => [(1, 1), (2, 34), (2, 24)]
noncomputable def vf_btf_Check_v1_L1v1 (w0 : Nat) (w1 : Nat → Type0) (g1_0 : Int) (g2_0 : Int) (r : Ex_btf_Check_v1_L1v1) : List L1 → List Value := mrgF (mk_btf_Check_v1_L1v1 r) (vl_btf_Check_v1_L1v1 w0 w1 g1_0 g2_0 r) 3
def Hf_btf_Check_v1_L1v1 (w0 : Nat) (w1 : Nat → Type0) (g1_0 : Int) (g2_0 : Int) : Ex_btf_Check_v1_L1v1 → List L1 → List Obj
  | .e0 , ls => [rowO (lget ls 0) (esG c_Type0 w0 w1) 26 w0 7, .map #[⟨.agg #[.int .i64 (1), .string (⟨#[117, 110, 105, 116]⟩ : ByteArray)], .int .i64 (g1_0), 0⟩] 1, unb, unb]
  | .e1 c1_0, ls => [rowO (lget ls 0) (esG c_Type0 w0 w1) 26 w0 7, .map #[⟨.agg #[.int .i64 (1), .string (⟨#[117, 110, 105, 116]⟩ : ByteArray)], .int .i64 (g1_0), 0⟩] 1, unb, unb]
def ex_btf_Check_v1_L1v1 : Ex_btf_Check_v1_L1v1 → Ex
  | .e0  => (.exit 2)
  | .e1 _ => .ret
theorem go_btf_Check_v1_L1v1 (g1_0 : Int) (g2_0 : Int) (s : Sh_btf_Check_v1_L1v1) (r : Ex_btf_Check_v1_L1v1) (h : lpO (st_btf_Check_v1_L1v1 w0 w1) s = some r) : GoesG Tryd.prog M B0 S (.loop bd_btf_Check_v1_L1v1) 4 (fr_btf_Check_v1_L1v1 w0 w1 g1_0 g2_0 s) (Hs_btf_Check_v1_L1v1 w0 w1 g1_0 g2_0 s) (ex_btf_Check_v1_L1v1 r) 3 (vf_btf_Check_v1_L1v1 w0 w1 g1_0 g2_0 r) (Hf_btf_Check_v1_L1v1 w0 w1 g1_0 g2_0 r) 4 :=
  goes_lpO (fun s q e => by
    cases s with
    | c0 s0_0 =>
      unfold st_btf_Check_v1_L1v1 at e
      dsimp only at e
      replace e := cond_eq_or e
      rcases e with ⟨hq0, e⟩ | ⟨hq0, e⟩
      · replace e := cond_eq_or e
        rcases e with ⟨hq1, e⟩ | ⟨hq1, e⟩
        · replace e := bindO_eq e
          obtain ⟨rb0, e_rb0, e⟩ := e
          try dsimp only at e
          replace e := cond_eq_or e
          rcases e with ⟨hq2, e⟩ | ⟨hq2, e⟩
          · subst hq2
            cases e; exact ⟨ne_ret, goes_runM hU [.b (z_lssT hq0), .o, .q (ixM_ok (kd := .i64) (T := 27) (x := s0_0) (N := w0) (sz := 7) rfl (fun w => by kernel_rfl) hq1), .l (accG (i := 0) (f := c_Type0) (A := w1) (k := (s0_0).toNat) 0 [.int .i64 (((w1 (s0_0).toNat)).fKind), .string ((w1 (s0_0).toNat)).fName, .int .i64 (((w1 (s0_0).toNat)).fSize), .bool (((w1 (s0_0).toNat)).fSigned), .int .i64 (((w1 (s0_0).toNat)).fTo), .int .i64 (((w1 (s0_0).toNat)).fCount), .slice none 0 0] c_Type0_len (inR_nat hq1) rfl), .o, .o, .a 4, .o, .a 4, .xg (SpcG.ownC hU c_Type0_len w0 w1 26 fun hU x u v z hr => ok_btf_holdsFunction_v2 hU x u v w0 z w1 hr (⟨((w1 (s0_0).toNat)).fKind, ((w1 (s0_0).toNat)).fName, ((w1 (s0_0).toNat)).fSize, ((w1 (s0_0).toNat)).fSigned, ((w1 (s0_0).toNat)).fTo, ((w1 (s0_0).toNat)).fCount, ()⟩ : Type0) true e_rb0) [0], .o, .o, .o, .o] [0, 1, 2] (fun b => rfl) (by decide) rfl rfl (fun b => by kernel_rfl)⟩
          · subst hq2
            cases e; exact goes_runM hU [.b (z_lssT hq0), .o, .q (ixM_ok (kd := .i64) (T := 27) (x := s0_0) (N := w0) (sz := 7) rfl (fun w => by kernel_rfl) hq1), .l (accG (i := 0) (f := c_Type0) (A := w1) (k := (s0_0).toNat) 0 [.int .i64 (((w1 (s0_0).toNat)).fKind), .string ((w1 (s0_0).toNat)).fName, .int .i64 (((w1 (s0_0).toNat)).fSize), .bool (((w1 (s0_0).toNat)).fSigned), .int .i64 (((w1 (s0_0).toNat)).fTo), .int .i64 (((w1 (s0_0).toNat)).fCount), .slice none 0 0] c_Type0_len (inR_nat hq1) rfl), .o, .o, .a 4, .o, .a 4, .xg (SpcG.ownC hU c_Type0_len w0 w1 26 fun hU x u v z hr => ok_btf_holdsFunction_v2 hU x u v w0 z w1 hr (⟨((w1 (s0_0).toNat)).fKind, ((w1 (s0_0).toNat)).fName, ((w1 (s0_0).toNat)).fSize, ((w1 (s0_0).toNat)).fSigned, ((w1 (s0_0).toNat)).fTo, ((w1 (s0_0).toNat)).fCount, ()⟩ : Type0) false e_rb0) [0], .o, .o] [0, 1, 2] (fun b => rfl) (by decide) rfl rfl (fun b => by kernel_rfl)
        · exact none_some e
      · cases e; exact ⟨ne_exit 2, goes_runM hU [.b (z_lssF hq0)] [0, 1, 2] (fun b => rfl) (by decide) rfl rfl (fun b => by kernel_rfl)⟩) s r h
noncomputable def t0_btf_Check_v1_L1v1_0 (w0 : Nat) (w1 : Nat → Type0) (g1_0 : Int) (g2_0 : Int) (s0_0 : Int) (ls : List L1) : List Value := List.append [(rowV (lget ls 0) w0 7), ((lget ls 2).u 1), .int .i64 (0), .int .i64 (0), .map (some (lget ls 1).n), ((lget ls 2).u 5), ((lget ls 2).u 6), ((lget ls 2).u 7), .int .i64 (g2_0)] (List.append (jks (lget ls 2).u 9 6) (List.append [(rowV (lget ls 0) w0 7), .int .i64 ((w0 : Int))] (List.append (jks (lget ls 2).u 17 16) (List.append [(rowV (lget ls 0) w0 7), .int .i64 (g2_0), .int .i64 (g2_0), .bool false, ((lget ls 2).u 37), (rowV (lget ls 0) w0 7), .int .i64 ((w0 : Int)), .int .i64 (s0_0)] (jks (lget ls 2).u 41 23)))))
def pre_btf_Check_v1_L1v1_0 (w0 : Nat) (w1 : Nat → Type0) (g1_0 : Int) (g2_0 : Int) (s0_0 : Int) (ls : List L1) : List Obj := [rowO (lget ls 0) (esG c_Type0 w0 w1) 26 w0 7, .map #[⟨.agg #[.int .i64 (1), .string (⟨#[117, 110, 105, 116]⟩ : ByteArray)], .int .i64 (g1_0), 0⟩] 1, unb]
theorem sp0_btf_Check_v1_L1v1_0_ok (g1_0 : Int) (g2_0 : Int) (s0_0 : Int) (h : lpO (st_btf_Check_v1_L1v1 w0 w1) (.c0 s0_0) = some (.e0 )) : SpcG Tryd.prog M B0 S ⟨fun ls => .code (.loop bd_btf_Check_v1_L1v1) (t0_btf_Check_v1_L1v1_0 w0 w1 g1_0 g2_0 s0_0 ls), pre_btf_Check_v1_L1v1_0 w0 w1 g1_0 g2_0 s0_0, 1, (.exit 2), fun ls => vf_btf_Check_v1_L1v1 w0 w1 g1_0 g2_0 (.e0 ) (ls.take 3 ++ ls.drop 3), fun ls => (Hf_btf_Check_v1_L1v1 w0 w1 g1_0 g2_0 (.e0 ) (ls.take 3 ++ ls.drop 3)).take 3 ++ List.replicate 0 unb, fun ls => (Hf_btf_Check_v1_L1v1 w0 w1 g1_0 g2_0 (.e0 ) (ls.take 3 ++ ls.drop 3)).drop 3⟩ :=
  spc_of_goesM hU 0 (k0 := 3) (go_btf_Check_v1_L1v1 hU w0 w1 g1_0 g2_0 _ _ h) (t0_btf_Check_v1_L1v1_0 w0 w1 g1_0 g2_0 s0_0) (pre_btf_Check_v1_L1v1_0 w0 w1 g1_0 g2_0 s0_0) (fun _ => rfl) (fun ls h => by match ls, h with | [l0, l1, l2], _ => exact ⟨by kernel_rfl, by kernel_rfl⟩) (fun ls h => by match ls, h with | [l0, l1, l2], _ => rfl) (by decide) (by decide) (fun ls => rfl)
theorem sp1_btf_Check_v1_L1v1_0_ok (g1_0 : Int) (g2_0 : Int) (s0_0 : Int) (c1_0 : Int) (h : lpO (st_btf_Check_v1_L1v1 w0 w1) (.c0 s0_0) = some (.e1 c1_0)) : SpcG Tryd.prog M B0 S ⟨fun ls => .code (.loop bd_btf_Check_v1_L1v1) (t0_btf_Check_v1_L1v1_0 w0 w1 g1_0 g2_0 s0_0 ls), pre_btf_Check_v1_L1v1_0 w0 w1 g1_0 g2_0 s0_0, 1, .ret, fun ls => vf_btf_Check_v1_L1v1 w0 w1 g1_0 g2_0 (.e1 c1_0) (ls.take 3 ++ ls.drop 3), fun ls => (Hf_btf_Check_v1_L1v1 w0 w1 g1_0 g2_0 (.e1 c1_0) (ls.take 3 ++ ls.drop 3)).take 3 ++ List.replicate 0 unb, fun ls => (Hf_btf_Check_v1_L1v1 w0 w1 g1_0 g2_0 (.e1 c1_0) (ls.take 3 ++ ls.drop 3)).drop 3⟩ :=
  spc_of_goesM hU 0 (k0 := 3) (go_btf_Check_v1_L1v1 hU w0 w1 g1_0 g2_0 _ _ h) (t0_btf_Check_v1_L1v1_0 w0 w1 g1_0 g2_0 s0_0) (pre_btf_Check_v1_L1v1_0 w0 w1 g1_0 g2_0 s0_0) (fun _ => rfl) (fun ls h => by match ls, h with | [l0, l1, l2], _ => exact ⟨by kernel_rfl, by kernel_rfl⟩) (fun ls h => by match ls, h with | [l0, l1, l2], _ => rfl) (by decide) (by decide) (fun ls => rfl)
inductive Sh_btf_Check_v1_L2v1 where
  | c0 (s0_0 : Int)
inductive Ex_btf_Check_v1_L2v1 where
  | e0 
  | e1 (c1_0 : Int)
noncomputable def st_btf_Check_v1_L2v1 (w0 : Nat) (w1 : Nat → Type0) : Sh_btf_Check_v1_L2v1 → Option (Sh_btf_Check_v1_L2v1 ⊕ Ex_btf_Check_v1_L2v1)
  | .c0 s0_0 =>
    bif decide (s0_0 < (w0 : Int)) then
      ((m_btf_fits_v2 w0 w1 (IntKind.i64.wrap (s0_0 + 1))).bind fun rb0 =>
      bif rb0 then
        (some (.inl (.c0 (IntKind.i64.wrap (s0_0 + 1)))))
      else (some (.inr (.e1 (IntKind.i64.wrap (s0_0 + 1))))))
    else (some (.inr (.e0 )))
noncomputable def bd_btf_Check_v1_L2v1 : Code := codeOf Tryd.f5 [1, 1, 1, 1, 1, 1, 0, 1, 0, 0]
def fl_btf_Check_v1_L2v1 (w0 : Nat) (w1 : Nat → Type0) (g1_0 : Int) (g2_0 : Int) : Sh_btf_Check_v1_L2v1 → List L1 → List Value
  | .c0 s0_0, ls => [(rowV (lget ls 0) w0 7), .int .i64 (0), .int .i64 (0), .int .i64 ((w0 : Int)), .int .i64 (s0_0)]
def mf_btf_Check_v1_L2v1 : Sh_btf_Check_v1_L2v1 → List (Nat × Nat)
  | .c0 _ => [(1, 1), (2, 48), (2, 10)]
noncomputable def fr_btf_Check_v1_L2v1 (w0 : Nat) (w1 : Nat → Type0) (g1_0 : Int) (g2_0 : Int) (s : Sh_btf_Check_v1_L2v1) : List L1 → List Value := mrgF (mf_btf_Check_v1_L2v1 s) (fl_btf_Check_v1_L2v1 w0 w1 g1_0 g2_0 s) 4
def Hs_btf_Check_v1_L2v1 (w0 : Nat) (w1 : Nat → Type0) (g1_0 : Int) (g2_0 : Int) : Sh_btf_Check_v1_L2v1 → List L1 → List Obj
  | .c0 s0_0, ls => [rowO (lget ls 0) (esG c_Type0 w0 w1) 26 w0 7, .map #[⟨.agg #[.int .i64 (1), .string (⟨#[117, 110, 105, 116]⟩ : ByteArray)], .int .i64 (g1_0), 0⟩] 1, unb, unb, unb]
def vl_btf_Check_v1_L2v1 (w0 : Nat) (w1 : Nat → Type0) (g1_0 : Int) (g2_0 : Int) : Ex_btf_Check_v1_L2v1 → List L1 → List Value
  | .e0 , ls => [(rowV (lget ls 0) w0 7), .int .i64 (0), .int .i64 (0), .int .i64 ((w0 : Int))]
  | .e1 c1_0, ls => [(rowV (lget ls 0) w0 7), .int .i64 (c1_0), .int .i64 (43), .int .i64 ((w0 : Int))]
def mk_btf_Check_v1_L2v1 : Ex_btf_Check_v1_L2v1 → List (Nat × Nat)
  | .e0  => [(1, 1), (2, 48), (1, 11)]
  | .e1 _ => [(1, 1), (2, 48), (1, 11)]
noncomputable def vf_btf_Check_v1_L2v1 (w0 : Nat) (w1 : Nat → Type0) (g1_0 : Int) (g2_0 : Int) (r : Ex_btf_Check_v1_L2v1) : List L1 → List Value := mrgF (mk_btf_Check_v1_L2v1 r) (vl_btf_Check_v1_L2v1 w0 w1 g1_0 g2_0 r) 4
def Hf_btf_Check_v1_L2v1 (w0 : Nat) (w1 : Nat → Type0) (g1_0 : Int) (g2_0 : Int) : Ex_btf_Check_v1_L2v1 → List L1 → List Obj
  | .e0 , ls => [rowO (lget ls 0) (esG c_Type0 w0 w1) 26 w0 7, .map #[⟨.agg #[.int .i64 (1), .string (⟨#[117, 110, 105, 116]⟩ : ByteArray)], .int .i64 (g1_0), 0⟩] 1, unb, unb, unb]
  | .e1 c1_0, ls => [rowO (lget ls 0) (esG c_Type0 w0 w1) 26 w0 7, .map #[⟨.agg #[.int .i64 (1), .string (⟨#[117, 110, 105, 116]⟩ : ByteArray)], .int .i64 (g1_0), 0⟩] 1, unb, unb, unb]
def ex_btf_Check_v1_L2v1 : Ex_btf_Check_v1_L2v1 → Ex
  | .e0  => (.exit 4)
  | .e1 _ => .ret
theorem go_btf_Check_v1_L2v1 (g1_0 : Int) (g2_0 : Int) (s : Sh_btf_Check_v1_L2v1) (r : Ex_btf_Check_v1_L2v1) (h : lpO (st_btf_Check_v1_L2v1 w0 w1) s = some r) : GoesG Tryd.prog M B0 S (.loop bd_btf_Check_v1_L2v1) 5 (fr_btf_Check_v1_L2v1 w0 w1 g1_0 g2_0 s) (Hs_btf_Check_v1_L2v1 w0 w1 g1_0 g2_0 s) (ex_btf_Check_v1_L2v1 r) 4 (vf_btf_Check_v1_L2v1 w0 w1 g1_0 g2_0 r) (Hf_btf_Check_v1_L2v1 w0 w1 g1_0 g2_0 r) 5 :=
  goes_lpO (fun s q e => by
    cases s with
    | c0 s0_0 =>
      unfold st_btf_Check_v1_L2v1 at e
      dsimp only at e
      replace e := cond_eq_or e
      rcases e with ⟨hq0, e⟩ | ⟨hq0, e⟩
      · replace e := bindO_eq e
        obtain ⟨rb0, e_rb0, e⟩ := e
        try dsimp only at e
        replace e := cond_eq_or e
        rcases e with ⟨hq1, e⟩ | ⟨hq1, e⟩
        · subst hq1
          cases e; exact goes_runM hU [.b (z_lssT hq0), .o, .o, .o, .o, .o, .xg (SpcG.ownC hU c_Type0_len w0 w1 26 fun hU x u v z hr => ok_btf_fits_v2 hU x u v w0 z w1 hr (IntKind.i64.wrap (s0_0 + 1)) true e_rb0) [0], .o, .o, .o] [0, 1, 2, 3] (fun b => rfl) (by decide) rfl rfl (fun b => by kernel_rfl)
        · subst hq1
          cases e; exact ⟨ne_ret, goes_runM hU [.b (z_lssT hq0), .o, .o, .o, .o, .o, .xg (SpcG.ownC hU c_Type0_len w0 w1 26 fun hU x u v z hr => ok_btf_fits_v2 hU x u v w0 z w1 hr (IntKind.i64.wrap (s0_0 + 1)) false e_rb0) [0], .o, .o, .o, .o, .o] [0, 1, 2, 3] (fun b => rfl) (by decide) rfl rfl (fun b => by kernel_rfl)⟩
      · cases e; exact ⟨ne_exit 4, goes_runM hU [.b (z_lssF hq0)] [0, 1, 2, 3] (fun b => rfl) (by decide) rfl rfl (fun b => by kernel_rfl)⟩) s r h
noncomputable def t0_btf_Check_v1_L2v1_0 (w0 : Nat) (w1 : Nat → Type0) (g1_0 : Int) (g2_0 : Int) (s0_0 : Int) (ls : List L1) : List Value := List.append [(rowV (lget ls 0) w0 7), ((lget ls 3).u 1), .int .i64 (0), .int .i64 (0)] (List.append (jks (lget ls 3).u 4 34) (List.append [(rowV (lget ls 0) w0 7), .int .i64 ((w0 : Int))] (List.append (jks (lget ls 3).u 40 11) (List.append [(rowV (lget ls 0) w0 7), .int .i64 ((w0 : Int)), .int .i64 (s0_0)] (jks (lget ls 3).u 54 10)))))
def pre_btf_Check_v1_L2v1_0 (w0 : Nat) (w1 : Nat → Type0) (g1_0 : Int) (g2_0 : Int) (s0_0 : Int) (ls : List L1) : List Obj := [rowO (lget ls 0) (esG c_Type0 w0 w1) 26 w0 7, .map #[⟨.agg #[.int .i64 (1), .string (⟨#[117, 110, 105, 116]⟩ : ByteArray)], .int .i64 (g1_0), 0⟩] 1, unb, unb]
theorem sp0_btf_Check_v1_L2v1_0_ok (g1_0 : Int) (g2_0 : Int) (s0_0 : Int) (h : lpO (st_btf_Check_v1_L2v1 w0 w1) (.c0 s0_0) = some (.e0 )) : SpcG Tryd.prog M B0 S ⟨fun ls => .code (.loop bd_btf_Check_v1_L2v1) (t0_btf_Check_v1_L2v1_0 w0 w1 g1_0 g2_0 s0_0 ls), pre_btf_Check_v1_L2v1_0 w0 w1 g1_0 g2_0 s0_0, 1, (.exit 4), fun ls => vf_btf_Check_v1_L2v1 w0 w1 g1_0 g2_0 (.e0 ) (ls.take 4 ++ ls.drop 4), fun ls => (Hf_btf_Check_v1_L2v1 w0 w1 g1_0 g2_0 (.e0 ) (ls.take 4 ++ ls.drop 4)).take 4 ++ List.replicate 0 unb, fun ls => (Hf_btf_Check_v1_L2v1 w0 w1 g1_0 g2_0 (.e0 ) (ls.take 4 ++ ls.drop 4)).drop 4⟩ :=
  spc_of_goesM hU 0 (k0 := 4) (go_btf_Check_v1_L2v1 hU w0 w1 g1_0 g2_0 _ _ h) (t0_btf_Check_v1_L2v1_0 w0 w1 g1_0 g2_0 s0_0) (pre_btf_Check_v1_L2v1_0 w0 w1 g1_0 g2_0 s0_0) (fun _ => rfl) (fun ls h => by match ls, h with | [l0, l1, l2, l3], _ => exact ⟨by kernel_rfl, by kernel_rfl⟩) (fun ls h => by match ls, h with | [l0, l1, l2, l3], _ => rfl) (by decide) (by decide) (fun ls => rfl)
theorem sp1_btf_Check_v1_L2v1_0_ok (g1_0 : Int) (g2_0 : Int) (s0_0 : Int) (c1_0 : Int) (h : lpO (st_btf_Check_v1_L2v1 w0 w1) (.c0 s0_0) = some (.e1 c1_0)) : SpcG Tryd.prog M B0 S ⟨fun ls => .code (.loop bd_btf_Check_v1_L2v1) (t0_btf_Check_v1_L2v1_0 w0 w1 g1_0 g2_0 s0_0 ls), pre_btf_Check_v1_L2v1_0 w0 w1 g1_0 g2_0 s0_0, 1, .ret, fun ls => vf_btf_Check_v1_L2v1 w0 w1 g1_0 g2_0 (.e1 c1_0) (ls.take 4 ++ ls.drop 4), fun ls => (Hf_btf_Check_v1_L2v1 w0 w1 g1_0 g2_0 (.e1 c1_0) (ls.take 4 ++ ls.drop 4)).take 4 ++ List.replicate 0 unb, fun ls => (Hf_btf_Check_v1_L2v1 w0 w1 g1_0 g2_0 (.e1 c1_0) (ls.take 4 ++ ls.drop 4)).drop 4⟩ :=
  spc_of_goesM hU 0 (k0 := 4) (go_btf_Check_v1_L2v1 hU w0 w1 g1_0 g2_0 _ _ h) (t0_btf_Check_v1_L2v1_0 w0 w1 g1_0 g2_0 s0_0) (pre_btf_Check_v1_L2v1_0 w0 w1 g1_0 g2_0 s0_0) (fun _ => rfl) (fun ls h => by match ls, h with | [l0, l1, l2, l3], _ => exact ⟨by kernel_rfl, by kernel_rfl⟩) (fun ls h => by match ls, h with | [l0, l1, l2, l3], _ => rfl) (by decide) (by decide) (fun ls => rfl)
inductive R_btf_Check_v1 where
  | e0 (c0_0 : Int) (c0_1 : Int)
noncomputable def m_btf_Check_v1 (w0 : Nat) (w1 : Nat → Type0) : Option R_btf_Check_v1 :=
  (m_btf_tooMany_v1 w0 w1).bind fun r0 =>
  bif r0 then
    (some (.e0 0 45))
  else ((lpO (st_btf_Check_v1_L0 w0 w1) (.c0 0)).bind fun g1 => match g1 with
  | .e0  => ((m_btf_holdsItself_v1 w0 w1).bind fun g2 => match g2 with
    | .e0 g2_0 =>
    bif g2_0 == 0 then
      ((lpO (st_btf_Check_v1_L1 w0 w1) (.c0 0)).bind fun g3 => match g3 with
      | .e0  => ((lpO (st_btf_Check_v1_L2 w0 w1) (.c0 0)).bind fun g4 => match g4 with
        | .e0  => (some (.e0 0 0))
        | .e1 g4_0 => (some (.e0 g4_0 43)))
      | .e1 g3_0 => (some (.e0 g3_0 41)))
    else (some (.e0 g2_0 42)))
  | .e1 g1_0 => ((m_btf_holdsItself_v1 w0 w1).bind fun g2 => match g2 with
    | .e0 g2_0 =>
    bif g2_0 == 0 then
      ((lpO (st_btf_Check_v1_L1v1 w0 w1) (.c0 0)).bind fun g3 => match g3 with
      | .e0  => ((lpO (st_btf_Check_v1_L2v1 w0 w1) (.c0 0)).bind fun g4 => match g4 with
        | .e0  => (some (.e0 0 0))
        | .e1 g4_0 => (some (.e0 g4_0 43)))
      | .e1 g3_0 => (some (.e0 g3_0 41)))
    else (some (.e0 g2_0 42)))
  | .e2 g1_0 g1_1 => (some (.e0 g1_0 g1_1))
  | .e3 g1_0 g1_1 g1_2 => (some (.e0 g1_1 g1_2)))
def sq0_btf_Check_v1 (w0 : Nat) (w1 : Nat → Type0) (c0_0 : Int) (c0_1 : Int) : Spc := ⟨fun ls => .call 5 #[(rowV (lget ls 0) w0 7)], fun ls => [rowO (lget ls 0) (esG c_Type0 w0 w1) 26 w0 7], 0, .normal, fun ls => [.tuple #[.int .i64 (c0_0), .int .i64 (c0_1)]], fun ls => [rowO (lget ls 0) (esG c_Type0 w0 w1) 26 w0 7], fun ls => []⟩
theorem ok0_btf_Check_v1 (c0_0 : Int) (c0_1 : Int) (e : m_btf_Check_v1 w0 w1 = some (.e0 c0_0 c0_1)) : SpcG Tryd.prog M B0 S (sq0_btf_Check_v1 w0 w1 c0_0 c0_1) := by
  unfold m_btf_Check_v1 at e
  replace e := bindO_eq e
  obtain ⟨r0, e_r0, e⟩ := e
  try dsimp only at e
  replace e := cond_eq_or e
  rcases e with ⟨hq0, e⟩ | ⟨hq0, e⟩
  · subst hq0
    injection e with e; injection e with i0 i1; subst i0 i1; exact fn_specG hU (P := Tryd.prog) Tryd.func5 (fun xs w => by kernel_rfl) 1 _ _ (fun _ => rfl) _ _ _ [] [.o, .o, .o, .xg (SpcG.ownC hU c_Type0_len w0 w1 26 fun hU x u v z hr => ok_btf_tooMany_v1 hU x u v w0 z w1 hr true e_r0) [0], .o, .o] [] (fun b => by kernel_rfl)
  · subst hq0
    replace e := bindO_eq e
    obtain ⟨g1, e_g1, e⟩ := e
    rcases g1 with _ | ⟨g1_0⟩ | ⟨g1_0, g1_1⟩ | ⟨g1_0, g1_1, g1_2⟩
    · try dsimp only at e
      replace e := bindO_eq e
      obtain ⟨g2, e_g2, e⟩ := e
      obtain ⟨g2_0⟩ := g2
      try dsimp only at e
      replace e := cond_eq_or e
      rcases e with ⟨hq1, e⟩ | ⟨hq1, e⟩
      · replace e := bindO_eq e
        obtain ⟨g3, e_g3, e⟩ := e
        rcases g3 with _ | ⟨g3_0⟩
        · try dsimp only at e
          replace e := bindO_eq e
          obtain ⟨g4, e_g4, e⟩ := e
          rcases g4 with _ | ⟨g4_0⟩
          · try dsimp only at e
            injection e with e; injection e with i0 i1; subst i0 i1; exact fn_specG hU (P := Tryd.prog) Tryd.func5 (fun xs w => by kernel_rfl) 1 _ _ (fun _ => rfl) _ _ _ [] [.o, .o, .o, .xg (SpcG.ownC hU c_Type0_len w0 w1 26 fun hU x u v z hr => ok_btf_tooMany_v1 hU x u v w0 z w1 hr false e_r0) [0], .o, .o, .o, .o, .o, .cp, .cx (sp0_btf_Check_v1_L0_0_ok hU w0 w1 0  e_g1) [0, 1], .o, .xg (ok0_btf_holdsItself_v1 hU w0 w1 g2_0 e_g2) [0], .o, .o, .b (z_neqT hq1), .o, .o, .o, .cp, .cx (sp0_btf_Check_v1_L1_0_ok hU w0 w1 g2_0 0  e_g3) [0, 1, 2], .o, .o, .o, .cp, .cx (sp0_btf_Check_v1_L2_0_ok hU w0 w1 g2_0 0  e_g4) [0, 1, 2, 3], .o, .o] [] (fun b => by kernel_rfl)
          · try dsimp only at e
            injection e with e; injection e with i0 i1; subst i0 i1; exact fn_specG hU (P := Tryd.prog) Tryd.func5 (fun xs w => by kernel_rfl) 1 _ _ (fun _ => rfl) _ _ _ [] [.o, .o, .o, .xg (SpcG.ownC hU c_Type0_len w0 w1 26 fun hU x u v z hr => ok_btf_tooMany_v1 hU x u v w0 z w1 hr false e_r0) [0], .o, .o, .o, .o, .o, .cp, .cx (sp0_btf_Check_v1_L0_0_ok hU w0 w1 0  e_g1) [0, 1], .o, .xg (ok0_btf_holdsItself_v1 hU w0 w1 g2_0 e_g2) [0], .o, .o, .b (z_neqT hq1), .o, .o, .o, .cp, .cx (sp0_btf_Check_v1_L1_0_ok hU w0 w1 g2_0 0  e_g3) [0, 1, 2], .o, .o, .o, .cp, .cx (sp1_btf_Check_v1_L2_0_ok hU w0 w1 g2_0 0 g4_0 e_g4) [0, 1, 2, 3]] [] (fun b => by kernel_rfl)
        · try dsimp only at e
          injection e with e; injection e with i0 i1; subst i0 i1; exact fn_specG hU (P := Tryd.prog) Tryd.func5 (fun xs w => by kernel_rfl) 1 _ _ (fun _ => rfl) _ _ _ [] [.o, .o, .o, .xg (SpcG.ownC hU c_Type0_len w0 w1 26 fun hU x u v z hr => ok_btf_tooMany_v1 hU x u v w0 z w1 hr false e_r0) [0], .o, .o, .o, .o, .o, .cp, .cx (sp0_btf_Check_v1_L0_0_ok hU w0 w1 0  e_g1) [0, 1], .o, .xg (ok0_btf_holdsItself_v1 hU w0 w1 g2_0 e_g2) [0], .o, .o, .b (z_neqT hq1), .o, .o, .o, .cp, .cx (sp1_btf_Check_v1_L1_0_ok hU w0 w1 g2_0 0 g3_0 e_g3) [0, 1, 2]] [] (fun b => by kernel_rfl)
      · injection e with e; injection e with i0 i1; subst i0 i1; exact fn_specG hU (P := Tryd.prog) Tryd.func5 (fun xs w => by kernel_rfl) 1 _ _ (fun _ => rfl) _ _ _ [] [.o, .o, .o, .xg (SpcG.ownC hU c_Type0_len w0 w1 26 fun hU x u v z hr => ok_btf_tooMany_v1 hU x u v w0 z w1 hr false e_r0) [0], .o, .o, .o, .o, .o, .cp, .cx (sp0_btf_Check_v1_L0_0_ok hU w0 w1 0  e_g1) [0, 1], .o, .xg (ok0_btf_holdsItself_v1 hU w0 w1 g2_0 e_g2) [0], .o, .o, .b (z_neqF hq1), .o, .o, .o] [] (fun b => by kernel_rfl)
    · try dsimp only at e
      replace e := bindO_eq e
      obtain ⟨g2, e_g2, e⟩ := e
      obtain ⟨g2_0⟩ := g2
      try dsimp only at e
      replace e := cond_eq_or e
      rcases e with ⟨hq1, e⟩ | ⟨hq1, e⟩
      · replace e := bindO_eq e
        obtain ⟨g3, e_g3, e⟩ := e
        rcases g3 with _ | ⟨g3_0⟩
        · try dsimp only at e
          replace e := bindO_eq e
          obtain ⟨g4, e_g4, e⟩ := e
          rcases g4 with _ | ⟨g4_0⟩
          · try dsimp only at e
            injection e with e; injection e with i0 i1; subst i0 i1; exact fn_specG hU (P := Tryd.prog) Tryd.func5 (fun xs w => by kernel_rfl) 1 _ _ (fun _ => rfl) _ _ _ [] [.o, .o, .o, .xg (SpcG.ownC hU c_Type0_len w0 w1 26 fun hU x u v z hr => ok_btf_tooMany_v1 hU x u v w0 z w1 hr false e_r0) [0], .o, .o, .o, .o, .o, .cp, .cx (sp1_btf_Check_v1_L0_0_ok hU w0 w1 0 g1_0 e_g1) [0, 1], .o, .xg (ok0_btf_holdsItself_v1 hU w0 w1 g2_0 e_g2) [0], .o, .o, .b (z_neqT hq1), .o, .o, .o, .cp, .cx (sp0_btf_Check_v1_L1v1_0_ok hU w0 w1 g1_0 g2_0 0  e_g3) [0, 1, 2], .o, .o, .o, .cp, .cx (sp0_btf_Check_v1_L2v1_0_ok hU w0 w1 g1_0 g2_0 0  e_g4) [0, 1, 2, 3], .o, .o] [] (fun b => by kernel_rfl)
          · try dsimp only at e
            injection e with e; injection e with i0 i1; subst i0 i1; exact fn_specG hU (P := Tryd.prog) Tryd.func5 (fun xs w => by kernel_rfl) 1 _ _ (fun _ => rfl) _ _ _ [] [.o, .o, .o, .xg (SpcG.ownC hU c_Type0_len w0 w1 26 fun hU x u v z hr => ok_btf_tooMany_v1 hU x u v w0 z w1 hr false e_r0) [0], .o, .o, .o, .o, .o, .cp, .cx (sp1_btf_Check_v1_L0_0_ok hU w0 w1 0 g1_0 e_g1) [0, 1], .o, .xg (ok0_btf_holdsItself_v1 hU w0 w1 g2_0 e_g2) [0], .o, .o, .b (z_neqT hq1), .o, .o, .o, .cp, .cx (sp0_btf_Check_v1_L1v1_0_ok hU w0 w1 g1_0 g2_0 0  e_g3) [0, 1, 2], .o, .o, .o, .cp, .cx (sp1_btf_Check_v1_L2v1_0_ok hU w0 w1 g1_0 g2_0 0 g4_0 e_g4) [0, 1, 2, 3]] [] (fun b => by kernel_rfl)
        · try dsimp only at e
          injection e with e; injection e with i0 i1; subst i0 i1; exact fn_specG hU (P := Tryd.prog) Tryd.func5 (fun xs w => by kernel_rfl) 1 _ _ (fun _ => rfl) _ _ _ [] [.o, .o, .o, .xg (SpcG.ownC hU c_Type0_len w0 w1 26 fun hU x u v z hr => ok_btf_tooMany_v1 hU x u v w0 z w1 hr false e_r0) [0], .o, .o, .o, .o, .o, .cp, .cx (sp1_btf_Check_v1_L0_0_ok hU w0 w1 0 g1_0 e_g1) [0, 1], .o, .xg (ok0_btf_holdsItself_v1 hU w0 w1 g2_0 e_g2) [0], .o, .o, .b (z_neqT hq1), .o, .o, .o, .cp, .cx (sp1_btf_Check_v1_L1v1_0_ok hU w0 w1 g1_0 g2_0 0 g3_0 e_g3) [0, 1, 2]] [] (fun b => by kernel_rfl)
      · injection e with e; injection e with i0 i1; subst i0 i1; exact fn_specG hU (P := Tryd.prog) Tryd.func5 (fun xs w => by kernel_rfl) 1 _ _ (fun _ => rfl) _ _ _ [] [.o, .o, .o, .xg (SpcG.ownC hU c_Type0_len w0 w1 26 fun hU x u v z hr => ok_btf_tooMany_v1 hU x u v w0 z w1 hr false e_r0) [0], .o, .o, .o, .o, .o, .cp, .cx (sp1_btf_Check_v1_L0_0_ok hU w0 w1 0 g1_0 e_g1) [0, 1], .o, .xg (ok0_btf_holdsItself_v1 hU w0 w1 g2_0 e_g2) [0], .o, .o, .b (z_neqF hq1), .o, .o, .o] [] (fun b => by kernel_rfl)
    · try dsimp only at e
      injection e with e; injection e with i0 i1; subst i0 i1; exact fn_specG hU (P := Tryd.prog) Tryd.func5 (fun xs w => by kernel_rfl) 1 _ _ (fun _ => rfl) _ _ _ [] [.o, .o, .o, .xg (SpcG.ownC hU c_Type0_len w0 w1 26 fun hU x u v z hr => ok_btf_tooMany_v1 hU x u v w0 z w1 hr false e_r0) [0], .o, .o, .o, .o, .o, .cp, .cx (sp2_btf_Check_v1_L0_0_ok hU w0 w1 0 g1_0 g1_1 e_g1) [0, 1]] [] (fun b => by kernel_rfl)
    · try dsimp only at e
      injection e with e; injection e with i0 i1; subst i0 i1; exact fn_specG hU (P := Tryd.prog) Tryd.func5 (fun xs w => by kernel_rfl) 1 _ _ (fun _ => rfl) _ _ _ [] [.o, .o, .o, .xg (SpcG.ownC hU c_Type0_len w0 w1 26 fun hU x u v z hr => ok_btf_tooMany_v1 hU x u v w0 z w1 hr false e_r0) [0], .o, .o, .o, .o, .o, .cp, .cx (sp3_btf_Check_v1_L0_0_ok hU w0 w1 0 g1_0 g1_1 g1_2 e_g1) [0, 1]] [] (fun b => by kernel_rfl)
inductive R_btf_Resolve_v1 where
  | e0 (c0_0 : Int) (c0_1 : Int)
noncomputable def m_btf_Resolve_v1 (y1 : Int) (w0 : Nat) (w1 : Nat → Type0) : Option R_btf_Resolve_v1 :=
  (m_btf_Check_v1 w0 w1).bind fun g0 => match g0 with
  | .e0 g0_0 g0_1 =>
  bif g0_1 == 0 then
    (bif decide (y1 < 1) then
      (some (.e0 0 41))
    else (bif decide ((w0 : Int) < y1) then
      (some (.e0 0 41))
    else ((m_btf_resolve_v2 w0 w1 y1).bind fun r1 =>
    some (.e0 r1 0))))
  else (some (.e0 0 g0_1))
def sq0_btf_Resolve_v1 (y1 : Int) (w0 : Nat) (w1 : Nat → Type0) (c0_0 : Int) (c0_1 : Int) : Spc := ⟨fun ls => .call 14 #[(rowV (lget ls 0) w0 7), .int .i64 (y1)], fun ls => [rowO (lget ls 0) (esG c_Type0 w0 w1) 26 w0 7], 0, .normal, fun ls => [.tuple #[.int .i64 (c0_0), .int .i64 (c0_1)]], fun ls => [rowO (lget ls 0) (esG c_Type0 w0 w1) 26 w0 7], fun ls => []⟩
end
section
variable {M : Nat → Prop} {B0 : Nat} {S : World → Prop} (hU : Up M B0 S) (y1 : Int) (w0 : Nat) (w1 : Nat → Type0) (c0_0 : Int) (c0_1 : Int)
include hU y1 w0 w1 c0_0 c0_1
theorem ok0_btf_Resolve_v1 (e : m_btf_Resolve_v1 y1 w0 w1 = some (.e0 c0_0 c0_1)) : SpcG Tryd.prog M B0 S (sq0_btf_Resolve_v1 y1 w0 w1 c0_0 c0_1) := by
  unfold m_btf_Resolve_v1 at e
  replace e := bindO_eq e
  obtain ⟨g0, e_g0, e⟩ := e
  obtain ⟨g0_0, g0_1⟩ := g0
  try dsimp only at e
  replace e := cond_eq_or e
  rcases e with ⟨hq0, e⟩ | ⟨hq0, e⟩
  · replace e := cond_eq_or e
    rcases e with ⟨hq1, e⟩ | ⟨hq1, e⟩
    · injection e with e; injection e with i0 i1; subst i0 i1; exact fn_specG hU (P := Tryd.prog) Tryd.func14 (fun xs w => by kernel_rfl) 1 _ _ (fun _ => rfl) _ _ _ [] [.o, .o, .o, .xg (ok0_btf_Check_v1 hU w0 w1 g0_0 g0_1 e_g0) [0], .o, .o, .o, .o, .o, .o, .b (z_neqT hq0), .o, .b (z_lssT hq1), .o, .o, .o, .o] [] (fun b => by kernel_rfl)
    · replace e := cond_eq_or e
      rcases e with ⟨hq2, e⟩ | ⟨hq2, e⟩
      · injection e with e; injection e with i0 i1; subst i0 i1; exact fn_specG hU (P := Tryd.prog) Tryd.func14 (fun xs w => by kernel_rfl) 1 _ _ (fun _ => rfl) _ _ _ [] [.o, .o, .o, .xg (ok0_btf_Check_v1 hU w0 w1 g0_0 g0_1 e_g0) [0], .o, .o, .o, .o, .o, .o, .b (z_neqT hq0), .o, .b (z_lssF hq1), .o, .o, .o, .o, .b (z_gtrT hq2), .o, .o, .o] [] (fun b => by kernel_rfl)
      · replace e := bindO_eq e
        obtain ⟨r1, e_r1, e⟩ := e
        try dsimp only at e
        injection e with e; injection e with i0 i1; subst i0 i1; exact fn_specG hU (P := Tryd.prog) Tryd.func14 (fun xs w => by kernel_rfl) 1 _ _ (fun _ => rfl) _ _ _ [] [.o, .o, .o, .xg (ok0_btf_Check_v1 hU w0 w1 g0_0 g0_1 e_g0) [0], .o, .o, .o, .o, .o, .o, .b (z_neqT hq0), .o, .b (z_lssF hq1), .o, .o, .o, .o, .b (z_gtrF hq2), .o, .o, .o, .xg (SpcG.ownC hU c_Type0_len w0 w1 26 fun hU x u v z hr => ok_btf_resolve_v2 hU x u v w0 z w1 hr y1 r1 e_r1) [0], .o, .o] [] (fun b => by kernel_rfl)
  · injection e with e; injection e with i0 i1; subst i0 i1; exact fn_specG hU (P := Tryd.prog) Tryd.func14 (fun xs w => by kernel_rfl) 1 _ _ (fun _ => rfl) _ _ _ [] [.o, .o, .o, .xg (ok0_btf_Check_v1 hU w0 w1 g0_0 g0_1 e_g0) [0], .o, .o, .o, .o, .o, .o, .b (z_neqF hq0), .o, .o, .o] [] (fun b => by kernel_rfl)
inductive R_btf_Size_v1 where
  | e0 (c0_0 : Int) (c0_1 : Int)
noncomputable def m_btf_Size_v1 (y1 : Int) (w0 : Nat) (w1 : Nat → Type0) : Option R_btf_Size_v1 :=
  (m_btf_Resolve_v1 y1 w0 w1).bind fun g0 => match g0 with
  | .e0 g0_0 g0_1 =>
  bif g0_1 == 0 then
    (bif inR (IntKind.i64.wrap (g0_0 - 1)) w0 then
      (bif ((w1 ((IntKind.i64.wrap (g0_0 - 1))).toNat)).fKind == 6 then
        (some (.e0 0 41))
      else ((m_btf_sizeOf_v2_F 64 w0 w1 g0_0).bind fun r1 =>
      some (.e0 r1 0)))
    else (none))
  else (some (.e0 0 g0_1))
def sq0_btf_Size_v1 (y1 : Int) (w0 : Nat) (w1 : Nat → Type0) (c0_0 : Int) (c0_1 : Int) : Spc := ⟨fun ls => .call 6 #[(rowV (lget ls 0) w0 7), .int .i64 (y1)], fun ls => [rowO (lget ls 0) (esG c_Type0 w0 w1) 26 w0 7], 0, .normal, fun ls => [.tuple #[.int .i64 (c0_0), .int .i64 (c0_1)]], fun ls => [rowO (lget ls 0) (esG c_Type0 w0 w1) 26 w0 7], fun ls => []⟩
theorem ok0_btf_Size_v1 (e : m_btf_Size_v1 y1 w0 w1 = some (.e0 c0_0 c0_1)) : SpcG Tryd.prog M B0 S (sq0_btf_Size_v1 y1 w0 w1 c0_0 c0_1) := by
  unfold m_btf_Size_v1 at e
  replace e := bindO_eq e
  obtain ⟨g0, e_g0, e⟩ := e
  obtain ⟨g0_0, g0_1⟩ := g0
  try dsimp only at e
  replace e := cond_eq_or e
  rcases e with ⟨hq0, e⟩ | ⟨hq0, e⟩
  · replace e := cond_eq_or e
    rcases e with ⟨hq1, e⟩ | ⟨hq1, e⟩
    · replace e := cond_eq_or e
      rcases e with ⟨hq2, e⟩ | ⟨hq2, e⟩
      · injection e with e; injection e with i0 i1; subst i0 i1; exact fn_specG hU (P := Tryd.prog) Tryd.func6 (fun xs w => by kernel_rfl) 1 _ _ (fun _ => rfl) _ _ _ [] [.o, .o, .o, .o, .xg (ok0_btf_Resolve_v1 hU y1 w0 w1 g0_0 g0_1 e_g0) [0], .o, .o, .o, .o, .o, .o, .b (z_neqT hq0), .o, .o, .o, .q (ixM_ok (kd := .i64) (T := 27) (x := (IntKind.i64.wrap (g0_0 - 1))) (N := w0) (sz := 7) rfl (fun w => by kernel_rfl) hq1), .o, .l (accG (i := 0) (f := c_Type0) (A := w1) (k := ((IntKind.i64.wrap (g0_0 - 1))).toNat) 0 [.int .i64 (((w1 ((IntKind.i64.wrap (g0_0 - 1))).toNat)).fKind)] c_Type0_len (inR_nat hq1) rfl), .b (z_eqlT hq2), .o, .o] [] (fun b => by kernel_rfl)
      · replace e := bindO_eq e
        obtain ⟨r1, e_r1, e⟩ := e
        try dsimp only at e
        injection e with e; injection e with i0 i1; subst i0 i1; exact fn_specG hU (P := Tryd.prog) Tryd.func6 (fun xs w => by kernel_rfl) 1 _ _ (fun _ => rfl) _ _ _ [] [.o, .o, .o, .o, .xg (ok0_btf_Resolve_v1 hU y1 w0 w1 g0_0 g0_1 e_g0) [0], .o, .o, .o, .o, .o, .o, .b (z_neqT hq0), .o, .o, .o, .q (ixM_ok (kd := .i64) (T := 27) (x := (IntKind.i64.wrap (g0_0 - 1))) (N := w0) (sz := 7) rfl (fun w => by kernel_rfl) hq1), .o, .l (accG (i := 0) (f := c_Type0) (A := w1) (k := ((IntKind.i64.wrap (g0_0 - 1))).toNat) 0 [.int .i64 (((w1 ((IntKind.i64.wrap (g0_0 - 1))).toNat)).fKind)] c_Type0_len (inR_nat hq1) rfl), .b (z_eqlF hq2), .o, .o, .xg (SpcG.ownC hU c_Type0_len w0 w1 26 fun hU x u v z hr => ok_btf_sizeOf_v2_F 64 hU x u v w0 z w1 hr g0_0 r1 e_r1) [0], .o, .o] [] (fun b => by kernel_rfl)
    · exact none_some e
  · injection e with e; injection e with i0 i1; subst i0 i1; exact fn_specG hU (P := Tryd.prog) Tryd.func6 (fun xs w => by kernel_rfl) 1 _ _ (fun _ => rfl) _ _ _ [] [.o, .o, .o, .o, .xg (ok0_btf_Resolve_v1 hU y1 w0 w1 g0_0 g0_1 e_g0) [0], .o, .o, .o, .o, .o, .o, .b (z_neqF hq0), .o, .o, .o] [] (fun b => by kernel_rfl)
inductive Sh_barbicanlaw4_BtfArrays_L0 where
  | c0 (s0_0 : Int) (s0_1 : Nat) (s0_2 : Nat → Type0) (s0_3 : Int) (s0_4 : Int)
inductive Ex_barbicanlaw4_BtfArrays_L0 where
  | e0 (c0_0 : Int) (c0_1 : Nat) (c0_2 : Nat → Type0) (c0_3 : Int)
noncomputable def st_barbicanlaw4_BtfArrays_L0 (n0 : Nat) (A0 : Nat → BitVec 8) : Sh_barbicanlaw4_BtfArrays_L0 → Option (Sh_barbicanlaw4_BtfArrays_L0 ⊕ Ex_barbicanlaw4_BtfArrays_L0)
  | .c0 s0_0 s0_1 s0_2 s0_3 s0_4 =>
    bif decide (s0_4 < (n0 : Int)) then
      (bif inR s0_4 n0 then
        (bif decide (s0_1 ≤ 1000000) then
          (bindT (updF s0_2 s0_1 (⟨3, (⟨#[]⟩ : ByteArray), 0, false, (s0_1 : Int), (nn (A0 (s0_4).toNat)), ()⟩ : Type0)) fun rb0 =>
          bif decide (65536 < (IntKind.i64.wrap (s0_0 * (nn (A0 (s0_4).toNat))))) then
            (bif decide (s0_3 < 0) then
              (some (.inl (.c0 65537 (s0_1 + 1) rb0 ((s0_1 + 1) : Int) (IntKind.i64.wrap (s0_4 + 1)))))
            else (some (.inl (.c0 65537 (s0_1 + 1) rb0 s0_3 (IntKind.i64.wrap (s0_4 + 1))))))
          else (some (.inl (.c0 (IntKind.i64.wrap (s0_0 * (nn (A0 (s0_4).toNat)))) (s0_1 + 1) rb0 s0_3 (IntKind.i64.wrap (s0_4 + 1))))))
        else (none))
      else (none))
    else (some (.inr (.e0 s0_0 s0_1 s0_2 s0_3)))
noncomputable def bd_barbicanlaw4_BtfArrays_L0 : Code := codeOf Tryd.f3 [1, 1, 1, 1, 1, 1, 0, 1, 0, 0]
def fl_barbicanlaw4_BtfArrays_L0 (a0 : Option Addr) (p0 : Nat) (q0 : Nat) (n0 : Nat) (k0 : Nat) (A0 : Nat → BitVec 8) (y1 : BitVec 8) : Sh_barbicanlaw4_BtfArrays_L0 → List L1 → List Value
  | .c0 s0_0 s0_1 s0_2 s0_3 s0_4, ls => [.slice a0 n0 (n0 + k0), .int .i64 (s0_0), (rowV (lget ls 1) s0_1 7), .int .i64 (s0_3), .int .i64 (s0_4)]
def mf_barbicanlaw4_BtfArrays_L0 : Sh_barbicanlaw4_BtfArrays_L0 → List (Nat × Nat)
  | .c0 _ _ _ _ _ => [(1, 4), (4, 77)]
noncomputable def fr_barbicanlaw4_BtfArrays_L0 (a0 : Option Addr) (p0 : Nat) (q0 : Nat) (n0 : Nat) (k0 : Nat) (A0 : Nat → BitVec 8) (y1 : BitVec 8) (s : Sh_barbicanlaw4_BtfArrays_L0) : List L1 → List Value := mrgF (mf_barbicanlaw4_BtfArrays_L0 s) (fl_barbicanlaw4_BtfArrays_L0 a0 p0 q0 n0 k0 A0 y1 s) 2
def Hs_barbicanlaw4_BtfArrays_L0 (a0 : Option Addr) (p0 : Nat) (q0 : Nat) (n0 : Nat) (k0 : Nat) (A0 : Nat → BitVec 8) (y1 : BitVec 8) : Sh_barbicanlaw4_BtfArrays_L0 → List L1 → List Obj
  | .c0 s0_0 s0_1 s0_2 s0_3 s0_4, ls => [unb, rowO (lget ls 1) (esG c_Type0 s0_1 s0_2) 26 s0_1 7, unb]
def vl_barbicanlaw4_BtfArrays_L0 (a0 : Option Addr) (p0 : Nat) (q0 : Nat) (n0 : Nat) (k0 : Nat) (A0 : Nat → BitVec 8) (y1 : BitVec 8) : Ex_barbicanlaw4_BtfArrays_L0 → List L1 → List Value
  | .e0 c0_0 c0_1 c0_2 c0_3, ls => [.slice a0 n0 (n0 + k0), .int .i64 (c0_0), (rowV (lget ls 1) c0_1 7), .int .i64 (c0_3)]
def mk_barbicanlaw4_BtfArrays_L0 : Ex_barbicanlaw4_BtfArrays_L0 → List (Nat × Nat)
  | .e0 _ _ _ _ => [(1, 4), (3, 78)]
noncomputable def vf_barbicanlaw4_BtfArrays_L0 (a0 : Option Addr) (p0 : Nat) (q0 : Nat) (n0 : Nat) (k0 : Nat) (A0 : Nat → BitVec 8) (y1 : BitVec 8) (r : Ex_barbicanlaw4_BtfArrays_L0) : List L1 → List Value := mrgF (mk_barbicanlaw4_BtfArrays_L0 r) (vl_barbicanlaw4_BtfArrays_L0 a0 p0 q0 n0 k0 A0 y1 r) 2
def Hf_barbicanlaw4_BtfArrays_L0 (a0 : Option Addr) (p0 : Nat) (q0 : Nat) (n0 : Nat) (k0 : Nat) (A0 : Nat → BitVec 8) (y1 : BitVec 8) : Ex_barbicanlaw4_BtfArrays_L0 → List L1 → List Obj
  | .e0 c0_0 c0_1 c0_2 c0_3, ls => [unb, rowO (lget ls 1) (esG c_Type0 c0_1 c0_2) 26 c0_1 7, unb]
def ex_barbicanlaw4_BtfArrays_L0 : Ex_barbicanlaw4_BtfArrays_L0 → Ex
  | .e0 _ _ _ _ => (.exit 0)
end
section
variable {M : Nat → Prop} {B0 : Nat} {S : World → Prop} (hU : Up M B0 S) (a0 : Option Addr) (p0 : Nat) (q0 : Nat) (n0 : Nat) (k0 : Nat) (A0 : Nat → BitVec 8) (hR0 : Ro S cu8 1 a0 p0 q0 n0 A0) (y1 : BitVec 8)
include hU a0 p0 q0 n0 k0 A0 hR0 y1
theorem go_barbicanlaw4_BtfArrays_L0 (s : Sh_barbicanlaw4_BtfArrays_L0) (r : Ex_barbicanlaw4_BtfArrays_L0) (h : lpO (st_barbicanlaw4_BtfArrays_L0 n0 A0) s = some r) : GoesG Tryd.prog M B0 S (.loop bd_barbicanlaw4_BtfArrays_L0) 3 (fr_barbicanlaw4_BtfArrays_L0 a0 p0 q0 n0 k0 A0 y1 s) (Hs_barbicanlaw4_BtfArrays_L0 a0 p0 q0 n0 k0 A0 y1 s) (ex_barbicanlaw4_BtfArrays_L0 r) 1 (vf_barbicanlaw4_BtfArrays_L0 a0 p0 q0 n0 k0 A0 y1 r) (Hf_barbicanlaw4_BtfArrays_L0 a0 p0 q0 n0 k0 A0 y1 r) 3 :=
  goes_lpO (fun s q e => by
    cases s with
    | c0 s0_0 s0_1 s0_2 s0_3 s0_4 =>
      unfold st_barbicanlaw4_BtfArrays_L0 at e
      dsimp only at e
      replace e := cond_eq_or e
      rcases e with ⟨hq0, e⟩ | ⟨hq0, e⟩
      · replace e := cond_eq_or e
        rcases e with ⟨hq1, e⟩ | ⟨hq1, e⟩
        · replace e := cond_eq_or e
          rcases e with ⟨hq2, e⟩ | ⟨hq2, e⟩
          · replace e := bindT_eq e
            obtain ⟨rb0, e_rb0, e⟩ := e
            try dsimp only at e
            replace e := cond_eq_or e
            rcases e with ⟨hq3, e⟩ | ⟨hq3, e⟩
            · replace e := cond_eq_or e
              rcases e with ⟨hq4, e⟩ | ⟨hq4, e⟩
              · cases e; exact goes_runM hU [.o, .o, .o, .b (z_lssT hq0), .o, .o, .o, .o, .o, .q (ixRo_ok (kd := .i64) (T := 22) (x := s0_4) (sz := 1) rfl (fun w => by kernel_rfl) hR0 hq1), .l (accRo hR0 cu8_len (inR_nat hq1) 0 [.int .u8 (nn (A0 (s0_4).toNat))] rfl), .v .i64 (z_of_nn (by decide) (A0 (s0_4).toNat)), .o, .o, .x (sqAppLr_ok (ty := 27) rt27 #[false, false] (f := c_Type0) (N := s0_1) (A := s0_2) (c := 1) [(⟨3, (⟨#[]⟩ : ByteArray), 0, false, (s0_1 : Int), (nn (A0 (s0_4).toNat)), ()⟩ : Type0)] (T' := 26) .row c_Type0_len c_Type0_one hq2 rfl (by decide) e_rb0) [1, 3], .o, .o, .o, .o, .q (ixRo_ok (kd := .i64) (T := 22) (x := s0_4) (sz := 1) rfl (fun w => by kernel_rfl) hR0 hq1), .l (accRo hR0 cu8_len (inR_nat hq1) 0 [.int .u8 (nn (A0 (s0_4).toNat))] rfl), .v .i64 (z_of_nn (by decide) (A0 (s0_4).toNat)), .o, .o, .o, .b (z_gtrT hq3), .o, .b (z_lssT hq4), .o, .o, .o, .o, .o, .o, .o] [0, 4] (fun b => rfl) (by decide) rfl rfl (fun b => by kernel_rfl)
              · cases e; exact goes_runM hU [.o, .o, .o, .b (z_lssT hq0), .o, .o, .o, .o, .o, .q (ixRo_ok (kd := .i64) (T := 22) (x := s0_4) (sz := 1) rfl (fun w => by kernel_rfl) hR0 hq1), .l (accRo hR0 cu8_len (inR_nat hq1) 0 [.int .u8 (nn (A0 (s0_4).toNat))] rfl), .v .i64 (z_of_nn (by decide) (A0 (s0_4).toNat)), .o, .o, .x (sqAppLr_ok (ty := 27) rt27 #[false, false] (f := c_Type0) (N := s0_1) (A := s0_2) (c := 1) [(⟨3, (⟨#[]⟩ : ByteArray), 0, false, (s0_1 : Int), (nn (A0 (s0_4).toNat)), ()⟩ : Type0)] (T' := 26) .row c_Type0_len c_Type0_one hq2 rfl (by decide) e_rb0) [1, 3], .o, .o, .o, .o, .q (ixRo_ok (kd := .i64) (T := 22) (x := s0_4) (sz := 1) rfl (fun w => by kernel_rfl) hR0 hq1), .l (accRo hR0 cu8_len (inR_nat hq1) 0 [.int .u8 (nn (A0 (s0_4).toNat))] rfl), .v .i64 (z_of_nn (by decide) (A0 (s0_4).toNat)), .o, .o, .o, .b (z_gtrT hq3), .o, .b (z_lssF hq4), .o, .o, .o, .o] [0, 4] (fun b => rfl) (by decide) rfl rfl (fun b => by kernel_rfl)
            · cases e; exact goes_runM hU [.o, .o, .o, .b (z_lssT hq0), .o, .o, .o, .o, .o, .q (ixRo_ok (kd := .i64) (T := 22) (x := s0_4) (sz := 1) rfl (fun w => by kernel_rfl) hR0 hq1), .l (accRo hR0 cu8_len (inR_nat hq1) 0 [.int .u8 (nn (A0 (s0_4).toNat))] rfl), .v .i64 (z_of_nn (by decide) (A0 (s0_4).toNat)), .o, .o, .x (sqAppLr_ok (ty := 27) rt27 #[false, false] (f := c_Type0) (N := s0_1) (A := s0_2) (c := 1) [(⟨3, (⟨#[]⟩ : ByteArray), 0, false, (s0_1 : Int), (nn (A0 (s0_4).toNat)), ()⟩ : Type0)] (T' := 26) .row c_Type0_len c_Type0_one hq2 rfl (by decide) e_rb0) [1, 3], .o, .o, .o, .o, .q (ixRo_ok (kd := .i64) (T := 22) (x := s0_4) (sz := 1) rfl (fun w => by kernel_rfl) hR0 hq1), .l (accRo hR0 cu8_len (inR_nat hq1) 0 [.int .u8 (nn (A0 (s0_4).toNat))] rfl), .v .i64 (z_of_nn (by decide) (A0 (s0_4).toNat)), .o, .o, .o, .b (z_gtrF hq3), .o, .o, .o] [0, 4] (fun b => rfl) (by decide) rfl rfl (fun b => by kernel_rfl)
          · exact none_some e
        · exact none_some e
      · cases e; exact ⟨ne_exit 0, goes_runM hU [.o, .o, .o, .b (z_lssF hq0)] [0, 1] (fun b => rfl) (by decide) rfl rfl (fun b => by kernel_rfl)⟩) s r h
noncomputable def t0_barbicanlaw4_BtfArrays_L0_0 (a0 : Option Addr) (p0 : Nat) (q0 : Nat) (n0 : Nat) (k0 : Nat) (A0 : Nat → BitVec 8) (y1 : BitVec 8) (s0_0 : Int) (s0_1 : Nat) (s0_2 : Nat → Type0) (s0_3 : Int) (s0_4 : Int) (ls : List L1) : List Value := List.append [.slice a0 n0 (n0 + k0), .int .u8 (nn y1), undef, undef, .bool false, .int .i64 (s0_0), (rowV (lget ls 1) s0_1 7), .int .i64 (s0_3), .int .i64 (s0_4)] (List.append (und 4) (List.append [.bool true, .bool false, .slice a0 n0 (n0 + k0), .int .i64 ((n0 : Int)), .bool false, .int .u8 (nn y1), .int .u8 (nn (y1 % 4#8)), .int .i64 ((zshl 1 ((y1 % 4#8)).toNat)), .int .i64 ((zshl 1 ((y1 % 4#8)).toNat)), .agg #[.int .i64 (1), .string (⟨#[117, 110, 105, 116]⟩ : ByteArray), .int .i64 ((zshl 1 ((y1 % 4#8)).toNat)), .bool false, .int .i64 (0), .int .i64 (0), .slice none 0 0], .slice (some ⟨(lget ls 0).n, 0, none⟩) 1 1] (und 62)))
def pre_barbicanlaw4_BtfArrays_L0_0 (a0 : Option Addr) (p0 : Nat) (q0 : Nat) (n0 : Nat) (k0 : Nat) (A0 : Nat → BitVec 8) (y1 : BitVec 8) (s0_0 : Int) (s0_1 : Nat) (s0_2 : Nat → Type0) (s0_3 : Int) (s0_4 : Int) (ls : List L1) : List Obj := [unb, rowO (lget ls 1) (esG c_Type0 s0_1 s0_2) 26 s0_1 7]
theorem sp0_barbicanlaw4_BtfArrays_L0_0_ok (s0_0 : Int) (s0_1 : Nat) (s0_2 : Nat → Type0) (s0_3 : Int) (s0_4 : Int) (c0_0 : Int) (c0_1 : Nat) (c0_2 : Nat → Type0) (c0_3 : Int) (h : lpO (st_barbicanlaw4_BtfArrays_L0 n0 A0) (.c0 s0_0 s0_1 s0_2 s0_3 s0_4) = some (.e0 c0_0 c0_1 c0_2 c0_3)) : SpcG Tryd.prog M B0 S ⟨fun ls => .code (.loop bd_barbicanlaw4_BtfArrays_L0) (t0_barbicanlaw4_BtfArrays_L0_0 a0 p0 q0 n0 k0 A0 y1 s0_0 s0_1 s0_2 s0_3 s0_4 ls), pre_barbicanlaw4_BtfArrays_L0_0 a0 p0 q0 n0 k0 A0 y1 s0_0 s0_1 s0_2 s0_3 s0_4, 2, (.exit 0), fun ls => vf_barbicanlaw4_BtfArrays_L0 a0 p0 q0 n0 k0 A0 y1 (.e0 c0_0 c0_1 c0_2 c0_3) (ls.take 1 ++ ls.drop 2), fun ls => (Hf_barbicanlaw4_BtfArrays_L0 a0 p0 q0 n0 k0 A0 y1 (.e0 c0_0 c0_1 c0_2 c0_3) (ls.take 1 ++ ls.drop 2)).take 1 ++ List.replicate 1 unb, fun ls => (Hf_barbicanlaw4_BtfArrays_L0 a0 p0 q0 n0 k0 A0 y1 (.e0 c0_0 c0_1 c0_2 c0_3) (ls.take 1 ++ ls.drop 2)).drop 1⟩ :=
  spc_of_goesM hU 0 (k0 := 2) (go_barbicanlaw4_BtfArrays_L0 hU a0 p0 q0 n0 k0 A0 hR0 y1 _ _ h) (t0_barbicanlaw4_BtfArrays_L0_0 a0 p0 q0 n0 k0 A0 y1 s0_0 s0_1 s0_2 s0_3 s0_4) (pre_barbicanlaw4_BtfArrays_L0_0 a0 p0 q0 n0 k0 A0 y1 s0_0 s0_1 s0_2 s0_3 s0_4) (fun _ => rfl) (fun ls h => by match ls, h with | [l0, l1], _ => exact ⟨by kernel_rfl, by kernel_rfl⟩) (fun ls h => by match ls, h with | [l0, l1], _ => rfl) (by decide) (by decide) (fun ls => rfl)
noncomputable def m_barbicanlaw4_BtfArrays (n0 : Nat) (A0 : Nat → BitVec 8) (y1 : BitVec 8) : Option (Bool) :=
  bif decide (20 < (n0 : Int)) then
    (some true)
  else ((lpO (st_barbicanlaw4_BtfArrays_L0 n0 A0) (.c0 (zshl 1 ((y1 % 4#8)).toNat) 1 (fun _ => (⟨1, (⟨#[117, 110, 105, 116]⟩ : ByteArray), (zshl 1 ((y1 % 4#8)).toNat), false, 0, 0, ()⟩ : Type0)) (-1) 0)).bind fun g0 => match g0 with
  | .e0 g0_0 g0_1 g0_2 g0_3 =>
  (m_btf_Check_v1 g0_1 g0_2).bind fun g1 => match g1 with
  | .e0 g1_0 g1_1 =>
  bif decide (0 ≤ g0_3) then
    (bif g1_1 == 43 then
      (some (g1_0 == g0_3))
    else (some false))
  else ((m_btf_Size_v1 (g0_1 : Int) g0_1 g0_2).bind fun g2 => match g2 with
  | .e0 g2_0 g2_1 =>
  bif g1_1 == 0 then
    (bif g2_1 == 0 then
      (some (g2_0 == g0_0))
    else (some false))
  else (some false)))
theorem ok_barbicanlaw4_BtfArrays (r : Bool) (e : m_barbicanlaw4_BtfArrays n0 A0 y1 = some r) : ConG Tryd.prog S 3 #[.slice a0 n0 (n0 + k0), .int .u8 (nn y1)] (.bool (r)) := by
  unfold m_barbicanlaw4_BtfArrays at e
  replace e := cond_eq_or e
  rcases e with ⟨hq0, e⟩ | ⟨hq0, e⟩
  · injection e with e; subst e; exact fn_conG hU (P := Tryd.prog) Tryd.func3 (fun xs w => by kernel_rfl) _ _ [.o, .cg (ok_barbicanlaw4_known hU  ), .o, .o, .o, .b (z_gtrT hq0), .o] [] (fun b => by kernel_rfl)
  · replace e := bindO_eq e
    obtain ⟨g0, e_g0, e⟩ := e
    obtain ⟨g0_0, g0_1, g0_2, g0_3⟩ := g0
    try dsimp only at e
    replace e := bindO_eq e
    obtain ⟨g1, e_g1, e⟩ := e
    obtain ⟨g1_0, g1_1⟩ := g1
    try dsimp only at e
    replace e := cond_eq_or e
    rcases e with ⟨hq1, e⟩ | ⟨hq1, e⟩
    · replace e := cond_eq_or e
      rcases e with ⟨hq2, e⟩ | ⟨hq2, e⟩
      · injection e with e; subst e; exact fn_conG hU (P := Tryd.prog) Tryd.func3 (fun xs w => by kernel_rfl) _ _ [.o, .cg (ok_barbicanlaw4_known hU  ), .o, .o, .o, .b (z_gtrF hq0), .o, .ov (u8_rem Tryd.prog 5 (.tmp 18) (.const (.int .u8 (4))) y1 (4#8) (by decide)), .ov (z_shl Tryd.prog 3 (.const (.int .i64 (1))) (.tmp 19) 1 ((y1 % 4#8)).toNat .u8 rfl), .o, .o, .o, .o, .x (litRow_ok (es := esG c_Type0 1 (fun _ => (⟨1, (⟨#[117, 110, 105, 116]⟩ : ByteArray), (zshl 1 ((y1 % 4#8)).toNat), false, 0, 0, ()⟩ : Type0))) (e := 26) (n := 1) (sz := 7)) [0], .o, .o, .cp, .cx (sp0_barbicanlaw4_BtfArrays_L0_0_ok hU a0 p0 q0 n0 k0 A0 hR0 y1 (zshl 1 ((y1 % 4#8)).toNat) 1 (fun _ => (⟨1, (⟨#[117, 110, 105, 116]⟩ : ByteArray), (zshl 1 ((y1 % 4#8)).toNat), false, 0, 0, ()⟩ : Type0)) (-1) 0 g0_0 g0_1 g0_2 g0_3 e_g0) [0, 1], .o, .xg (ok0_btf_Check_v1 hU g0_1 g0_2 g1_0 g1_1 e_g1) [2], .o, .o, .o, .o, .o, .o, .b (z_geqT hq1), .o, .b (z_eqlT hq2), .o, .o, .o, .o, .o, .o] [] (fun b => by kernel_rfl)
      · injection e with e; subst e; exact fn_conG hU (P := Tryd.prog) Tryd.func3 (fun xs w => by kernel_rfl) _ _ [.o, .cg (ok_barbicanlaw4_known hU  ), .o, .o, .o, .b (z_gtrF hq0), .o, .ov (u8_rem Tryd.prog 5 (.tmp 18) (.const (.int .u8 (4))) y1 (4#8) (by decide)), .ov (z_shl Tryd.prog 3 (.const (.int .i64 (1))) (.tmp 19) 1 ((y1 % 4#8)).toNat .u8 rfl), .o, .o, .o, .o, .x (litRow_ok (es := esG c_Type0 1 (fun _ => (⟨1, (⟨#[117, 110, 105, 116]⟩ : ByteArray), (zshl 1 ((y1 % 4#8)).toNat), false, 0, 0, ()⟩ : Type0))) (e := 26) (n := 1) (sz := 7)) [0], .o, .o, .cp, .cx (sp0_barbicanlaw4_BtfArrays_L0_0_ok hU a0 p0 q0 n0 k0 A0 hR0 y1 (zshl 1 ((y1 % 4#8)).toNat) 1 (fun _ => (⟨1, (⟨#[117, 110, 105, 116]⟩ : ByteArray), (zshl 1 ((y1 % 4#8)).toNat), false, 0, 0, ()⟩ : Type0)) (-1) 0 g0_0 g0_1 g0_2 g0_3 e_g0) [0, 1], .o, .xg (ok0_btf_Check_v1 hU g0_1 g0_2 g1_0 g1_1 e_g1) [2], .o, .o, .o, .o, .o, .o, .b (z_geqT hq1), .o, .b (z_eqlF hq2), .o, .o, .o] [] (fun b => by kernel_rfl)
    · replace e := bindO_eq e
      obtain ⟨g2, e_g2, e⟩ := e
      obtain ⟨g2_0, g2_1⟩ := g2
      try dsimp only at e
      replace e := cond_eq_or e
      rcases e with ⟨hq2, e⟩ | ⟨hq2, e⟩
      · replace e := cond_eq_or e
        rcases e with ⟨hq3, e⟩ | ⟨hq3, e⟩
        · injection e with e; subst e; exact fn_conG hU (P := Tryd.prog) Tryd.func3 (fun xs w => by kernel_rfl) _ _ [.o, .cg (ok_barbicanlaw4_known hU  ), .o, .o, .o, .b (z_gtrF hq0), .o, .ov (u8_rem Tryd.prog 5 (.tmp 18) (.const (.int .u8 (4))) y1 (4#8) (by decide)), .ov (z_shl Tryd.prog 3 (.const (.int .i64 (1))) (.tmp 19) 1 ((y1 % 4#8)).toNat .u8 rfl), .o, .o, .o, .o, .x (litRow_ok (es := esG c_Type0 1 (fun _ => (⟨1, (⟨#[117, 110, 105, 116]⟩ : ByteArray), (zshl 1 ((y1 % 4#8)).toNat), false, 0, 0, ()⟩ : Type0))) (e := 26) (n := 1) (sz := 7)) [0], .o, .o, .cp, .cx (sp0_barbicanlaw4_BtfArrays_L0_0_ok hU a0 p0 q0 n0 k0 A0 hR0 y1 (zshl 1 ((y1 % 4#8)).toNat) 1 (fun _ => (⟨1, (⟨#[117, 110, 105, 116]⟩ : ByteArray), (zshl 1 ((y1 % 4#8)).toNat), false, 0, 0, ()⟩ : Type0)) (-1) 0 g0_0 g0_1 g0_2 g0_3 e_g0) [0, 1], .o, .xg (ok0_btf_Check_v1 hU g0_1 g0_2 g1_0 g1_1 e_g1) [2], .o, .o, .o, .o, .o, .o, .b (z_geqF hq1), .o, .o, .o, .xg (ok0_btf_Size_v1 hU (g0_1 : Int) g0_1 g0_2 g2_0 g2_1 e_g2) [2], .o, .o, .o, .o, .o, .o, .b (z_eqlT hq2), .o, .o, .b (z_eqlT hq3), .o, .o, .o, .o, .o, .o, .o] [] (fun b => by kernel_rfl)
        · injection e with e; subst e; exact fn_conG hU (P := Tryd.prog) Tryd.func3 (fun xs w => by kernel_rfl) _ _ [.o, .cg (ok_barbicanlaw4_known hU  ), .o, .o, .o, .b (z_gtrF hq0), .o, .ov (u8_rem Tryd.prog 5 (.tmp 18) (.const (.int .u8 (4))) y1 (4#8) (by decide)), .ov (z_shl Tryd.prog 3 (.const (.int .i64 (1))) (.tmp 19) 1 ((y1 % 4#8)).toNat .u8 rfl), .o, .o, .o, .o, .x (litRow_ok (es := esG c_Type0 1 (fun _ => (⟨1, (⟨#[117, 110, 105, 116]⟩ : ByteArray), (zshl 1 ((y1 % 4#8)).toNat), false, 0, 0, ()⟩ : Type0))) (e := 26) (n := 1) (sz := 7)) [0], .o, .o, .cp, .cx (sp0_barbicanlaw4_BtfArrays_L0_0_ok hU a0 p0 q0 n0 k0 A0 hR0 y1 (zshl 1 ((y1 % 4#8)).toNat) 1 (fun _ => (⟨1, (⟨#[117, 110, 105, 116]⟩ : ByteArray), (zshl 1 ((y1 % 4#8)).toNat), false, 0, 0, ()⟩ : Type0)) (-1) 0 g0_0 g0_1 g0_2 g0_3 e_g0) [0, 1], .o, .xg (ok0_btf_Check_v1 hU g0_1 g0_2 g1_0 g1_1 e_g1) [2], .o, .o, .o, .o, .o, .o, .b (z_geqF hq1), .o, .o, .o, .xg (ok0_btf_Size_v1 hU (g0_1 : Int) g0_1 g0_2 g2_0 g2_1 e_g2) [2], .o, .o, .o, .o, .o, .o, .b (z_eqlT hq2), .o, .o, .b (z_eqlF hq3), .o, .o, .o, .o] [] (fun b => by kernel_rfl)
      · injection e with e; subst e; exact fn_conG hU (P := Tryd.prog) Tryd.func3 (fun xs w => by kernel_rfl) _ _ [.o, .cg (ok_barbicanlaw4_known hU  ), .o, .o, .o, .b (z_gtrF hq0), .o, .ov (u8_rem Tryd.prog 5 (.tmp 18) (.const (.int .u8 (4))) y1 (4#8) (by decide)), .ov (z_shl Tryd.prog 3 (.const (.int .i64 (1))) (.tmp 19) 1 ((y1 % 4#8)).toNat .u8 rfl), .o, .o, .o, .o, .x (litRow_ok (es := esG c_Type0 1 (fun _ => (⟨1, (⟨#[117, 110, 105, 116]⟩ : ByteArray), (zshl 1 ((y1 % 4#8)).toNat), false, 0, 0, ()⟩ : Type0))) (e := 26) (n := 1) (sz := 7)) [0], .o, .o, .cp, .cx (sp0_barbicanlaw4_BtfArrays_L0_0_ok hU a0 p0 q0 n0 k0 A0 hR0 y1 (zshl 1 ((y1 % 4#8)).toNat) 1 (fun _ => (⟨1, (⟨#[117, 110, 105, 116]⟩ : ByteArray), (zshl 1 ((y1 % 4#8)).toNat), false, 0, 0, ()⟩ : Type0)) (-1) 0 g0_0 g0_1 g0_2 g0_3 e_g0) [0, 1], .o, .xg (ok0_btf_Check_v1 hU g0_1 g0_2 g1_0 g1_1 e_g1) [2], .o, .o, .o, .o, .o, .o, .b (z_geqF hq1), .o, .o, .o, .xg (ok0_btf_Size_v1 hU (g0_1 : Int) g0_1 g0_2 g2_0 g2_1 e_g2) [2], .o, .o, .o, .o, .o, .o, .b (z_eqlF hq2), .o, .o, .o, .o, .o] [] (fun b => by kernel_rfl)
end

end Go.Proofs.YtnpfkoegjeokjaaDoor
