/-
  The law on ends, by the program's text.
-/
import Derived.Test.YtfmpmhafilllpaaR8K
import Derived.Test.YtfmpmhafilllpaaRxJ
namespace Go.Proofs.Ytfmpmhafilllpaa
open Go.RowKit
set_option linter.unusedVariables false
set_option linter.unusedSimpArgs false
set_option linter.unusedSectionVars false
set_option maxRecDepth 100000
set_option maxHeartbeats 4000000
noncomputable def zr34 : Value := (Try.prog.info? 5).bind TypeInfo.zero |>.getD undef
theorem rt34 : RowT Try.prog 34 5 ((Try.prog.info? 5).getD default) zr34 1 1 := ⟨by kernel_rfl, by kernel_rfl, by kernel_rfl, by kernel_rfl, by kernel_rfl, by kernel_rfl, by decide⟩
section
variable {M : Nat → Prop} {B0 : Nat} {S : World → Prop} (hU : Up M B0 S)
include hU
theorem ok_barbicanlaw8_known_v1 : ConG Try.prog S 15 #[] (.bool true) :=
  fn_conG hU (P := Try.prog) Try.func15 (fun xs w => by kernel_rfl) [] (.bool true)
    [.o, .xg (p0_region_New hU  ) [], .o, .o, .o, .o, .o, .xg (p0_region_Mem_Frame hU  ) [0, 1], .o, .o, .o, .o, .a 3, .o, .o, .a 4, .o, .a 3, .a 4, .xg (p0_region_Mem_Store hU  ) [0, 1, 2], .o, .o, .a 3, .xg (p0_region_Mem_Load hU  ) [0, 1, 2], .o, .o, .o, .o, .a 5, .o, .o, .a 3, .xg (p0_region_Mem_Load_v1 hU  ) [0, 1, 2], .o, .o, .o, .o, .a 6, .o, .o, .o, .o, .o, .o, .o, .o, .a 5, .a 4, .o, .o, .o]
    [] (fun b => by kernel_rfl)
inductive R_slices_Clone_byte_byte where
  | e0 (c0_0 : Nat → BitVec 8)
noncomputable def m_slices_Clone_byte_byte (w0 : Nat) (w1 : Nat → BitVec 8) : Option R_slices_Clone_byte_byte :=
  bif decide (w0 ≤ 1000000) then
    (some (.e0 (catF (fun _ => 0#8) 0 w1)))
  else (none)
def sq0_slices_Clone_byte_byte (w0 : Nat) (w1 : Nat → BitVec 8) (c0_0 : Nat → BitVec 8) : Spc := ⟨fun ls => .call 50 #[(rowV (lget ls 0) w0 1)], fun ls => [rowO (lget ls 0) (esG cu8 w0 w1) 5 w0 1], 1, .normal, fun ls => [(rowV (lget ls 1) (0 + w0) 1)], fun ls => [rowO (lget ls 0) (esG cu8 w0 w1) 5 w0 1], fun ls => [rowO (lget ls 1) (esG cu8 (0 + w0) c0_0) 5 (0 + w0) 1]⟩
theorem ok0_slices_Clone_byte_byte (w0 : Nat) (w1 : Nat → BitVec 8) (c0_0 : Nat → BitVec 8) (e : m_slices_Clone_byte_byte w0 w1 = some (.e0 c0_0)) : SpcG Try.prog M B0 S (sq0_slices_Clone_byte_byte w0 w1 c0_0) := by
  unfold m_slices_Clone_byte_byte at e
  replace e := cond_eq_or e
  rcases e with ⟨hq0, e⟩ | ⟨hq0, e⟩
  · injection e with e; injection e with i0; subst i0; exact fn_specG hU (P := Try.prog) Try.func50 (fun xs w => by kernel_rfl) 1 _ _ (fun _ => rfl) _ _ _ [2] [.o, .o, .o, .o, .o, .x (sqApS_ok (ty := 34) rt34 #[false, false] (N := 0) (m := w0) (A := (fun _ => 0#8)) (B := w1) (T' := 5) .plain cu8_len cu8_one (by decide) hq0 (by decide) rfl) [1, 0], .o] [] (fun b => by kernel_rfl)
  · exact none_some e
def sq0_region_Mem_add_v1 (w0 : Nat) (w1 : Bool) (w2 : Int) (w3 : Bool) (w4 : Nat → BitVec 8)  : Spc := ⟨fun ls => .call 46 #[.pointer (some ⟨(lget ls 0).n, 0, none⟩), .iface 107 (.pointer (some ⟨(lget ls 2).n, 0, none⟩))], fun ls => [.cells #[.map (some (lget ls 1).n), .int .i64 (0)] 91, .map #[] 0, .cells #[(rowV (lget ls 3) w0 1), .bool (w1), .int .i64 (w2), .bool (w3)] 110, rowO (lget ls 3) (esG cu8 w0 w4) 5 w0 1], 0, .normal, fun ls => [.int .i64 (1)], fun ls => [.cells #[.map (some (lget ls 1).n), .int .i64 (1)] 91, .map #[⟨.int .i64 (1), .iface 107 (.pointer (some ⟨(lget ls 2).n, 0, none⟩)), 0⟩] 1, .cells #[(rowV (lget ls 3) w0 1), .bool (w1), .int .i64 (w2), .bool (w3)] 110, rowO (lget ls 3) (esG cu8 w0 w4) 5 w0 1], fun ls => []⟩
theorem p0_region_Mem_add_v1 (w0 : Nat) (w1 : Bool) (w2 : Int) (w3 : Bool) (w4 : Nat → BitVec 8) : SpcG Try.prog M B0 S (sq0_region_Mem_add_v1 w0 w1 w2 w3 w4 ) :=
  fn_specG hU (P := Try.prog) Try.func46 (fun xs w => by kernel_rfl) 4 _ _ (fun _ => rfl) _ _ _ []
    [.o, .o, .o, .o, .a 0, .o, .o, .o, .a 0, .r [0, 1, 2, 3, 4, 5, 6, 7, 8] [] [9], .o, .o, .o, .a 0, .o, .o, .o, .a 0, .o, .a 1, .o, .o, .o, .a 0, .o]
    [] (fun b => by kernel_rfl)
inductive R_region_Mem_Add where
  | e0 (c0_0 : Nat → BitVec 8) (c0_1 : Int)
noncomputable def m_region_Mem_Add (y2 : Bool) (y3 : Int) (w0 : Nat) (w1 : Nat → BitVec 8) : Option R_region_Mem_Add :=
  (m_slices_Clone_byte_byte w0 w1).bind fun g0 => match g0 with
  | .e0 g0_0 =>
  some (.e0 g0_0 (if (w0 : Int) < (if y3 < 0 then 0 else y3) then (w0 : Int) else (if y3 < 0 then 0 else y3)))
def sq0_region_Mem_Add (y2 : Bool) (y3 : Int) (w0 : Nat) (w1 : Nat → BitVec 8) (c0_0 : Nat → BitVec 8) (c0_1 : Int) : Spc := ⟨fun ls => .call 20 #[.pointer (some ⟨(lget ls 0).n, 0, none⟩), (rowV (lget ls 2) w0 1), .bool (y2), .int .i64 (y3)], fun ls => [.cells #[.map (some (lget ls 1).n), .int .i64 (0)] 91, .map #[] 0, rowO (lget ls 2) (esG cu8 w0 w1) 5 w0 1], 2, .normal, fun ls => [.int .i64 (1)], fun ls => [.cells #[.map (some (lget ls 1).n), .int .i64 (1)] 91, .map #[⟨.int .i64 (1), .iface 107 (.pointer (some ⟨(lget ls 3).n, 0, none⟩)), 0⟩] 1, rowO (lget ls 2) (esG cu8 w0 w1) 5 w0 1], fun ls => [.cells #[(rowV (lget ls 4) (0 + w0) 1), .bool (y2), .int .i64 (c0_1), .bool false] 110, rowO (lget ls 4) (esG cu8 (0 + w0) c0_0) 5 (0 + w0) 1]⟩
theorem ok0_region_Mem_Add (y2 : Bool) (y3 : Int) (w0 : Nat) (w1 : Nat → BitVec 8) (c0_0 : Nat → BitVec 8) (c0_1 : Int) (e : m_region_Mem_Add y2 y3 w0 w1 = some (.e0 c0_0 c0_1)) : SpcG Try.prog M B0 S (sq0_region_Mem_Add y2 y3 w0 w1 c0_0 c0_1) := by
  unfold m_region_Mem_Add at e
  replace e := bindO_eq e
  obtain ⟨g0, e_g0, e⟩ := e
  obtain ⟨g0_0⟩ := g0
  try dsimp only at e
  injection e with e; injection e with i0 i1; subst i0 i1; exact fn_specG hU (P := Try.prog) Try.func20 (fun xs w => by kernel_rfl) 3 _ _ (fun _ => rfl) _ _ _ [4, 3] [.o, .o, .o, .o, .o, .o, .o, .o, .o, .xg (ok0_slices_Clone_byte_byte hU w0 w1 g0_0 e_g0) [2], .o, .o, .o, .o, .o, .xg (p0_region_Mem_add_v1 hU (0 + w0) y2 (if (w0 : Int) < (if y3 < 0 then 0 else y3) then (w0 : Int) else (if y3 < 0 then 0 else y3)) false g0_0 ) [0, 1, 4, 3], .o] [] (fun b => by kernel_rfl)
theorem ok_region_kindTrap_v1 (w0 : Int) : ConG Try.prog S 47 #[.agg #[.int .i64 (5), .int .u64 (0), .int .i64 (1), .int .i64 (w0)]] (.int .i64 (0)) :=
  fn_conG hU (P := Try.prog) Try.func47 (fun xs w => by kernel_rfl) [.agg #[.int .i64 (5), .int .u64 (0), .int .i64 (1), .int .i64 (w0)]] (.int .i64 (0))
    [.o, .o, .o, .a 0, .o, .o, .o, .o, .o, .o, .o, .o, .o]
    [] (fun b => by kernel_rfl)
noncomputable def m_region_rightSize_v2 (y0 : Int) : Bool :=
  bif y0 == 1 then
    (true)
  else (bif y0 == 2 then
    (true)
  else (bif y0 == 4 then
    (true)
  else ((y0 == 8))))
theorem ok_region_rightSize_v2 (y0 : Int) (r : Bool) (e : m_region_rightSize_v2 y0 = r) : ConG Try.prog S 48 #[.int .i64 (y0)] (.bool (r)) := by
  unfold m_region_rightSize_v2 at e
  replace e := cond_eq_or e
  rcases e with ⟨hq0, e⟩ | ⟨hq0, e⟩
  · subst e; exact fn_conG hU (P := Try.prog) Try.func48 (fun xs w => by kernel_rfl) _ _ [.o, .o, .b (z_eqlT hq0), .o, .o, .o, .o, .o, .o, .o] [] (fun b => by kernel_rfl)
  · replace e := cond_eq_or e
    rcases e with ⟨hq1, e⟩ | ⟨hq1, e⟩
    · subst e; exact fn_conG hU (P := Try.prog) Try.func48 (fun xs w => by kernel_rfl) _ _ [.o, .o, .b (z_eqlF hq0), .o, .o, .b (z_eqlT hq1), .o, .o, .o, .o, .o, .o] [] (fun b => by kernel_rfl)
    · replace e := cond_eq_or e
      rcases e with ⟨hq2, e⟩ | ⟨hq2, e⟩
      · subst e; exact fn_conG hU (P := Try.prog) Try.func48 (fun xs w => by kernel_rfl) _ _ [.o, .o, .b (z_eqlF hq0), .o, .o, .b (z_eqlF hq1), .o, .o, .o, .b (z_eqlT hq2), .o, .o, .o, .o] [] (fun b => by kernel_rfl)
      · subst e; exact fn_conG hU (P := Try.prog) Try.func48 (fun xs w => by kernel_rfl) _ _ [.o, .o, .b (z_eqlF hq0), .o, .o, .b (z_eqlF hq1), .o, .o, .o, .b (z_eqlF hq2), .o, .o, .o, .o, .o, .o] [] (fun b => by kernel_rfl)
inductive R_region_Mem_live_v2 where
  | e0 (c0_0 : Bool) (c0_1 : Bool)
noncomputable def m_region_Mem_live_v2 (w0 : Int) (w1 : Nat) (w2 : Bool) (w3 : Int) (w4 : Bool) (w5 : Nat → BitVec 8) : Option R_region_Mem_live_v2 :=
  bif w4 then
    (some (.e0 true false))
  else (some (.e0 false true))
def sq0_region_Mem_live_v2 (w0 : Int) (w1 : Nat) (w2 : Bool) (w3 : Int) (w4 : Bool) (w5 : Nat → BitVec 8) (c0_0 : Bool) (c0_1 : Bool) : Spc := ⟨fun ls => .call 66 #[.pointer (some ⟨(lget ls 0).n, 0, none⟩), .agg #[.int .i64 (5), .int .u64 (0), .int .i64 (1), .int .i64 (w0)]], fun ls => [.cells #[.map (some (lget ls 1).n), .int .i64 (1)] 91, .map #[⟨.int .i64 (1), .iface 107 (.pointer (some ⟨(lget ls 2).n, 0, none⟩)), 0⟩] 1, .cells #[(rowV (lget ls 3) w1 1), .bool (w2), .int .i64 (w3), .bool (w4)] 110, rowO (lget ls 3) (esG cu8 w1 w5) 5 w1 1], 0, .normal, fun ls => [.tuple #[.iface 107 (.pointer (some ⟨(lget ls 2).n, 0, none⟩)), .bool (c0_1)]], fun ls => [.cells #[.map (some (lget ls 1).n), .int .i64 (1)] 91, .map #[⟨.int .i64 (1), .iface 107 (.pointer (some ⟨(lget ls 2).n, 0, none⟩)), 0⟩] 1, .cells #[(rowV (lget ls 3) w1 1), .bool (w2), .int .i64 (w3), .bool (c0_0)] 110, rowO (lget ls 3) (esG cu8 w1 w5) 5 w1 1], fun ls => []⟩
theorem ok0_region_Mem_live_v2 (w0 : Int) (w1 : Nat) (w2 : Bool) (w3 : Int) (w4 : Bool) (w5 : Nat → BitVec 8) (c0_0 : Bool) (c0_1 : Bool) (e : m_region_Mem_live_v2 w0 w1 w2 w3 w4 w5 = some (.e0 c0_0 c0_1)) : SpcG Try.prog M B0 S (sq0_region_Mem_live_v2 w0 w1 w2 w3 w4 w5 c0_0 c0_1) := by
  unfold m_region_Mem_live_v2 at e
  replace e := cond_eq_or e
  rcases e with ⟨hq0, e⟩ | ⟨hq0, e⟩
  · subst hq0
    injection e with e; injection e with i0 i1; subst i0 i1; exact fn_specG hU (P := Try.prog) Try.func66 (fun xs w => by kernel_rfl) 4 _ _ (fun _ => rfl) _ _ _ [] [.o, .o, .o, .o, .a 4, .o, .r [0, 1, 2, 3, 4, 5, 6, 7, 8, 9, 10, 11, 12] [] [], .o, .o, .o, .a 0, .o, .a 4, .a 1, .o, .o, .o, .o, .o, .o, .r [0, 1, 2, 3, 4, 5, 6, 7, 8, 9, 10, 11] [] [], .o, .o, .o, .o, .o, .o, .o, .a 2, .o, .o, .o, .o] [] (fun b => by kernel_rfl)
  · subst hq0
    injection e with e; injection e with i0 i1; subst i0 i1; exact fn_specG hU (P := Try.prog) Try.func66 (fun xs w => by kernel_rfl) 4 _ _ (fun _ => rfl) _ _ _ [] [.o, .o, .o, .o, .a 4, .o, .r [0, 1, 2, 3, 4, 5, 6, 7, 8, 9, 10, 11, 12] [] [], .o, .o, .o, .a 0, .o, .a 4, .a 1, .o, .o, .o, .o, .o, .o, .r [0, 1, 2, 3, 4, 5, 6, 7, 8, 9, 10, 11] [] [], .o, .o, .o, .o, .o, .o, .o, .a 2, .o, .o, .o, .o] [] (fun b => by kernel_rfl)
def sq0_region_area_span (w0 : Nat) (w1 : Bool) (w2 : Int) (w3 : Bool) (w4 : Nat → BitVec 8)  : Spc := ⟨fun ls => .call 138 #[.pointer (some ⟨(lget ls 0).n, 0, none⟩)], fun ls => [.cells #[(rowV (lget ls 1) w0 1), .bool (w1), .int .i64 (w2), .bool (w3)] 110, rowO (lget ls 1) (esG cu8 w0 w4) 5 w0 1], 0, .normal, fun ls => [.tuple #[.int .i64 (0), .int .i64 ((w0 : Int))]], fun ls => [.cells #[(rowV (lget ls 1) w0 1), .bool (w1), .int .i64 (w2), .bool (w3)] 110, rowO (lget ls 1) (esG cu8 w0 w4) 5 w0 1], fun ls => []⟩
theorem p0_region_area_span (w0 : Nat) (w1 : Bool) (w2 : Int) (w3 : Bool) (w4 : Nat → BitVec 8) : SpcG Try.prog M B0 S (sq0_region_area_span w0 w1 w2 w3 w4 ) :=
  fn_specG hU (P := Try.prog) Try.func138 (fun xs w => by kernel_rfl) 2 _ _ (fun _ => rfl) _ _ _ []
    [.o, .o, .r [0, 1, 2, 3, 4, 5, 6] [] [], .o, .o, .o, .a 0, .o, .o, .o]
    [] (fun b => by kernel_rfl)
noncomputable def m_region_inside_v2 (y0 : Int) (y1 : Int) (y2 : Int) (y3 : Int) : Bool :=
  bif y1 == 0 then
    (true)
  else (bif decide (0 < y1) then
    (bif decide (y2 ≤ y0) then
      ((decide (y0 ≤ (IntKind.i64.wrap (y3 - y1)))))
    else (false))
  else (false))
theorem ok_region_inside_v2 (y0 : Int) (y1 : Int) (y2 : Int) (y3 : Int) (r : Bool) (e : m_region_inside_v2 y0 y1 y2 y3 = r) : ConG Try.prog S 63 #[.int .i64 (y0), .int .i64 (y1), .int .i64 (y2), .int .i64 (y3)] (.bool (r)) := by
  unfold m_region_inside_v2 at e
  replace e := cond_eq_or e
  rcases e with ⟨hq0, e⟩ | ⟨hq0, e⟩
  · subst e; exact fn_conG hU (P := Try.prog) Try.func63 (fun xs w => by kernel_rfl) _ _ [.o, .o, .b (z_eqlT hq0), .o, .o, .o] [] (fun b => by kernel_rfl)
  · replace e := cond_eq_or e
    rcases e with ⟨hq1, e⟩ | ⟨hq1, e⟩
    · replace e := cond_eq_or e
      rcases e with ⟨hq2, e⟩ | ⟨hq2, e⟩
      · subst e; exact fn_conG hU (P := Try.prog) Try.func63 (fun xs w => by kernel_rfl) _ _ [.o, .o, .b (z_eqlF hq0), .o, .o, .b (z_gtrT hq1), .o, .o, .o, .b (z_geqT hq2), .o, .o, .o, .o, .o, .o, .o, .o, .o, .o] [] (fun b => by kernel_rfl)
      · subst e; exact fn_conG hU (P := Try.prog) Try.func63 (fun xs w => by kernel_rfl) _ _ [.o, .o, .b (z_eqlF hq0), .o, .o, .b (z_gtrT hq1), .o, .o, .o, .b (z_geqF hq2), .o, .o, .o, .o, .o] [] (fun b => by kernel_rfl)
    · subst e; exact fn_conG hU (P := Try.prog) Try.func63 (fun xs w => by kernel_rfl) _ _ [.o, .o, .b (z_eqlF hq0), .o, .o, .b (z_gtrF hq1), .o, .o, .o, .o, .o, .o] [] (fun b => by kernel_rfl)
inductive R_region_Mem_find_v3 where
  | e0 (c0_0 : Bool) (c0_1 : Int)
  | e1 (c1_0 : Bool) (c1_1 : Int)
noncomputable def m_region_Mem_find_v3 (y2 : Int) (w0 : Int) (w1 : Nat) (w2 : Bool) (w3 : Int) (w4 : Bool) (w5 : Nat → BitVec 8) : Option R_region_Mem_find_v3 :=
  (m_region_Mem_live_v2 w0 w1 w2 w3 w4 w5).bind fun g0 => match g0 with
  | .e0 g0_0 g0_1 =>
  bif g0_1 then
    (bif m_region_inside_v2 w0 y2 0 (w1 : Int) then
      (bif y2 == 0 then
        (some (.e0 g0_0 0))
      else (some (.e0 g0_0 (IntKind.i64.wrap (w0 - 0)))))
    else (some (.e1 g0_0 3)))
  else (some (.e1 g0_0 4))
def sq0_region_Mem_find_v3 (y2 : Int) (w0 : Int) (w1 : Nat) (w2 : Bool) (w3 : Int) (w4 : Bool) (w5 : Nat → BitVec 8) (c0_0 : Bool) (c0_1 : Int) : Spc := ⟨fun ls => .call 49 #[.pointer (some ⟨(lget ls 0).n, 0, none⟩), .agg #[.int .i64 (5), .int .u64 (0), .int .i64 (1), .int .i64 (w0)], .int .i64 (y2)], fun ls => [.cells #[.map (some (lget ls 1).n), .int .i64 (1)] 91, .map #[⟨.int .i64 (1), .iface 107 (.pointer (some ⟨(lget ls 2).n, 0, none⟩)), 0⟩] 1, .cells #[(rowV (lget ls 3) w1 1), .bool (w2), .int .i64 (w3), .bool (w4)] 110, rowO (lget ls 3) (esG cu8 w1 w5) 5 w1 1], 0, .normal, fun ls => [.tuple #[.iface 107 (.pointer (some ⟨(lget ls 2).n, 0, none⟩)), .int .i64 (c0_1), .int .i64 (0)]], fun ls => [.cells #[.map (some (lget ls 1).n), .int .i64 (1)] 91, .map #[⟨.int .i64 (1), .iface 107 (.pointer (some ⟨(lget ls 2).n, 0, none⟩)), 0⟩] 1, .cells #[(rowV (lget ls 3) w1 1), .bool (w2), .int .i64 (w3), .bool (c0_0)] 110, rowO (lget ls 3) (esG cu8 w1 w5) 5 w1 1], fun ls => []⟩
def sq1_region_Mem_find_v3 (y2 : Int) (w0 : Int) (w1 : Nat) (w2 : Bool) (w3 : Int) (w4 : Bool) (w5 : Nat → BitVec 8) (c1_0 : Bool) (c1_1 : Int) : Spc := ⟨fun ls => .call 49 #[.pointer (some ⟨(lget ls 0).n, 0, none⟩), .agg #[.int .i64 (5), .int .u64 (0), .int .i64 (1), .int .i64 (w0)], .int .i64 (y2)], fun ls => [.cells #[.map (some (lget ls 1).n), .int .i64 (1)] 91, .map #[⟨.int .i64 (1), .iface 107 (.pointer (some ⟨(lget ls 2).n, 0, none⟩)), 0⟩] 1, .cells #[(rowV (lget ls 3) w1 1), .bool (w2), .int .i64 (w3), .bool (w4)] 110, rowO (lget ls 3) (esG cu8 w1 w5) 5 w1 1], 0, .normal, fun ls => [.tuple #[.nilIface, .int .i64 (0), .int .i64 (c1_1)]], fun ls => [.cells #[.map (some (lget ls 1).n), .int .i64 (1)] 91, .map #[⟨.int .i64 (1), .iface 107 (.pointer (some ⟨(lget ls 2).n, 0, none⟩)), 0⟩] 1, .cells #[(rowV (lget ls 3) w1 1), .bool (w2), .int .i64 (w3), .bool (c1_0)] 110, rowO (lget ls 3) (esG cu8 w1 w5) 5 w1 1], fun ls => []⟩
end
section
variable {M : Nat → Prop} {B0 : Nat} {S : World → Prop} (hU : Up M B0 S) (y2 : Int) (w0 : Int) (w1 : Nat) (w2 : Bool) (w3 : Int) (w4 : Bool) (w5 : Nat → BitVec 8)
include hU y2 w0 w1 w2 w3 w4 w5
theorem ok0_region_Mem_find_v3 (c0_0 : Bool) (c0_1 : Int) (e : m_region_Mem_find_v3 y2 w0 w1 w2 w3 w4 w5 = some (.e0 c0_0 c0_1)) : SpcG Try.prog M B0 S (sq0_region_Mem_find_v3 y2 w0 w1 w2 w3 w4 w5 c0_0 c0_1) := by
  unfold m_region_Mem_find_v3 at e
  replace e := bindO_eq e
  obtain ⟨g0, e_g0, e⟩ := e
  obtain ⟨g0_0, g0_1⟩ := g0
  try dsimp only at e
  replace e := cond_eq_or e
  rcases e with ⟨hq0, e⟩ | ⟨hq0, e⟩
  · replace e := cond_eq_or e
    rcases e with ⟨hq1, e⟩ | ⟨hq1, e⟩
    · replace e := cond_eq_or e
      rcases e with ⟨hq2, e⟩ | ⟨hq2, e⟩
      · injection e with e; injection e with i0 i1; subst i0 i1; exact fn_specG hU (P := Try.prog) Try.func49 (fun xs w => by kernel_rfl) 4 _ _ (fun _ => rfl) _ _ _ [] [.o, .o, .o, .o, .o, .a 4, .xg (ok0_region_Mem_live_v2 hU w0 w1 w2 w3 w4 w5 g0_0 g0_1 e_g0) [0, 1, 2, 3], .o, .o, .b hq0, .o, .o, .o, .o, .o, .xg (p0_region_area_span hU w1 w2 w3 g0_0 w5 ) [2, 3], .o, .o, .o, .o, .o, .o, .a 4, .o, .o, .o, .cg (ok_region_inside_v2 hU w0 y2 0 (w1 : Int) true hq1), .o, .o, .b (z_eqlT hq2), .o, .o, .o, .o] [] (fun b => by kernel_rfl)
      · injection e with e; injection e with i0 i1; subst i0 i1; exact fn_specG hU (P := Try.prog) Try.func49 (fun xs w => by kernel_rfl) 4 _ _ (fun _ => rfl) _ _ _ [] [.o, .o, .o, .o, .o, .a 4, .xg (ok0_region_Mem_live_v2 hU w0 w1 w2 w3 w4 w5 g0_0 g0_1 e_g0) [0, 1, 2, 3], .o, .o, .b hq0, .o, .o, .o, .o, .o, .xg (p0_region_area_span hU w1 w2 w3 g0_0 w5 ) [2, 3], .o, .o, .o, .o, .o, .o, .a 4, .o, .o, .o, .cg (ok_region_inside_v2 hU w0 y2 0 (w1 : Int) true hq1), .o, .o, .b (z_eqlF hq2), .r [0, 1, 2, 3, 4, 5, 6, 7] [] [], .o, .o, .a 4, .o, .o, .o, .o, .o] [] (fun b => by kernel_rfl)
    · cases e
  · cases e
theorem ok1_region_Mem_find_v3 (c1_0 : Bool) (c1_1 : Int) (e : m_region_Mem_find_v3 y2 w0 w1 w2 w3 w4 w5 = some (.e1 c1_0 c1_1)) : SpcG Try.prog M B0 S (sq1_region_Mem_find_v3 y2 w0 w1 w2 w3 w4 w5 c1_0 c1_1) := by
  unfold m_region_Mem_find_v3 at e
  replace e := bindO_eq e
  obtain ⟨g0, e_g0, e⟩ := e
  obtain ⟨g0_0, g0_1⟩ := g0
  try dsimp only at e
  replace e := cond_eq_or e
  rcases e with ⟨hq0, e⟩ | ⟨hq0, e⟩
  · replace e := cond_eq_or e
    rcases e with ⟨hq1, e⟩ | ⟨hq1, e⟩
    · replace e := cond_eq_or e
      rcases e with ⟨hq2, e⟩ | ⟨hq2, e⟩
      · cases e
      · cases e
    · injection e with e; injection e with i0 i1; subst i0 i1; exact fn_specG hU (P := Try.prog) Try.func49 (fun xs w => by kernel_rfl) 4 _ _ (fun _ => rfl) _ _ _ [] [.o, .o, .o, .o, .o, .a 4, .xg (ok0_region_Mem_live_v2 hU w0 w1 w2 w3 w4 w5 g0_0 g0_1 e_g0) [0, 1, 2, 3], .o, .o, .b hq0, .o, .o, .o, .o, .o, .xg (p0_region_area_span hU w1 w2 w3 g0_0 w5 ) [2, 3], .o, .o, .o, .o, .o, .o, .a 4, .o, .o, .o, .cg (ok_region_inside_v2 hU w0 y2 0 (w1 : Int) false hq1), .o, .o, .o, .o] [] (fun b => by kernel_rfl)
  · injection e with e; injection e with i0 i1; subst i0 i1; exact fn_specG hU (P := Try.prog) Try.func49 (fun xs w => by kernel_rfl) 4 _ _ (fun _ => rfl) _ _ _ [] [.o, .o, .o, .o, .o, .a 4, .xg (ok0_region_Mem_live_v2 hU w0 w1 w2 w3 w4 w5 g0_0 g0_1 e_g0) [0, 1, 2, 3], .o, .o, .b hq0, .o, .o, .o, .o, .o, .o, .o] [] (fun b => by kernel_rfl)
inductive R_region_area_hides where
  | e0 (c0_0 : Bool)
noncomputable def m_region_area_hides (y1 : Int) (y2 : Int) (w0 : Nat) (w1 : Bool) (w2 : Int) (w3 : Bool) (w4 : Nat → BitVec 8) : Option R_region_area_hides :=
  bif decide (0 < y2) then
    (some (.e0 (decide (y1 < w2))))
  else (some (.e0 false))
def sq0_region_area_hides (y1 : Int) (y2 : Int) (w0 : Nat) (w1 : Bool) (w2 : Int) (w3 : Bool) (w4 : Nat → BitVec 8) (c0_0 : Bool) : Spc := ⟨fun ls => .call 140 #[.pointer (some ⟨(lget ls 0).n, 0, none⟩), .int .i64 (y1), .int .i64 (y2)], fun ls => [.cells #[(rowV (lget ls 1) w0 1), .bool (w1), .int .i64 (w2), .bool (w3)] 110, rowO (lget ls 1) (esG cu8 w0 w4) 5 w0 1], 0, .normal, fun ls => [.bool (c0_0)], fun ls => [.cells #[(rowV (lget ls 1) w0 1), .bool (w1), .int .i64 (w2), .bool (w3)] 110, rowO (lget ls 1) (esG cu8 w0 w4) 5 w0 1], fun ls => []⟩
end
section
variable {M : Nat → Prop} {B0 : Nat} {S : World → Prop} (hU : Up M B0 S)
include hU
theorem ok0_region_area_hides (y1 : Int) (y2 : Int) (w0 : Nat) (w1 : Bool) (w2 : Int) (w3 : Bool) (w4 : Nat → BitVec 8) (c0_0 : Bool) (e : m_region_area_hides y1 y2 w0 w1 w2 w3 w4 = some (.e0 c0_0)) : SpcG Try.prog M B0 S (sq0_region_area_hides y1 y2 w0 w1 w2 w3 w4 c0_0) := by
  unfold m_region_area_hides at e
  replace e := cond_eq_or e
  rcases e with ⟨hq0, e⟩ | ⟨hq0, e⟩
  · injection e with e; injection e with i0; subst i0; exact fn_specG hU (P := Try.prog) Try.func140 (fun xs w => by kernel_rfl) 2 _ _ (fun _ => rfl) _ _ _ [] [.o, .o, .b (z_gtrT hq0), .o, .o, .o, .o, .o, .a 0, .o, .o, .o] [] (fun b => by kernel_rfl)
  · injection e with e; injection e with i0; subst i0; exact fn_specG hU (P := Try.prog) Try.func140 (fun xs w => by kernel_rfl) 2 _ _ (fun _ => rfl) _ _ _ [] [.o, .o, .b (z_gtrF hq0), .o, .o, .o] [] (fun b => by kernel_rfl)
inductive Sh_region_number_L0 where
  | c0 (s0_0 : BitVec 64) (s0_1 : Int)
inductive Ex_region_number_L0 where
  | e0 (c0_0 : BitVec 64)
noncomputable def st_region_number_L0 (n0 : Nat) (A0 : Nat → BitVec 8) : Sh_region_number_L0 → Option (Sh_region_number_L0 ⊕ Ex_region_number_L0)
  | .c0 s0_0 s0_1 =>
    bif decide (s0_1 < (n0 : Int)) then
      (bif inR s0_1 n0 then
        (bif decide (0 ≤ (IntKind.i64.wrap (8 * s0_1))) then
          (some (.inl (.c0 (s0_0 ||| (((A0 (s0_1).toNat).setWidth 64) <<< ((IntKind.i64.wrap (8 * s0_1))).toNat)) (IntKind.i64.wrap (s0_1 + 1)))))
        else (none))
      else (none))
    else (some (.inr (.e0 s0_0)))
noncomputable def bd_region_number_L0 : Code := codeOf Try.f130 [1, 1, 0, 1, 0, 0]
def fl_region_number_L0 (a0 : Option Addr) (p0 : Nat) (q0 : Nat) (n0 : Nat) (k0 : Nat) (A0 : Nat → BitVec 8) : Sh_region_number_L0 → List L1 → List Value
  | .c0 s0_0 s0_1, ls => [.pointer (some ⟨(lget ls 0).n, 0, none⟩), .pointer (some ⟨(lget ls 1).n, 0, none⟩), .slice a0 n0 (n0 + k0), .int .i64 ((n0 : Int)), .int .i64 (s0_1)]
def mf_region_number_L0 : Sh_region_number_L0 → List (Nat × Nat)
  | .c0 _ _ => [(0, 2), (2, 3), (3, 15)]
noncomputable def fr_region_number_L0 (a0 : Option Addr) (p0 : Nat) (q0 : Nat) (n0 : Nat) (k0 : Nat) (A0 : Nat → BitVec 8) (s : Sh_region_number_L0) : List L1 → List Value := mrgF (mf_region_number_L0 s) (fl_region_number_L0 a0 p0 q0 n0 k0 A0 s) 2
def Hs_region_number_L0 (a0 : Option Addr) (p0 : Nat) (q0 : Nat) (n0 : Nat) (k0 : Nat) (A0 : Nat → BitVec 8) : Sh_region_number_L0 → List L1 → List Obj
  | .c0 s0_0 s0_1, ls => [.cells #[.int .i64 (0), .int .u64 (0), .int .i64 (0), .int .i64 (0)] 28, .cells #[.int .i64 (1), .int .u64 (nn s0_0), .int .i64 (0), .int .i64 (0)] 28, unb]
def vl_region_number_L0 (a0 : Option Addr) (p0 : Nat) (q0 : Nat) (n0 : Nat) (k0 : Nat) (A0 : Nat → BitVec 8) : Ex_region_number_L0 → List L1 → List Value
  | .e0 c0_0, ls => [.pointer (some ⟨(lget ls 0).n, 0, none⟩), .pointer (some ⟨(lget ls 1).n, 0, none⟩), .slice a0 n0 (n0 + k0), .int .i64 ((n0 : Int))]
def mk_region_number_L0 : Ex_region_number_L0 → List (Nat × Nat)
  | .e0 _ => [(0, 2), (2, 3), (2, 16)]
noncomputable def vf_region_number_L0 (a0 : Option Addr) (p0 : Nat) (q0 : Nat) (n0 : Nat) (k0 : Nat) (A0 : Nat → BitVec 8) (r : Ex_region_number_L0) : List L1 → List Value := mrgF (mk_region_number_L0 r) (vl_region_number_L0 a0 p0 q0 n0 k0 A0 r) 2
def Hf_region_number_L0 (a0 : Option Addr) (p0 : Nat) (q0 : Nat) (n0 : Nat) (k0 : Nat) (A0 : Nat → BitVec 8) : Ex_region_number_L0 → List L1 → List Obj
  | .e0 c0_0, ls => [.cells #[.int .i64 (0), .int .u64 (0), .int .i64 (0), .int .i64 (0)] 28, .cells #[.int .i64 (1), .int .u64 (nn c0_0), .int .i64 (0), .int .i64 (0)] 28, unb]
def ex_region_number_L0 : Ex_region_number_L0 → Ex
  | .e0 _ => (.exit 0)
end
section
variable {M : Nat → Prop} {B0 : Nat} {S : World → Prop} (hU : Up M B0 S) (a0 : Option Addr) (p0 : Nat) (q0 : Nat) (n0 : Nat) (k0 : Nat) (A0 : Nat → BitVec 8) (hR0 : Ro S cu8 1 a0 p0 q0 n0 A0)
include hU a0 p0 q0 n0 k0 A0 hR0
theorem go_region_number_L0 (s : Sh_region_number_L0) (r : Ex_region_number_L0) (h : lpO (st_region_number_L0 n0 A0) s = some r) : GoesG Try.prog M B0 S (.loop bd_region_number_L0) 3 (fr_region_number_L0 a0 p0 q0 n0 k0 A0 s) (Hs_region_number_L0 a0 p0 q0 n0 k0 A0 s) (ex_region_number_L0 r) 2 (vf_region_number_L0 a0 p0 q0 n0 k0 A0 r) (Hf_region_number_L0 a0 p0 q0 n0 k0 A0 r) 3 :=
  goes_lpO (fun s q e => by
    cases s with
    | c0 s0_0 s0_1 =>
      unfold st_region_number_L0 at e
      dsimp only at e
      replace e := cond_eq_or e
      rcases e with ⟨hq0, e⟩ | ⟨hq0, e⟩
      · replace e := cond_eq_or e
        rcases e with ⟨hq1, e⟩ | ⟨hq1, e⟩
        · replace e := cond_eq_or e
          rcases e with ⟨hq2, e⟩ | ⟨hq2, e⟩
          · cases e; exact goes_runM hU [.b (z_lssT hq0), .o, .q (ixRo_ok (kd := .i64) (T := 34) (x := s0_1) (sz := 1) rfl (fun w => by kernel_rfl) hR0 hq1), .l (accRo hR0 cu8_len (inR_nat hq1) 0 [.int .u8 (nn (A0 (s0_1).toNat))] rfl), .o, .o, .r [0, 1, 2, 3, 4, 5, 6, 7, 8] [] [9], .o, .a 1, .o, .v .u64 (u64_of_u8 (A0 (s0_1).toNat)), .o, .o, .ov (u64_shl Try.prog 22 (.tmp 17) (.tmp 19) ((A0 (s0_1).toNat).setWidth 64) ((IntKind.i64.wrap (8 * s0_1))).toNat .i64 (z_pos hq2)), .v .u64 (u64_or s0_0 (((A0 (s0_1).toNat).setWidth 64) <<< ((IntKind.i64.wrap (8 * s0_1))).toNat)), .o, .a 1, .o, .o] [0, 1] (fun b => rfl) (by decide) rfl rfl (fun b => by kernel_rfl)
          · exact none_some e
        · exact none_some e
      · cases e; exact ⟨ne_exit 0, goes_runM hU [.b (z_lssF hq0)] [0, 1] (fun b => rfl) (by decide) rfl rfl (fun b => by kernel_rfl)⟩) s r h
noncomputable def t0_region_number_L0_0 (a0 : Option Addr) (p0 : Nat) (q0 : Nat) (n0 : Nat) (k0 : Nat) (A0 : Nat → BitVec 8) (s0_0 : BitVec 64) (s0_1 : Int) (ls : List L1) : List Value := List.append [.slice a0 n0 (n0 + k0), undef, .pointer (some ⟨(lget ls 0).n, 0, none⟩), .pointer (some ⟨(lget ls 1).n, 0, none⟩), undef, undef, .agg #[.int .i64 (1), .int .u64 (0), .int .i64 (0), .int .i64 (0)], .slice a0 n0 (n0 + k0), .int .i64 ((n0 : Int)), .int .i64 (s0_1)] (und 15)
def pre_region_number_L0_0 (a0 : Option Addr) (p0 : Nat) (q0 : Nat) (n0 : Nat) (k0 : Nat) (A0 : Nat → BitVec 8) (s0_0 : BitVec 64) (s0_1 : Int) (ls : List L1) : List Obj := [.cells #[.int .i64 (0), .int .u64 (0), .int .i64 (0), .int .i64 (0)] 28, .cells #[.int .i64 (1), .int .u64 (nn s0_0), .int .i64 (0), .int .i64 (0)] 28]
theorem sp0_region_number_L0_0_ok (s0_0 : BitVec 64) (s0_1 : Int) (c0_0 : BitVec 64) (h : lpO (st_region_number_L0 n0 A0) (.c0 s0_0 s0_1) = some (.e0 c0_0)) : SpcG Try.prog M B0 S ⟨fun ls => .code (.loop bd_region_number_L0) (t0_region_number_L0_0 a0 p0 q0 n0 k0 A0 s0_0 s0_1 ls), pre_region_number_L0_0 a0 p0 q0 n0 k0 A0 s0_0 s0_1, 1, (.exit 0), fun ls => vf_region_number_L0 a0 p0 q0 n0 k0 A0 (.e0 c0_0) (ls.take 2 ++ ls.drop 2), fun ls => (Hf_region_number_L0 a0 p0 q0 n0 k0 A0 (.e0 c0_0) (ls.take 2 ++ ls.drop 2)).take 2 ++ List.replicate 0 unb, fun ls => (Hf_region_number_L0 a0 p0 q0 n0 k0 A0 (.e0 c0_0) (ls.take 2 ++ ls.drop 2)).drop 2⟩ :=
  spc_of_goesM hU 0 (k0 := 2) (go_region_number_L0 hU a0 p0 q0 n0 k0 A0 hR0 _ _ h) (t0_region_number_L0_0 a0 p0 q0 n0 k0 A0 s0_0 s0_1) (pre_region_number_L0_0 a0 p0 q0 n0 k0 A0 s0_0 s0_1) (fun _ => rfl) (fun ls h => by match ls, h with | [l0, l1], _ => exact ⟨by kernel_rfl, by kernel_rfl⟩) (fun ls h => by match ls, h with | [l0, l1], _ => rfl) (by decide) (by decide) (fun ls => rfl)
noncomputable def m_region_number (n0 : Nat) (A0 : Nat → BitVec 8) : Option (Val) :=
  (lpO (st_region_number_L0 n0 A0) (.c0 (0#64) 0)).bind fun g0 => match g0 with
  | .e0 g0_0 =>
  some (⟨1, g0_0, 0, 0⟩ : Val)
theorem ok_region_number (r : Val) (e : m_region_number n0 A0 = some r) : ConG Try.prog S 130 #[.slice a0 n0 (n0 + k0)] ((v_Val r)) := by
  unfold m_region_number at e
  replace e := bindO_eq e
  obtain ⟨g0, e_g0, e⟩ := e
  obtain ⟨g0_0⟩ := g0
  try dsimp only at e
  injection e with e; subst e; exact fn_conG hU (P := Try.prog) Try.func130 (fun xs w => by kernel_rfl) _ _ [.o, .o, .o, .a 1, .o, .o, .o, .cp, .cx (sp0_region_number_L0_0_ok hU a0 p0 q0 n0 k0 A0 hR0 (0#64) 0 g0_0 e_g0) [0, 1], .a 1, .a 0] [0, 0, 0, 0] (fun b => by kernel_rfl)
inductive R_region_area_load where
  | e0 (c0_0 : Int) (c0_1 : BitVec 64) (c0_2 : Int) (c0_3 : Int) (c0_4 : Int)
noncomputable def m_region_area_load (y1 : Int) (y2 : Int) (w0 : Nat) (w1 : Bool) (w2 : Int) (w3 : Bool) (w4 : Nat → BitVec 8) : Option R_region_area_load :=
  (m_region_area_hides y1 y2 w0 w1 w2 w3 w4).bind fun g0 => match g0 with
  | .e0 g0_0 =>
  bif g0_0 then
    (some (.e0 0 (0#64) 0 0 14))
  else (bif inR y1 w0 then
    (bif inR (IntKind.i64.wrap (y1 + y2)) (w0 + 1) then
      (bif decide (y1 ≤ (IntKind.i64.wrap (y1 + y2))) then
        ((m_region_number (((IntKind.i64.wrap (y1 + y2))).toNat - (y1).toNat) (fun k => w4 ((y1).toNat + k))).bind fun r1 =>
        some (.e0 r1.fKind r1.fNum r1.fId r1.fOff 0))
      else (none))
    else (none))
  else (none))
def sq0_region_area_load (y1 : Int) (y2 : Int) (w0 : Nat) (w1 : Bool) (w2 : Int) (w3 : Bool) (w4 : Nat → BitVec 8) (c0_0 : Int) (c0_1 : BitVec 64) (c0_2 : Int) (c0_3 : Int) (c0_4 : Int) : Spc := ⟨fun ls => .call 136 #[.pointer (some ⟨(lget ls 0).n, 0, none⟩), .int .i64 (y1), .int .i64 (y2)], fun ls => [.cells #[(rowV (lget ls 1) w0 1), .bool (w1), .int .i64 (w2), .bool (w3)] 110, rowO (lget ls 1) (esG cu8 w0 w4) 5 w0 1], 0, .normal, fun ls => [.tuple #[.agg #[.int .i64 (c0_0), .int .u64 (nn c0_1), .int .i64 (c0_2), .int .i64 (c0_3)], .int .i64 (c0_4)]], fun ls => [.cells #[(rowV (lget ls 1) w0 1), .bool (w1), .int .i64 (w2), .bool (w3)] 110, rowO (lget ls 1) (esG cu8 w0 w4) 5 w0 1], fun ls => []⟩
end
section
variable {M : Nat → Prop} {B0 : Nat} {S : World → Prop} (hU : Up M B0 S)
include hU
theorem ok0_region_area_load (y1 : Int) (y2 : Int) (w0 : Nat) (w1 : Bool) (w2 : Int) (w3 : Bool) (w4 : Nat → BitVec 8) (c0_0 : Int) (c0_1 : BitVec 64) (c0_2 : Int) (c0_3 : Int) (c0_4 : Int) (e : m_region_area_load y1 y2 w0 w1 w2 w3 w4 = some (.e0 c0_0 c0_1 c0_2 c0_3 c0_4)) : SpcG Try.prog M B0 S (sq0_region_area_load y1 y2 w0 w1 w2 w3 w4 c0_0 c0_1 c0_2 c0_3 c0_4) := by
  unfold m_region_area_load at e
  replace e := bindO_eq e
  obtain ⟨g0, e_g0, e⟩ := e
  obtain ⟨g0_0⟩ := g0
  try dsimp only at e
  replace e := cond_eq_or e
  rcases e with ⟨hq0, e⟩ | ⟨hq0, e⟩
  · subst hq0
    injection e with e; injection e with i0 i1 i2 i3 i4; subst i0 i1 i2 i3 i4; exact fn_specG hU (P := Try.prog) Try.func136 (fun xs w => by kernel_rfl) 2 _ _ (fun _ => rfl) _ _ _ [] [.o, .o, .o, .o, .o, .xg (ok0_region_area_hides hU y1 y2 w0 w1 w2 w3 w4 true e_g0) [0, 1], .o, .a 2, .o] [2, 2, 2, 2] (fun b => by kernel_rfl)
  · subst hq0
    replace e := cond_eq_or e
    rcases e with ⟨hq1, e⟩ | ⟨hq1, e⟩
    · replace e := cond_eq_or e
      rcases e with ⟨hq2, e⟩ | ⟨hq2, e⟩
      · replace e := cond_eq_or e
        rcases e with ⟨hq3, e⟩ | ⟨hq3, e⟩
        · replace e := bindO_eq e
          obtain ⟨r1, e_r1, e⟩ := e
          try dsimp only at e
          injection e with e; injection e with i0 i1 i2 i3 i4; subst i0 i1 i2 i3 i4; exact fn_specG hU (P := Try.prog) Try.func136 (fun xs w => by kernel_rfl) 2 _ _ (fun _ => rfl) _ _ _ [] [.o, .o, .o, .o, .o, .xg (ok0_region_area_hides hU y1 y2 w0 w1 w2 w3 w4 false e_g0) [0, 1], .o, .o, .o, .a 0, .o, .o, .o, .o, .qb (slPart_ok (T := 34) (e := 5) (sz := 1) (N := w0) (x := y1) (y := (IntKind.i64.wrap (y1 + y2))) .row (by kernel_rfl) (fun w => by kernel_rfl) hq1 hq2 hq3) 1, .xg (SpcG.ownT hU (f := cu8) cu8_len w0 w4 5 (fun l => padC .row l w0 1) (fun l => capC .row l w0 1 - ((IntKind.i64.wrap (y1 + y2))).toNat) (y1).toNat (((IntKind.i64.wrap (y1 + y2))).toNat - (y1).toNat) (part_le (x := y1) (y := (IntKind.i64.wrap (y1 + y2))) (n := w0) hq1 hq2 hq3) _ 0 .normal (by intros; rfl) (by intros; rfl) (by intros; rfl) (fun M0 B0 S0 x0 u0 v0 z0 hU0 hs0 hr0 => ConG.sp (ok_region_number hU0 x0 u0 v0 (((IntKind.i64.wrap (y1 + y2))).toNat - (y1).toNat) z0 (fun k => w4 ((y1).toNat + k)) hr0 r1 e_r1))) [1], .a 2, .o] [2, 2, 2, 2] (fun b => by kernel_rfl)
        · exact none_some e
      · exact none_some e
    · exact none_some e
inductive R_region_Mem_Load_v2 where
  | e0 (c0_0 : Bool) (c0_1 : Int) (c0_2 : BitVec 64) (c0_3 : Int) (c0_4 : Int) (c0_5 : Int)
noncomputable def m_region_Mem_Load_v2 (y2 : Int) (w0 : Int) (w1 : Nat) (w2 : Bool) (w3 : Int) (w4 : Bool) (w5 : Nat → BitVec 8) : Option R_region_Mem_Load_v2 :=
  bif m_region_rightSize_v2 y2 then
    ((m_region_Mem_find_v3 y2 w0 w1 w2 w3 w4 w5).bind fun g0 => match g0 with
    | .e0 g0_0 g0_1 => ((m_region_area_load g0_1 y2 w1 w2 w3 g0_0 w5).bind fun g1 => match g1 with
      | .e0 g1_0 g1_1 g1_2 g1_3 g1_4 =>
      some (.e0 g0_0 g1_0 g1_1 g1_2 g1_3 g1_4))
    | .e1 g0_0 g0_1 => (bif g0_1 == 0 then
        (none)
      else (some (.e0 g0_0 0 (0#64) 0 0 g0_1))))
  else (some (.e0 w4 0 (0#64) 0 0 8))
def sq0_region_Mem_Load_v2 (y2 : Int) (w0 : Int) (w1 : Nat) (w2 : Bool) (w3 : Int) (w4 : Bool) (w5 : Nat → BitVec 8) (c0_0 : Bool) (c0_1 : Int) (c0_2 : BitVec 64) (c0_3 : Int) (c0_4 : Int) (c0_5 : Int) : Spc := ⟨fun ls => .call 19 #[.pointer (some ⟨(lget ls 0).n, 0, none⟩), .agg #[.int .i64 (5), .int .u64 (0), .int .i64 (1), .int .i64 (w0)], .int .i64 (y2)], fun ls => [.cells #[.map (some (lget ls 1).n), .int .i64 (1)] 91, .map #[⟨.int .i64 (1), .iface 107 (.pointer (some ⟨(lget ls 2).n, 0, none⟩)), 0⟩] 1, .cells #[(rowV (lget ls 3) w1 1), .bool (w2), .int .i64 (w3), .bool (w4)] 110, rowO (lget ls 3) (esG cu8 w1 w5) 5 w1 1], 0, .normal, fun ls => [.tuple #[.agg #[.int .i64 (c0_1), .int .u64 (nn c0_2), .int .i64 (c0_3), .int .i64 (c0_4)], .int .i64 (c0_5)]], fun ls => [.cells #[.map (some (lget ls 1).n), .int .i64 (1)] 91, .map #[⟨.int .i64 (1), .iface 107 (.pointer (some ⟨(lget ls 2).n, 0, none⟩)), 0⟩] 1, .cells #[(rowV (lget ls 3) w1 1), .bool (w2), .int .i64 (w3), .bool (c0_0)] 110, rowO (lget ls 3) (esG cu8 w1 w5) 5 w1 1], fun ls => []⟩
theorem ok0_region_Mem_Load_v2 (y2 : Int) (w0 : Int) (w1 : Nat) (w2 : Bool) (w3 : Int) (w4 : Bool) (w5 : Nat → BitVec 8) (c0_0 : Bool) (c0_1 : Int) (c0_2 : BitVec 64) (c0_3 : Int) (c0_4 : Int) (c0_5 : Int) (e : m_region_Mem_Load_v2 y2 w0 w1 w2 w3 w4 w5 = some (.e0 c0_0 c0_1 c0_2 c0_3 c0_4 c0_5)) : SpcG Try.prog M B0 S (sq0_region_Mem_Load_v2 y2 w0 w1 w2 w3 w4 w5 c0_0 c0_1 c0_2 c0_3 c0_4 c0_5) := by
  unfold m_region_Mem_Load_v2 at e
  replace e := cond_eq_or e
  rcases e with ⟨hq0, e⟩ | ⟨hq0, e⟩
  · replace e := bindO_eq e
    obtain ⟨g0, e_g0, e⟩ := e
    rcases g0 with ⟨g0_0, g0_1⟩ | ⟨g0_0, g0_1⟩
    · try dsimp only at e
      replace e := bindO_eq e
      obtain ⟨g1, e_g1, e⟩ := e
      obtain ⟨g1_0, g1_1, g1_2, g1_3, g1_4⟩ := g1
      try dsimp only at e
      injection e with e; injection e with i0 i1 i2 i3 i4 i5; subst i0 i1 i2 i3 i4 i5; exact fn_specG hU (P := Try.prog) Try.func19 (fun xs w => by kernel_rfl) 4 _ _ (fun _ => rfl) _ _ _ [] [.o, .o, .o, .a 4, .cg (ok_region_kindTrap_v1 hU w0 ), .o, .o, .o, .o, .cg (ok_region_rightSize_v2 hU y2 true hq0), .o, .o, .a 4, .o, .xg (ok0_region_Mem_find_v3 hU y2 w0 w1 w2 w3 w4 w5 g0_0 g0_1 e_g0) [0, 1, 2, 3], .o, .o, .o, .o, .o, .o, .o, .o, .o, .o, .o, .o, .xg (ok0_region_area_load hU g0_1 y2 w1 w2 w3 g0_0 w5 g1_0 g1_1 g1_2 g1_3 g1_4 e_g1) [2, 3], .o, .o, .a 5, .o] [5, 5, 5, 5] (fun b => by kernel_rfl)
    · try dsimp only at e
      replace e := cond_eq_or e
      rcases e with ⟨hq1, e⟩ | ⟨hq1, e⟩
      · exact none_some e
      · injection e with e; injection e with i0 i1 i2 i3 i4 i5; subst i0 i1 i2 i3 i4 i5; exact fn_specG hU (P := Try.prog) Try.func19 (fun xs w => by kernel_rfl) 4 _ _ (fun _ => rfl) _ _ _ [] [.o, .o, .o, .a 4, .cg (ok_region_kindTrap_v1 hU w0 ), .o, .o, .o, .o, .cg (ok_region_rightSize_v2 hU y2 true hq0), .o, .o, .a 4, .o, .xg (ok1_region_Mem_find_v3 hU y2 w0 w1 w2 w3 w4 w5 g0_0 g0_1 e_g0) [0, 1, 2, 3], .o, .o, .o, .o, .o, .o, .o, .o, .b (z_neqF hq1), .o, .o, .a 5, .o] [5, 5, 5, 5] (fun b => by kernel_rfl)
  · injection e with e; injection e with i0 i1 i2 i3 i4 i5; subst i0 i1 i2 i3 i4 i5; exact fn_specG hU (P := Try.prog) Try.func19 (fun xs w => by kernel_rfl) 4 _ _ (fun _ => rfl) _ _ _ [] [.o, .o, .o, .a 4, .cg (ok_region_kindTrap_v1 hU w0 ), .o, .o, .o, .o, .cg (ok_region_rightSize_v2 hU y2 false hq0), .o, .o, .a 5, .o] [5, 5, 5, 5] (fun b => by kernel_rfl)
inductive R_region_area_can where
  | e0 (c0_0 : Bool) (c0_1 : Int)
noncomputable def m_region_area_can (y1 : Int) (y2 : Int) (w0 : Nat) (w1 : Bool) (w2 : Int) (w3 : Bool) (w4 : Nat → BitVec 8) : Option R_region_area_can :=
  bif w1 then
    ((m_region_area_hides y1 y2 w0 true w2 w3 w4).bind fun g0 => match g0 with
    | .e0 g0_0 =>
    bif g0_0 then
      (some (.e0 true 14))
    else (some (.e0 true 0)))
  else (some (.e0 false 5))
def sq0_region_area_can (y1 : Int) (y2 : Int) (w0 : Nat) (w1 : Bool) (w2 : Int) (w3 : Bool) (w4 : Nat → BitVec 8) (c0_0 : Bool) (c0_1 : Int) : Spc := ⟨fun ls => .call 135 #[.pointer (some ⟨(lget ls 0).n, 0, none⟩), .int .i64 (y1), .int .i64 (y2)], fun ls => [.cells #[(rowV (lget ls 1) w0 1), .bool (w1), .int .i64 (w2), .bool (w3)] 110, rowO (lget ls 1) (esG cu8 w0 w4) 5 w0 1], 0, .normal, fun ls => [.int .i64 (c0_1)], fun ls => [.cells #[(rowV (lget ls 1) w0 1), .bool (c0_0), .int .i64 (w2), .bool (w3)] 110, rowO (lget ls 1) (esG cu8 w0 w4) 5 w0 1], fun ls => []⟩
theorem ok0_region_area_can (y1 : Int) (y2 : Int) (w0 : Nat) (w1 : Bool) (w2 : Int) (w3 : Bool) (w4 : Nat → BitVec 8) (c0_0 : Bool) (c0_1 : Int) (e : m_region_area_can y1 y2 w0 w1 w2 w3 w4 = some (.e0 c0_0 c0_1)) : SpcG Try.prog M B0 S (sq0_region_area_can y1 y2 w0 w1 w2 w3 w4 c0_0 c0_1) := by
  unfold m_region_area_can at e
  replace e := cond_eq_or e
  rcases e with ⟨hq0, e⟩ | ⟨hq0, e⟩
  · subst hq0
    replace e := bindO_eq e
    obtain ⟨g0, e_g0, e⟩ := e
    obtain ⟨g0_0⟩ := g0
    try dsimp only at e
    replace e := cond_eq_or e
    rcases e with ⟨hq1, e⟩ | ⟨hq1, e⟩
    · injection e with e; injection e with i0 i1; subst i0 i1; exact fn_specG hU (P := Try.prog) Try.func135 (fun xs w => by kernel_rfl) 2 _ _ (fun _ => rfl) _ _ _ [] [.o, .o, .o, .o, .a 0, .o, .o, .o, .o, .o, .xg (ok0_region_area_hides hU y1 y2 w0 true w2 w3 w4 g0_0 e_g0) [0, 1], .b hq1, .o] [] (fun b => by kernel_rfl)
    · injection e with e; injection e with i0 i1; subst i0 i1; exact fn_specG hU (P := Try.prog) Try.func135 (fun xs w => by kernel_rfl) 2 _ _ (fun _ => rfl) _ _ _ [] [.o, .o, .o, .o, .a 0, .o, .o, .o, .o, .o, .xg (ok0_region_area_hides hU y1 y2 w0 true w2 w3 w4 g0_0 e_g0) [0, 1], .b hq1, .o] [] (fun b => by kernel_rfl)
  · subst hq0
    injection e with e; injection e with i0 i1; subst i0 i1; exact fn_specG hU (P := Try.prog) Try.func135 (fun xs w => by kernel_rfl) 2 _ _ (fun _ => rfl) _ _ _ [] [.o, .o, .o, .o, .a 0, .o, .o, .o] [] (fun b => by kernel_rfl)
inductive Sh_region_putNumber_L0 where
  | c0 (s0_0 : Nat → BitVec 8) (s0_1 : Int)
inductive Ex_region_putNumber_L0 where
  | e0 (c0_0 : Nat → BitVec 8)
noncomputable def st_region_putNumber_L0 (y1 : BitVec 64) (w0 : Nat) (w1 : Nat) : Sh_region_putNumber_L0 → Option (Sh_region_putNumber_L0 ⊕ Ex_region_putNumber_L0)
  | .c0 s0_0 s0_1 =>
    bif decide (s0_1 < (w1 : Int)) then
      (bif decide (0 ≤ (IntKind.i64.wrap (8 * s0_1))) then
        (bif inR s0_1 w1 then
          (bindT (updF s0_0 (w0 + (s0_1).toNat) ((y1 >>> ((IntKind.i64.wrap (8 * s0_1))).toNat).setWidth 8)) fun rb0 =>
          some (.inl (.c0 rb0 (IntKind.i64.wrap (s0_1 + 1)))))
        else (none))
      else (none))
    else (some (.inr (.e0 s0_0)))
noncomputable def bd_region_putNumber_L0 : Code := codeOf Try.f132 [1, 0, 0]
def fl_region_putNumber_L0 (y1 : BitVec 64) (w0 : Nat) (w1 : Nat) (w2 : Nat) (w3 : Nat) (w4 : Nat → BitVec 8) : Sh_region_putNumber_L0 → List L1 → List Value
  | .c0 s0_0 s0_1, ls => [.slice (some ⟨(lget ls 0).n, w0 * 1, none⟩) w1 (w1 + (capC .row (lget ls 0) w2 1 - w3)), .int .u64 (nn y1), .int .i64 ((w1 : Int)), .int .i64 (s0_1)]
def mf_region_putNumber_L0 : Sh_region_putNumber_L0 → List (Nat × Nat)
  | .c0 _ _ => [(2, 4), (2, 11)]
noncomputable def fr_region_putNumber_L0 (y1 : BitVec 64) (w0 : Nat) (w1 : Nat) (w2 : Nat) (w3 : Nat) (w4 : Nat → BitVec 8) (s : Sh_region_putNumber_L0) : List L1 → List Value := mrgF (mf_region_putNumber_L0 s) (fl_region_putNumber_L0 y1 w0 w1 w2 w3 w4 s) 1
def Hs_region_putNumber_L0 (y1 : BitVec 64) (w0 : Nat) (w1 : Nat) (w2 : Nat) (w3 : Nat) (w4 : Nat → BitVec 8) : Sh_region_putNumber_L0 → List L1 → List Obj
  | .c0 s0_0 s0_1, ls => [rowO (lget ls 0) (esG cu8 w2 s0_0) 5 w2 1, unb]
def vl_region_putNumber_L0 (y1 : BitVec 64) (w0 : Nat) (w1 : Nat) (w2 : Nat) (w3 : Nat) (w4 : Nat → BitVec 8) : Ex_region_putNumber_L0 → List L1 → List Value
  | .e0 c0_0, ls => [.slice (some ⟨(lget ls 0).n, w0 * 1, none⟩) w1 (w1 + (capC .row (lget ls 0) w2 1 - w3)), .int .u64 (nn y1), .int .i64 ((w1 : Int))]
def mk_region_putNumber_L0 : Ex_region_putNumber_L0 → List (Nat × Nat)
  | .e0 _ => [(2, 4), (1, 12)]
noncomputable def vf_region_putNumber_L0 (y1 : BitVec 64) (w0 : Nat) (w1 : Nat) (w2 : Nat) (w3 : Nat) (w4 : Nat → BitVec 8) (r : Ex_region_putNumber_L0) : List L1 → List Value := mrgF (mk_region_putNumber_L0 r) (vl_region_putNumber_L0 y1 w0 w1 w2 w3 w4 r) 1
def Hf_region_putNumber_L0 (y1 : BitVec 64) (w0 : Nat) (w1 : Nat) (w2 : Nat) (w3 : Nat) (w4 : Nat → BitVec 8) : Ex_region_putNumber_L0 → List L1 → List Obj
  | .e0 c0_0, ls => [rowO (lget ls 0) (esG cu8 w2 c0_0) 5 w2 1, unb]
def ex_region_putNumber_L0 : Ex_region_putNumber_L0 → Ex
  | .e0 _ => (.exit 0)
end
section
variable {M : Nat → Prop} {B0 : Nat} {S : World → Prop} (hU : Up M B0 S) (y1 : BitVec 64) (w0 : Nat) (w1 : Nat) (w2 : Nat) (w3 : Nat) (w4 : Nat → BitVec 8) (hRp0 : w0 + w1 ≤ w2)
include hU y1 w0 w1 w2 w3 w4 hRp0
theorem go_region_putNumber_L0 (s : Sh_region_putNumber_L0) (r : Ex_region_putNumber_L0) (h : lpO (st_region_putNumber_L0 y1 w0 w1) s = some r) : GoesG Try.prog M B0 S (.loop bd_region_putNumber_L0) 2 (fr_region_putNumber_L0 y1 w0 w1 w2 w3 w4 s) (Hs_region_putNumber_L0 y1 w0 w1 w2 w3 w4 s) (ex_region_putNumber_L0 r) 1 (vf_region_putNumber_L0 y1 w0 w1 w2 w3 w4 r) (Hf_region_putNumber_L0 y1 w0 w1 w2 w3 w4 r) 2 :=
  goes_lpO (fun s q e => by
    cases s with
    | c0 s0_0 s0_1 =>
      unfold st_region_putNumber_L0 at e
      dsimp only at e
      replace e := cond_eq_or e
      rcases e with ⟨hq0, e⟩ | ⟨hq0, e⟩
      · replace e := cond_eq_or e
        rcases e with ⟨hq1, e⟩ | ⟨hq1, e⟩
        · replace e := cond_eq_or e
          rcases e with ⟨hq2, e⟩ | ⟨hq2, e⟩
          · replace e := bindT_eq e
            obtain ⟨rb0, e_rb0, e⟩ := e
            try dsimp only at e
            cases e; exact goes_runM hU [.b (z_lssT hq0), .o, .o, .o, .o, .o, .o, .o, .ov (u64_shr Try.prog 22 (.tmp 12) (.tmp 14) y1 ((IntKind.i64.wrap (8 * s0_1))).toNat .i64 (z_pos hq1)), .v .u8 (u8_of_u64 (y1 >>> ((IntKind.i64.wrap (8 * s0_1))).toNat)), .q (ixP_ok (kd := .i64) (T := 34) (x := s0_1) (sz := 1) (n := w1) (off := w0) (base := 0) rfl (fun w => by kernel_rfl) hq2), .x (sqStGr_ok (T := 5) (e := 5) (f := cu8) (A := s0_0) (v := ((y1 >>> ((IntKind.i64.wrap (8 * s0_1))).toNat).setWidth 8)) 0 (.int .u8 (nn ((y1 >>> ((IntKind.i64.wrap (8 * s0_1))).toNat).setWidth 8))) cu8_len cu8_one rfl rfl (fun w => by kernel_rfl) (psl_lt (inR_nat hq2) hRp0) e_rb0) [0], .o, .o] [0] (fun b => rfl) (by decide) rfl rfl (fun b => by kernel_rfl)
          · exact none_some e
        · exact none_some e
      · cases e; exact ⟨ne_exit 0, goes_runM hU [.b (z_lssF hq0)] [0] (fun b => rfl) (by decide) rfl rfl (fun b => by kernel_rfl)⟩) s r h
noncomputable def t0_region_putNumber_L0_0 (y1 : BitVec 64) (w0 : Nat) (w1 : Nat) (w2 : Nat) (w3 : Nat) (w4 : Nat → BitVec 8) (s0_0 : Nat → BitVec 8) (s0_1 : Int) (ls : List L1) : List Value := List.append [.slice (some ⟨(lget ls 0).n, w0 * 1, none⟩) w1 (w1 + (capC .row (lget ls 0) w2 1 - w3)), .int .u64 (nn y1), undef, undef, undef, .slice (some ⟨(lget ls 0).n, w0 * 1, none⟩) w1 (w1 + (capC .row (lget ls 0) w2 1 - w3)), .int .i64 ((w1 : Int)), .int .i64 (s0_1)] (und 11)
def pre_region_putNumber_L0_0 (y1 : BitVec 64) (w0 : Nat) (w1 : Nat) (w2 : Nat) (w3 : Nat) (w4 : Nat → BitVec 8) (s0_0 : Nat → BitVec 8) (s0_1 : Int) (ls : List L1) : List Obj := [rowO (lget ls 0) (esG cu8 w2 s0_0) 5 w2 1]
theorem sp0_region_putNumber_L0_0_ok (s0_0 : Nat → BitVec 8) (s0_1 : Int) (c0_0 : Nat → BitVec 8) (h : lpO (st_region_putNumber_L0 y1 w0 w1) (.c0 s0_0 s0_1) = some (.e0 c0_0)) : SpcG Try.prog M B0 S ⟨fun ls => .code (.loop bd_region_putNumber_L0) (t0_region_putNumber_L0_0 y1 w0 w1 w2 w3 w4 s0_0 s0_1 ls), pre_region_putNumber_L0_0 y1 w0 w1 w2 w3 w4 s0_0 s0_1, 1, (.exit 0), fun ls => vf_region_putNumber_L0 y1 w0 w1 w2 w3 w4 (.e0 c0_0) (ls.take 1 ++ ls.drop 1), fun ls => (Hf_region_putNumber_L0 y1 w0 w1 w2 w3 w4 (.e0 c0_0) (ls.take 1 ++ ls.drop 1)).take 1 ++ List.replicate 0 unb, fun ls => (Hf_region_putNumber_L0 y1 w0 w1 w2 w3 w4 (.e0 c0_0) (ls.take 1 ++ ls.drop 1)).drop 1⟩ :=
  spc_of_goesM hU 0 (k0 := 1) (go_region_putNumber_L0 hU y1 w0 w1 w2 w3 w4 hRp0 _ _ h) (t0_region_putNumber_L0_0 y1 w0 w1 w2 w3 w4 s0_0 s0_1) (pre_region_putNumber_L0_0 y1 w0 w1 w2 w3 w4 s0_0 s0_1) (fun _ => rfl) (fun ls h => by match ls, h with | [l0], _ => exact ⟨by kernel_rfl, by kernel_rfl⟩) (fun ls h => by match ls, h with | [l0], _ => rfl) (by decide) (by decide) (fun ls => rfl)
inductive R_region_putNumber where
  | e0 (c0_0 : Nat → BitVec 8)
noncomputable def m_region_putNumber (y1 : BitVec 64) (w0 : Nat) (w1 : Nat) (w2 : Nat) (w3 : Nat) (w4 : Nat → BitVec 8) : Option R_region_putNumber :=
  (lpO (st_region_putNumber_L0 y1 w0 w1) (.c0 w4 0)).bind fun g0 => match g0 with
  | .e0 g0_0 =>
  some (.e0 g0_0)
def sq0_region_putNumber (y1 : BitVec 64) (w0 : Nat) (w1 : Nat) (w2 : Nat) (w3 : Nat) (w4 : Nat → BitVec 8) (c0_0 : Nat → BitVec 8) : Spc := ⟨fun ls => .call 132 #[.slice (some ⟨(lget ls 0).n, w0 * 1, none⟩) w1 (w1 + (capC .row (lget ls 0) w2 1 - w3)), .int .u64 (nn y1)], fun ls => [rowO (lget ls 0) (esG cu8 w2 w4) 5 w2 1], 0, .normal, fun ls => [.tuple #[]], fun ls => [rowO (lget ls 0) (esG cu8 w2 c0_0) 5 w2 1], fun ls => []⟩
theorem ok0_region_putNumber (c0_0 : Nat → BitVec 8) (e : m_region_putNumber y1 w0 w1 w2 w3 w4 = some (.e0 c0_0)) : SpcG Try.prog M B0 S (sq0_region_putNumber y1 w0 w1 w2 w3 w4 c0_0) := by
  unfold m_region_putNumber at e
  replace e := bindO_eq e
  obtain ⟨g0, e_g0, e⟩ := e
  obtain ⟨g0_0⟩ := g0
  try dsimp only at e
  injection e with e; injection e with i0; subst i0; exact fn_specG hU (P := Try.prog) Try.func132 (fun xs w => by kernel_rfl) 1 _ _ (fun _ => rfl) _ _ _ [] [.o, .o, .o, .cp, .cx (sp0_region_putNumber_L0_0_ok hU y1 w0 w1 w2 w3 w4 hRp0 w4 0 g0_0 e_g0) [0]] [] (fun b => by kernel_rfl)
inductive R_region_area_store where
  | e0 (c0_0 : Nat → BitVec 8) (c0_1 : Bool) (c0_2 : Int)
noncomputable def m_region_area_store (y1 : Int) (y2 : Int) (y3 : Val) (w0 : Nat) (w1 : Bool) (w2 : Int) (w3 : Bool) (w4 : Nat → BitVec 8) : Option R_region_area_store :=
  (m_region_area_can y1 y2 w0 w1 w2 w3 w4).bind fun g0 => match g0 with
  | .e0 g0_0 g0_1 =>
  bif g0_1 == 0 then
    (bif y3.fKind == 1 then
      (bif inR y1 w0 then
        (bif inR (IntKind.i64.wrap (y1 + y2)) (w0 + 1) then
          (bif decide (y1 ≤ (IntKind.i64.wrap (y1 + y2))) then
            ((m_region_putNumber y3.fNum (y1).toNat (((IntKind.i64.wrap (y1 + y2))).toNat - (y1).toNat) w0 ((IntKind.i64.wrap (y1 + y2))).toNat w4).bind fun g1 => match g1 with
            | .e0 g1_0 =>
            some (.e0 g1_0 g0_0 0))
          else (none))
        else (none))
      else (none))
    else (some (.e0 w4 g0_0 6)))
  else (some (.e0 w4 g0_0 g0_1))
def sq0_region_area_store (y1 : Int) (y2 : Int) (y3 : Val) (w0 : Nat) (w1 : Bool) (w2 : Int) (w3 : Bool) (w4 : Nat → BitVec 8) (c0_0 : Nat → BitVec 8) (c0_1 : Bool) (c0_2 : Int) : Spc := ⟨fun ls => .call 139 #[.pointer (some ⟨(lget ls 0).n, 0, none⟩), .int .i64 (y1), .int .i64 (y2), (v_Val y3)], fun ls => [.cells #[(rowV (lget ls 1) w0 1), .bool (w1), .int .i64 (w2), .bool (w3)] 110, rowO (lget ls 1) (esG cu8 w0 w4) 5 w0 1], 0, .normal, fun ls => [.int .i64 (c0_2)], fun ls => [.cells #[(rowV (lget ls 1) w0 1), .bool (c0_1), .int .i64 (w2), .bool (w3)] 110, rowO (lget ls 1) (esG cu8 w0 c0_0) 5 w0 1], fun ls => []⟩
end
section
variable {M : Nat → Prop} {B0 : Nat} {S : World → Prop} (hU : Up M B0 S)
include hU
theorem ok0_region_area_store (y1 : Int) (y2 : Int) (y3 : Val) (w0 : Nat) (w1 : Bool) (w2 : Int) (w3 : Bool) (w4 : Nat → BitVec 8) (c0_0 : Nat → BitVec 8) (c0_1 : Bool) (c0_2 : Int) (e : m_region_area_store y1 y2 y3 w0 w1 w2 w3 w4 = some (.e0 c0_0 c0_1 c0_2)) : SpcG Try.prog M B0 S (sq0_region_area_store y1 y2 y3 w0 w1 w2 w3 w4 c0_0 c0_1 c0_2) := by
  unfold m_region_area_store at e
  replace e := bindO_eq e
  obtain ⟨g0, e_g0, e⟩ := e
  obtain ⟨g0_0, g0_1⟩ := g0
  try dsimp only at e
  replace e := cond_eq_or e
  rcases e with ⟨hq0, e⟩ | ⟨hq0, e⟩
  · replace e := cond_eq_or e
    rcases e with ⟨hq1, e⟩ | ⟨hq1, e⟩
    · replace e := cond_eq_or e
      rcases e with ⟨hq2, e⟩ | ⟨hq2, e⟩
      · replace e := cond_eq_or e
        rcases e with ⟨hq3, e⟩ | ⟨hq3, e⟩
        · replace e := cond_eq_or e
          rcases e with ⟨hq4, e⟩ | ⟨hq4, e⟩
          · replace e := bindO_eq e
            obtain ⟨g1, e_g1, e⟩ := e
            obtain ⟨g1_0⟩ := g1
            try dsimp only at e
            injection e with e; injection e with i0 i1 i2; subst i0 i1 i2; exact fn_specG hU (P := Try.prog) Try.func139 (fun xs w => by kernel_rfl) 2 _ _ (fun _ => rfl) _ _ _ [] [.o, .o, .o, .o, .o, .xg (ok0_region_area_can hU y1 y2 w0 w1 w2 w3 w4 g0_0 g0_1 e_g0) [0, 1], .o, .o, .b (z_neqT hq0), .o, .a 2, .b (z_neqT hq1), .r [0, 1, 2, 3, 4, 5, 6, 7, 8, 9, 10] [] [11], .o, .o, .o, .a 0, .o, .o, .o, .o, .qb (slPart_ok (T := 34) (e := 5) (sz := 1) (N := w0) (x := y1) (y := (IntKind.i64.wrap (y1 + y2))) .row (by kernel_rfl) (fun w => by kernel_rfl) hq2 hq3 hq4) 1, .o, .a 2, .xg (ok0_region_putNumber hU y3.fNum (y1).toNat (((IntKind.i64.wrap (y1 + y2))).toNat - (y1).toNat) w0 ((IntKind.i64.wrap (y1 + y2))).toNat w4 (part_le (x := y1) (y := (IntKind.i64.wrap (y1 + y2))) (n := w0) hq2 hq3 hq4) g1_0 e_g1) [1], .o] [] (fun b => by kernel_rfl)
          · exact none_some e
        · exact none_some e
      · exact none_some e
    · injection e with e; injection e with i0 i1 i2; subst i0 i1 i2; exact fn_specG hU (P := Try.prog) Try.func139 (fun xs w => by kernel_rfl) 2 _ _ (fun _ => rfl) _ _ _ [] [.o, .o, .o, .o, .o, .xg (ok0_region_area_can hU y1 y2 w0 w1 w2 w3 w4 g0_0 g0_1 e_g0) [0, 1], .o, .o, .b (z_neqT hq0), .o, .a 2, .b (z_neqF hq1), .o] [] (fun b => by kernel_rfl)
  · injection e with e; injection e with i0 i1 i2; subst i0 i1 i2; exact fn_specG hU (P := Try.prog) Try.func139 (fun xs w => by kernel_rfl) 2 _ _ (fun _ => rfl) _ _ _ [] [.o, .o, .o, .o, .o, .xg (ok0_region_area_can hU y1 y2 w0 w1 w2 w3 w4 g0_0 g0_1 e_g0) [0, 1], .o, .o, .b (z_neqF hq0), .o, .o] [] (fun b => by kernel_rfl)
inductive R_region_Mem_Store_v1 where
  | e0 (c0_0 : Nat → BitVec 8) (c0_1 : Bool) (c0_2 : Bool) (c0_3 : Int)
noncomputable def m_region_Mem_Store_v1 (y2 : Int) (y3 : Val) (w0 : Int) (w1 : Nat) (w2 : Bool) (w3 : Int) (w4 : Bool) (w5 : Nat → BitVec 8) : Option R_region_Mem_Store_v1 :=
  bif y3.fKind == 0 then
    (some (.e0 w5 w2 w4 1))
  else (bif m_region_rightSize_v2 y2 then
    ((m_region_Mem_find_v3 y2 w0 w1 w2 w3 w4 w5).bind fun g0 => match g0 with
    | .e0 g0_0 g0_1 => ((m_region_area_store g0_1 y2 y3 w1 w2 w3 g0_0 w5).bind fun g1 => match g1 with
      | .e0 g1_0 g1_1 g1_2 =>
      some (.e0 g1_0 g1_1 g0_0 g1_2))
    | .e1 g0_0 g0_1 => (bif g0_1 == 0 then
        (none)
      else (some (.e0 w5 w2 g0_0 g0_1))))
  else (some (.e0 w5 w2 w4 8)))
def sq0_region_Mem_Store_v1 (y2 : Int) (y3 : Val) (w0 : Int) (w1 : Nat) (w2 : Bool) (w3 : Int) (w4 : Bool) (w5 : Nat → BitVec 8) (c0_0 : Nat → BitVec 8) (c0_1 : Bool) (c0_2 : Bool) (c0_3 : Int) : Spc := ⟨fun ls => .call 18 #[.pointer (some ⟨(lget ls 0).n, 0, none⟩), .agg #[.int .i64 (5), .int .u64 (0), .int .i64 (1), .int .i64 (w0)], .int .i64 (y2), (v_Val y3)], fun ls => [.cells #[.map (some (lget ls 1).n), .int .i64 (1)] 91, .map #[⟨.int .i64 (1), .iface 107 (.pointer (some ⟨(lget ls 2).n, 0, none⟩)), 0⟩] 1, .cells #[(rowV (lget ls 3) w1 1), .bool (w2), .int .i64 (w3), .bool (w4)] 110, rowO (lget ls 3) (esG cu8 w1 w5) 5 w1 1], 0, .normal, fun ls => [.int .i64 (c0_3)], fun ls => [.cells #[.map (some (lget ls 1).n), .int .i64 (1)] 91, .map #[⟨.int .i64 (1), .iface 107 (.pointer (some ⟨(lget ls 2).n, 0, none⟩)), 0⟩] 1, .cells #[(rowV (lget ls 3) w1 1), .bool (c0_1), .int .i64 (w3), .bool (c0_2)] 110, rowO (lget ls 3) (esG cu8 w1 c0_0) 5 w1 1], fun ls => []⟩
theorem ok0_region_Mem_Store_v1 (y2 : Int) (y3 : Val) (w0 : Int) (w1 : Nat) (w2 : Bool) (w3 : Int) (w4 : Bool) (w5 : Nat → BitVec 8) (c0_0 : Nat → BitVec 8) (c0_1 : Bool) (c0_2 : Bool) (c0_3 : Int) (e : m_region_Mem_Store_v1 y2 y3 w0 w1 w2 w3 w4 w5 = some (.e0 c0_0 c0_1 c0_2 c0_3)) : SpcG Try.prog M B0 S (sq0_region_Mem_Store_v1 y2 y3 w0 w1 w2 w3 w4 w5 c0_0 c0_1 c0_2 c0_3) := by
  unfold m_region_Mem_Store_v1 at e
  replace e := cond_eq_or e
  rcases e with ⟨hq0, e⟩ | ⟨hq0, e⟩
  · injection e with e; injection e with i0 i1 i2 i3; subst i0 i1 i2 i3; exact fn_specG hU (P := Try.prog) Try.func18 (fun xs w => by kernel_rfl) 4 _ _ (fun _ => rfl) _ _ _ [] [.o, .o, .o, .a 4, .cg (ok_region_kindTrap_v1 hU w0 ), .o, .o, .o, .o, .o, .a 5, .b (z_eqlT hq0), .o, .o] [] (fun b => by kernel_rfl)
  · replace e := cond_eq_or e
    rcases e with ⟨hq1, e⟩ | ⟨hq1, e⟩
    · replace e := bindO_eq e
      obtain ⟨g0, e_g0, e⟩ := e
      rcases g0 with ⟨g0_0, g0_1⟩ | ⟨g0_0, g0_1⟩
      · try dsimp only at e
        replace e := bindO_eq e
        obtain ⟨g1, e_g1, e⟩ := e
        obtain ⟨g1_0, g1_1, g1_2⟩ := g1
        try dsimp only at e
        injection e with e; injection e with i0 i1 i2 i3; subst i0 i1 i2 i3; exact fn_specG hU (P := Try.prog) Try.func18 (fun xs w => by kernel_rfl) 4 _ _ (fun _ => rfl) _ _ _ [] [.o, .o, .o, .a 4, .cg (ok_region_kindTrap_v1 hU w0 ), .o, .o, .o, .o, .o, .a 5, .b (z_eqlF hq0), .o, .o, .cg (ok_region_rightSize_v2 hU y2 true hq1), .o, .o, .o, .a 4, .o, .xg (ok0_region_Mem_find_v3 hU y2 w0 w1 w2 w3 w4 w5 g0_0 g0_1 e_g0) [0, 1, 2, 3], .o, .o, .o, .o, .o, .o, .o, .o, .o, .o, .o, .o, .a 5, .xg (ok0_region_area_store hU g0_1 y2 y3 w1 w2 w3 g0_0 w5 g1_0 g1_1 g1_2 e_g1) [2, 3], .o] [] (fun b => by kernel_rfl)
      · try dsimp only at e
        replace e := cond_eq_or e
        rcases e with ⟨hq2, e⟩ | ⟨hq2, e⟩
        · exact none_some e
        · injection e with e; injection e with i0 i1 i2 i3; subst i0 i1 i2 i3; exact fn_specG hU (P := Try.prog) Try.func18 (fun xs w => by kernel_rfl) 4 _ _ (fun _ => rfl) _ _ _ [] [.o, .o, .o, .a 4, .cg (ok_region_kindTrap_v1 hU w0 ), .o, .o, .o, .o, .o, .a 5, .b (z_eqlF hq0), .o, .o, .cg (ok_region_rightSize_v2 hU y2 true hq1), .o, .o, .o, .a 4, .o, .xg (ok1_region_Mem_find_v3 hU y2 w0 w1 w2 w3 w4 w5 g0_0 g0_1 e_g0) [0, 1, 2, 3], .o, .o, .o, .o, .o, .o, .o, .o, .b (z_neqF hq2), .o, .o] [] (fun b => by kernel_rfl)
    · injection e with e; injection e with i0 i1 i2 i3; subst i0 i1 i2 i3; exact fn_specG hU (P := Try.prog) Try.func18 (fun xs w => by kernel_rfl) 4 _ _ (fun _ => rfl) _ _ _ [] [.o, .o, .o, .a 4, .cg (ok_region_kindTrap_v1 hU w0 ), .o, .o, .o, .o, .o, .a 5, .b (z_eqlF hq0), .o, .o, .cg (ok_region_rightSize_v2 hU y2 false hq1), .o, .o, .o] [] (fun b => by kernel_rfl)
inductive R_region_Mem_Kill where
  | e0 (c0_0 : Bool)
noncomputable def m_region_Mem_Kill (w0 : Nat) (w1 : Bool) (w2 : Int) (w3 : Bool) (w4 : Nat → BitVec 8) : Option R_region_Mem_Kill :=
  bif w3 then
    (some (.e0 false))
  else (some (.e0 true))
def sq0_region_Mem_Kill (w0 : Nat) (w1 : Bool) (w2 : Int) (w3 : Bool) (w4 : Nat → BitVec 8) (c0_0 : Bool) : Spc := ⟨fun ls => .call 21 #[.pointer (some ⟨(lget ls 0).n, 0, none⟩), .int .i64 (1)], fun ls => [.cells #[.map (some (lget ls 1).n), .int .i64 (1)] 91, .map #[⟨.int .i64 (1), .iface 107 (.pointer (some ⟨(lget ls 2).n, 0, none⟩)), 0⟩] 1, .cells #[(rowV (lget ls 3) w0 1), .bool (w1), .int .i64 (w2), .bool (w3)] 110, rowO (lget ls 3) (esG cu8 w0 w4) 5 w0 1], 0, .normal, fun ls => [.bool (c0_0)], fun ls => [.cells #[.map (some (lget ls 1).n), .int .i64 (1)] 91, .map #[⟨.int .i64 (1), .iface 107 (.pointer (some ⟨(lget ls 2).n, 0, none⟩)), 0⟩] 1, .cells #[(rowV (lget ls 3) w0 1), .bool (w1), .int .i64 (w2), .bool true] 110, rowO (lget ls 3) (esG cu8 w0 w4) 5 w0 1], fun ls => []⟩
theorem ok0_region_Mem_Kill (w0 : Nat) (w1 : Bool) (w2 : Int) (w3 : Bool) (w4 : Nat → BitVec 8) (c0_0 : Bool) (e : m_region_Mem_Kill w0 w1 w2 w3 w4 = some (.e0 c0_0)) : SpcG Try.prog M B0 S (sq0_region_Mem_Kill w0 w1 w2 w3 w4 c0_0) := by
  unfold m_region_Mem_Kill at e
  replace e := cond_eq_or e
  rcases e with ⟨hq0, e⟩ | ⟨hq0, e⟩
  · subst hq0
    injection e with e; injection e with i0; subst i0; exact fn_specG hU (P := Try.prog) Try.func21 (fun xs w => by kernel_rfl) 4 _ _ (fun _ => rfl) _ _ _ [] [.o, .o, .o, .o, .a 0, .o, .a 1, .o, .o, .o, .o, .o, .o, .o, .o, .o, .o, .a 2, .o, .o, .o, .o, .o, .a 2, .o, .o] [] (fun b => by kernel_rfl)
  · subst hq0
    injection e with e; injection e with i0; subst i0; exact fn_specG hU (P := Try.prog) Try.func21 (fun xs w => by kernel_rfl) 4 _ _ (fun _ => rfl) _ _ _ [] [.o, .o, .o, .o, .a 0, .o, .a 1, .o, .o, .o, .o, .o, .o, .o, .o, .o, .o, .a 2, .o, .o, .o, .o, .o, .a 2, .o, .o] [] (fun b => by kernel_rfl)
inductive Ex_barbicanlaw8_RegionEnds_J0 where
  | e0 (c0_0 : Bool)
noncomputable def jp_barbicanlaw8_RegionEnds_J0 (y0 : Int) (y1 : Int) (y2 : Int) : Bool :=
  bif decide (y0 < 0) then
    (true)
  else (bif decide (300 < y0) then
    (true)
  else (bif decide (y1 < (-400)) then
    (true)
  else (bif decide (400 < y1) then
    (true)
  else (bif y2 == 1 then
    (false)
  else (bif y2 == 2 then
    (false)
  else (bif y2 == 4 then
    (false)
  else (bif y2 == 8 then
    (false)
  else (true))))))))
noncomputable def bd_barbicanlaw8_RegionEnds_J0 : Code := codeOf Try.f4 [1, 1, 0, 0]
def fl_barbicanlaw8_RegionEnds_J0 (y0 : Int) (y1 : Int) (y2 : Int) (y3 : Bool) (ls : List L1) : List Value := [.int .i64 (y0), .int .i64 (y1), .int .i64 (y2), .bool (y3), .bool false]
noncomputable def fr_barbicanlaw8_RegionEnds_J0 (y0 : Int) (y1 : Int) (y2 : Int) (y3 : Bool) : List L1 → List Value := mrgF [(4, 4), (1, 127)] (fl_barbicanlaw8_RegionEnds_J0 y0 y1 y2 y3) 0
def Hs_barbicanlaw8_RegionEnds_J0 (y0 : Int) (y1 : Int) (y2 : Int) (y3 : Bool) (ls : List L1) : List Obj := [unb]
def vl_barbicanlaw8_RegionEnds_J0 (y0 : Int) (y1 : Int) (y2 : Int) (y3 : Bool) : Ex_barbicanlaw8_RegionEnds_J0 → List L1 → List Value
  | .e0 c0_0, ls => [.int .i64 (y0), .int .i64 (y1), .int .i64 (y2), .bool (y3), .bool false, .bool (c0_0)]
def mk_barbicanlaw8_RegionEnds_J0 : Ex_barbicanlaw8_RegionEnds_J0 → List (Nat × Nat)
  | .e0 _ => [(4, 4), (1, 38), (1, 88)]
noncomputable def vf_barbicanlaw8_RegionEnds_J0 (y0 : Int) (y1 : Int) (y2 : Int) (y3 : Bool) (r : Ex_barbicanlaw8_RegionEnds_J0) : List L1 → List Value := mrgF (mk_barbicanlaw8_RegionEnds_J0 r) (vl_barbicanlaw8_RegionEnds_J0 y0 y1 y2 y3 r) 0
def Hf_barbicanlaw8_RegionEnds_J0 (y0 : Int) (y1 : Int) (y2 : Int) (y3 : Bool) : Ex_barbicanlaw8_RegionEnds_J0 → List L1 → List Obj
  | .e0 c0_0, ls => [unb]
def ex_barbicanlaw8_RegionEnds_J0 : Ex_barbicanlaw8_RegionEnds_J0 → Ex
  | .e0 _ => .normal
end
section
variable {M : Nat → Prop} {B0 : Nat} {S : World → Prop} (hU : Up M B0 S) (y0 : Int) (y1 : Int) (y2 : Int) (y3 : Bool) (c0_0 : Bool)
include hU y0 y1 y2 y3 c0_0
theorem go_barbicanlaw8_RegionEnds_J0 (e : jp_barbicanlaw8_RegionEnds_J0 y0 y1 y2 = c0_0) : GoesG Try.prog M B0 S bd_barbicanlaw8_RegionEnds_J0 1 (fr_barbicanlaw8_RegionEnds_J0 y0 y1 y2 y3) (Hs_barbicanlaw8_RegionEnds_J0 y0 y1 y2 y3) (ex_barbicanlaw8_RegionEnds_J0 (.e0 c0_0)) 0 (vf_barbicanlaw8_RegionEnds_J0 y0 y1 y2 y3 (.e0 c0_0)) (Hf_barbicanlaw8_RegionEnds_J0 y0 y1 y2 y3 (.e0 c0_0)) 1 := by
  unfold jp_barbicanlaw8_RegionEnds_J0 at e
  replace e := cond_eq_or e
  rcases e with ⟨hq0, e⟩ | ⟨hq0, e⟩
  · subst e; exact goes_runM hU [.o, .b (z_lssT hq0), .o, .o, .o, .o, .o, .o, .o, .o] [] (fun b => rfl) (by decide) rfl rfl (fun b => by kernel_rfl)
  · replace e := cond_eq_or e
    rcases e with ⟨hq1, e⟩ | ⟨hq1, e⟩
    · subst e; exact goes_runM hU [.o, .b (z_lssF hq0), .o, .o, .b (z_gtrT hq1), .o, .o, .o, .o, .o, .o, .o] [] (fun b => rfl) (by decide) rfl rfl (fun b => by kernel_rfl)
    · replace e := cond_eq_or e
      rcases e with ⟨hq2, e⟩ | ⟨hq2, e⟩
      · subst e; exact goes_runM hU [.o, .b (z_lssF hq0), .o, .o, .b (z_gtrF hq1), .o, .o, .o, .b (z_lssT hq2), .o, .o, .o, .o, .o] [] (fun b => rfl) (by decide) rfl rfl (fun b => by kernel_rfl)
      · replace e := cond_eq_or e
        rcases e with ⟨hq3, e⟩ | ⟨hq3, e⟩
        · subst e; exact goes_runM hU [.o, .b (z_lssF hq0), .o, .o, .b (z_gtrF hq1), .o, .o, .o, .b (z_lssF hq2), .o, .o, .o, .b (z_gtrT hq3), .o, .o, .o] [] (fun b => rfl) (by decide) rfl rfl (fun b => by kernel_rfl)
        · replace e := cond_eq_or e
          rcases e with ⟨hq4, e⟩ | ⟨hq4, e⟩
          · subst e; exact goes_runM hU [.o, .b (z_lssF hq0), .o, .o, .b (z_gtrF hq1), .o, .o, .o, .b (z_lssF hq2), .o, .o, .o, .b (z_gtrF hq3), .o, .o, .o, .b (z_neqT hq4), .o, .o, .o, .o, .o, .o, .o] [] (fun b => rfl) (by decide) rfl rfl (fun b => by kernel_rfl)
          · replace e := cond_eq_or e
            rcases e with ⟨hq5, e⟩ | ⟨hq5, e⟩
            · subst e; exact goes_runM hU [.o, .b (z_lssF hq0), .o, .o, .b (z_gtrF hq1), .o, .o, .o, .b (z_lssF hq2), .o, .o, .o, .b (z_gtrF hq3), .o, .o, .o, .b (z_neqF hq4), .o, .o, .b (z_neqT hq5), .o, .o, .o, .o, .o, .o] [] (fun b => rfl) (by decide) rfl rfl (fun b => by kernel_rfl)
            · replace e := cond_eq_or e
              rcases e with ⟨hq6, e⟩ | ⟨hq6, e⟩
              · subst e; exact goes_runM hU [.o, .b (z_lssF hq0), .o, .o, .b (z_gtrF hq1), .o, .o, .o, .b (z_lssF hq2), .o, .o, .o, .b (z_gtrF hq3), .o, .o, .o, .b (z_neqF hq4), .o, .o, .b (z_neqF hq5), .o, .o, .o, .b (z_neqT hq6), .o, .o, .o, .o] [] (fun b => rfl) (by decide) rfl rfl (fun b => by kernel_rfl)
              · replace e := cond_eq_or e
                rcases e with ⟨hq7, e⟩ | ⟨hq7, e⟩
                · subst e; exact goes_runM hU [.o, .b (z_lssF hq0), .o, .o, .b (z_gtrF hq1), .o, .o, .o, .b (z_lssF hq2), .o, .o, .o, .b (z_gtrF hq3), .o, .o, .o, .b (z_neqF hq4), .o, .o, .b (z_neqF hq5), .o, .o, .o, .b (z_neqF hq6), .o, .o, .o, .b (z_neqT hq7), .o, .o] [] (fun b => rfl) (by decide) rfl rfl (fun b => by kernel_rfl)
                · subst e; exact goes_runM hU [.o, .b (z_lssF hq0), .o, .o, .b (z_gtrF hq1), .o, .o, .o, .b (z_lssF hq2), .o, .o, .o, .b (z_gtrF hq3), .o, .o, .o, .b (z_neqF hq4), .o, .o, .b (z_neqF hq5), .o, .o, .o, .b (z_neqF hq6), .o, .o, .o, .b (z_neqF hq7), .o, .o] [] (fun b => rfl) (by decide) rfl rfl (fun b => by kernel_rfl)
def pre_barbicanlaw8_RegionEnds_J0 (y0 : Int) (y1 : Int) (y2 : Int) (y3 : Bool) (ls : List L1) : List Obj := []
noncomputable def t0_barbicanlaw8_RegionEnds_J0 (y0 : Int) (y1 : Int) (y2 : Int) (y3 : Bool) (ls : List L1) : List Value := List.append [.int .i64 (y0), .int .i64 (y1), .int .i64 (y2), .bool (y3)] (List.append (und 4) (List.append [.bool false] (List.append (und 7) (List.append [.bool true, .bool false] (und 118)))))
theorem sp0_barbicanlaw8_RegionEnds_J0_ok (h : jp_barbicanlaw8_RegionEnds_J0 y0 y1 y2 = c0_0) : SpcG Try.prog M B0 S (spcJ bd_barbicanlaw8_RegionEnds_J0 (t0_barbicanlaw8_RegionEnds_J0 y0 y1 y2 y3) (pre_barbicanlaw8_RegionEnds_J0 y0 y1 y2 y3) 0 0 .normal (vf_barbicanlaw8_RegionEnds_J0 y0 y1 y2 y3 (.e0 c0_0)) (Hf_barbicanlaw8_RegionEnds_J0 y0 y1 y2 y3 (.e0 c0_0))) :=
  spcJ_ok hU (go_barbicanlaw8_RegionEnds_J0 hU y0 y1 y2 y3 c0_0 h) (fun _ => rfl) (fun ls h => by match ls, h with | [], _ => exact ⟨by kernel_rfl, by kernel_rfl⟩) (fun ls h => by match ls, h with | [], _ => rfl) (fun ls => rfl)
inductive Ex_barbicanlaw8_RegionEnds_J1 where
  | e0 (c0_0 : Bool)
noncomputable def jp_barbicanlaw8_RegionEnds_J1 (y0 : Int) (y1 : Int) (y2 : Int) : Bool :=
  bif decide (0 ≤ y1) then
    (bif decide ((IntKind.i64.wrap (y1 + y2)) ≤ y0) then
      (true)
    else (false))
  else (false)
noncomputable def bd_barbicanlaw8_RegionEnds_J1 : Code := codeOf Try.f4 [1, 1, 1, 1, 1, 1, 0]
def fl_barbicanlaw8_RegionEnds_J1 (y0 : Int) (y1 : Int) (y2 : Int) (y3 : Bool) (g1_0 : Nat → BitVec 8) (g1_1 : Int) (ls : List L1) : List Value := [.int .i64 (y0), .int .i64 (y1), .int .i64 (y2), .bool (y3), .bool false, .pointer (some ⟨(lget ls 1).n, 0, none⟩), .int .i64 (1), .pointer (some ⟨(lget ls 6).n, 0, none⟩)]
noncomputable def fr_barbicanlaw8_RegionEnds_J1 (y0 : Int) (y1 : Int) (y2 : Int) (y3 : Bool) (g1_0 : Nat → BitVec 8) (g1_1 : Int) : List L1 → List Value := mrgF [(4, 4), (4, 124)] (fl_barbicanlaw8_RegionEnds_J1 y0 y1 y2 y3 g1_0 g1_1) 7
def Hs_barbicanlaw8_RegionEnds_J1 (y0 : Int) (y1 : Int) (y2 : Int) (y3 : Bool) (g1_0 : Nat → BitVec 8) (g1_1 : Int) (ls : List L1) : List Obj := [unb, .cells #[.map (some (lget ls 2).n), .int .i64 (1)] 91, .map #[⟨.int .i64 (1), .iface 107 (.pointer (some ⟨(lget ls 4).n, 0, none⟩)), 0⟩] 1, rowO (lget ls 3) (esG cu8 (y0).toNat (fun _ => 0#8)) 5 (y0).toNat 1, .cells #[(rowV (lget ls 5) (0 + (y0).toNat) 1), .bool (y3), .int .i64 (g1_1), .bool false] 110, rowO (lget ls 5) (esG cu8 (0 + (y0).toNat) g1_0) 5 (0 + (y0).toNat) 1, .cells #[.int .i64 (5), .int .u64 (0), .int .i64 (1), .int .i64 (y1)] 28, unb]
def vl_barbicanlaw8_RegionEnds_J1 (y0 : Int) (y1 : Int) (y2 : Int) (y3 : Bool) (g1_0 : Nat → BitVec 8) (g1_1 : Int) : Ex_barbicanlaw8_RegionEnds_J1 → List L1 → List Value
  | .e0 c0_0, ls => [.int .i64 (y2), .bool (y3), .bool false, .pointer (some ⟨(lget ls 1).n, 0, none⟩), .int .i64 (1), .pointer (some ⟨(lget ls 6).n, 0, none⟩), .bool (c0_0)]
def mk_barbicanlaw8_RegionEnds_J1 : Ex_barbicanlaw8_RegionEnds_J1 → List (Nat × Nat)
  | .e0 _ => [(0, 2), (2, 4), (5, 123)]
noncomputable def vf_barbicanlaw8_RegionEnds_J1 (y0 : Int) (y1 : Int) (y2 : Int) (y3 : Bool) (g1_0 : Nat → BitVec 8) (g1_1 : Int) (r : Ex_barbicanlaw8_RegionEnds_J1) : List L1 → List Value := mrgF (mk_barbicanlaw8_RegionEnds_J1 r) (vl_barbicanlaw8_RegionEnds_J1 y0 y1 y2 y3 g1_0 g1_1 r) 7
def Hf_barbicanlaw8_RegionEnds_J1 (y0 : Int) (y1 : Int) (y2 : Int) (y3 : Bool) (g1_0 : Nat → BitVec 8) (g1_1 : Int) : Ex_barbicanlaw8_RegionEnds_J1 → List L1 → List Obj
  | .e0 c0_0, ls => [unb, .cells #[.map (some (lget ls 2).n), .int .i64 (1)] 91, .map #[⟨.int .i64 (1), .iface 107 (.pointer (some ⟨(lget ls 4).n, 0, none⟩)), 0⟩] 1, rowO (lget ls 3) (esG cu8 (y0).toNat (fun _ => 0#8)) 5 (y0).toNat 1, .cells #[(rowV (lget ls 5) (0 + (y0).toNat) 1), .bool (y3), .int .i64 (g1_1), .bool false] 110, rowO (lget ls 5) (esG cu8 (0 + (y0).toNat) g1_0) 5 (0 + (y0).toNat) 1, .cells #[.int .i64 (5), .int .u64 (0), .int .i64 (1), .int .i64 (y1)] 28, unb]
def ex_barbicanlaw8_RegionEnds_J1 : Ex_barbicanlaw8_RegionEnds_J1 → Ex
  | .e0 _ => .normal
end
section
variable {M : Nat → Prop} {B0 : Nat} {S : World → Prop} (hU : Up M B0 S) (y0 : Int) (y1 : Int) (y2 : Int) (y3 : Bool) (g1_0 : Nat → BitVec 8) (g1_1 : Int) (c0_0 : Bool)
include hU y0 y1 y2 y3 g1_0 g1_1 c0_0
theorem go_barbicanlaw8_RegionEnds_J1 (e : jp_barbicanlaw8_RegionEnds_J1 y0 y1 y2 = c0_0) : GoesG Try.prog M B0 S bd_barbicanlaw8_RegionEnds_J1 8 (fr_barbicanlaw8_RegionEnds_J1 y0 y1 y2 y3 g1_0 g1_1) (Hs_barbicanlaw8_RegionEnds_J1 y0 y1 y2 y3 g1_0 g1_1) (ex_barbicanlaw8_RegionEnds_J1 (.e0 c0_0)) 7 (vf_barbicanlaw8_RegionEnds_J1 y0 y1 y2 y3 g1_0 g1_1 (.e0 c0_0)) (Hf_barbicanlaw8_RegionEnds_J1 y0 y1 y2 y3 g1_0 g1_1 (.e0 c0_0)) 8 := by
  unfold jp_barbicanlaw8_RegionEnds_J1 at e
  replace e := cond_eq_or e
  rcases e with ⟨hq0, e⟩ | ⟨hq0, e⟩
  · replace e := cond_eq_or e
    rcases e with ⟨hq1, e⟩ | ⟨hq1, e⟩
    · subst e; exact goes_runM hU [.o, .b (z_geqT hq0), .o, .o, .o, .o, .o, .b (z_leqT hq1), .o, .o] [0, 1, 2, 3, 4, 5, 6] (fun b => rfl) (by decide) rfl rfl (fun b => by kernel_rfl)
    · subst e; exact goes_runM hU [.o, .b (z_geqT hq0), .o, .o, .o, .o, .o, .b (z_leqF hq1), .o, .o] [0, 1, 2, 3, 4, 5, 6] (fun b => rfl) (by decide) rfl rfl (fun b => by kernel_rfl)
  · subst e; exact goes_runM hU [.o, .b (z_geqF hq0), .o, .o, .o] [0, 1, 2, 3, 4, 5, 6] (fun b => rfl) (by decide) rfl rfl (fun b => by kernel_rfl)
def pre_barbicanlaw8_RegionEnds_J1 (y0 : Int) (y1 : Int) (y2 : Int) (y3 : Bool) (g1_0 : Nat → BitVec 8) (g1_1 : Int) (ls : List L1) : List Obj := [unb, .cells #[.map (some (lget ls 2).n), .int .i64 (1)] 91, .map #[⟨.int .i64 (1), .iface 107 (.pointer (some ⟨(lget ls 4).n, 0, none⟩)), 0⟩] 1, rowO (lget ls 3) (esG cu8 (y0).toNat (fun _ => 0#8)) 5 (y0).toNat 1, .cells #[(rowV (lget ls 5) (0 + (y0).toNat) 1), .bool (y3), .int .i64 (g1_1), .bool false] 110, rowO (lget ls 5) (esG cu8 (0 + (y0).toNat) g1_0) 5 (0 + (y0).toNat) 1, .cells #[.int .i64 (5), .int .u64 (0), .int .i64 (1), .int .i64 (y1)] 28]
noncomputable def t0_barbicanlaw8_RegionEnds_J1 (y0 : Int) (y1 : Int) (y2 : Int) (y3 : Bool) (g1_0 : Nat → BitVec 8) (g1_1 : Int) (ls : List L1) : List Value := List.append [.int .i64 (y0), .int .i64 (y1), .int .i64 (y2), .bool (y3)] (List.append (jks (lget ls 0).u 4 4) (List.append [.bool false, .pointer (some ⟨(lget ls 1).n, 0, none⟩), .int .i64 (1), .pointer (some ⟨(lget ls 6).n, 0, none⟩)] (List.append (jks (lget ls 0).u 12 35) (List.append [.bool false, .pointer (some ⟨(lget ls 1).n, 0, none⟩), .pointer (some ⟨(lget ls 1).n, 0, none⟩), .int .i64 (y0), (rowV (lget ls 3) (y0).toNat 1), .bool (y3), .int .i64 (1), .int .i64 (1), .int .i64 (y1), .agg #[.int .i64 (5), .int .u64 (0), .int .i64 (1), .int .i64 (y1)]] (jks (lget ls 0).u 57 79)))))
theorem sp0_barbicanlaw8_RegionEnds_J1_ok (h : jp_barbicanlaw8_RegionEnds_J1 y0 y1 y2 = c0_0) : SpcG Try.prog M B0 S (spcJ bd_barbicanlaw8_RegionEnds_J1 (t0_barbicanlaw8_RegionEnds_J1 y0 y1 y2 y3 g1_0 g1_1) (pre_barbicanlaw8_RegionEnds_J1 y0 y1 y2 y3 g1_0 g1_1) 7 0 .normal (vf_barbicanlaw8_RegionEnds_J1 y0 y1 y2 y3 g1_0 g1_1 (.e0 c0_0)) (Hf_barbicanlaw8_RegionEnds_J1 y0 y1 y2 y3 g1_0 g1_1 (.e0 c0_0))) :=
  spcJ_ok hU (go_barbicanlaw8_RegionEnds_J1 hU y0 y1 y2 y3 g1_0 g1_1 c0_0 h) (fun _ => rfl) (fun ls h => by match ls, h with | [l0, l1, l2, l3, l4, l5, l6], _ => exact ⟨by kernel_rfl, by kernel_rfl⟩) (fun ls h => by match ls, h with | [l0, l1, l2, l3, l4, l5, l6], _ => rfl) (fun ls => rfl)
inductive Ex_barbicanlaw8_RegionEnds_J2 where
  | e0 (c0_0 : Bool)
noncomputable def jp_barbicanlaw8_RegionEnds_J2 (y3 : Bool) (r2 : Bool) (g3_5 : Int) (g4_3 : Int) : Bool :=
  bif (g3_5 == 0) != r2 then
    (true)
  else (bif g3_5 == 0 then
    (bif r2 then
      (bif (g4_3 == 0) != y3 then
        (true)
      else (bif y3 then
        (false)
      else (bif g4_3 == 5 then
        (false)
      else (true))))
    else (bif (g4_3 == 0) != false then
      (true)
    else (false)))
  else (bif g3_5 == 3 then
    (bif r2 then
      (bif (g4_3 == 0) != y3 then
        (true)
      else (bif y3 then
        (false)
      else (bif g4_3 == 5 then
        (false)
      else (true))))
    else (bif (g4_3 == 0) != false then
      (true)
    else (false)))
  else (true)))
noncomputable def bd_barbicanlaw8_RegionEnds_J2 : Code := codeOf Try.f4 [1, 1, 1, 1, 1, 1, 1, 1, 1, 0, 0]
def fl_barbicanlaw8_RegionEnds_J2 (y0 : Int) (y1 : Int) (y2 : Int) (y3 : Bool) (g1_1 : Int) (r2 : Bool) (g3_1 : Int) (g3_2 : BitVec 64) (g3_3 : Int) (g3_4 : Int) (g3_5 : Int) (g4_0 : Nat → BitVec 8) (g4_1 : Bool) (g4_2 : Bool) (g4_3 : Int) (ls : List L1) : List Value := [.int .i64 (y2), .bool (y3), .bool false, .pointer (some ⟨(lget ls 1).n, 0, none⟩), .int .i64 (1), .pointer (some ⟨(lget ls 6).n, 0, none⟩), .bool (r2), .int .i64 (g3_5), .int .i64 (g4_3)]
noncomputable def fr_barbicanlaw8_RegionEnds_J2 (y0 : Int) (y1 : Int) (y2 : Int) (y3 : Bool) (g1_1 : Int) (r2 : Bool) (g3_1 : Int) (g3_2 : BitVec 64) (g3_3 : Int) (g3_4 : Int) (g3_5 : Int) (g4_0 : Nat → BitVec 8) (g4_1 : Bool) (g4_2 : Bool) (g4_3 : Int) : List L1 → List Value := mrgF [(0, 2), (2, 4), (5, 1), (2, 120)] (fl_barbicanlaw8_RegionEnds_J2 y0 y1 y2 y3 g1_1 r2 g3_1 g3_2 g3_3 g3_4 g3_5 g4_0 g4_1 g4_2 g4_3) 9
def Hs_barbicanlaw8_RegionEnds_J2 (y0 : Int) (y1 : Int) (y2 : Int) (y3 : Bool) (g1_1 : Int) (r2 : Bool) (g3_1 : Int) (g3_2 : BitVec 64) (g3_3 : Int) (g3_4 : Int) (g3_5 : Int) (g4_0 : Nat → BitVec 8) (g4_1 : Bool) (g4_2 : Bool) (g4_3 : Int) (ls : List L1) : List Obj := [unb, .cells #[.map (some (lget ls 2).n), .int .i64 (1)] 91, .map #[⟨.int .i64 (1), .iface 107 (.pointer (some ⟨(lget ls 4).n, 0, none⟩)), 0⟩] 1, rowO (lget ls 3) (esG cu8 (y0).toNat (fun _ => 0#8)) 5 (y0).toNat 1, .cells #[(rowV (lget ls 5) (0 + (y0).toNat) 1), .bool (g4_1), .int .i64 (g1_1), .bool (g4_2)] 110, rowO (lget ls 5) (esG cu8 (0 + (y0).toNat) g4_0) 5 (0 + (y0).toNat) 1, .cells #[.int .i64 (5), .int .u64 (0), .int .i64 (1), .int .i64 (y1)] 28, unb, .cells #[.int .i64 (g3_1), .int .u64 (nn g3_2), .int .i64 (g3_3), .int .i64 (g3_4)] 28, unb]
def vl_barbicanlaw8_RegionEnds_J2 (y0 : Int) (y1 : Int) (y2 : Int) (y3 : Bool) (g1_1 : Int) (r2 : Bool) (g3_1 : Int) (g3_2 : BitVec 64) (g3_3 : Int) (g3_4 : Int) (g3_5 : Int) (g4_0 : Nat → BitVec 8) (g4_1 : Bool) (g4_2 : Bool) (g4_3 : Int) : Ex_barbicanlaw8_RegionEnds_J2 → List L1 → List Value
  | .e0 c0_0, ls => [.int .i64 (y2), .bool false, .pointer (some ⟨(lget ls 1).n, 0, none⟩), .int .i64 (1), .pointer (some ⟨(lget ls 6).n, 0, none⟩), .int .i64 (g3_5), .bool (c0_0)]
def mk_barbicanlaw8_RegionEnds_J2 : Ex_barbicanlaw8_RegionEnds_J2 → List (Nat × Nat)
  | .e0 _ => [(0, 2), (1, 5), (4, 2), (1, 94), (1, 26)]
noncomputable def vf_barbicanlaw8_RegionEnds_J2 (y0 : Int) (y1 : Int) (y2 : Int) (y3 : Bool) (g1_1 : Int) (r2 : Bool) (g3_1 : Int) (g3_2 : BitVec 64) (g3_3 : Int) (g3_4 : Int) (g3_5 : Int) (g4_0 : Nat → BitVec 8) (g4_1 : Bool) (g4_2 : Bool) (g4_3 : Int) (r : Ex_barbicanlaw8_RegionEnds_J2) : List L1 → List Value := mrgF (mk_barbicanlaw8_RegionEnds_J2 r) (vl_barbicanlaw8_RegionEnds_J2 y0 y1 y2 y3 g1_1 r2 g3_1 g3_2 g3_3 g3_4 g3_5 g4_0 g4_1 g4_2 g4_3 r) 9
def Hf_barbicanlaw8_RegionEnds_J2 (y0 : Int) (y1 : Int) (y2 : Int) (y3 : Bool) (g1_1 : Int) (r2 : Bool) (g3_1 : Int) (g3_2 : BitVec 64) (g3_3 : Int) (g3_4 : Int) (g3_5 : Int) (g4_0 : Nat → BitVec 8) (g4_1 : Bool) (g4_2 : Bool) (g4_3 : Int) : Ex_barbicanlaw8_RegionEnds_J2 → List L1 → List Obj
  | .e0 c0_0, ls => [unb, .cells #[.map (some (lget ls 2).n), .int .i64 (1)] 91, .map #[⟨.int .i64 (1), .iface 107 (.pointer (some ⟨(lget ls 4).n, 0, none⟩)), 0⟩] 1, rowO (lget ls 3) (esG cu8 (y0).toNat (fun _ => 0#8)) 5 (y0).toNat 1, .cells #[(rowV (lget ls 5) (0 + (y0).toNat) 1), .bool (g4_1), .int .i64 (g1_1), .bool (g4_2)] 110, rowO (lget ls 5) (esG cu8 (0 + (y0).toNat) g4_0) 5 (0 + (y0).toNat) 1, .cells #[.int .i64 (5), .int .u64 (0), .int .i64 (1), .int .i64 (y1)] 28, unb, .cells #[.int .i64 (g3_1), .int .u64 (nn g3_2), .int .i64 (g3_3), .int .i64 (g3_4)] 28, unb]
def ex_barbicanlaw8_RegionEnds_J2 : Ex_barbicanlaw8_RegionEnds_J2 → Ex
  | .e0 _ => .normal
end
section
variable {M : Nat → Prop} {B0 : Nat} {S : World → Prop} (hU : Up M B0 S) (y0 : Int) (y1 : Int) (y2 : Int) (y3 : Bool) (g1_1 : Int) (r2 : Bool) (g3_1 : Int) (g3_2 : BitVec 64) (g3_3 : Int) (g3_4 : Int) (g3_5 : Int) (g4_0 : Nat → BitVec 8) (g4_1 : Bool) (g4_2 : Bool) (g4_3 : Int) (c0_0 : Bool)
include hU y0 y1 y2 y3 g1_1 r2 g3_1 g3_2 g3_3 g3_4 g3_5 g4_0 g4_1 g4_2 g4_3 c0_0
theorem go_barbicanlaw8_RegionEnds_J2 (e : jp_barbicanlaw8_RegionEnds_J2 y3 r2 g3_5 g4_3 = c0_0) : GoesG Try.prog M B0 S bd_barbicanlaw8_RegionEnds_J2 10 (fr_barbicanlaw8_RegionEnds_J2 y0 y1 y2 y3 g1_1 r2 g3_1 g3_2 g3_3 g3_4 g3_5 g4_0 g4_1 g4_2 g4_3) (Hs_barbicanlaw8_RegionEnds_J2 y0 y1 y2 y3 g1_1 r2 g3_1 g3_2 g3_3 g3_4 g3_5 g4_0 g4_1 g4_2 g4_3) (ex_barbicanlaw8_RegionEnds_J2 (.e0 c0_0)) 9 (vf_barbicanlaw8_RegionEnds_J2 y0 y1 y2 y3 g1_1 r2 g3_1 g3_2 g3_3 g3_4 g3_5 g4_0 g4_1 g4_2 g4_3 (.e0 c0_0)) (Hf_barbicanlaw8_RegionEnds_J2 y0 y1 y2 y3 g1_1 r2 g3_1 g3_2 g3_3 g3_4 g3_5 g4_0 g4_1 g4_2 g4_3 (.e0 c0_0)) 10 := by
  unfold jp_barbicanlaw8_RegionEnds_J2 at e
  replace e := cond_eq_or e
  rcases e with ⟨hq0, e⟩ | ⟨hq0, e⟩
  · subst e; exact goes_runM hU [.o, .o, .o, .b hq0, .o, .o, .o, .o, .o, .o] [0, 1, 2, 3, 4, 5, 6, 7, 8] (fun b => rfl) (by decide) rfl rfl (fun b => by kernel_rfl)
  · replace e := cond_eq_or e
    rcases e with ⟨hq1, e⟩ | ⟨hq1, e⟩
    · replace e := cond_eq_or e
      rcases e with ⟨hq2, e⟩ | ⟨hq2, e⟩
      · replace e := cond_eq_or e
        rcases e with ⟨hq3, e⟩ | ⟨hq3, e⟩
        · subst e; exact goes_runM hU [.o, .o, .o, .b hq0, .o, .o, .b (z_neqT hq1), .o, .o, .o, .o, .o, .o, .b hq2, .o, .o, .o, .b hq3, .o, .o, .o] [0, 1, 2, 3, 4, 5, 6, 7, 8] (fun b => rfl) (by decide) rfl rfl (fun b => by kernel_rfl)
        · replace e := cond_eq_or e
          rcases e with ⟨hq4, e⟩ | ⟨hq4, e⟩
          · subst e; exact goes_runM hU [.o, .o, .o, .b hq0, .o, .o, .b (z_neqT hq1), .o, .o, .o, .o, .o, .o, .b hq2, .o, .o, .o, .b hq3, .o, .o, .b hq2, .o, .b hq4, .o, .o, .o, .o, .o] [0, 1, 2, 3, 4, 5, 6, 7, 8] (fun b => rfl) (by decide) rfl rfl (fun b => by kernel_rfl)
          · replace e := cond_eq_or e
            rcases e with ⟨hq5, e⟩ | ⟨hq5, e⟩
            · subst e; exact goes_runM hU [.o, .o, .o, .b hq0, .o, .o, .b (z_neqT hq1), .o, .o, .o, .o, .o, .o, .b hq2, .o, .o, .o, .b hq3, .o, .o, .b hq2, .o, .b hq4, .o, .o, .o, .o, .b (z_neqT hq5), .o, .o] [0, 1, 2, 3, 4, 5, 6, 7, 8] (fun b => rfl) (by decide) rfl rfl (fun b => by kernel_rfl)
            · subst e; exact goes_runM hU [.o, .o, .o, .b hq0, .o, .o, .b (z_neqT hq1), .o, .o, .o, .o, .o, .o, .b hq2, .o, .o, .o, .b hq3, .o, .o, .b hq2, .o, .b hq4, .o, .o, .o, .o, .b (z_neqF hq5), .o, .o] [0, 1, 2, 3, 4, 5, 6, 7, 8] (fun b => rfl) (by decide) rfl rfl (fun b => by kernel_rfl)
      · replace e := cond_eq_or e
        rcases e with ⟨hq3, e⟩ | ⟨hq3, e⟩
        · subst e; exact goes_runM hU [.o, .o, .o, .b hq0, .o, .o, .b (z_neqT hq1), .o, .o, .o, .o, .o, .o, .b hq2, .o, .o, .b hq3, .o, .o, .o] [0, 1, 2, 3, 4, 5, 6, 7, 8] (fun b => rfl) (by decide) rfl rfl (fun b => by kernel_rfl)
        · subst e; exact goes_runM hU [.o, .o, .o, .b hq0, .o, .o, .b (z_neqT hq1), .o, .o, .o, .o, .o, .o, .b hq2, .o, .o, .b hq3, .o, .o, .b hq2, .o, .o, .o, .o, .o] [0, 1, 2, 3, 4, 5, 6, 7, 8] (fun b => rfl) (by decide) rfl rfl (fun b => by kernel_rfl)
    · replace e := cond_eq_or e
      rcases e with ⟨hq2, e⟩ | ⟨hq2, e⟩
      · replace e := cond_eq_or e
        rcases e with ⟨hq3, e⟩ | ⟨hq3, e⟩
        · replace e := cond_eq_or e
          rcases e with ⟨hq4, e⟩ | ⟨hq4, e⟩
          · subst e; exact goes_runM hU [.o, .o, .o, .b hq0, .o, .o, .b (z_neqF hq1), .o, .o, .b (z_neqT hq2), .o, .o, .o, .o, .o, .b hq3, .o, .o, .o, .b hq4, .o, .o, .o] [0, 1, 2, 3, 4, 5, 6, 7, 8] (fun b => rfl) (by decide) rfl rfl (fun b => by kernel_rfl)
          · replace e := cond_eq_or e
            rcases e with ⟨hq5, e⟩ | ⟨hq5, e⟩
            · subst e; exact goes_runM hU [.o, .o, .o, .b hq0, .o, .o, .b (z_neqF hq1), .o, .o, .b (z_neqT hq2), .o, .o, .o, .o, .o, .b hq3, .o, .o, .o, .b hq4, .o, .o, .b hq3, .o, .b hq5, .o, .o, .o, .o, .o] [0, 1, 2, 3, 4, 5, 6, 7, 8] (fun b => rfl) (by decide) rfl rfl (fun b => by kernel_rfl)
            · replace e := cond_eq_or e
              rcases e with ⟨hq6, e⟩ | ⟨hq6, e⟩
              · subst e; exact goes_runM hU [.o, .o, .o, .b hq0, .o, .o, .b (z_neqF hq1), .o, .o, .b (z_neqT hq2), .o, .o, .o, .o, .o, .b hq3, .o, .o, .o, .b hq4, .o, .o, .b hq3, .o, .b hq5, .o, .o, .o, .o, .b (z_neqT hq6), .o, .o] [0, 1, 2, 3, 4, 5, 6, 7, 8] (fun b => rfl) (by decide) rfl rfl (fun b => by kernel_rfl)
              · subst e; exact goes_runM hU [.o, .o, .o, .b hq0, .o, .o, .b (z_neqF hq1), .o, .o, .b (z_neqT hq2), .o, .o, .o, .o, .o, .b hq3, .o, .o, .o, .b hq4, .o, .o, .b hq3, .o, .b hq5, .o, .o, .o, .o, .b (z_neqF hq6), .o, .o] [0, 1, 2, 3, 4, 5, 6, 7, 8] (fun b => rfl) (by decide) rfl rfl (fun b => by kernel_rfl)
        · replace e := cond_eq_or e
          rcases e with ⟨hq4, e⟩ | ⟨hq4, e⟩
          · subst e; exact goes_runM hU [.o, .o, .o, .b hq0, .o, .o, .b (z_neqF hq1), .o, .o, .b (z_neqT hq2), .o, .o, .o, .o, .o, .b hq3, .o, .o, .b hq4, .o, .o, .o] [0, 1, 2, 3, 4, 5, 6, 7, 8] (fun b => rfl) (by decide) rfl rfl (fun b => by kernel_rfl)
          · subst e; exact goes_runM hU [.o, .o, .o, .b hq0, .o, .o, .b (z_neqF hq1), .o, .o, .b (z_neqT hq2), .o, .o, .o, .o, .o, .b hq3, .o, .o, .b hq4, .o, .o, .b hq3, .o, .o, .o, .o, .o] [0, 1, 2, 3, 4, 5, 6, 7, 8] (fun b => rfl) (by decide) rfl rfl (fun b => by kernel_rfl)
      · subst e; exact goes_runM hU [.o, .o, .o, .b hq0, .o, .o, .b (z_neqF hq1), .o, .o, .b (z_neqF hq2), .o, .o, .o, .o, .o, .o] [0, 1, 2, 3, 4, 5, 6, 7, 8] (fun b => rfl) (by decide) rfl rfl (fun b => by kernel_rfl)
def pre_barbicanlaw8_RegionEnds_J2 (y0 : Int) (y1 : Int) (y2 : Int) (y3 : Bool) (g1_1 : Int) (r2 : Bool) (g3_1 : Int) (g3_2 : BitVec 64) (g3_3 : Int) (g3_4 : Int) (g3_5 : Int) (g4_0 : Nat → BitVec 8) (g4_1 : Bool) (g4_2 : Bool) (g4_3 : Int) (ls : List L1) : List Obj := [unb, .cells #[.map (some (lget ls 2).n), .int .i64 (1)] 91, .map #[⟨.int .i64 (1), .iface 107 (.pointer (some ⟨(lget ls 4).n, 0, none⟩)), 0⟩] 1, rowO (lget ls 3) (esG cu8 (y0).toNat (fun _ => 0#8)) 5 (y0).toNat 1, .cells #[(rowV (lget ls 5) (0 + (y0).toNat) 1), .bool (g4_1), .int .i64 (g1_1), .bool (g4_2)] 110, rowO (lget ls 5) (esG cu8 (0 + (y0).toNat) g4_0) 5 (0 + (y0).toNat) 1, .cells #[.int .i64 (5), .int .u64 (0), .int .i64 (1), .int .i64 (y1)] 28, unb, .cells #[.int .i64 (g3_1), .int .u64 (nn g3_2), .int .i64 (g3_3), .int .i64 (g3_4)] 28]
noncomputable def t0_barbicanlaw8_RegionEnds_J2 (y0 : Int) (y1 : Int) (y2 : Int) (y3 : Bool) (g1_1 : Int) (r2 : Bool) (g3_1 : Int) (g3_2 : BitVec 64) (g3_3 : Int) (g3_4 : Int) (g3_5 : Int) (g4_0 : Nat → BitVec 8) (g4_1 : Bool) (g4_2 : Bool) (g4_3 : Int) (ls : List L1) : List Value := List.append [((lget ls 7).u 0), ((lget ls 7).u 1), .int .i64 (y2), .bool (y3)] (List.append (jks (lget ls 7).u 4 4) (List.append [.bool false, .pointer (some ⟨(lget ls 1).n, 0, none⟩), .int .i64 (1), .pointer (some ⟨(lget ls 6).n, 0, none⟩), .bool (r2), .pointer (some ⟨(lget ls 8).n, 0, none⟩), .int .i64 (g3_5), .int .i64 (g4_3)] (List.append (jks (lget ls 7).u 16 50) (List.append [.tuple #[.agg #[.int .i64 (g3_1), .int .u64 (nn g3_2), .int .i64 (g3_3), .int .i64 (g3_4)], .int .i64 (g3_5)], .pointer (some ⟨(lget ls 1).n, 0, none⟩), .agg #[.int .i64 (5), .int .u64 (0), .int .i64 (1), .int .i64 (y1)], .int .i64 (y2), .tuple #[.agg #[.int .i64 (g3_1), .int .u64 (nn g3_2), .int .i64 (g3_3), .int .i64 (g3_4)], .int .i64 (g3_5)], .agg #[.int .i64 (g3_1), .int .u64 (nn g3_2), .int .i64 (g3_3), .int .i64 (g3_4)], .int .i64 (g3_5), .pointer (some ⟨(lget ls 1).n, 0, none⟩), .agg #[.int .i64 (5), .int .u64 (0), .int .i64 (1), .int .i64 (y1)], .int .i64 (y2), .agg #[.int .i64 (1), .int .u64 (7), .int .i64 (0), .int .i64 (0)], .int .i64 (g4_3)] (jks (lget ls 7).u 78 58)))))
theorem sp0_barbicanlaw8_RegionEnds_J2_ok (h : jp_barbicanlaw8_RegionEnds_J2 y3 r2 g3_5 g4_3 = c0_0) : SpcG Try.prog M B0 S (spcJ bd_barbicanlaw8_RegionEnds_J2 (t0_barbicanlaw8_RegionEnds_J2 y0 y1 y2 y3 g1_1 r2 g3_1 g3_2 g3_3 g3_4 g3_5 g4_0 g4_1 g4_2 g4_3) (pre_barbicanlaw8_RegionEnds_J2 y0 y1 y2 y3 g1_1 r2 g3_1 g3_2 g3_3 g3_4 g3_5 g4_0 g4_1 g4_2 g4_3) 9 0 .normal (vf_barbicanlaw8_RegionEnds_J2 y0 y1 y2 y3 g1_1 r2 g3_1 g3_2 g3_3 g3_4 g3_5 g4_0 g4_1 g4_2 g4_3 (.e0 c0_0)) (Hf_barbicanlaw8_RegionEnds_J2 y0 y1 y2 y3 g1_1 r2 g3_1 g3_2 g3_3 g3_4 g3_5 g4_0 g4_1 g4_2 g4_3 (.e0 c0_0))) :=
  spcJ_ok hU (go_barbicanlaw8_RegionEnds_J2 hU y0 y1 y2 y3 g1_1 r2 g3_1 g3_2 g3_3 g3_4 g3_5 g4_0 g4_1 g4_2 g4_3 c0_0 h) (fun _ => rfl) (fun ls h => by match ls, h with | [l0, l1, l2, l3, l4, l5, l6, l7, l8], _ => exact ⟨by kernel_rfl, by kernel_rfl⟩) (fun ls h => by match ls, h with | [l0, l1, l2, l3, l4, l5, l6, l7, l8], _ => rfl) (fun ls => rfl)
inductive Ex_barbicanlaw8_RegionEnds_J3 where
  | e0 (c0_0 : Bool)
noncomputable def jp_barbicanlaw8_RegionEnds_J3 (y0 : Int) (g1_1 : Int) (g4_0 : Nat → BitVec 8) (g4_1 : Bool) (g4_2 : Bool) : Option (Bool) :=
  (m_region_Mem_Kill (0 + (y0).toNat) g4_1 g1_1 g4_2 g4_0).bind fun gb0 => match gb0 with
  | .e0 gb0_0 =>
  bif gb0_0 then
    ((m_region_Mem_Kill (0 + (y0).toNat) g4_1 g1_1 true g4_0).bind fun gb1 => match gb1 with
    | .e0 gb1_0 =>
    bif gb1_0 then
      (some true)
    else (some false))
  else (some true)
noncomputable def bd_barbicanlaw8_RegionEnds_J3 : Code := codeOf Try.f4 [1, 1, 1, 1, 1, 1, 1, 1, 1, 1, 0, 0]
def fl_barbicanlaw8_RegionEnds_J3 (y0 : Int) (y1 : Int) (y2 : Int) (g1_1 : Int) (g3_1 : Int) (g3_2 : BitVec 64) (g3_3 : Int) (g3_4 : Int) (g3_5 : Int) (g4_0 : Nat → BitVec 8) (g4_1 : Bool) (g4_2 : Bool) (ls : List L1) : List Value := [.int .i64 (y2), .bool false, .pointer (some ⟨(lget ls 1).n, 0, none⟩), .int .i64 (1), .pointer (some ⟨(lget ls 6).n, 0, none⟩), .int .i64 (g3_5)]
noncomputable def fr_barbicanlaw8_RegionEnds_J3 (y0 : Int) (y1 : Int) (y2 : Int) (g1_1 : Int) (g3_1 : Int) (g3_2 : BitVec 64) (g3_3 : Int) (g3_4 : Int) (g3_5 : Int) (g4_0 : Nat → BitVec 8) (g4_1 : Bool) (g4_2 : Bool) : List L1 → List Value := mrgF [(0, 2), (1, 5), (4, 2), (1, 121)] (fl_barbicanlaw8_RegionEnds_J3 y0 y1 y2 g1_1 g3_1 g3_2 g3_3 g3_4 g3_5 g4_0 g4_1 g4_2) 10
def Hs_barbicanlaw8_RegionEnds_J3 (y0 : Int) (y1 : Int) (y2 : Int) (g1_1 : Int) (g3_1 : Int) (g3_2 : BitVec 64) (g3_3 : Int) (g3_4 : Int) (g3_5 : Int) (g4_0 : Nat → BitVec 8) (g4_1 : Bool) (g4_2 : Bool) (ls : List L1) : List Obj := [unb, .cells #[.map (some (lget ls 2).n), .int .i64 (1)] 91, .map #[⟨.int .i64 (1), .iface 107 (.pointer (some ⟨(lget ls 4).n, 0, none⟩)), 0⟩] 1, rowO (lget ls 3) (esG cu8 (y0).toNat (fun _ => 0#8)) 5 (y0).toNat 1, .cells #[(rowV (lget ls 5) (0 + (y0).toNat) 1), .bool (g4_1), .int .i64 (g1_1), .bool (g4_2)] 110, rowO (lget ls 5) (esG cu8 (0 + (y0).toNat) g4_0) 5 (0 + (y0).toNat) 1, .cells #[.int .i64 (5), .int .u64 (0), .int .i64 (1), .int .i64 (y1)] 28, unb, .cells #[.int .i64 (g3_1), .int .u64 (nn g3_2), .int .i64 (g3_3), .int .i64 (g3_4)] 28, unb, unb]
def vl_barbicanlaw8_RegionEnds_J3 (y0 : Int) (y1 : Int) (y2 : Int) (g1_1 : Int) (g3_1 : Int) (g3_2 : BitVec 64) (g3_3 : Int) (g3_4 : Int) (g3_5 : Int) (g4_0 : Nat → BitVec 8) (g4_1 : Bool) (g4_2 : Bool) : Ex_barbicanlaw8_RegionEnds_J3 → List L1 → List Value
  | .e0 c0_0, ls => [.int .i64 (y2), .bool false, .pointer (some ⟨(lget ls 1).n, 0, none⟩), .pointer (some ⟨(lget ls 6).n, 0, none⟩), .int .i64 (g3_5), .bool (c0_0)]
def mk_barbicanlaw8_RegionEnds_J3 : Ex_barbicanlaw8_RegionEnds_J3 → List (Nat × Nat)
  | .e0 _ => [(0, 2), (1, 5), (2, 1), (1, 2), (1, 103), (1, 17)]
noncomputable def vf_barbicanlaw8_RegionEnds_J3 (y0 : Int) (y1 : Int) (y2 : Int) (g1_1 : Int) (g3_1 : Int) (g3_2 : BitVec 64) (g3_3 : Int) (g3_4 : Int) (g3_5 : Int) (g4_0 : Nat → BitVec 8) (g4_1 : Bool) (g4_2 : Bool) (r : Ex_barbicanlaw8_RegionEnds_J3) : List L1 → List Value := mrgF (mk_barbicanlaw8_RegionEnds_J3 r) (vl_barbicanlaw8_RegionEnds_J3 y0 y1 y2 g1_1 g3_1 g3_2 g3_3 g3_4 g3_5 g4_0 g4_1 g4_2 r) 10
def Hf_barbicanlaw8_RegionEnds_J3 (y0 : Int) (y1 : Int) (y2 : Int) (g1_1 : Int) (g3_1 : Int) (g3_2 : BitVec 64) (g3_3 : Int) (g3_4 : Int) (g3_5 : Int) (g4_0 : Nat → BitVec 8) (g4_1 : Bool) (g4_2 : Bool) : Ex_barbicanlaw8_RegionEnds_J3 → List L1 → List Obj
  | .e0 c0_0, ls => [unb, .cells #[.map (some (lget ls 2).n), .int .i64 (1)] 91, .map #[⟨.int .i64 (1), .iface 107 (.pointer (some ⟨(lget ls 4).n, 0, none⟩)), 0⟩] 1, rowO (lget ls 3) (esG cu8 (y0).toNat (fun _ => 0#8)) 5 (y0).toNat 1, .cells #[(rowV (lget ls 5) (0 + (y0).toNat) 1), .bool (g4_1), .int .i64 (g1_1), .bool true] 110, rowO (lget ls 5) (esG cu8 (0 + (y0).toNat) g4_0) 5 (0 + (y0).toNat) 1, .cells #[.int .i64 (5), .int .u64 (0), .int .i64 (1), .int .i64 (y1)] 28, unb, .cells #[.int .i64 (g3_1), .int .u64 (nn g3_2), .int .i64 (g3_3), .int .i64 (g3_4)] 28, unb, unb]
def ex_barbicanlaw8_RegionEnds_J3 : Ex_barbicanlaw8_RegionEnds_J3 → Ex
  | .e0 _ => .normal
end
section
variable {M : Nat → Prop} {B0 : Nat} {S : World → Prop} (hU : Up M B0 S) (y0 : Int) (y1 : Int) (y2 : Int) (g1_1 : Int) (g3_1 : Int) (g3_2 : BitVec 64) (g3_3 : Int) (g3_4 : Int) (g3_5 : Int) (g4_0 : Nat → BitVec 8) (g4_1 : Bool) (g4_2 : Bool) (c0_0 : Bool)
include hU y0 y1 y2 g1_1 g3_1 g3_2 g3_3 g3_4 g3_5 g4_0 g4_1 g4_2 c0_0
theorem go_barbicanlaw8_RegionEnds_J3 (e : jp_barbicanlaw8_RegionEnds_J3 y0 g1_1 g4_0 g4_1 g4_2 = some c0_0) : GoesG Try.prog M B0 S bd_barbicanlaw8_RegionEnds_J3 11 (fr_barbicanlaw8_RegionEnds_J3 y0 y1 y2 g1_1 g3_1 g3_2 g3_3 g3_4 g3_5 g4_0 g4_1 g4_2) (Hs_barbicanlaw8_RegionEnds_J3 y0 y1 y2 g1_1 g3_1 g3_2 g3_3 g3_4 g3_5 g4_0 g4_1 g4_2) (ex_barbicanlaw8_RegionEnds_J3 (.e0 c0_0)) 10 (vf_barbicanlaw8_RegionEnds_J3 y0 y1 y2 g1_1 g3_1 g3_2 g3_3 g3_4 g3_5 g4_0 g4_1 g4_2 (.e0 c0_0)) (Hf_barbicanlaw8_RegionEnds_J3 y0 y1 y2 g1_1 g3_1 g3_2 g3_3 g3_4 g3_5 g4_0 g4_1 g4_2 (.e0 c0_0)) 11 := by
  unfold jp_barbicanlaw8_RegionEnds_J3 at e
  replace e := bindO_eq e
  obtain ⟨gb0, e_gb0, e⟩ := e
  obtain ⟨gb0_0⟩ := gb0
  try dsimp only at e
  replace e := cond_eq_or e
  rcases e with ⟨hq0, e⟩ | ⟨hq0, e⟩
  · subst hq0
    replace e := bindO_eq e
    obtain ⟨gb1, e_gb1, e⟩ := e
    obtain ⟨gb1_0⟩ := gb1
    try dsimp only at e
    replace e := cond_eq_or e
    rcases e with ⟨hq1, e⟩ | ⟨hq1, e⟩
    · injection e with e; subst e; exact goes_runM hU [.o, .o, .xg (ok0_region_Mem_Kill hU (0 + (y0).toNat) g4_1 g1_1 g4_2 g4_0 true e_gb0) [1, 2, 4, 5], .o, .o, .o, .o, .xg (ok0_region_Mem_Kill hU (0 + (y0).toNat) g4_1 g1_1 true g4_0 gb1_0 e_gb1) [1, 2, 4, 5], .b hq1] [0, 1, 2, 3, 4, 5, 6, 7, 8, 9] (fun b => rfl) (by decide) rfl rfl (fun b => by kernel_rfl)
    · injection e with e; subst e; exact goes_runM hU [.o, .o, .xg (ok0_region_Mem_Kill hU (0 + (y0).toNat) g4_1 g1_1 g4_2 g4_0 true e_gb0) [1, 2, 4, 5], .o, .o, .o, .o, .xg (ok0_region_Mem_Kill hU (0 + (y0).toNat) g4_1 g1_1 true g4_0 gb1_0 e_gb1) [1, 2, 4, 5], .b hq1] [0, 1, 2, 3, 4, 5, 6, 7, 8, 9] (fun b => rfl) (by decide) rfl rfl (fun b => by kernel_rfl)
  · subst hq0
    injection e with e; subst e; exact goes_runM hU [.o, .o, .xg (ok0_region_Mem_Kill hU (0 + (y0).toNat) g4_1 g1_1 g4_2 g4_0 false e_gb0) [1, 2, 4, 5], .o, .o, .o] [0, 1, 2, 3, 4, 5, 6, 7, 8, 9] (fun b => rfl) (by decide) rfl rfl (fun b => by kernel_rfl)
def pre_barbicanlaw8_RegionEnds_J3 (y0 : Int) (y1 : Int) (y2 : Int) (g1_1 : Int) (g3_1 : Int) (g3_2 : BitVec 64) (g3_3 : Int) (g3_4 : Int) (g3_5 : Int) (g4_0 : Nat → BitVec 8) (g4_1 : Bool) (g4_2 : Bool) (ls : List L1) : List Obj := [unb, .cells #[.map (some (lget ls 2).n), .int .i64 (1)] 91, .map #[⟨.int .i64 (1), .iface 107 (.pointer (some ⟨(lget ls 4).n, 0, none⟩)), 0⟩] 1, rowO (lget ls 3) (esG cu8 (y0).toNat (fun _ => 0#8)) 5 (y0).toNat 1, .cells #[(rowV (lget ls 5) (0 + (y0).toNat) 1), .bool (g4_1), .int .i64 (g1_1), .bool (g4_2)] 110, rowO (lget ls 5) (esG cu8 (0 + (y0).toNat) g4_0) 5 (0 + (y0).toNat) 1, .cells #[.int .i64 (5), .int .u64 (0), .int .i64 (1), .int .i64 (y1)] 28, unb, .cells #[.int .i64 (g3_1), .int .u64 (nn g3_2), .int .i64 (g3_3), .int .i64 (g3_4)] 28, unb]
noncomputable def t0_barbicanlaw8_RegionEnds_J3 (y0 : Int) (y1 : Int) (y2 : Int) (g1_1 : Int) (g3_1 : Int) (g3_2 : BitVec 64) (g3_3 : Int) (g3_4 : Int) (g3_5 : Int) (g4_0 : Nat → BitVec 8) (g4_1 : Bool) (g4_2 : Bool) (ls : List L1) : List Value := List.append [((lget ls 9).u 0), ((lget ls 9).u 1), .int .i64 (y2)] (List.append (jks (lget ls 9).u 3 5) (List.append [.bool false, .pointer (some ⟨(lget ls 1).n, 0, none⟩), .int .i64 (1), .pointer (some ⟨(lget ls 6).n, 0, none⟩), ((lget ls 9).u 12), ((lget ls 9).u 13), .int .i64 (g3_5)] (List.append (jks (lget ls 9).u 15 94) (List.append [.bool false] (jks (lget ls 9).u 110 26)))))
theorem sp0_barbicanlaw8_RegionEnds_J3_ok (h : jp_barbicanlaw8_RegionEnds_J3 y0 g1_1 g4_0 g4_1 g4_2 = some c0_0) : SpcG Try.prog M B0 S (spcJ bd_barbicanlaw8_RegionEnds_J3 (t0_barbicanlaw8_RegionEnds_J3 y0 y1 y2 g1_1 g3_1 g3_2 g3_3 g3_4 g3_5 g4_0 g4_1 g4_2) (pre_barbicanlaw8_RegionEnds_J3 y0 y1 y2 g1_1 g3_1 g3_2 g3_3 g3_4 g3_5 g4_0 g4_1 g4_2) 10 0 .normal (vf_barbicanlaw8_RegionEnds_J3 y0 y1 y2 g1_1 g3_1 g3_2 g3_3 g3_4 g3_5 g4_0 g4_1 g4_2 (.e0 c0_0)) (Hf_barbicanlaw8_RegionEnds_J3 y0 y1 y2 g1_1 g3_1 g3_2 g3_3 g3_4 g3_5 g4_0 g4_1 g4_2 (.e0 c0_0))) :=
  spcJ_ok hU (go_barbicanlaw8_RegionEnds_J3 hU y0 y1 y2 g1_1 g3_1 g3_2 g3_3 g3_4 g3_5 g4_0 g4_1 g4_2 c0_0 h) (fun _ => rfl) (fun ls h => by match ls, h with | [l0, l1, l2, l3, l4, l5, l6, l7, l8, l9], _ => exact ⟨by kernel_rfl, by kernel_rfl⟩) (fun ls h => by match ls, h with | [l0, l1, l2, l3, l4, l5, l6, l7, l8, l9], _ => rfl) (fun ls => rfl)
noncomputable def m_barbicanlaw8_RegionEnds (y0 : Int) (y1 : Int) (y2 : Int) (y3 : Bool) : Option (Bool) :=
  bindT (jp_barbicanlaw8_RegionEnds_J0 y0 y1 y2) fun r0 =>
  bif r0 then
    (some true)
  else (bif inR y0 1000001 then
    ((m_region_Mem_Add y3 0 (y0).toNat (fun _ => 0#8)).bind fun g1 => match g1 with
    | .e0 g1_0 g1_1 =>
    bindT (jp_barbicanlaw8_RegionEnds_J1 y0 y1 y2) fun r2 =>
    (m_region_Mem_Load_v2 y2 y1 (0 + (y0).toNat) y3 g1_1 false g1_0).bind fun g3 => match g3 with
    | .e0 g3_0 g3_1 g3_2 g3_3 g3_4 g3_5 =>
    (m_region_Mem_Store_v1 y2 (⟨1, 7#64, 0, 0⟩ : Val) y1 (0 + (y0).toNat) y3 g1_1 g3_0 g1_0).bind fun g4 => match g4 with
    | .e0 g4_0 g4_1 g4_2 g4_3 =>
    bindT (jp_barbicanlaw8_RegionEnds_J2 y3 r2 g3_5 g4_3) fun r5 =>
    bif r5 then
      (some false)
    else ((jp_barbicanlaw8_RegionEnds_J3 y0 g1_1 g4_0 g4_1 g4_2).bind fun r6 =>
    bif r6 then
      (some false)
    else ((m_region_Mem_Load_v2 y2 y1 (0 + (y0).toNat) g4_1 g1_1 true g4_0).bind fun g7 => match g7 with
    | .e0 g7_0 g7_1 g7_2 g7_3 g7_4 g7_5 =>
    bif g7_5 == 4 then
      ((m_region_Mem_Store_v1 y2 (⟨1, 0#64, 0, 0⟩ : Val) y1 (0 + (y0).toNat) g4_1 g1_1 g7_0 g4_0).bind fun g8 => match g8 with
      | .e0 g8_0 g8_1 g8_2 g8_3 =>
      some (g8_3 == 4))
    else (some false))))
  else (none))
end
section
variable {M : Nat → Prop} {B0 : Nat} {S : World → Prop} (hU : Up M B0 S)
include hU
theorem ok_barbicanlaw8_RegionEnds (y0 : Int) (y1 : Int) (y2 : Int) (y3 : Bool) (r : Bool) (e : m_barbicanlaw8_RegionEnds y0 y1 y2 y3 = some r) : ConG Try.prog S 4 #[.int .i64 (y0), .int .i64 (y1), .int .i64 (y2), .bool (y3)] (.bool (r)) := by
  unfold m_barbicanlaw8_RegionEnds at e
  replace e := bindT_eq e
  obtain ⟨r0, e_r0, e⟩ := e
  try dsimp only at e
  replace e := cond_eq_or e
  rcases e with ⟨hq0, e⟩ | ⟨hq0, e⟩
  · subst hq0
    injection e with e; subst e; exact fn_conG hU (P := Try.prog) Try.func4 (fun xs w => by kernel_rfl) _ _ [.o, .cg (ok_barbicanlaw8_known_v1 hU  ), .o, .cp, .cx (sp0_barbicanlaw8_RegionEnds_J0_ok hU y0 y1 y2 y3 true e_r0) [], .o] [] (fun b => by kernel_rfl)
  · subst hq0
    replace e := cond_eq_or e
    rcases e with ⟨hq1, e⟩ | ⟨hq1, e⟩
    · replace e := bindO_eq e
      obtain ⟨g1, e_g1, e⟩ := e
      obtain ⟨g1_0, g1_1⟩ := g1
      try dsimp only at e
      replace e := bindT_eq e
      obtain ⟨r2, e_r2, e⟩ := e
      try dsimp only at e
      replace e := bindO_eq e
      obtain ⟨g3, e_g3, e⟩ := e
      obtain ⟨g3_0, g3_1, g3_2, g3_3, g3_4, g3_5⟩ := g3
      try dsimp only at e
      replace e := bindO_eq e
      obtain ⟨g4, e_g4, e⟩ := e
      obtain ⟨g4_0, g4_1, g4_2, g4_3⟩ := g4
      try dsimp only at e
      replace e := bindT_eq e
      obtain ⟨r5, e_r5, e⟩ := e
      try dsimp only at e
      replace e := cond_eq_or e
      rcases e with ⟨hq2, e⟩ | ⟨hq2, e⟩
      · subst hq2
        injection e with e; subst e; exact fn_conG hU (P := Try.prog) Try.func4 (fun xs w => by kernel_rfl) _ _ [.o, .cg (ok_barbicanlaw8_known_v1 hU  ), .o, .cp, .cx (sp0_barbicanlaw8_RegionEnds_J0_ok hU y0 y1 y2 y3 false e_r0) [], .xg (p0_region_New hU  ) [], .o, .o, .o, .x (sqMkZ_ok rt34 (f := cu8) (x := y0) (a0 := 0#8) cu8_len (by kernel_rfl) hq1 (by decide)) [], .o, .xg (ok0_region_Mem_Add hU y3 0 (y0).toNat (fun _ => 0#8) g1_0 g1_1 e_g1) [1, 2, 3], .o, .o, .o, .o, .o, .a 6, .cx (sp0_barbicanlaw8_RegionEnds_J1_ok hU y0 y1 y2 y3 g1_0 g1_1 r2 e_r2) [0, 1, 2, 3, 4, 5, 6], .o, .a 6, .o, .xg (ok0_region_Mem_Load_v2 hU y2 y1 (0 + (y0).toNat) y3 g1_1 false g1_0 g3_0 g3_1 g3_2 g3_3 g3_4 g3_5 e_g3) [1, 2, 4, 5], .o, .o, .o, .o, .a 8, .o, .o, .a 6, .o, .o, .xg (ok0_region_Mem_Store_v1 hU y2 (⟨1, 7#64, 0, 0⟩ : Val) y1 (0 + (y0).toNat) y3 g1_1 g3_0 g1_0 g4_0 g4_1 g4_2 g4_3 e_g4) [1, 2, 4, 5], .o, .cx (sp0_barbicanlaw8_RegionEnds_J2_ok hU y0 y1 y2 y3 g1_1 r2 g3_1 g3_2 g3_3 g3_4 g3_5 g4_0 g4_1 g4_2 g4_3 true e_r5) [0, 1, 2, 3, 4, 5, 6, 7, 8], .o] [] (fun b => by kernel_rfl)
      · subst hq2
        replace e := bindO_eq e
        obtain ⟨r6, e_r6, e⟩ := e
        try dsimp only at e
        replace e := cond_eq_or e
        rcases e with ⟨hq3, e⟩ | ⟨hq3, e⟩
        · subst hq3
          injection e with e; subst e; exact fn_conG hU (P := Try.prog) Try.func4 (fun xs w => by kernel_rfl) _ _ [.o, .cg (ok_barbicanlaw8_known_v1 hU  ), .o, .cp, .cx (sp0_barbicanlaw8_RegionEnds_J0_ok hU y0 y1 y2 y3 false e_r0) [], .xg (p0_region_New hU  ) [], .o, .o, .o, .x (sqMkZ_ok rt34 (f := cu8) (x := y0) (a0 := 0#8) cu8_len (by kernel_rfl) hq1 (by decide)) [], .o, .xg (ok0_region_Mem_Add hU y3 0 (y0).toNat (fun _ => 0#8) g1_0 g1_1 e_g1) [1, 2, 3], .o, .o, .o, .o, .o, .a 6, .cx (sp0_barbicanlaw8_RegionEnds_J1_ok hU y0 y1 y2 y3 g1_0 g1_1 r2 e_r2) [0, 1, 2, 3, 4, 5, 6], .o, .a 6, .o, .xg (ok0_region_Mem_Load_v2 hU y2 y1 (0 + (y0).toNat) y3 g1_1 false g1_0 g3_0 g3_1 g3_2 g3_3 g3_4 g3_5 e_g3) [1, 2, 4, 5], .o, .o, .o, .o, .a 8, .o, .o, .a 6, .o, .o, .xg (ok0_region_Mem_Store_v1 hU y2 (⟨1, 7#64, 0, 0⟩ : Val) y1 (0 + (y0).toNat) y3 g1_1 g3_0 g1_0 g4_0 g4_1 g4_2 g4_3 e_g4) [1, 2, 4, 5], .o, .cx (sp0_barbicanlaw8_RegionEnds_J2_ok hU y0 y1 y2 y3 g1_1 r2 g3_1 g3_2 g3_3 g3_4 g3_5 g4_0 g4_1 g4_2 g4_3 false e_r5) [0, 1, 2, 3, 4, 5, 6, 7, 8], .cp, .cx (sp0_barbicanlaw8_RegionEnds_J3_ok hU y0 y1 y2 g1_1 g3_1 g3_2 g3_3 g3_4 g3_5 g4_0 g4_1 g4_2 true e_r6) [0, 1, 2, 3, 4, 5, 6, 7, 8, 9], .o] [] (fun b => by kernel_rfl)
        · subst hq3
          replace e := bindO_eq e
          obtain ⟨g7, e_g7, e⟩ := e
          obtain ⟨g7_0, g7_1, g7_2, g7_3, g7_4, g7_5⟩ := g7
          try dsimp only at e
          replace e := cond_eq_or e
          rcases e with ⟨hq4, e⟩ | ⟨hq4, e⟩
          · replace e := bindO_eq e
            obtain ⟨g8, e_g8, e⟩ := e
            obtain ⟨g8_0, g8_1, g8_2, g8_3⟩ := g8
            try dsimp only at e
            injection e with e; subst e; exact fn_conG hU (P := Try.prog) Try.func4 (fun xs w => by kernel_rfl) _ _ [.o, .cg (ok_barbicanlaw8_known_v1 hU  ), .o, .cp, .cx (sp0_barbicanlaw8_RegionEnds_J0_ok hU y0 y1 y2 y3 false e_r0) [], .xg (p0_region_New hU  ) [], .o, .o, .o, .x (sqMkZ_ok rt34 (f := cu8) (x := y0) (a0 := 0#8) cu8_len (by kernel_rfl) hq1 (by decide)) [], .o, .xg (ok0_region_Mem_Add hU y3 0 (y0).toNat (fun _ => 0#8) g1_0 g1_1 e_g1) [1, 2, 3], .o, .o, .o, .o, .o, .a 6, .cx (sp0_barbicanlaw8_RegionEnds_J1_ok hU y0 y1 y2 y3 g1_0 g1_1 r2 e_r2) [0, 1, 2, 3, 4, 5, 6], .o, .a 6, .o, .xg (ok0_region_Mem_Load_v2 hU y2 y1 (0 + (y0).toNat) y3 g1_1 false g1_0 g3_0 g3_1 g3_2 g3_3 g3_4 g3_5 e_g3) [1, 2, 4, 5], .o, .o, .o, .o, .a 8, .o, .o, .a 6, .o, .o, .xg (ok0_region_Mem_Store_v1 hU y2 (⟨1, 7#64, 0, 0⟩ : Val) y1 (0 + (y0).toNat) y3 g1_1 g3_0 g1_0 g4_0 g4_1 g4_2 g4_3 e_g4) [1, 2, 4, 5], .o, .cx (sp0_barbicanlaw8_RegionEnds_J2_ok hU y0 y1 y2 y3 g1_1 r2 g3_1 g3_2 g3_3 g3_4 g3_5 g4_0 g4_1 g4_2 g4_3 false e_r5) [0, 1, 2, 3, 4, 5, 6, 7, 8], .cp, .cx (sp0_barbicanlaw8_RegionEnds_J3_ok hU y0 y1 y2 g1_1 g3_1 g3_2 g3_3 g3_4 g3_5 g4_0 g4_1 g4_2 false e_r6) [0, 1, 2, 3, 4, 5, 6, 7, 8, 9], .o, .a 6, .o, .xg (ok0_region_Mem_Load_v2 hU y2 y1 (0 + (y0).toNat) g4_1 g1_1 true g4_0 g7_0 g7_1 g7_2 g7_3 g7_4 g7_5 e_g7) [1, 2, 4, 5], .o, .o, .o, .o, .o, .b (z_eqlT hq4), .o, .o, .a 6, .o, .o, .xg (ok0_region_Mem_Store_v1 hU y2 (⟨1, 0#64, 0, 0⟩ : Val) y1 (0 + (y0).toNat) g4_1 g1_1 g7_0 g4_0 g8_0 g8_1 g8_2 g8_3 e_g8) [1, 2, 4, 5], .o, .o, .o] [] (fun b => by kernel_rfl)
          · injection e with e; subst e; exact fn_conG hU (P := Try.prog) Try.func4 (fun xs w => by kernel_rfl) _ _ [.o, .cg (ok_barbicanlaw8_known_v1 hU  ), .o, .cp, .cx (sp0_barbicanlaw8_RegionEnds_J0_ok hU y0 y1 y2 y3 false e_r0) [], .xg (p0_region_New hU  ) [], .o, .o, .o, .x (sqMkZ_ok rt34 (f := cu8) (x := y0) (a0 := 0#8) cu8_len (by kernel_rfl) hq1 (by decide)) [], .o, .xg (ok0_region_Mem_Add hU y3 0 (y0).toNat (fun _ => 0#8) g1_0 g1_1 e_g1) [1, 2, 3], .o, .o, .o, .o, .o, .a 6, .cx (sp0_barbicanlaw8_RegionEnds_J1_ok hU y0 y1 y2 y3 g1_0 g1_1 r2 e_r2) [0, 1, 2, 3, 4, 5, 6], .o, .a 6, .o, .xg (ok0_region_Mem_Load_v2 hU y2 y1 (0 + (y0).toNat) y3 g1_1 false g1_0 g3_0 g3_1 g3_2 g3_3 g3_4 g3_5 e_g3) [1, 2, 4, 5], .o, .o, .o, .o, .a 8, .o, .o, .a 6, .o, .o, .xg (ok0_region_Mem_Store_v1 hU y2 (⟨1, 7#64, 0, 0⟩ : Val) y1 (0 + (y0).toNat) y3 g1_1 g3_0 g1_0 g4_0 g4_1 g4_2 g4_3 e_g4) [1, 2, 4, 5], .o, .cx (sp0_barbicanlaw8_RegionEnds_J2_ok hU y0 y1 y2 y3 g1_1 r2 g3_1 g3_2 g3_3 g3_4 g3_5 g4_0 g4_1 g4_2 g4_3 false e_r5) [0, 1, 2, 3, 4, 5, 6, 7, 8], .cp, .cx (sp0_barbicanlaw8_RegionEnds_J3_ok hU y0 y1 y2 g1_1 g3_1 g3_2 g3_3 g3_4 g3_5 g4_0 g4_1 g4_2 false e_r6) [0, 1, 2, 3, 4, 5, 6, 7, 8, 9], .o, .a 6, .o, .xg (ok0_region_Mem_Load_v2 hU y2 y1 (0 + (y0).toNat) g4_1 g1_1 true g4_0 g7_0 g7_1 g7_2 g7_3 g7_4 g7_5 e_g7) [1, 2, 4, 5], .o, .o, .o, .o, .o, .b (z_eqlF hq4), .o, .o, .o] [] (fun b => by kernel_rfl)
    · exact none_some e
end

end Go.Proofs.Ytfmpmhafilllpaa
