/-
  The law on what is kept, by the program's text.
-/
import Derived.Test.YtfmpmhafilllpaaR8P
import Derived.Test.YtfmpmhafilllpaaR8T
namespace Go.Proofs.Ytfmpmhafilllpaa
open Go.RowKit
set_option linter.unusedVariables false
set_option linter.unusedSimpArgs false
set_option linter.unusedSectionVars false
set_option maxRecDepth 100000
set_option maxHeartbeats 4000000
noncomputable def m_barbicanlaw8_RegionKeeps (y0 : Int) (y1 : Int) (y2 : Int) (y3 : Int) (y4 : BitVec 64) (y5 : BitVec 64) (y6 : Bool) : Option (Bool) :=
  bindT (jp_barbicanlaw8_RegionKeeps_J0 y0 y1 y2 y3) fun r0 =>
  bif r0 then
    (some true)
  else (bif y6 then
    (bindT (jp_barbicanlaw8_RegionKeeps_J1 y0 y2) fun r1 =>
    bif r1 then
      ((m_region_Mem_Store_v3 y2 (⟨4, 0#64, 3, 0⟩ : Val) y0 (fun _ => 0#8) (fun _ => 0#8) (fun _ => (⟨0, 0#64, 0, 0⟩ : Val)) (fun _ => 0) (fun _ => false) (fun _ => 0#8) (fun _ => 0#8) (fun _ => (⟨0, 0#64, 0, 0⟩ : Val)) (fun _ => 0) (fun _ => false)).bind fun g2 => match g2 with
      | .e0 g2_0 g2_1 g2_2 g2_3 g2_4 g2_5 =>
      some (g2_5 == 6))
    else ((jp_barbicanlaw8_RegionKeeps_J2 y0 y1 y2 y3 y5).bind fun g2 => match g2 with
    | .e0 g2_0 g2_1 g2_2 g2_3 g2_4 g2_5 =>
    bif g2_5 then
      (some false)
    else ((m_region_Mem_Load_v4 y2 y0 g2_0 g2_1 g2_2 g2_3 g2_4 (fun _ => 0#8) (fun _ => 0#8) (fun _ => (⟨0, 0#64, 0, 0⟩ : Val)) (fun _ => 0) (fun _ => false)).bind fun g3 => match g3 with
    | .e0 g3_0 g3_1 g3_2 g3_3 g3_4 =>
    bindT (jp_barbicanlaw8_RegionKeeps_J3 y0 y1 y2 y3) fun r4 =>
    (jp_barbicanlaw8_RegionKeeps_J4 y2 y3 y6 g3_0 g3_1 g3_2 g3_3 g3_4 r4).bind fun g5 => match g5 with
    | .e0 g5_0 => ((m_region_Mem_Load_v4 y3 y1 g2_0 g2_1 g2_2 g2_3 g2_4 (fun _ => 0#8) (fun _ => 0#8) (fun _ => (⟨0, 0#64, 0, 0⟩ : Val)) (fun _ => 0) (fun _ => false)).bind fun g6 => match g6 with
      | .e0 g6_0 g6_1 g6_2 g6_3 g6_4 =>
      bif decide (y3 < 8) then
        (bif decide (0 ≤ (IntKind.i64.wrap (8 * y3))) then
          (bif (1#64 <<< ((IntKind.i64.wrap (8 * y3))).toNat) == 0#64 then
            (none)
          else ((m_region_Mem_Load_v5 y2 y0 g2_0 g2_1 g2_2 g2_3 g2_4 (fun _ => 0#8) (fun _ => 0#8) (fun _ => (⟨0, 0#64, 0, 0⟩ : Val)) (fun _ => 0) (fun _ => false)).bind fun g7 => match g7 with
          | .e0 g7_0 g7_1 g7_2 g7_3 g7_4 =>
          bif g6_4 == 0 then
            (bif ((g6_0 == 1) && ((g6_1 == (y5 % (1#64 <<< ((IntKind.i64.wrap (8 * y3))).toNat))) && ((g6_2 == 0) && (g6_3 == 0)))) then
              (some (g7_4 == 1))
            else (some false))
          else (some false)))
        else (none))
      else ((m_region_Mem_Load_v5 y2 y0 g2_0 g2_1 g2_2 g2_3 g2_4 (fun _ => 0#8) (fun _ => 0#8) (fun _ => (⟨0, 0#64, 0, 0⟩ : Val)) (fun _ => 0) (fun _ => false)).bind fun g7 => match g7 with
      | .e0 g7_0 g7_1 g7_2 g7_3 g7_4 =>
      bif g6_4 == 0 then
        (bif ((g6_0 == 1) && ((g6_1 == y5) && ((g6_2 == 0) && (g6_3 == 0)))) then
          (some (g7_4 == 1))
        else (some false))
      else (some false)))
    | .e1 g5_0 => (some false))))
  else ((jp_barbicanlaw8_RegionKeeps_J5 y0 y1 y2 y3 y4 y5).bind fun g1 => match g1 with
  | .e0 g1_0 g1_1 g1_2 g1_3 g1_4 g1_5 =>
  bif g1_5 then
    (some false)
  else ((m_region_Mem_Load_v4 y2 y0 g1_0 g1_1 g1_2 g1_3 g1_4 (fun _ => 0#8) (fun _ => 0#8) (fun _ => (⟨0, 0#64, 0, 0⟩ : Val)) (fun _ => 0) (fun _ => false)).bind fun g2 => match g2 with
  | .e0 g2_0 g2_1 g2_2 g2_3 g2_4 =>
  bindT (jp_barbicanlaw8_RegionKeeps_J6 y0 y1 y2 y3) fun r3 =>
  (jp_barbicanlaw8_RegionKeeps_J7 y2 y3 y4 y6 g2_0 g2_1 g2_2 g2_3 g2_4 r3).bind fun g4 => match g4 with
  | .e0 g4_0 => ((m_region_Mem_Load_v4 y3 y1 g1_0 g1_1 g1_2 g1_3 g1_4 (fun _ => 0#8) (fun _ => 0#8) (fun _ => (⟨0, 0#64, 0, 0⟩ : Val)) (fun _ => 0) (fun _ => false)).bind fun g5 => match g5 with
    | .e0 g5_0 g5_1 g5_2 g5_3 g5_4 =>
    bif decide (y3 < 8) then
      (bif decide (0 ≤ (IntKind.i64.wrap (8 * y3))) then
        (bif (1#64 <<< ((IntKind.i64.wrap (8 * y3))).toNat) == 0#64 then
          (none)
        else ((m_region_Mem_Load_v5 y2 y0 g1_0 g1_1 g1_2 g1_3 g1_4 (fun _ => 0#8) (fun _ => 0#8) (fun _ => (⟨0, 0#64, 0, 0⟩ : Val)) (fun _ => 0) (fun _ => false)).bind fun g6 => match g6 with
        | .e0 g6_0 g6_1 g6_2 g6_3 g6_4 =>
        bif g5_4 == 0 then
          (bif ((g5_0 == 1) && ((g5_1 == (y5 % (1#64 <<< ((IntKind.i64.wrap (8 * y3))).toNat))) && ((g5_2 == 0) && (g5_3 == 0)))) then
            (some (g6_4 == 1))
          else (some false))
        else (some false)))
      else (none))
    else ((m_region_Mem_Load_v5 y2 y0 g1_0 g1_1 g1_2 g1_3 g1_4 (fun _ => 0#8) (fun _ => 0#8) (fun _ => (⟨0, 0#64, 0, 0⟩ : Val)) (fun _ => 0) (fun _ => false)).bind fun g6 => match g6 with
    | .e0 g6_0 g6_1 g6_2 g6_3 g6_4 =>
    bif g5_4 == 0 then
      (bif ((g5_0 == 1) && ((g5_1 == y5) && ((g5_2 == 0) && (g5_3 == 0)))) then
        (some (g6_4 == 1))
      else (some false))
    else (some false)))
  | .e1 g4_0 => (some false))))
section
variable {M : Nat → Prop} {B0 : Nat} {S : World → Prop} (hU : Up M B0 S)
include hU
theorem ok_barbicanlaw8_RegionKeeps (y0 : Int) (y1 : Int) (y2 : Int) (y3 : Int) (y4 : BitVec 64) (y5 : BitVec 64) (y6 : Bool) (r : Bool) (e : m_barbicanlaw8_RegionKeeps y0 y1 y2 y3 y4 y5 y6 = some r) : ConG Try.prog S 3 #[.int .i64 (y0), .int .i64 (y1), .int .i64 (y2), .int .i64 (y3), .int .u64 (nn y4), .int .u64 (nn y5), .bool (y6)] (.bool (r)) := by
  unfold m_barbicanlaw8_RegionKeeps at e
  replace e := bindT_eq e
  obtain ⟨r0, e_r0, e⟩ := e
  try dsimp only at e
  replace e := cond_eq_or e
  rcases e with ⟨hq0, e⟩ | ⟨hq0, e⟩
  · subst hq0
    injection e with e; subst e; exact fn_conG hU (P := Try.prog) Try.func3 (fun xs w => by kernel_rfl) _ _ [.o, .cg (ok_barbicanlaw8_known_v1 hU  ), .o, .cp, .cx (sp0_barbicanlaw8_RegionKeeps_J0_ok hU y0 y1 y2 y3 y4 y5 y6 true e_r0) [], .o] [] (fun b => by kernel_rfl)
  · subst hq0
    replace e := cond_eq_or e
    rcases e with ⟨hq1, e⟩ | ⟨hq1, e⟩
    · replace e := bindT_eq e
      obtain ⟨r1, e_r1, e⟩ := e
      try dsimp only at e
      replace e := cond_eq_or e
      rcases e with ⟨hq2, e⟩ | ⟨hq2, e⟩
      · subst hq2
        replace e := bindO_eq e
        obtain ⟨g2, e_g2, e⟩ := e
        obtain ⟨g2_0, g2_1, g2_2, g2_3, g2_4, g2_5⟩ := g2
        try dsimp only at e
        injection e with e; subst e; exact fn_conG hU (P := Try.prog) Try.func3 (fun xs w => by kernel_rfl) _ _ [.o, .cg (ok_barbicanlaw8_known_v1 hU  ), .o, .cp, .cx (sp0_barbicanlaw8_RegionKeeps_J0_ok hU y0 y1 y2 y3 y4 y5 y6 false e_r0) [], .xg (p0_region_New hU  ) [], .o, .o, .xg (p0_region_Mem_Frame_v1 hU  ) [1, 2], .o, .xg (p0_region_Mem_Frame_v2 hU (fun _ => 0#8) (fun _ => 0#8) (fun _ => (⟨0, 0#64, 0, 0⟩ : Val)) (fun _ => 0) (fun _ => false) ) [1, 2, 3], .o, .o, .o, .o, .o, .o, .a 5, .o, .o, .o, .o, .a 6, .o, .o, .o, .a 7, .b hq1, .o, .a 7, .cx (sp0_barbicanlaw8_RegionKeeps_J1_ok hU y0 y1 y2 y3 y5 y6 y4 true e_r1) [0, 1, 2, 3, 4, 5, 6, 7], .o, .a 5, .o, .a 7, .xg (ok0_region_Mem_Store_v3 hU y2 (⟨4, 0#64, 3, 0⟩ : Val) y0 (fun _ => 0#8) (fun _ => 0#8) (fun _ => (⟨0, 0#64, 0, 0⟩ : Val)) (fun _ => 0) (fun _ => false) (fun _ => 0#8) (fun _ => 0#8) (fun _ => (⟨0, 0#64, 0, 0⟩ : Val)) (fun _ => 0) (fun _ => false) g2_0 g2_1 g2_2 g2_3 g2_4 g2_5 e_g2) [1, 2, 3, 4], .o, .o] [] (fun b => by kernel_rfl)
      · subst hq2
        replace e := bindO_eq e
        obtain ⟨g2, e_g2, e⟩ := e
        obtain ⟨g2_0, g2_1, g2_2, g2_3, g2_4, g2_5⟩ := g2
        try dsimp only at e
        replace e := cond_eq_or e
        rcases e with ⟨hq3, e⟩ | ⟨hq3, e⟩
        · subst hq3
          injection e with e; subst e; exact fn_conG hU (P := Try.prog) Try.func3 (fun xs w => by kernel_rfl) _ _ [.o, .cg (ok_barbicanlaw8_known_v1 hU  ), .o, .cp, .cx (sp0_barbicanlaw8_RegionKeeps_J0_ok hU y0 y1 y2 y3 y4 y5 y6 false e_r0) [], .xg (p0_region_New hU  ) [], .o, .o, .xg (p0_region_Mem_Frame_v1 hU  ) [1, 2], .o, .xg (p0_region_Mem_Frame_v2 hU (fun _ => 0#8) (fun _ => 0#8) (fun _ => (⟨0, 0#64, 0, 0⟩ : Val)) (fun _ => 0) (fun _ => false) ) [1, 2, 3], .o, .o, .o, .o, .o, .o, .a 5, .o, .o, .o, .o, .a 6, .o, .o, .o, .a 7, .b hq1, .o, .a 7, .cx (sp0_barbicanlaw8_RegionKeeps_J1_ok hU y0 y1 y2 y3 y5 y6 y4 false e_r1) [0, 1, 2, 3, 4, 5, 6, 7], .cp, .cx (sp0_barbicanlaw8_RegionKeeps_J2_ok hU y0 y1 y2 y3 y5 y6 g2_0 g2_1 g2_2 g2_3 g2_4 true e_g2) [0, 1, 2, 3, 4, 5, 6, 7, 8], .o] [] (fun b => by kernel_rfl)
        · subst hq3
          replace e := bindO_eq e
          obtain ⟨g3, e_g3, e⟩ := e
          obtain ⟨g3_0, g3_1, g3_2, g3_3, g3_4⟩ := g3
          try dsimp only at e
          replace e := bindT_eq e
          obtain ⟨r4, e_r4, e⟩ := e
          try dsimp only at e
          replace e := bindO_eq e
          obtain ⟨g5, e_g5, e⟩ := e
          rcases g5 with ⟨g5_0⟩ | ⟨g5_0⟩
          · try dsimp only at e
            replace e := bindO_eq e
            obtain ⟨g6, e_g6, e⟩ := e
            obtain ⟨g6_0, g6_1, g6_2, g6_3, g6_4⟩ := g6
            try dsimp only at e
            replace e := cond_eq_or e
            rcases e with ⟨hq4, e⟩ | ⟨hq4, e⟩
            · replace e := cond_eq_or e
              rcases e with ⟨hq5, e⟩ | ⟨hq5, e⟩
              · replace e := cond_eq_or e
                rcases e with ⟨hq6, e⟩ | ⟨hq6, e⟩
                · exact none_some e
                · replace e := bindO_eq e
                  obtain ⟨g7, e_g7, e⟩ := e
                  obtain ⟨g7_0, g7_1, g7_2, g7_3, g7_4⟩ := g7
                  try dsimp only at e
                  replace e := cond_eq_or e
                  rcases e with ⟨hq7, e⟩ | ⟨hq7, e⟩
                  · replace e := cond_eq_or e
                    rcases e with ⟨hq8, e⟩ | ⟨hq8, e⟩
                    · injection e with e; subst e; exact fn_conG hU (P := Try.prog) Try.func3 (fun xs w => by kernel_rfl) _ _ [.o, .cg (ok_barbicanlaw8_known_v1 hU  ), .o, .cp, .cx (sp0_barbicanlaw8_RegionKeeps_J0_ok hU y0 y1 y2 y3 y4 y5 y6 false e_r0) [], .xg (p0_region_New hU  ) [], .o, .o, .xg (p0_region_Mem_Frame_v1 hU  ) [1, 2], .o, .xg (p0_region_Mem_Frame_v2 hU (fun _ => 0#8) (fun _ => 0#8) (fun _ => (⟨0, 0#64, 0, 0⟩ : Val)) (fun _ => 0) (fun _ => false) ) [1, 2, 3], .o, .o, .o, .o, .o, .o, .a 5, .o, .o, .o, .o, .a 6, .o, .o, .o, .a 7, .b hq1, .o, .a 7, .cx (sp0_barbicanlaw8_RegionKeeps_J1_ok hU y0 y1 y2 y3 y5 y6 y4 false e_r1) [0, 1, 2, 3, 4, 5, 6, 7], .cp, .cx (sp0_barbicanlaw8_RegionKeeps_J2_ok hU y0 y1 y2 y3 y5 y6 g2_0 g2_1 g2_2 g2_3 g2_4 false e_g2) [0, 1, 2, 3, 4, 5, 6, 7, 8], .o, .a 5, .o, .xg (ok0_region_Mem_Load_v4 hU y2 y0 g2_0 g2_1 g2_2 g2_3 g2_4 (fun _ => 0#8) (fun _ => 0#8) (fun _ => (⟨0, 0#64, 0, 0⟩ : Val)) (fun _ => 0) (fun _ => false) g3_0 g3_1 g3_2 g3_3 g3_4 e_g3) [1, 2, 3, 4], .o, .o, .o, .o, .a 10, .o, .cx (sp0_barbicanlaw8_RegionKeeps_J3_ok hU y0 y1 y2 y3 y5 y6 g2_0 g2_1 g2_2 g2_3 g2_4 g3_0 g3_1 g3_2 g3_3 g3_4 r4 e_r4) [0, 1, 2, 3, 4, 5, 6, 7, 8, 9, 10], .cx (sp0_barbicanlaw8_RegionKeeps_J4_ok hU y0 y1 y2 y3 y5 y6 g2_0 g2_1 g2_2 g2_3 g2_4 g3_0 g3_1 g3_2 g3_3 g3_4 r4 g5_0 e_g5) [0, 1, 2, 3, 4, 5, 6, 7, 8, 9, 10, 11], .o, .a 6, .o, .xg (ok0_region_Mem_Load_v4 hU y3 y1 g2_0 g2_1 g2_2 g2_3 g2_4 (fun _ => 0#8) (fun _ => 0#8) (fun _ => (⟨0, 0#64, 0, 0⟩ : Val)) (fun _ => 0) (fun _ => false) g6_0 g6_1 g6_2 g6_3 g6_4 e_g6) [1, 2, 3, 4], .o, .o, .o, .o, .a 13, .o, .o, .b (z_lssT hq4), .o, .o, .o, .ov (u64_shl Try.prog 22 (.const (.int .u64 (1))) (.tmp 181) (1#64) ((IntKind.i64.wrap (8 * y3))).toNat .i64 (z_pos hq5)), .ov (u64_rem Try.prog 22 (.tmp 179) (.tmp 182) y5 (1#64 <<< ((IntKind.i64.wrap (8 * y3))).toNat) (u_nz hq6)), .o, .o, .o, .o, .o, .o, .xg (ok0_region_Mem_Load_v5 hU y2 y0 g2_0 g2_1 g2_2 g2_3 g2_4 (fun _ => 0#8) (fun _ => 0#8) (fun _ => (⟨0, 0#64, 0, 0⟩ : Val)) (fun _ => 0) (fun _ => false) g7_0 g7_1 g7_2 g7_3 g7_4 e_g7) [1, 2, 3, 4], .o, .o, .o, .o, .a 14, .o, .o, .b (z_eqlT hq7), .o, .a 13, .o, .o, .ov (fun w => (run_aggeq 28 #[.int .i64 (g6_0), .int .u64 (nn g6_1), .int .i64 (g6_2), .int .i64 (g6_3)] #[.int .i64 (1), .int .u64 (nn (y5 % (1#64 <<< ((IntKind.i64.wrap (8 * y3))).toNat))), .int .i64 (0), .int .i64 (0)] true (by kernel_rfl) (fun w => (eqi28 9998 g6_0 1 g6_1 (y5 % (1#64 <<< ((IntKind.i64.wrap (8 * y3))).toNat)) g6_2 0 g6_3 0 w).trans (congrArg (fun b => Result.ok b w) hq8)) (.tmp 196) (.tmp 198) w).1), .o, .o, .o, .o, .o, .o] [] (fun b => by kernel_rfl)
                    · injection e with e; subst e; exact fn_conG hU (P := Try.prog) Try.func3 (fun xs w => by kernel_rfl) _ _ [.o, .cg (ok_barbicanlaw8_known_v1 hU  ), .o, .cp, .cx (sp0_barbicanlaw8_RegionKeeps_J0_ok hU y0 y1 y2 y3 y4 y5 y6 false e_r0) [], .xg (p0_region_New hU  ) [], .o, .o, .xg (p0_region_Mem_Frame_v1 hU  ) [1, 2], .o, .xg (p0_region_Mem_Frame_v2 hU (fun _ => 0#8) (fun _ => 0#8) (fun _ => (⟨0, 0#64, 0, 0⟩ : Val)) (fun _ => 0) (fun _ => false) ) [1, 2, 3], .o, .o, .o, .o, .o, .o, .a 5, .o, .o, .o, .o, .a 6, .o, .o, .o, .a 7, .b hq1, .o, .a 7, .cx (sp0_barbicanlaw8_RegionKeeps_J1_ok hU y0 y1 y2 y3 y5 y6 y4 false e_r1) [0, 1, 2, 3, 4, 5, 6, 7], .cp, .cx (sp0_barbicanlaw8_RegionKeeps_J2_ok hU y0 y1 y2 y3 y5 y6 g2_0 g2_1 g2_2 g2_3 g2_4 false e_g2) [0, 1, 2, 3, 4, 5, 6, 7, 8], .o, .a 5, .o, .xg (ok0_region_Mem_Load_v4 hU y2 y0 g2_0 g2_1 g2_2 g2_3 g2_4 (fun _ => 0#8) (fun _ => 0#8) (fun _ => (⟨0, 0#64, 0, 0⟩ : Val)) (fun _ => 0) (fun _ => false) g3_0 g3_1 g3_2 g3_3 g3_4 e_g3) [1, 2, 3, 4], .o, .o, .o, .o, .a 10, .o, .cx (sp0_barbicanlaw8_RegionKeeps_J3_ok hU y0 y1 y2 y3 y5 y6 g2_0 g2_1 g2_2 g2_3 g2_4 g3_0 g3_1 g3_2 g3_3 g3_4 r4 e_r4) [0, 1, 2, 3, 4, 5, 6, 7, 8, 9, 10], .cx (sp0_barbicanlaw8_RegionKeeps_J4_ok hU y0 y1 y2 y3 y5 y6 g2_0 g2_1 g2_2 g2_3 g2_4 g3_0 g3_1 g3_2 g3_3 g3_4 r4 g5_0 e_g5) [0, 1, 2, 3, 4, 5, 6, 7, 8, 9, 10, 11], .o, .a 6, .o, .xg (ok0_region_Mem_Load_v4 hU y3 y1 g2_0 g2_1 g2_2 g2_3 g2_4 (fun _ => 0#8) (fun _ => 0#8) (fun _ => (⟨0, 0#64, 0, 0⟩ : Val)) (fun _ => 0) (fun _ => false) g6_0 g6_1 g6_2 g6_3 g6_4 e_g6) [1, 2, 3, 4], .o, .o, .o, .o, .a 13, .o, .o, .b (z_lssT hq4), .o, .o, .o, .ov (u64_shl Try.prog 22 (.const (.int .u64 (1))) (.tmp 181) (1#64) ((IntKind.i64.wrap (8 * y3))).toNat .i64 (z_pos hq5)), .ov (u64_rem Try.prog 22 (.tmp 179) (.tmp 182) y5 (1#64 <<< ((IntKind.i64.wrap (8 * y3))).toNat) (u_nz hq6)), .o, .o, .o, .o, .o, .o, .xg (ok0_region_Mem_Load_v5 hU y2 y0 g2_0 g2_1 g2_2 g2_3 g2_4 (fun _ => 0#8) (fun _ => 0#8) (fun _ => (⟨0, 0#64, 0, 0⟩ : Val)) (fun _ => 0) (fun _ => false) g7_0 g7_1 g7_2 g7_3 g7_4 e_g7) [1, 2, 3, 4], .o, .o, .o, .o, .a 14, .o, .o, .b (z_eqlT hq7), .o, .a 13, .o, .o, .ov (fun w => (run_aggeq 28 #[.int .i64 (g6_0), .int .u64 (nn g6_1), .int .i64 (g6_2), .int .i64 (g6_3)] #[.int .i64 (1), .int .u64 (nn (y5 % (1#64 <<< ((IntKind.i64.wrap (8 * y3))).toNat))), .int .i64 (0), .int .i64 (0)] false (by kernel_rfl) (fun w => (eqi28 9998 g6_0 1 g6_1 (y5 % (1#64 <<< ((IntKind.i64.wrap (8 * y3))).toNat)) g6_2 0 g6_3 0 w).trans (congrArg (fun b => Result.ok b w) hq8)) (.tmp 196) (.tmp 198) w).1), .o, .o, .o, .o] [] (fun b => by kernel_rfl)
                  · injection e with e; subst e; exact fn_conG hU (P := Try.prog) Try.func3 (fun xs w => by kernel_rfl) _ _ [.o, .cg (ok_barbicanlaw8_known_v1 hU  ), .o, .cp, .cx (sp0_barbicanlaw8_RegionKeeps_J0_ok hU y0 y1 y2 y3 y4 y5 y6 false e_r0) [], .xg (p0_region_New hU  ) [], .o, .o, .xg (p0_region_Mem_Frame_v1 hU  ) [1, 2], .o, .xg (p0_region_Mem_Frame_v2 hU (fun _ => 0#8) (fun _ => 0#8) (fun _ => (⟨0, 0#64, 0, 0⟩ : Val)) (fun _ => 0) (fun _ => false) ) [1, 2, 3], .o, .o, .o, .o, .o, .o, .a 5, .o, .o, .o, .o, .a 6, .o, .o, .o, .a 7, .b hq1, .o, .a 7, .cx (sp0_barbicanlaw8_RegionKeeps_J1_ok hU y0 y1 y2 y3 y5 y6 y4 false e_r1) [0, 1, 2, 3, 4, 5, 6, 7], .cp, .cx (sp0_barbicanlaw8_RegionKeeps_J2_ok hU y0 y1 y2 y3 y5 y6 g2_0 g2_1 g2_2 g2_3 g2_4 false e_g2) [0, 1, 2, 3, 4, 5, 6, 7, 8], .o, .a 5, .o, .xg (ok0_region_Mem_Load_v4 hU y2 y0 g2_0 g2_1 g2_2 g2_3 g2_4 (fun _ => 0#8) (fun _ => 0#8) (fun _ => (⟨0, 0#64, 0, 0⟩ : Val)) (fun _ => 0) (fun _ => false) g3_0 g3_1 g3_2 g3_3 g3_4 e_g3) [1, 2, 3, 4], .o, .o, .o, .o, .a 10, .o, .cx (sp0_barbicanlaw8_RegionKeeps_J3_ok hU y0 y1 y2 y3 y5 y6 g2_0 g2_1 g2_2 g2_3 g2_4 g3_0 g3_1 g3_2 g3_3 g3_4 r4 e_r4) [0, 1, 2, 3, 4, 5, 6, 7, 8, 9, 10], .cx (sp0_barbicanlaw8_RegionKeeps_J4_ok hU y0 y1 y2 y3 y5 y6 g2_0 g2_1 g2_2 g2_3 g2_4 g3_0 g3_1 g3_2 g3_3 g3_4 r4 g5_0 e_g5) [0, 1, 2, 3, 4, 5, 6, 7, 8, 9, 10, 11], .o, .a 6, .o, .xg (ok0_region_Mem_Load_v4 hU y3 y1 g2_0 g2_1 g2_2 g2_3 g2_4 (fun _ => 0#8) (fun _ => 0#8) (fun _ => (⟨0, 0#64, 0, 0⟩ : Val)) (fun _ => 0) (fun _ => false) g6_0 g6_1 g6_2 g6_3 g6_4 e_g6) [1, 2, 3, 4], .o, .o, .o, .o, .a 13, .o, .o, .b (z_lssT hq4), .o, .o, .o, .ov (u64_shl Try.prog 22 (.const (.int .u64 (1))) (.tmp 181) (1#64) ((IntKind.i64.wrap (8 * y3))).toNat .i64 (z_pos hq5)), .ov (u64_rem Try.prog 22 (.tmp 179) (.tmp 182) y5 (1#64 <<< ((IntKind.i64.wrap (8 * y3))).toNat) (u_nz hq6)), .o, .o, .o, .o, .o, .o, .xg (ok0_region_Mem_Load_v5 hU y2 y0 g2_0 g2_1 g2_2 g2_3 g2_4 (fun _ => 0#8) (fun _ => 0#8) (fun _ => (⟨0, 0#64, 0, 0⟩ : Val)) (fun _ => 0) (fun _ => false) g7_0 g7_1 g7_2 g7_3 g7_4 e_g7) [1, 2, 3, 4], .o, .o, .o, .o, .a 14, .o, .o, .b (z_eqlF hq7), .o, .o, .o, .o, .o] [] (fun b => by kernel_rfl)
              · exact none_some e
            · replace e := bindO_eq e
              obtain ⟨g7, e_g7, e⟩ := e
              obtain ⟨g7_0, g7_1, g7_2, g7_3, g7_4⟩ := g7
              try dsimp only at e
              replace e := cond_eq_or e
              rcases e with ⟨hq5, e⟩ | ⟨hq5, e⟩
              · replace e := cond_eq_or e
                rcases e with ⟨hq6, e⟩ | ⟨hq6, e⟩
                · injection e with e; subst e; exact fn_conG hU (P := Try.prog) Try.func3 (fun xs w => by kernel_rfl) _ _ [.o, .cg (ok_barbicanlaw8_known_v1 hU  ), .o, .cp, .cx (sp0_barbicanlaw8_RegionKeeps_J0_ok hU y0 y1 y2 y3 y4 y5 y6 false e_r0) [], .xg (p0_region_New hU  ) [], .o, .o, .xg (p0_region_Mem_Frame_v1 hU  ) [1, 2], .o, .xg (p0_region_Mem_Frame_v2 hU (fun _ => 0#8) (fun _ => 0#8) (fun _ => (⟨0, 0#64, 0, 0⟩ : Val)) (fun _ => 0) (fun _ => false) ) [1, 2, 3], .o, .o, .o, .o, .o, .o, .a 5, .o, .o, .o, .o, .a 6, .o, .o, .o, .a 7, .b hq1, .o, .a 7, .cx (sp0_barbicanlaw8_RegionKeeps_J1_ok hU y0 y1 y2 y3 y5 y6 y4 false e_r1) [0, 1, 2, 3, 4, 5, 6, 7], .cp, .cx (sp0_barbicanlaw8_RegionKeeps_J2_ok hU y0 y1 y2 y3 y5 y6 g2_0 g2_1 g2_2 g2_3 g2_4 false e_g2) [0, 1, 2, 3, 4, 5, 6, 7, 8], .o, .a 5, .o, .xg (ok0_region_Mem_Load_v4 hU y2 y0 g2_0 g2_1 g2_2 g2_3 g2_4 (fun _ => 0#8) (fun _ => 0#8) (fun _ => (⟨0, 0#64, 0, 0⟩ : Val)) (fun _ => 0) (fun _ => false) g3_0 g3_1 g3_2 g3_3 g3_4 e_g3) [1, 2, 3, 4], .o, .o, .o, .o, .a 10, .o, .cx (sp0_barbicanlaw8_RegionKeeps_J3_ok hU y0 y1 y2 y3 y5 y6 g2_0 g2_1 g2_2 g2_3 g2_4 g3_0 g3_1 g3_2 g3_3 g3_4 r4 e_r4) [0, 1, 2, 3, 4, 5, 6, 7, 8, 9, 10], .cx (sp0_barbicanlaw8_RegionKeeps_J4_ok hU y0 y1 y2 y3 y5 y6 g2_0 g2_1 g2_2 g2_3 g2_4 g3_0 g3_1 g3_2 g3_3 g3_4 r4 g5_0 e_g5) [0, 1, 2, 3, 4, 5, 6, 7, 8, 9, 10, 11], .o, .a 6, .o, .xg (ok0_region_Mem_Load_v4 hU y3 y1 g2_0 g2_1 g2_2 g2_3 g2_4 (fun _ => 0#8) (fun _ => 0#8) (fun _ => (⟨0, 0#64, 0, 0⟩ : Val)) (fun _ => 0) (fun _ => false) g6_0 g6_1 g6_2 g6_3 g6_4 e_g6) [1, 2, 3, 4], .o, .o, .o, .o, .a 13, .o, .o, .b (z_lssF hq4), .o, .o, .o, .o, .o, .xg (ok0_region_Mem_Load_v5 hU y2 y0 g2_0 g2_1 g2_2 g2_3 g2_4 (fun _ => 0#8) (fun _ => 0#8) (fun _ => (⟨0, 0#64, 0, 0⟩ : Val)) (fun _ => 0) (fun _ => false) g7_0 g7_1 g7_2 g7_3 g7_4 e_g7) [1, 2, 3, 4], .o, .o, .o, .o, .a 14, .o, .o, .b (z_eqlT hq5), .o, .a 13, .o, .o, .ov (fun w => (run_aggeq 28 #[.int .i64 (g6_0), .int .u64 (nn g6_1), .int .i64 (g6_2), .int .i64 (g6_3)] #[.int .i64 (1), .int .u64 (nn y5), .int .i64 (0), .int .i64 (0)] true (by kernel_rfl) (fun w => (eqi28 9998 g6_0 1 g6_1 y5 g6_2 0 g6_3 0 w).trans (congrArg (fun b => Result.ok b w) hq6)) (.tmp 196) (.tmp 198) w).1), .o, .o, .o, .o, .o, .o] [] (fun b => by kernel_rfl)
                · injection e with e; subst e; exact fn_conG hU (P := Try.prog) Try.func3 (fun xs w => by kernel_rfl) _ _ [.o, .cg (ok_barbicanlaw8_known_v1 hU  ), .o, .cp, .cx (sp0_barbicanlaw8_RegionKeeps_J0_ok hU y0 y1 y2 y3 y4 y5 y6 false e_r0) [], .xg (p0_region_New hU  ) [], .o, .o, .xg (p0_region_Mem_Frame_v1 hU  ) [1, 2], .o, .xg (p0_region_Mem_Frame_v2 hU (fun _ => 0#8) (fun _ => 0#8) (fun _ => (⟨0, 0#64, 0, 0⟩ : Val)) (fun _ => 0) (fun _ => false) ) [1, 2, 3], .o, .o, .o, .o, .o, .o, .a 5, .o, .o, .o, .o, .a 6, .o, .o, .o, .a 7, .b hq1, .o, .a 7, .cx (sp0_barbicanlaw8_RegionKeeps_J1_ok hU y0 y1 y2 y3 y5 y6 y4 false e_r1) [0, 1, 2, 3, 4, 5, 6, 7], .cp, .cx (sp0_barbicanlaw8_RegionKeeps_J2_ok hU y0 y1 y2 y3 y5 y6 g2_0 g2_1 g2_2 g2_3 g2_4 false e_g2) [0, 1, 2, 3, 4, 5, 6, 7, 8], .o, .a 5, .o, .xg (ok0_region_Mem_Load_v4 hU y2 y0 g2_0 g2_1 g2_2 g2_3 g2_4 (fun _ => 0#8) (fun _ => 0#8) (fun _ => (⟨0, 0#64, 0, 0⟩ : Val)) (fun _ => 0) (fun _ => false) g3_0 g3_1 g3_2 g3_3 g3_4 e_g3) [1, 2, 3, 4], .o, .o, .o, .o, .a 10, .o, .cx (sp0_barbicanlaw8_RegionKeeps_J3_ok hU y0 y1 y2 y3 y5 y6 g2_0 g2_1 g2_2 g2_3 g2_4 g3_0 g3_1 g3_2 g3_3 g3_4 r4 e_r4) [0, 1, 2, 3, 4, 5, 6, 7, 8, 9, 10], .cx (sp0_barbicanlaw8_RegionKeeps_J4_ok hU y0 y1 y2 y3 y5 y6 g2_0 g2_1 g2_2 g2_3 g2_4 g3_0 g3_1 g3_2 g3_3 g3_4 r4 g5_0 e_g5) [0, 1, 2, 3, 4, 5, 6, 7, 8, 9, 10, 11], .o, .a 6, .o, .xg (ok0_region_Mem_Load_v4 hU y3 y1 g2_0 g2_1 g2_2 g2_3 g2_4 (fun _ => 0#8) (fun _ => 0#8) (fun _ => (⟨0, 0#64, 0, 0⟩ : Val)) (fun _ => 0) (fun _ => false) g6_0 g6_1 g6_2 g6_3 g6_4 e_g6) [1, 2, 3, 4], .o, .o, .o, .o, .a 13, .o, .o, .b (z_lssF hq4), .o, .o, .o, .o, .o, .xg (ok0_region_Mem_Load_v5 hU y2 y0 g2_0 g2_1 g2_2 g2_3 g2_4 (fun _ => 0#8) (fun _ => 0#8) (fun _ => (⟨0, 0#64, 0, 0⟩ : Val)) (fun _ => 0) (fun _ => false) g7_0 g7_1 g7_2 g7_3 g7_4 e_g7) [1, 2, 3, 4], .o, .o, .o, .o, .a 14, .o, .o, .b (z_eqlT hq5), .o, .a 13, .o, .o, .ov (fun w => (run_aggeq 28 #[.int .i64 (g6_0), .int .u64 (nn g6_1), .int .i64 (g6_2), .int .i64 (g6_3)] #[.int .i64 (1), .int .u64 (nn y5), .int .i64 (0), .int .i64 (0)] false (by kernel_rfl) (fun w => (eqi28 9998 g6_0 1 g6_1 y5 g6_2 0 g6_3 0 w).trans (congrArg (fun b => Result.ok b w) hq6)) (.tmp 196) (.tmp 198) w).1), .o, .o, .o, .o] [] (fun b => by kernel_rfl)
              · injection e with e; subst e; exact fn_conG hU (P := Try.prog) Try.func3 (fun xs w => by kernel_rfl) _ _ [.o, .cg (ok_barbicanlaw8_known_v1 hU  ), .o, .cp, .cx (sp0_barbicanlaw8_RegionKeeps_J0_ok hU y0 y1 y2 y3 y4 y5 y6 false e_r0) [], .xg (p0_region_New hU  ) [], .o, .o, .xg (p0_region_Mem_Frame_v1 hU  ) [1, 2], .o, .xg (p0_region_Mem_Frame_v2 hU (fun _ => 0#8) (fun _ => 0#8) (fun _ => (⟨0, 0#64, 0, 0⟩ : Val)) (fun _ => 0) (fun _ => false) ) [1, 2, 3], .o, .o, .o, .o, .o, .o, .a 5, .o, .o, .o, .o, .a 6, .o, .o, .o, .a 7, .b hq1, .o, .a 7, .cx (sp0_barbicanlaw8_RegionKeeps_J1_ok hU y0 y1 y2 y3 y5 y6 y4 false e_r1) [0, 1, 2, 3, 4, 5, 6, 7], .cp, .cx (sp0_barbicanlaw8_RegionKeeps_J2_ok hU y0 y1 y2 y3 y5 y6 g2_0 g2_1 g2_2 g2_3 g2_4 false e_g2) [0, 1, 2, 3, 4, 5, 6, 7, 8], .o, .a 5, .o, .xg (ok0_region_Mem_Load_v4 hU y2 y0 g2_0 g2_1 g2_2 g2_3 g2_4 (fun _ => 0#8) (fun _ => 0#8) (fun _ => (⟨0, 0#64, 0, 0⟩ : Val)) (fun _ => 0) (fun _ => false) g3_0 g3_1 g3_2 g3_3 g3_4 e_g3) [1, 2, 3, 4], .o, .o, .o, .o, .a 10, .o, .cx (sp0_barbicanlaw8_RegionKeeps_J3_ok hU y0 y1 y2 y3 y5 y6 g2_0 g2_1 g2_2 g2_3 g2_4 g3_0 g3_1 g3_2 g3_3 g3_4 r4 e_r4) [0, 1, 2, 3, 4, 5, 6, 7, 8, 9, 10], .cx (sp0_barbicanlaw8_RegionKeeps_J4_ok hU y0 y1 y2 y3 y5 y6 g2_0 g2_1 g2_2 g2_3 g2_4 g3_0 g3_1 g3_2 g3_3 g3_4 r4 g5_0 e_g5) [0, 1, 2, 3, 4, 5, 6, 7, 8, 9, 10, 11], .o, .a 6, .o, .xg (ok0_region_Mem_Load_v4 hU y3 y1 g2_0 g2_1 g2_2 g2_3 g2_4 (fun _ => 0#8) (fun _ => 0#8) (fun _ => (⟨0, 0#64, 0, 0⟩ : Val)) (fun _ => 0) (fun _ => false) g6_0 g6_1 g6_2 g6_3 g6_4 e_g6) [1, 2, 3, 4], .o, .o, .o, .o, .a 13, .o, .o, .b (z_lssF hq4), .o, .o, .o, .o, .o, .xg (ok0_region_Mem_Load_v5 hU y2 y0 g2_0 g2_1 g2_2 g2_3 g2_4 (fun _ => 0#8) (fun _ => 0#8) (fun _ => (⟨0, 0#64, 0, 0⟩ : Val)) (fun _ => 0) (fun _ => false) g7_0 g7_1 g7_2 g7_3 g7_4 e_g7) [1, 2, 3, 4], .o, .o, .o, .o, .a 14, .o, .o, .b (z_eqlF hq5), .o, .o, .o, .o, .o] [] (fun b => by kernel_rfl)
          · try dsimp only at e
            injection e with e; subst e; exact fn_conG hU (P := Try.prog) Try.func3 (fun xs w => by kernel_rfl) _ _ [.o, .cg (ok_barbicanlaw8_known_v1 hU  ), .o, .cp, .cx (sp0_barbicanlaw8_RegionKeeps_J0_ok hU y0 y1 y2 y3 y4 y5 y6 false e_r0) [], .xg (p0_region_New hU  ) [], .o, .o, .xg (p0_region_Mem_Frame_v1 hU  ) [1, 2], .o, .xg (p0_region_Mem_Frame_v2 hU (fun _ => 0#8) (fun _ => 0#8) (fun _ => (⟨0, 0#64, 0, 0⟩ : Val)) (fun _ => 0) (fun _ => false) ) [1, 2, 3], .o, .o, .o, .o, .o, .o, .a 5, .o, .o, .o, .o, .a 6, .o, .o, .o, .a 7, .b hq1, .o, .a 7, .cx (sp0_barbicanlaw8_RegionKeeps_J1_ok hU y0 y1 y2 y3 y5 y6 y4 false e_r1) [0, 1, 2, 3, 4, 5, 6, 7], .cp, .cx (sp0_barbicanlaw8_RegionKeeps_J2_ok hU y0 y1 y2 y3 y5 y6 g2_0 g2_1 g2_2 g2_3 g2_4 false e_g2) [0, 1, 2, 3, 4, 5, 6, 7, 8], .o, .a 5, .o, .xg (ok0_region_Mem_Load_v4 hU y2 y0 g2_0 g2_1 g2_2 g2_3 g2_4 (fun _ => 0#8) (fun _ => 0#8) (fun _ => (⟨0, 0#64, 0, 0⟩ : Val)) (fun _ => 0) (fun _ => false) g3_0 g3_1 g3_2 g3_3 g3_4 e_g3) [1, 2, 3, 4], .o, .o, .o, .o, .a 10, .o, .cx (sp0_barbicanlaw8_RegionKeeps_J3_ok hU y0 y1 y2 y3 y5 y6 g2_0 g2_1 g2_2 g2_3 g2_4 g3_0 g3_1 g3_2 g3_3 g3_4 r4 e_r4) [0, 1, 2, 3, 4, 5, 6, 7, 8, 9, 10], .cx (sp1_barbicanlaw8_RegionKeeps_J4_ok hU y0 y1 y2 y3 y5 y6 g2_0 g2_1 g2_2 g2_3 g2_4 g3_0 g3_1 g3_2 g3_3 g3_4 r4 g5_0 e_g5) [0, 1, 2, 3, 4, 5, 6, 7, 8, 9, 10, 11]] [] (fun b => by kernel_rfl)
    · replace e := bindO_eq e
      obtain ⟨g1, e_g1, e⟩ := e
      obtain ⟨g1_0, g1_1, g1_2, g1_3, g1_4, g1_5⟩ := g1
      try dsimp only at e
      replace e := cond_eq_or e
      rcases e with ⟨hq2, e⟩ | ⟨hq2, e⟩
      · subst hq2
        injection e with e; subst e; exact fn_conG hU (P := Try.prog) Try.func3 (fun xs w => by kernel_rfl) _ _ [.o, .cg (ok_barbicanlaw8_known_v1 hU  ), .o, .cp, .cx (sp0_barbicanlaw8_RegionKeeps_J0_ok hU y0 y1 y2 y3 y4 y5 y6 false e_r0) [], .xg (p0_region_New hU  ) [], .o, .o, .xg (p0_region_Mem_Frame_v1 hU  ) [1, 2], .o, .xg (p0_region_Mem_Frame_v2 hU (fun _ => 0#8) (fun _ => 0#8) (fun _ => (⟨0, 0#64, 0, 0⟩ : Val)) (fun _ => 0) (fun _ => false) ) [1, 2, 3], .o, .o, .o, .o, .o, .o, .a 5, .o, .o, .o, .o, .a 6, .o, .o, .o, .a 7, .b hq1, .cp, .cx (sp0_barbicanlaw8_RegionKeeps_J5_ok hU y0 y1 y2 y3 y4 y5 y6 g1_0 g1_1 g1_2 g1_3 g1_4 true e_g1) [0, 1, 2, 3, 4, 5, 6, 7], .o] [] (fun b => by kernel_rfl)
      · subst hq2
        replace e := bindO_eq e
        obtain ⟨g2, e_g2, e⟩ := e
        obtain ⟨g2_0, g2_1, g2_2, g2_3, g2_4⟩ := g2
        try dsimp only at e
        replace e := bindT_eq e
        obtain ⟨r3, e_r3, e⟩ := e
        try dsimp only at e
        replace e := bindO_eq e
        obtain ⟨g4, e_g4, e⟩ := e
        rcases g4 with ⟨g4_0⟩ | ⟨g4_0⟩
        · try dsimp only at e
          replace e := bindO_eq e
          obtain ⟨g5, e_g5, e⟩ := e
          obtain ⟨g5_0, g5_1, g5_2, g5_3, g5_4⟩ := g5
          try dsimp only at e
          replace e := cond_eq_or e
          rcases e with ⟨hq3, e⟩ | ⟨hq3, e⟩
          · replace e := cond_eq_or e
            rcases e with ⟨hq4, e⟩ | ⟨hq4, e⟩
            · replace e := cond_eq_or e
              rcases e with ⟨hq5, e⟩ | ⟨hq5, e⟩
              · exact none_some e
              · replace e := bindO_eq e
                obtain ⟨g6, e_g6, e⟩ := e
                obtain ⟨g6_0, g6_1, g6_2, g6_3, g6_4⟩ := g6
                try dsimp only at e
                replace e := cond_eq_or e
                rcases e with ⟨hq6, e⟩ | ⟨hq6, e⟩
                · replace e := cond_eq_or e
                  rcases e with ⟨hq7, e⟩ | ⟨hq7, e⟩
                  · injection e with e; subst e; exact fn_conG hU (P := Try.prog) Try.func3 (fun xs w => by kernel_rfl) _ _ [.o, .cg (ok_barbicanlaw8_known_v1 hU  ), .o, .cp, .cx (sp0_barbicanlaw8_RegionKeeps_J0_ok hU y0 y1 y2 y3 y4 y5 y6 false e_r0) [], .xg (p0_region_New hU  ) [], .o, .o, .xg (p0_region_Mem_Frame_v1 hU  ) [1, 2], .o, .xg (p0_region_Mem_Frame_v2 hU (fun _ => 0#8) (fun _ => 0#8) (fun _ => (⟨0, 0#64, 0, 0⟩ : Val)) (fun _ => 0) (fun _ => false) ) [1, 2, 3], .o, .o, .o, .o, .o, .o, .a 5, .o, .o, .o, .o, .a 6, .o, .o, .o, .a 7, .b hq1, .cp, .cx (sp0_barbicanlaw8_RegionKeeps_J5_ok hU y0 y1 y2 y3 y4 y5 y6 g1_0 g1_1 g1_2 g1_3 g1_4 false e_g1) [0, 1, 2, 3, 4, 5, 6, 7], .o, .a 5, .o, .xg (ok0_region_Mem_Load_v4 hU y2 y0 g1_0 g1_1 g1_2 g1_3 g1_4 (fun _ => 0#8) (fun _ => 0#8) (fun _ => (⟨0, 0#64, 0, 0⟩ : Val)) (fun _ => 0) (fun _ => false) g2_0 g2_1 g2_2 g2_3 g2_4 e_g2) [1, 2, 3, 4], .o, .o, .o, .o, .a 9, .o, .cx (sp0_barbicanlaw8_RegionKeeps_J6_ok hU y0 y1 y2 y3 y4 y5 y6 g1_0 g1_1 g1_2 g1_3 g1_4 g2_0 g2_1 g2_2 g2_3 g2_4 r3 e_r3) [0, 1, 2, 3, 4, 5, 6, 7, 8, 9], .cx (sp0_barbicanlaw8_RegionKeeps_J7_ok hU y0 y1 y2 y3 y4 y5 y6 g1_0 g1_1 g1_2 g1_3 g1_4 g2_0 g2_1 g2_2 g2_3 g2_4 r3 g4_0 e_g4) [0, 1, 2, 3, 4, 5, 6, 7, 8, 9, 10], .o, .a 6, .o, .xg (ok0_region_Mem_Load_v4 hU y3 y1 g1_0 g1_1 g1_2 g1_3 g1_4 (fun _ => 0#8) (fun _ => 0#8) (fun _ => (⟨0, 0#64, 0, 0⟩ : Val)) (fun _ => 0) (fun _ => false) g5_0 g5_1 g5_2 g5_3 g5_4 e_g5) [1, 2, 3, 4], .o, .o, .o, .o, .a 12, .o, .o, .b (z_lssT hq3), .o, .o, .o, .ov (u64_shl Try.prog 22 (.const (.int .u64 (1))) (.tmp 181) (1#64) ((IntKind.i64.wrap (8 * y3))).toNat .i64 (z_pos hq4)), .ov (u64_rem Try.prog 22 (.tmp 179) (.tmp 182) y5 (1#64 <<< ((IntKind.i64.wrap (8 * y3))).toNat) (u_nz hq5)), .o, .o, .o, .o, .o, .o, .xg (ok0_region_Mem_Load_v5 hU y2 y0 g1_0 g1_1 g1_2 g1_3 g1_4 (fun _ => 0#8) (fun _ => 0#8) (fun _ => (⟨0, 0#64, 0, 0⟩ : Val)) (fun _ => 0) (fun _ => false) g6_0 g6_1 g6_2 g6_3 g6_4 e_g6) [1, 2, 3, 4], .o, .o, .o, .o, .a 13, .o, .o, .b (z_eqlT hq6), .o, .a 12, .o, .o, .ov (fun w => (run_aggeq 28 #[.int .i64 (g5_0), .int .u64 (nn g5_1), .int .i64 (g5_2), .int .i64 (g5_3)] #[.int .i64 (1), .int .u64 (nn (y5 % (1#64 <<< ((IntKind.i64.wrap (8 * y3))).toNat))), .int .i64 (0), .int .i64 (0)] true (by kernel_rfl) (fun w => (eqi28 9998 g5_0 1 g5_1 (y5 % (1#64 <<< ((IntKind.i64.wrap (8 * y3))).toNat)) g5_2 0 g5_3 0 w).trans (congrArg (fun b => Result.ok b w) hq7)) (.tmp 196) (.tmp 198) w).1), .o, .o, .o, .o, .o, .o] [] (fun b => by kernel_rfl)
                  · injection e with e; subst e; exact fn_conG hU (P := Try.prog) Try.func3 (fun xs w => by kernel_rfl) _ _ [.o, .cg (ok_barbicanlaw8_known_v1 hU  ), .o, .cp, .cx (sp0_barbicanlaw8_RegionKeeps_J0_ok hU y0 y1 y2 y3 y4 y5 y6 false e_r0) [], .xg (p0_region_New hU  ) [], .o, .o, .xg (p0_region_Mem_Frame_v1 hU  ) [1, 2], .o, .xg (p0_region_Mem_Frame_v2 hU (fun _ => 0#8) (fun _ => 0#8) (fun _ => (⟨0, 0#64, 0, 0⟩ : Val)) (fun _ => 0) (fun _ => false) ) [1, 2, 3], .o, .o, .o, .o, .o, .o, .a 5, .o, .o, .o, .o, .a 6, .o, .o, .o, .a 7, .b hq1, .cp, .cx (sp0_barbicanlaw8_RegionKeeps_J5_ok hU y0 y1 y2 y3 y4 y5 y6 g1_0 g1_1 g1_2 g1_3 g1_4 false e_g1) [0, 1, 2, 3, 4, 5, 6, 7], .o, .a 5, .o, .xg (ok0_region_Mem_Load_v4 hU y2 y0 g1_0 g1_1 g1_2 g1_3 g1_4 (fun _ => 0#8) (fun _ => 0#8) (fun _ => (⟨0, 0#64, 0, 0⟩ : Val)) (fun _ => 0) (fun _ => false) g2_0 g2_1 g2_2 g2_3 g2_4 e_g2) [1, 2, 3, 4], .o, .o, .o, .o, .a 9, .o, .cx (sp0_barbicanlaw8_RegionKeeps_J6_ok hU y0 y1 y2 y3 y4 y5 y6 g1_0 g1_1 g1_2 g1_3 g1_4 g2_0 g2_1 g2_2 g2_3 g2_4 r3 e_r3) [0, 1, 2, 3, 4, 5, 6, 7, 8, 9], .cx (sp0_barbicanlaw8_RegionKeeps_J7_ok hU y0 y1 y2 y3 y4 y5 y6 g1_0 g1_1 g1_2 g1_3 g1_4 g2_0 g2_1 g2_2 g2_3 g2_4 r3 g4_0 e_g4) [0, 1, 2, 3, 4, 5, 6, 7, 8, 9, 10], .o, .a 6, .o, .xg (ok0_region_Mem_Load_v4 hU y3 y1 g1_0 g1_1 g1_2 g1_3 g1_4 (fun _ => 0#8) (fun _ => 0#8) (fun _ => (⟨0, 0#64, 0, 0⟩ : Val)) (fun _ => 0) (fun _ => false) g5_0 g5_1 g5_2 g5_3 g5_4 e_g5) [1, 2, 3, 4], .o, .o, .o, .o, .a 12, .o, .o, .b (z_lssT hq3), .o, .o, .o, .ov (u64_shl Try.prog 22 (.const (.int .u64 (1))) (.tmp 181) (1#64) ((IntKind.i64.wrap (8 * y3))).toNat .i64 (z_pos hq4)), .ov (u64_rem Try.prog 22 (.tmp 179) (.tmp 182) y5 (1#64 <<< ((IntKind.i64.wrap (8 * y3))).toNat) (u_nz hq5)), .o, .o, .o, .o, .o, .o, .xg (ok0_region_Mem_Load_v5 hU y2 y0 g1_0 g1_1 g1_2 g1_3 g1_4 (fun _ => 0#8) (fun _ => 0#8) (fun _ => (⟨0, 0#64, 0, 0⟩ : Val)) (fun _ => 0) (fun _ => false) g6_0 g6_1 g6_2 g6_3 g6_4 e_g6) [1, 2, 3, 4], .o, .o, .o, .o, .a 13, .o, .o, .b (z_eqlT hq6), .o, .a 12, .o, .o, .ov (fun w => (run_aggeq 28 #[.int .i64 (g5_0), .int .u64 (nn g5_1), .int .i64 (g5_2), .int .i64 (g5_3)] #[.int .i64 (1), .int .u64 (nn (y5 % (1#64 <<< ((IntKind.i64.wrap (8 * y3))).toNat))), .int .i64 (0), .int .i64 (0)] false (by kernel_rfl) (fun w => (eqi28 9998 g5_0 1 g5_1 (y5 % (1#64 <<< ((IntKind.i64.wrap (8 * y3))).toNat)) g5_2 0 g5_3 0 w).trans (congrArg (fun b => Result.ok b w) hq7)) (.tmp 196) (.tmp 198) w).1), .o, .o, .o, .o] [] (fun b => by kernel_rfl)
                · injection e with e; subst e; exact fn_conG hU (P := Try.prog) Try.func3 (fun xs w => by kernel_rfl) _ _ [.o, .cg (ok_barbicanlaw8_known_v1 hU  ), .o, .cp, .cx (sp0_barbicanlaw8_RegionKeeps_J0_ok hU y0 y1 y2 y3 y4 y5 y6 false e_r0) [], .xg (p0_region_New hU  ) [], .o, .o, .xg (p0_region_Mem_Frame_v1 hU  ) [1, 2], .o, .xg (p0_region_Mem_Frame_v2 hU (fun _ => 0#8) (fun _ => 0#8) (fun _ => (⟨0, 0#64, 0, 0⟩ : Val)) (fun _ => 0) (fun _ => false) ) [1, 2, 3], .o, .o, .o, .o, .o, .o, .a 5, .o, .o, .o, .o, .a 6, .o, .o, .o, .a 7, .b hq1, .cp, .cx (sp0_barbicanlaw8_RegionKeeps_J5_ok hU y0 y1 y2 y3 y4 y5 y6 g1_0 g1_1 g1_2 g1_3 g1_4 false e_g1) [0, 1, 2, 3, 4, 5, 6, 7], .o, .a 5, .o, .xg (ok0_region_Mem_Load_v4 hU y2 y0 g1_0 g1_1 g1_2 g1_3 g1_4 (fun _ => 0#8) (fun _ => 0#8) (fun _ => (⟨0, 0#64, 0, 0⟩ : Val)) (fun _ => 0) (fun _ => false) g2_0 g2_1 g2_2 g2_3 g2_4 e_g2) [1, 2, 3, 4], .o, .o, .o, .o, .a 9, .o, .cx (sp0_barbicanlaw8_RegionKeeps_J6_ok hU y0 y1 y2 y3 y4 y5 y6 g1_0 g1_1 g1_2 g1_3 g1_4 g2_0 g2_1 g2_2 g2_3 g2_4 r3 e_r3) [0, 1, 2, 3, 4, 5, 6, 7, 8, 9], .cx (sp0_barbicanlaw8_RegionKeeps_J7_ok hU y0 y1 y2 y3 y4 y5 y6 g1_0 g1_1 g1_2 g1_3 g1_4 g2_0 g2_1 g2_2 g2_3 g2_4 r3 g4_0 e_g4) [0, 1, 2, 3, 4, 5, 6, 7, 8, 9, 10], .o, .a 6, .o, .xg (ok0_region_Mem_Load_v4 hU y3 y1 g1_0 g1_1 g1_2 g1_3 g1_4 (fun _ => 0#8) (fun _ => 0#8) (fun _ => (⟨0, 0#64, 0, 0⟩ : Val)) (fun _ => 0) (fun _ => false) g5_0 g5_1 g5_2 g5_3 g5_4 e_g5) [1, 2, 3, 4], .o, .o, .o, .o, .a 12, .o, .o, .b (z_lssT hq3), .o, .o, .o, .ov (u64_shl Try.prog 22 (.const (.int .u64 (1))) (.tmp 181) (1#64) ((IntKind.i64.wrap (8 * y3))).toNat .i64 (z_pos hq4)), .ov (u64_rem Try.prog 22 (.tmp 179) (.tmp 182) y5 (1#64 <<< ((IntKind.i64.wrap (8 * y3))).toNat) (u_nz hq5)), .o, .o, .o, .o, .o, .o, .xg (ok0_region_Mem_Load_v5 hU y2 y0 g1_0 g1_1 g1_2 g1_3 g1_4 (fun _ => 0#8) (fun _ => 0#8) (fun _ => (⟨0, 0#64, 0, 0⟩ : Val)) (fun _ => 0) (fun _ => false) g6_0 g6_1 g6_2 g6_3 g6_4 e_g6) [1, 2, 3, 4], .o, .o, .o, .o, .a 13, .o, .o, .b (z_eqlF hq6), .o, .o, .o, .o, .o] [] (fun b => by kernel_rfl)
            · exact none_some e
          · replace e := bindO_eq e
            obtain ⟨g6, e_g6, e⟩ := e
            obtain ⟨g6_0, g6_1, g6_2, g6_3, g6_4⟩ := g6
            try dsimp only at e
            replace e := cond_eq_or e
            rcases e with ⟨hq4, e⟩ | ⟨hq4, e⟩
            · replace e := cond_eq_or e
              rcases e with ⟨hq5, e⟩ | ⟨hq5, e⟩
              · injection e with e; subst e; exact fn_conG hU (P := Try.prog) Try.func3 (fun xs w => by kernel_rfl) _ _ [.o, .cg (ok_barbicanlaw8_known_v1 hU  ), .o, .cp, .cx (sp0_barbicanlaw8_RegionKeeps_J0_ok hU y0 y1 y2 y3 y4 y5 y6 false e_r0) [], .xg (p0_region_New hU  ) [], .o, .o, .xg (p0_region_Mem_Frame_v1 hU  ) [1, 2], .o, .xg (p0_region_Mem_Frame_v2 hU (fun _ => 0#8) (fun _ => 0#8) (fun _ => (⟨0, 0#64, 0, 0⟩ : Val)) (fun _ => 0) (fun _ => false) ) [1, 2, 3], .o, .o, .o, .o, .o, .o, .a 5, .o, .o, .o, .o, .a 6, .o, .o, .o, .a 7, .b hq1, .cp, .cx (sp0_barbicanlaw8_RegionKeeps_J5_ok hU y0 y1 y2 y3 y4 y5 y6 g1_0 g1_1 g1_2 g1_3 g1_4 false e_g1) [0, 1, 2, 3, 4, 5, 6, 7], .o, .a 5, .o, .xg (ok0_region_Mem_Load_v4 hU y2 y0 g1_0 g1_1 g1_2 g1_3 g1_4 (fun _ => 0#8) (fun _ => 0#8) (fun _ => (⟨0, 0#64, 0, 0⟩ : Val)) (fun _ => 0) (fun _ => false) g2_0 g2_1 g2_2 g2_3 g2_4 e_g2) [1, 2, 3, 4], .o, .o, .o, .o, .a 9, .o, .cx (sp0_barbicanlaw8_RegionKeeps_J6_ok hU y0 y1 y2 y3 y4 y5 y6 g1_0 g1_1 g1_2 g1_3 g1_4 g2_0 g2_1 g2_2 g2_3 g2_4 r3 e_r3) [0, 1, 2, 3, 4, 5, 6, 7, 8, 9], .cx (sp0_barbicanlaw8_RegionKeeps_J7_ok hU y0 y1 y2 y3 y4 y5 y6 g1_0 g1_1 g1_2 g1_3 g1_4 g2_0 g2_1 g2_2 g2_3 g2_4 r3 g4_0 e_g4) [0, 1, 2, 3, 4, 5, 6, 7, 8, 9, 10], .o, .a 6, .o, .xg (ok0_region_Mem_Load_v4 hU y3 y1 g1_0 g1_1 g1_2 g1_3 g1_4 (fun _ => 0#8) (fun _ => 0#8) (fun _ => (⟨0, 0#64, 0, 0⟩ : Val)) (fun _ => 0) (fun _ => false) g5_0 g5_1 g5_2 g5_3 g5_4 e_g5) [1, 2, 3, 4], .o, .o, .o, .o, .a 12, .o, .o, .b (z_lssF hq3), .o, .o, .o, .o, .o, .xg (ok0_region_Mem_Load_v5 hU y2 y0 g1_0 g1_1 g1_2 g1_3 g1_4 (fun _ => 0#8) (fun _ => 0#8) (fun _ => (⟨0, 0#64, 0, 0⟩ : Val)) (fun _ => 0) (fun _ => false) g6_0 g6_1 g6_2 g6_3 g6_4 e_g6) [1, 2, 3, 4], .o, .o, .o, .o, .a 13, .o, .o, .b (z_eqlT hq4), .o, .a 12, .o, .o, .ov (fun w => (run_aggeq 28 #[.int .i64 (g5_0), .int .u64 (nn g5_1), .int .i64 (g5_2), .int .i64 (g5_3)] #[.int .i64 (1), .int .u64 (nn y5), .int .i64 (0), .int .i64 (0)] true (by kernel_rfl) (fun w => (eqi28 9998 g5_0 1 g5_1 y5 g5_2 0 g5_3 0 w).trans (congrArg (fun b => Result.ok b w) hq5)) (.tmp 196) (.tmp 198) w).1), .o, .o, .o, .o, .o, .o] [] (fun b => by kernel_rfl)
              · injection e with e; subst e; exact fn_conG hU (P := Try.prog) Try.func3 (fun xs w => by kernel_rfl) _ _ [.o, .cg (ok_barbicanlaw8_known_v1 hU  ), .o, .cp, .cx (sp0_barbicanlaw8_RegionKeeps_J0_ok hU y0 y1 y2 y3 y4 y5 y6 false e_r0) [], .xg (p0_region_New hU  ) [], .o, .o, .xg (p0_region_Mem_Frame_v1 hU  ) [1, 2], .o, .xg (p0_region_Mem_Frame_v2 hU (fun _ => 0#8) (fun _ => 0#8) (fun _ => (⟨0, 0#64, 0, 0⟩ : Val)) (fun _ => 0) (fun _ => false) ) [1, 2, 3], .o, .o, .o, .o, .o, .o, .a 5, .o, .o, .o, .o, .a 6, .o, .o, .o, .a 7, .b hq1, .cp, .cx (sp0_barbicanlaw8_RegionKeeps_J5_ok hU y0 y1 y2 y3 y4 y5 y6 g1_0 g1_1 g1_2 g1_3 g1_4 false e_g1) [0, 1, 2, 3, 4, 5, 6, 7], .o, .a 5, .o, .xg (ok0_region_Mem_Load_v4 hU y2 y0 g1_0 g1_1 g1_2 g1_3 g1_4 (fun _ => 0#8) (fun _ => 0#8) (fun _ => (⟨0, 0#64, 0, 0⟩ : Val)) (fun _ => 0) (fun _ => false) g2_0 g2_1 g2_2 g2_3 g2_4 e_g2) [1, 2, 3, 4], .o, .o, .o, .o, .a 9, .o, .cx (sp0_barbicanlaw8_RegionKeeps_J6_ok hU y0 y1 y2 y3 y4 y5 y6 g1_0 g1_1 g1_2 g1_3 g1_4 g2_0 g2_1 g2_2 g2_3 g2_4 r3 e_r3) [0, 1, 2, 3, 4, 5, 6, 7, 8, 9], .cx (sp0_barbicanlaw8_RegionKeeps_J7_ok hU y0 y1 y2 y3 y4 y5 y6 g1_0 g1_1 g1_2 g1_3 g1_4 g2_0 g2_1 g2_2 g2_3 g2_4 r3 g4_0 e_g4) [0, 1, 2, 3, 4, 5, 6, 7, 8, 9, 10], .o, .a 6, .o, .xg (ok0_region_Mem_Load_v4 hU y3 y1 g1_0 g1_1 g1_2 g1_3 g1_4 (fun _ => 0#8) (fun _ => 0#8) (fun _ => (⟨0, 0#64, 0, 0⟩ : Val)) (fun _ => 0) (fun _ => false) g5_0 g5_1 g5_2 g5_3 g5_4 e_g5) [1, 2, 3, 4], .o, .o, .o, .o, .a 12, .o, .o, .b (z_lssF hq3), .o, .o, .o, .o, .o, .xg (ok0_region_Mem_Load_v5 hU y2 y0 g1_0 g1_1 g1_2 g1_3 g1_4 (fun _ => 0#8) (fun _ => 0#8) (fun _ => (⟨0, 0#64, 0, 0⟩ : Val)) (fun _ => 0) (fun _ => false) g6_0 g6_1 g6_2 g6_3 g6_4 e_g6) [1, 2, 3, 4], .o, .o, .o, .o, .a 13, .o, .o, .b (z_eqlT hq4), .o, .a 12, .o, .o, .ov (fun w => (run_aggeq 28 #[.int .i64 (g5_0), .int .u64 (nn g5_1), .int .i64 (g5_2), .int .i64 (g5_3)] #[.int .i64 (1), .int .u64 (nn y5), .int .i64 (0), .int .i64 (0)] false (by kernel_rfl) (fun w => (eqi28 9998 g5_0 1 g5_1 y5 g5_2 0 g5_3 0 w).trans (congrArg (fun b => Result.ok b w) hq5)) (.tmp 196) (.tmp 198) w).1), .o, .o, .o, .o] [] (fun b => by kernel_rfl)
            · injection e with e; subst e; exact fn_conG hU (P := Try.prog) Try.func3 (fun xs w => by kernel_rfl) _ _ [.o, .cg (ok_barbicanlaw8_known_v1 hU  ), .o, .cp, .cx (sp0_barbicanlaw8_RegionKeeps_J0_ok hU y0 y1 y2 y3 y4 y5 y6 false e_r0) [], .xg (p0_region_New hU  ) [], .o, .o, .xg (p0_region_Mem_Frame_v1 hU  ) [1, 2], .o, .xg (p0_region_Mem_Frame_v2 hU (fun _ => 0#8) (fun _ => 0#8) (fun _ => (⟨0, 0#64, 0, 0⟩ : Val)) (fun _ => 0) (fun _ => false) ) [1, 2, 3], .o, .o, .o, .o, .o, .o, .a 5, .o, .o, .o, .o, .a 6, .o, .o, .o, .a 7, .b hq1, .cp, .cx (sp0_barbicanlaw8_RegionKeeps_J5_ok hU y0 y1 y2 y3 y4 y5 y6 g1_0 g1_1 g1_2 g1_3 g1_4 false e_g1) [0, 1, 2, 3, 4, 5, 6, 7], .o, .a 5, .o, .xg (ok0_region_Mem_Load_v4 hU y2 y0 g1_0 g1_1 g1_2 g1_3 g1_4 (fun _ => 0#8) (fun _ => 0#8) (fun _ => (⟨0, 0#64, 0, 0⟩ : Val)) (fun _ => 0) (fun _ => false) g2_0 g2_1 g2_2 g2_3 g2_4 e_g2) [1, 2, 3, 4], .o, .o, .o, .o, .a 9, .o, .cx (sp0_barbicanlaw8_RegionKeeps_J6_ok hU y0 y1 y2 y3 y4 y5 y6 g1_0 g1_1 g1_2 g1_3 g1_4 g2_0 g2_1 g2_2 g2_3 g2_4 r3 e_r3) [0, 1, 2, 3, 4, 5, 6, 7, 8, 9], .cx (sp0_barbicanlaw8_RegionKeeps_J7_ok hU y0 y1 y2 y3 y4 y5 y6 g1_0 g1_1 g1_2 g1_3 g1_4 g2_0 g2_1 g2_2 g2_3 g2_4 r3 g4_0 e_g4) [0, 1, 2, 3, 4, 5, 6, 7, 8, 9, 10], .o, .a 6, .o, .xg (ok0_region_Mem_Load_v4 hU y3 y1 g1_0 g1_1 g1_2 g1_3 g1_4 (fun _ => 0#8) (fun _ => 0#8) (fun _ => (⟨0, 0#64, 0, 0⟩ : Val)) (fun _ => 0) (fun _ => false) g5_0 g5_1 g5_2 g5_3 g5_4 e_g5) [1, 2, 3, 4], .o, .o, .o, .o, .a 12, .o, .o, .b (z_lssF hq3), .o, .o, .o, .o, .o, .xg (ok0_region_Mem_Load_v5 hU y2 y0 g1_0 g1_1 g1_2 g1_3 g1_4 (fun _ => 0#8) (fun _ => 0#8) (fun _ => (⟨0, 0#64, 0, 0⟩ : Val)) (fun _ => 0) (fun _ => false) g6_0 g6_1 g6_2 g6_3 g6_4 e_g6) [1, 2, 3, 4], .o, .o, .o, .o, .a 13, .o, .o, .b (z_eqlF hq4), .o, .o, .o, .o, .o] [] (fun b => by kernel_rfl)
        · try dsimp only at e
          injection e with e; subst e; exact fn_conG hU (P := Try.prog) Try.func3 (fun xs w => by kernel_rfl) _ _ [.o, .cg (ok_barbicanlaw8_known_v1 hU  ), .o, .cp, .cx (sp0_barbicanlaw8_RegionKeeps_J0_ok hU y0 y1 y2 y3 y4 y5 y6 false e_r0) [], .xg (p0_region_New hU  ) [], .o, .o, .xg (p0_region_Mem_Frame_v1 hU  ) [1, 2], .o, .xg (p0_region_Mem_Frame_v2 hU (fun _ => 0#8) (fun _ => 0#8) (fun _ => (⟨0, 0#64, 0, 0⟩ : Val)) (fun _ => 0) (fun _ => false) ) [1, 2, 3], .o, .o, .o, .o, .o, .o, .a 5, .o, .o, .o, .o, .a 6, .o, .o, .o, .a 7, .b hq1, .cp, .cx (sp0_barbicanlaw8_RegionKeeps_J5_ok hU y0 y1 y2 y3 y4 y5 y6 g1_0 g1_1 g1_2 g1_3 g1_4 false e_g1) [0, 1, 2, 3, 4, 5, 6, 7], .o, .a 5, .o, .xg (ok0_region_Mem_Load_v4 hU y2 y0 g1_0 g1_1 g1_2 g1_3 g1_4 (fun _ => 0#8) (fun _ => 0#8) (fun _ => (⟨0, 0#64, 0, 0⟩ : Val)) (fun _ => 0) (fun _ => false) g2_0 g2_1 g2_2 g2_3 g2_4 e_g2) [1, 2, 3, 4], .o, .o, .o, .o, .a 9, .o, .cx (sp0_barbicanlaw8_RegionKeeps_J6_ok hU y0 y1 y2 y3 y4 y5 y6 g1_0 g1_1 g1_2 g1_3 g1_4 g2_0 g2_1 g2_2 g2_3 g2_4 r3 e_r3) [0, 1, 2, 3, 4, 5, 6, 7, 8, 9], .cx (sp1_barbicanlaw8_RegionKeeps_J7_ok hU y0 y1 y2 y3 y4 y5 y6 g1_0 g1_1 g1_2 g1_3 g1_4 g2_0 g2_1 g2_2 g2_3 g2_4 r3 g4_0 e_g4) [0, 1, 2, 3, 4, 5, 6, 7, 8, 9, 10]] [] (fun b => by kernel_rfl)
end

end Go.Proofs.Ytfmpmhafilllpaa
