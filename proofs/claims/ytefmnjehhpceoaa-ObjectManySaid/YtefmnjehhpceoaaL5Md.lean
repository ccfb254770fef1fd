/-
  The law on many maps and programs, by the program's text.
-/
import Derived.Test.YtefmnjehhpceoaaL5Mc
import Derived.Test.YtefmnjehhpceoaaL5K
import Derived.Test.YtefmnjehhpceoaaRyQ
namespace Go.Proofs.Ytefmnjehhpceoaa
open Go.RowKit
set_option linter.unusedVariables false
set_option linter.unusedSimpArgs false
set_option linter.unusedSectionVars false
set_option maxRecDepth 100000
set_option maxHeartbeats 4000000
section
variable {M : Nat → Prop} {B0 : Nat} {S : World → Prop} (hU : Up M B0 S)
include hU
theorem ok_barbicanlaw5_ObjectMany (y0 : Int) (y1 : Int) (y2 : Int) (r : Bool) (e : m_barbicanlaw5_ObjectMany y0 y1 y2 = some r) : ConG Try.prog S 3 #[.int .i64 (y0), .int .i64 (y1), .int .i64 (y2)] (.bool (r)) := by
  unfold m_barbicanlaw5_ObjectMany at e
  replace e := cond_eq_or e
  let P1 : List (PG Try.prog M B0 S) := [.o, .cg (ok_barbicanlaw5_known hU  ), .o, .o]
  rcases e with ⟨hq0, e⟩ | ⟨hq0, e⟩
  · injection e with e; subst e; exact fn_conG hU (P := Try.prog) Try.func3 (fun xs w => by kernel_rfl) _ _ (P1 ++ [.b (z_lssT hq0), .o, .o, .o, .o, .o, .o, .o]) [] (fun b => by kernel_rfl)
  · replace e := cond_eq_or e
    let P2 : List (PG Try.prog M B0 S) := P1 ++ [.b (z_lssF hq0), .o, .o]
    rcases e with ⟨hq1, e⟩ | ⟨hq1, e⟩
    · injection e with e; subst e; exact fn_conG hU (P := Try.prog) Try.func3 (fun xs w => by kernel_rfl) _ _ (P2 ++ [.b (z_gtrT hq1), .o, .o, .o, .o, .o, .o]) [] (fun b => by kernel_rfl)
    · replace e := cond_eq_or e
      let P3 : List (PG Try.prog M B0 S) := P2 ++ [.b (z_gtrF hq1), .o, .o, .o]
      rcases e with ⟨hq2, e⟩ | ⟨hq2, e⟩
      · injection e with e; subst e; exact fn_conG hU (P := Try.prog) Try.func3 (fun xs w => by kernel_rfl) _ _ (P3 ++ [.b (z_lssT hq2), .o, .o, .o, .o]) [] (fun b => by kernel_rfl)
      · replace e := cond_eq_or e
        let P4 : List (PG Try.prog M B0 S) := P3 ++ [.b (z_lssF hq2), .o, .o, .o]
        rcases e with ⟨hq3, e⟩ | ⟨hq3, e⟩
        · injection e with e; subst e; exact fn_conG hU (P := Try.prog) Try.func3 (fun xs w => by kernel_rfl) _ _ (P4 ++ [.b (z_gtrT hq3), .o, .o]) [] (fun b => by kernel_rfl)
        · replace e := bindO_eq e
          obtain ⟨g0, e_g0, e⟩ := e
          let P5 : List (PG Try.prog M B0 S) := P4 ++ [.b (z_gtrF hq3), .o, .o, .o, .a 0, .o, .cp]
          rcases g0 with _ | ⟨g0_0, g0_1⟩
          · try dsimp only at e
            replace e := bindO_eq e
            obtain ⟨g1, e_g1, e⟩ := e
            let P6 : List (PG Try.prog M B0 S) := P5 ++ [.cx (sp0_barbicanlaw5_ObjectMany_L0_0_ok hU y0 y1 y2   e_g0) [0], .o, .o, .cp]
            rcases g1 with _ | ⟨g1_0, g1_1⟩
            · try dsimp only at e
              replace e := cond_eq_or e
              let P7 : List (PG Try.prog M B0 S) := P6 ++ [.cx (sp0_barbicanlaw5_ObjectMany_L1_0_ok hU y0 y1 y2   e_g1) [0, 1, 2], .o]
              rcases e with ⟨hq4, e⟩ | ⟨hq4, e⟩
              · replace e := cond_eq_or e
                rcases e with ⟨hq5, e⟩ | ⟨hq5, e⟩
                · exact none_some e
                · replace e := cond_eq_or e
                  let P8 : List (PG Try.prog M B0 S) := P7 ++ [.b (z_gtrT hq4), .o, .o, .o, .b (z_lssF hq5), .o, .o, .o, .a 0, .cg (ok_object_Check_v2 hU  ), .o, .o, .o, .o, .o, .o]
                  rcases e with ⟨hq6, e⟩ | ⟨hq6, e⟩
                  · injection e with e; subst e; exact fn_conG hU (P := Try.prog) Try.func3 (fun xs w => by kernel_rfl) _ _ (P8 ++ [.b (z_gtrT hq6), .o, .o, .o, .o, .o, .o]) [] (fun b => by kernel_rfl)
                  · replace e := cond_eq_or e
                    rcases e with ⟨hq7, e⟩ | ⟨hq7, e⟩
                    · injection e with e; subst e; exact fn_conG hU (P := Try.prog) Try.func3 (fun xs w => by kernel_rfl) _ _ (P8 ++ [.b (z_gtrF hq6), .o, .o, .b (z_eqlT hq7), .o, .o, .o, .o, .o, .o, .o, .o, .o, .o]) [] (fun b => by kernel_rfl)
                    · replace e := cond_eq_or e
                      rcases e with ⟨hq8, e⟩ | ⟨hq8, e⟩
                      · injection e with e; subst e; exact fn_conG hU (P := Try.prog) Try.func3 (fun xs w => by kernel_rfl) _ _ (P8 ++ [.b (z_gtrF hq6), .o, .o, .b (z_eqlF hq7), .o, .o, .b (z_gtrT hq8), .o, .o, .o, .o, .o, .o, .o, .o, .o]) [] (fun b => by kernel_rfl)
                      · injection e with e; subst e; exact fn_conG hU (P := Try.prog) Try.func3 (fun xs w => by kernel_rfl) _ _ (P8 ++ [.b (z_gtrF hq6), .o, .o, .b (z_eqlF hq7), .o, .o, .b (z_gtrF hq8), .o, .o, .o, .o, .o, .o, .o, .o, .o]) [] (fun b => by kernel_rfl)
              · replace e := cond_eq_or e
                let P9 : List (PG Try.prog M B0 S) := P7 ++ [.b (z_gtrF hq4), .o, .o, .o, .o, .a 0, .cg (ok_object_Check_v2 hU  ), .o, .o, .o, .o, .o, .o]
                rcases e with ⟨hq5, e⟩ | ⟨hq5, e⟩
                · injection e with e; subst e; exact fn_conG hU (P := Try.prog) Try.func3 (fun xs w => by kernel_rfl) _ _ (P9 ++ [.b (z_gtrT hq5), .o, .o, .o, .o, .o, .o]) [] (fun b => by kernel_rfl)
                · replace e := cond_eq_or e
                  rcases e with ⟨hq6, e⟩ | ⟨hq6, e⟩
                  · injection e with e; subst e; exact fn_conG hU (P := Try.prog) Try.func3 (fun xs w => by kernel_rfl) _ _ (P9 ++ [.b (z_gtrF hq5), .o, .o, .b (z_eqlT hq6), .o, .o, .o, .o, .o, .o, .o, .o, .o, .o]) [] (fun b => by kernel_rfl)
                  · replace e := cond_eq_or e
                    rcases e with ⟨hq7, e⟩ | ⟨hq7, e⟩
                    · injection e with e; subst e; exact fn_conG hU (P := Try.prog) Try.func3 (fun xs w => by kernel_rfl) _ _ (P9 ++ [.b (z_gtrF hq5), .o, .o, .b (z_eqlF hq6), .o, .o, .b (z_gtrT hq7), .o, .o, .o, .o, .o, .o, .o, .o, .o]) [] (fun b => by kernel_rfl)
                    · injection e with e; subst e; exact fn_conG hU (P := Try.prog) Try.func3 (fun xs w => by kernel_rfl) _ _ (P9 ++ [.b (z_gtrF hq5), .o, .o, .b (z_eqlF hq6), .o, .o, .b (z_gtrF hq7), .o, .o, .o, .o, .o, .o, .o, .o, .o]) [] (fun b => by kernel_rfl)
            · try dsimp only at e
              replace e := cond_eq_or e
              let P10 : List (PG Try.prog M B0 S) := P6 ++ [.cx (sp1_barbicanlaw5_ObjectMany_L1_0_ok hU y0 y1 y2  g1_0 g1_1 e_g1) [0, 1, 2], .o]
              rcases e with ⟨hq4, e⟩ | ⟨hq4, e⟩
              · replace e := cond_eq_or e
                let P11 : List (PG Try.prog M B0 S) := P10 ++ [.b (z_gtrT hq4), .o, .o, .o]
                rcases e with ⟨hq5, e⟩ | ⟨hq5, e⟩
                · replace e := cond_eq_or e
                  let P12 : List (PG Try.prog M B0 S) := P11 ++ [.b (z_lssT hq5), .o, .o, .o, .o, .a 0, .o]
                  rcases e with ⟨hq6, e⟩ | ⟨hq6, e⟩
                  · replace e := bindO_eq e
                    obtain ⟨g2, e_g2, e⟩ := e
                    obtain ⟨g2_0, g2_1⟩ := g2
                    try dsimp only at e
                    replace e := cond_eq_or e
                    let P13 : List (PG Try.prog M B0 S) := P12 ++ [.q (ixM_ok (kd := .i64) (T := 25) (x := y2) (N := g1_0) (sz := 2) rfl (fun w => by kernel_rfl) hq6), .o, .xg (stRS_ok (hd := hdS) (tl := tlS) (T := 9) (e := 35) (T2 := 32) (f := c_Insn) (sz := 5) (N := g1_0) (k := (y2).toNat) (m := 2) (B := (fun k => if k = 0 then (⟨183#8, 0#8, 0#8, 0#16, 0#32⟩ : Insn) else (⟨149#8, 0#8, 0#8, 0#16, 0#32⟩ : Insn))) (E := g1_1) (v := (⟨#[97]⟩ : ByteArray)) 0 (.string (⟨#[97]⟩ : ByteArray)) hzS h1S h2S (by decide) (fun l => rfl) (fun w => by kernel_rfl) (by decide) (inR_nat hq6)) [3], .a 0, .xg (ok0_object_Check_v3 hU g1_0 (updF g1_1 (y2).toNat (⟨#[97]⟩ : ByteArray)) g2_0 g2_1 e_g2) [3], .o, .o, .o, .o, .o, .o]
                    rcases e with ⟨hq7, e⟩ | ⟨hq7, e⟩
                    · replace e := cond_eq_or e
                      rcases e with ⟨hq8, e⟩ | ⟨hq8, e⟩
                      · injection e with e; subst e; exact fn_conG hU (P := Try.prog) Try.func3 (fun xs w => by kernel_rfl) _ _ (P13 ++ [.b (z_gtrT hq7), .o, .o, .b (z_eqlT hq8), .o, .o, .o, .o, .o]) [] (fun b => by kernel_rfl)
                      · injection e with e; subst e; exact fn_conG hU (P := Try.prog) Try.func3 (fun xs w => by kernel_rfl) _ _ (P13 ++ [.b (z_gtrT hq7), .o, .o, .b (z_eqlF hq8), .o, .o, .o]) [] (fun b => by kernel_rfl)
                    · replace e := cond_eq_or e
                      let P14 : List (PG Try.prog M B0 S) := P13 ++ [.b (z_gtrF hq7), .o, .o]
                      rcases e with ⟨hq8, e⟩ | ⟨hq8, e⟩
                      · replace e := cond_eq_or e
                        rcases e with ⟨hq9, e⟩ | ⟨hq9, e⟩
                        · injection e with e; subst e; exact fn_conG hU (P := Try.prog) Try.func3 (fun xs w => by kernel_rfl) _ _ (P14 ++ [.b (z_eqlT hq8), .o, .o, .o, .o, .b (z_eqlT hq9), .o, .o, .o, .o, .o]) [] (fun b => by kernel_rfl)
                        · injection e with e; subst e; exact fn_conG hU (P := Try.prog) Try.func3 (fun xs w => by kernel_rfl) _ _ (P14 ++ [.b (z_eqlT hq8), .o, .o, .o, .o, .b (z_eqlF hq9), .o, .o, .o]) [] (fun b => by kernel_rfl)
                      · replace e := cond_eq_or e
                        rcases e with ⟨hq9, e⟩ | ⟨hq9, e⟩
                        · replace e := cond_eq_or e
                          rcases e with ⟨hq10, e⟩ | ⟨hq10, e⟩
                          · injection e with e; subst e; exact fn_conG hU (P := Try.prog) Try.func3 (fun xs w => by kernel_rfl) _ _ (P14 ++ [.b (z_eqlF hq8), .o, .o, .b (z_gtrT hq9), .o, .o, .o, .b (z_eqlT hq10), .o, .o, .o, .o, .o]) [] (fun b => by kernel_rfl)
                          · injection e with e; subst e; exact fn_conG hU (P := Try.prog) Try.func3 (fun xs w => by kernel_rfl) _ _ (P14 ++ [.b (z_eqlF hq8), .o, .o, .b (z_gtrT hq9), .o, .o, .o, .b (z_eqlF hq10), .o, .o, .o]) [] (fun b => by kernel_rfl)
                        · replace e := cond_eq_or e
                          rcases e with ⟨hq10, e⟩ | ⟨hq10, e⟩
                          · injection e with e; subst e; exact fn_conG hU (P := Try.prog) Try.func3 (fun xs w => by kernel_rfl) _ _ (P14 ++ [.b (z_eqlF hq8), .o, .o, .b (z_gtrF hq9), .o, .o, .o, .o, .o, .b (z_eqlT hq10), .o, .o, .o, .o, .o, .o]) [] (fun b => by kernel_rfl)
                          · injection e with e; subst e; exact fn_conG hU (P := Try.prog) Try.func3 (fun xs w => by kernel_rfl) _ _ (P14 ++ [.b (z_eqlF hq8), .o, .o, .b (z_gtrF hq9), .o, .o, .o, .o, .o, .b (z_eqlF hq10), .o, .o, .o]) [] (fun b => by kernel_rfl)
                  · exact none_some e
                · replace e := bindO_eq e
                  obtain ⟨g2, e_g2, e⟩ := e
                  obtain ⟨g2_0, g2_1⟩ := g2
                  try dsimp only at e
                  replace e := cond_eq_or e
                  let P15 : List (PG Try.prog M B0 S) := P11 ++ [.b (z_lssF hq5), .o, .o, .o, .a 0, .xg (ok0_object_Check_v3 hU g1_0 g1_1 g2_0 g2_1 e_g2) [3], .o, .o, .o, .o, .o, .o]
                  rcases e with ⟨hq6, e⟩ | ⟨hq6, e⟩
                  · replace e := cond_eq_or e
                    rcases e with ⟨hq7, e⟩ | ⟨hq7, e⟩
                    · injection e with e; subst e; exact fn_conG hU (P := Try.prog) Try.func3 (fun xs w => by kernel_rfl) _ _ (P15 ++ [.b (z_gtrT hq6), .o, .o, .b (z_eqlT hq7), .o, .o, .o, .o, .o]) [] (fun b => by kernel_rfl)
                    · injection e with e; subst e; exact fn_conG hU (P := Try.prog) Try.func3 (fun xs w => by kernel_rfl) _ _ (P15 ++ [.b (z_gtrT hq6), .o, .o, .b (z_eqlF hq7), .o, .o, .o]) [] (fun b => by kernel_rfl)
                  · replace e := cond_eq_or e
                    let P16 : List (PG Try.prog M B0 S) := P15 ++ [.b (z_gtrF hq6), .o, .o]
                    rcases e with ⟨hq7, e⟩ | ⟨hq7, e⟩
                    · replace e := cond_eq_or e
                      rcases e with ⟨hq8, e⟩ | ⟨hq8, e⟩
                      · injection e with e; subst e; exact fn_conG hU (P := Try.prog) Try.func3 (fun xs w => by kernel_rfl) _ _ (P16 ++ [.b (z_eqlT hq7), .o, .o, .o, .o, .b (z_eqlT hq8), .o, .o, .o, .o, .o]) [] (fun b => by kernel_rfl)
                      · injection e with e; subst e; exact fn_conG hU (P := Try.prog) Try.func3 (fun xs w => by kernel_rfl) _ _ (P16 ++ [.b (z_eqlT hq7), .o, .o, .o, .o, .b (z_eqlF hq8), .o, .o, .o]) [] (fun b => by kernel_rfl)
                    · replace e := cond_eq_or e
                      rcases e with ⟨hq8, e⟩ | ⟨hq8, e⟩
                      · replace e := cond_eq_or e
                        rcases e with ⟨hq9, e⟩ | ⟨hq9, e⟩
                        · injection e with e; subst e; exact fn_conG hU (P := Try.prog) Try.func3 (fun xs w => by kernel_rfl) _ _ (P16 ++ [.b (z_eqlF hq7), .o, .o, .b (z_gtrT hq8), .o, .o, .o, .b (z_eqlT hq9), .o, .o, .o, .o, .o]) [] (fun b => by kernel_rfl)
                        · injection e with e; subst e; exact fn_conG hU (P := Try.prog) Try.func3 (fun xs w => by kernel_rfl) _ _ (P16 ++ [.b (z_eqlF hq7), .o, .o, .b (z_gtrT hq8), .o, .o, .o, .b (z_eqlF hq9), .o, .o, .o]) [] (fun b => by kernel_rfl)
                      · replace e := cond_eq_or e
                        rcases e with ⟨hq9, e⟩ | ⟨hq9, e⟩
                        · injection e with e; subst e; exact fn_conG hU (P := Try.prog) Try.func3 (fun xs w => by kernel_rfl) _ _ (P16 ++ [.b (z_eqlF hq7), .o, .o, .b (z_gtrF hq8), .o, .o, .o, .o, .o, .b (z_eqlT hq9), .o, .o, .o, .o, .o]) [] (fun b => by kernel_rfl)
                        · injection e with e; subst e; exact fn_conG hU (P := Try.prog) Try.func3 (fun xs w => by kernel_rfl) _ _ (P16 ++ [.b (z_eqlF hq7), .o, .o, .b (z_gtrF hq8), .o, .o, .o, .o, .o, .b (z_eqlF hq9), .o, .o, .o]) [] (fun b => by kernel_rfl)
              · replace e := bindO_eq e
                obtain ⟨g2, e_g2, e⟩ := e
                obtain ⟨g2_0, g2_1⟩ := g2
                try dsimp only at e
                replace e := cond_eq_or e
                let P17 : List (PG Try.prog M B0 S) := P10 ++ [.b (z_gtrF hq4), .o, .o, .o, .o, .a 0, .xg (ok0_object_Check_v3 hU g1_0 g1_1 g2_0 g2_1 e_g2) [3], .o, .o, .o, .o, .o, .o]
                rcases e with ⟨hq5, e⟩ | ⟨hq5, e⟩
                · replace e := cond_eq_or e
                  rcases e with ⟨hq6, e⟩ | ⟨hq6, e⟩
                  · injection e with e; subst e; exact fn_conG hU (P := Try.prog) Try.func3 (fun xs w => by kernel_rfl) _ _ (P17 ++ [.b (z_gtrT hq5), .o, .o, .b (z_eqlT hq6), .o, .o, .o, .o, .o]) [] (fun b => by kernel_rfl)
                  · injection e with e; subst e; exact fn_conG hU (P := Try.prog) Try.func3 (fun xs w => by kernel_rfl) _ _ (P17 ++ [.b (z_gtrT hq5), .o, .o, .b (z_eqlF hq6), .o, .o, .o]) [] (fun b => by kernel_rfl)
                · replace e := cond_eq_or e
                  let P18 : List (PG Try.prog M B0 S) := P17 ++ [.b (z_gtrF hq5), .o, .o]
                  rcases e with ⟨hq6, e⟩ | ⟨hq6, e⟩
                  · replace e := cond_eq_or e
                    rcases e with ⟨hq7, e⟩ | ⟨hq7, e⟩
                    · injection e with e; subst e; exact fn_conG hU (P := Try.prog) Try.func3 (fun xs w => by kernel_rfl) _ _ (P18 ++ [.b (z_eqlT hq6), .o, .o, .o, .o, .b (z_eqlT hq7), .o, .o, .o, .o, .o]) [] (fun b => by kernel_rfl)
                    · injection e with e; subst e; exact fn_conG hU (P := Try.prog) Try.func3 (fun xs w => by kernel_rfl) _ _ (P18 ++ [.b (z_eqlT hq6), .o, .o, .o, .o, .b (z_eqlF hq7), .o, .o, .o]) [] (fun b => by kernel_rfl)
                  · replace e := cond_eq_or e
                    rcases e with ⟨hq7, e⟩ | ⟨hq7, e⟩
                    · replace e := cond_eq_or e
                      rcases e with ⟨hq8, e⟩ | ⟨hq8, e⟩
                      · injection e with e; subst e; exact fn_conG hU (P := Try.prog) Try.func3 (fun xs w => by kernel_rfl) _ _ (P18 ++ [.b (z_eqlF hq6), .o, .o, .b (z_gtrT hq7), .o, .o, .o, .b (z_eqlT hq8), .o, .o, .o, .o, .o]) [] (fun b => by kernel_rfl)
                      · injection e with e; subst e; exact fn_conG hU (P := Try.prog) Try.func3 (fun xs w => by kernel_rfl) _ _ (P18 ++ [.b (z_eqlF hq6), .o, .o, .b (z_gtrT hq7), .o, .o, .o, .b (z_eqlF hq8), .o, .o, .o]) [] (fun b => by kernel_rfl)
                    · replace e := cond_eq_or e
                      rcases e with ⟨hq8, e⟩ | ⟨hq8, e⟩
                      · injection e with e; subst e; exact fn_conG hU (P := Try.prog) Try.func3 (fun xs w => by kernel_rfl) _ _ (P18 ++ [.b (z_eqlF hq6), .o, .o, .b (z_gtrF hq7), .o, .o, .o, .o, .o, .b (z_eqlT hq8), .o, .o, .o, .o, .o]) [] (fun b => by kernel_rfl)
                      · injection e with e; subst e; exact fn_conG hU (P := Try.prog) Try.func3 (fun xs w => by kernel_rfl) _ _ (P18 ++ [.b (z_eqlF hq6), .o, .o, .b (z_gtrF hq7), .o, .o, .o, .o, .o, .b (z_eqlF hq8), .o, .o, .o]) [] (fun b => by kernel_rfl)
          · try dsimp only at e
            replace e := bindO_eq e
            obtain ⟨g1, e_g1, e⟩ := e
            let P19 : List (PG Try.prog M B0 S) := P5 ++ [.cx (sp1_barbicanlaw5_ObjectMany_L0_0_ok hU y0 y1 y2  g0_0 g0_1 e_g0) [0], .o, .o, .cp]
            rcases g1 with _ | ⟨g1_0, g1_1⟩
            · try dsimp only at e
              replace e := cond_eq_or e
              let P20 : List (PG Try.prog M B0 S) := P19 ++ [.cx (sp0_barbicanlaw5_ObjectMany_L1v1_0_ok hU y0 y1 y2 g0_0 g0_1   e_g1) [0, 1, 2], .o]
              rcases e with ⟨hq4, e⟩ | ⟨hq4, e⟩
              · replace e := cond_eq_or e
                let P21 : List (PG Try.prog M B0 S) := P20 ++ [.b (z_gtrT hq4), .o, .o, .o]
                rcases e with ⟨hq5, e⟩ | ⟨hq5, e⟩
                · exact none_some e
                · replace e := bindO_eq e
                  obtain ⟨g2, e_g2, e⟩ := e
                  obtain ⟨g2_0, g2_1⟩ := g2
                  try dsimp only at e
                  replace e := cond_eq_or e
                  let P22 : List (PG Try.prog M B0 S) := P21 ++ [.b (z_lssF hq5), .o, .o, .o, .a 0, .xg (ok0_object_Check_v4 hU g0_0 g0_1 g2_0 g2_1 e_g2) [1], .o, .o, .o, .o, .o, .o]
                  rcases e with ⟨hq6, e⟩ | ⟨hq6, e⟩
                  · replace e := cond_eq_or e
                    rcases e with ⟨hq7, e⟩ | ⟨hq7, e⟩
                    · injection e with e; subst e; exact fn_conG hU (P := Try.prog) Try.func3 (fun xs w => by kernel_rfl) _ _ (P22 ++ [.b (z_gtrT hq6), .o, .o, .b (z_eqlT hq7), .o, .o, .o, .o, .o]) [] (fun b => by kernel_rfl)
                    · injection e with e; subst e; exact fn_conG hU (P := Try.prog) Try.func3 (fun xs w => by kernel_rfl) _ _ (P22 ++ [.b (z_gtrT hq6), .o, .o, .b (z_eqlF hq7), .o, .o, .o]) [] (fun b => by kernel_rfl)
                  · replace e := cond_eq_or e
                    let P23 : List (PG Try.prog M B0 S) := P22 ++ [.b (z_gtrF hq6), .o, .o]
                    rcases e with ⟨hq7, e⟩ | ⟨hq7, e⟩
                    · replace e := cond_eq_or e
                      rcases e with ⟨hq8, e⟩ | ⟨hq8, e⟩
                      · injection e with e; subst e; exact fn_conG hU (P := Try.prog) Try.func3 (fun xs w => by kernel_rfl) _ _ (P23 ++ [.b (z_eqlT hq7), .o, .o, .o, .o, .b (z_eqlT hq8), .o, .o, .o, .o, .o]) [] (fun b => by kernel_rfl)
                      · injection e with e; subst e; exact fn_conG hU (P := Try.prog) Try.func3 (fun xs w => by kernel_rfl) _ _ (P23 ++ [.b (z_eqlT hq7), .o, .o, .o, .o, .b (z_eqlF hq8), .o, .o, .o]) [] (fun b => by kernel_rfl)
                    · replace e := cond_eq_or e
                      rcases e with ⟨hq8, e⟩ | ⟨hq8, e⟩
                      · replace e := cond_eq_or e
                        rcases e with ⟨hq9, e⟩ | ⟨hq9, e⟩
                        · injection e with e; subst e; exact fn_conG hU (P := Try.prog) Try.func3 (fun xs w => by kernel_rfl) _ _ (P23 ++ [.b (z_eqlF hq7), .o, .o, .b (z_gtrT hq8), .o, .o, .o, .b (z_eqlT hq9), .o, .o, .o, .o, .o]) [] (fun b => by kernel_rfl)
                        · injection e with e; subst e; exact fn_conG hU (P := Try.prog) Try.func3 (fun xs w => by kernel_rfl) _ _ (P23 ++ [.b (z_eqlF hq7), .o, .o, .b (z_gtrT hq8), .o, .o, .o, .b (z_eqlF hq9), .o, .o, .o]) [] (fun b => by kernel_rfl)
                      · replace e := cond_eq_or e
                        rcases e with ⟨hq9, e⟩ | ⟨hq9, e⟩
                        · injection e with e; subst e; exact fn_conG hU (P := Try.prog) Try.func3 (fun xs w => by kernel_rfl) _ _ (P23 ++ [.b (z_eqlF hq7), .o, .o, .b (z_gtrF hq8), .o, .o, .o, .o, .o, .b (z_eqlT hq9), .o, .o, .o, .o, .o]) [] (fun b => by kernel_rfl)
                        · injection e with e; subst e; exact fn_conG hU (P := Try.prog) Try.func3 (fun xs w => by kernel_rfl) _ _ (P23 ++ [.b (z_eqlF hq7), .o, .o, .b (z_gtrF hq8), .o, .o, .o, .o, .o, .b (z_eqlF hq9), .o, .o, .o]) [] (fun b => by kernel_rfl)
              · replace e := bindO_eq e
                obtain ⟨g2, e_g2, e⟩ := e
                obtain ⟨g2_0, g2_1⟩ := g2
                try dsimp only at e
                replace e := cond_eq_or e
                let P24 : List (PG Try.prog M B0 S) := P20 ++ [.b (z_gtrF hq4), .o, .o, .o, .o, .a 0, .xg (ok0_object_Check_v4 hU g0_0 g0_1 g2_0 g2_1 e_g2) [1], .o, .o, .o, .o, .o, .o]
                rcases e with ⟨hq5, e⟩ | ⟨hq5, e⟩
                · replace e := cond_eq_or e
                  rcases e with ⟨hq6, e⟩ | ⟨hq6, e⟩
                  · injection e with e; subst e; exact fn_conG hU (P := Try.prog) Try.func3 (fun xs w => by kernel_rfl) _ _ (P24 ++ [.b (z_gtrT hq5), .o, .o, .b (z_eqlT hq6), .o, .o, .o, .o, .o]) [] (fun b => by kernel_rfl)
                  · injection e with e; subst e; exact fn_conG hU (P := Try.prog) Try.func3 (fun xs w => by kernel_rfl) _ _ (P24 ++ [.b (z_gtrT hq5), .o, .o, .b (z_eqlF hq6), .o, .o, .o]) [] (fun b => by kernel_rfl)
                · replace e := cond_eq_or e
                  let P25 : List (PG Try.prog M B0 S) := P24 ++ [.b (z_gtrF hq5), .o, .o]
                  rcases e with ⟨hq6, e⟩ | ⟨hq6, e⟩
                  · replace e := cond_eq_or e
                    rcases e with ⟨hq7, e⟩ | ⟨hq7, e⟩
                    · injection e with e; subst e; exact fn_conG hU (P := Try.prog) Try.func3 (fun xs w => by kernel_rfl) _ _ (P25 ++ [.b (z_eqlT hq6), .o, .o, .o, .o, .b (z_eqlT hq7), .o, .o, .o, .o, .o]) [] (fun b => by kernel_rfl)
                    · injection e with e; subst e; exact fn_conG hU (P := Try.prog) Try.func3 (fun xs w => by kernel_rfl) _ _ (P25 ++ [.b (z_eqlT hq6), .o, .o, .o, .o, .b (z_eqlF hq7), .o, .o, .o]) [] (fun b => by kernel_rfl)
                  · replace e := cond_eq_or e
                    rcases e with ⟨hq7, e⟩ | ⟨hq7, e⟩
                    · replace e := cond_eq_or e
                      rcases e with ⟨hq8, e⟩ | ⟨hq8, e⟩
                      · injection e with e; subst e; exact fn_conG hU (P := Try.prog) Try.func3 (fun xs w => by kernel_rfl) _ _ (P25 ++ [.b (z_eqlF hq6), .o, .o, .b (z_gtrT hq7), .o, .o, .o, .b (z_eqlT hq8), .o, .o, .o, .o, .o]) [] (fun b => by kernel_rfl)
                      · injection e with e; subst e; exact fn_conG hU (P := Try.prog) Try.func3 (fun xs w => by kernel_rfl) _ _ (P25 ++ [.b (z_eqlF hq6), .o, .o, .b (z_gtrT hq7), .o, .o, .o, .b (z_eqlF hq8), .o, .o, .o]) [] (fun b => by kernel_rfl)
                    · replace e := cond_eq_or e
                      rcases e with ⟨hq8, e⟩ | ⟨hq8, e⟩
                      · injection e with e; subst e; exact fn_conG hU (P := Try.prog) Try.func3 (fun xs w => by kernel_rfl) _ _ (P25 ++ [.b (z_eqlF hq6), .o, .o, .b (z_gtrF hq7), .o, .o, .o, .o, .o, .b (z_eqlT hq8), .o, .o, .o, .o, .o]) [] (fun b => by kernel_rfl)
                      · injection e with e; subst e; exact fn_conG hU (P := Try.prog) Try.func3 (fun xs w => by kernel_rfl) _ _ (P25 ++ [.b (z_eqlF hq6), .o, .o, .b (z_gtrF hq7), .o, .o, .o, .o, .o, .b (z_eqlF hq8), .o, .o, .o]) [] (fun b => by kernel_rfl)
            · try dsimp only at e
              replace e := cond_eq_or e
              let P26 : List (PG Try.prog M B0 S) := P19 ++ [.cx (sp1_barbicanlaw5_ObjectMany_L1v1_0_ok hU y0 y1 y2 g0_0 g0_1  g1_0 g1_1 e_g1) [0, 1, 2], .o]
              rcases e with ⟨hq4, e⟩ | ⟨hq4, e⟩
              · replace e := cond_eq_or e
                let P27 : List (PG Try.prog M B0 S) := P26 ++ [.b (z_gtrT hq4), .o, .o, .o]
                rcases e with ⟨hq5, e⟩ | ⟨hq5, e⟩
                · replace e := cond_eq_or e
                  let P28 : List (PG Try.prog M B0 S) := P27 ++ [.b (z_lssT hq5), .o, .o, .o, .o, .a 0, .o]
                  rcases e with ⟨hq6, e⟩ | ⟨hq6, e⟩
                  · replace e := bindO_eq e
                    obtain ⟨g2, e_g2, e⟩ := e
                    obtain ⟨g2_0, g2_1⟩ := g2
                    try dsimp only at e
                    replace e := cond_eq_or e
                    let P29 : List (PG Try.prog M B0 S) := P28 ++ [.q (ixM_ok (kd := .i64) (T := 25) (x := y2) (N := g1_0) (sz := 2) rfl (fun w => by kernel_rfl) hq6), .o, .xg (stRS_ok (hd := hdS) (tl := tlS) (T := 9) (e := 35) (T2 := 32) (f := c_Insn) (sz := 5) (N := g1_0) (k := (y2).toNat) (m := 2) (B := (fun k => if k = 0 then (⟨183#8, 0#8, 0#8, 0#16, 0#32⟩ : Insn) else (⟨149#8, 0#8, 0#8, 0#16, 0#32⟩ : Insn))) (E := g1_1) (v := (⟨#[97]⟩ : ByteArray)) 0 (.string (⟨#[97]⟩ : ByteArray)) hzS h1S h2S (by decide) (fun l => rfl) (fun w => by kernel_rfl) (by decide) (inR_nat hq6)) [3], .a 0, .xg (ok0_object_Check_v5 hU g0_0 g1_0 g0_1 (updF g1_1 (y2).toNat (⟨#[97]⟩ : ByteArray)) g2_0 g2_1 e_g2) [1, 3], .o, .o, .o, .o, .o, .o]
                    rcases e with ⟨hq7, e⟩ | ⟨hq7, e⟩
                    · replace e := cond_eq_or e
                      rcases e with ⟨hq8, e⟩ | ⟨hq8, e⟩
                      · injection e with e; subst e; exact fn_conG hU (P := Try.prog) Try.func3 (fun xs w => by kernel_rfl) _ _ (P29 ++ [.b (z_gtrT hq7), .o, .o, .b (z_eqlT hq8), .o, .o, .o, .o, .o]) [] (fun b => by kernel_rfl)
                      · injection e with e; subst e; exact fn_conG hU (P := Try.prog) Try.func3 (fun xs w => by kernel_rfl) _ _ (P29 ++ [.b (z_gtrT hq7), .o, .o, .b (z_eqlF hq8), .o, .o, .o]) [] (fun b => by kernel_rfl)
                    · replace e := cond_eq_or e
                      let P30 : List (PG Try.prog M B0 S) := P29 ++ [.b (z_gtrF hq7), .o, .o]
                      rcases e with ⟨hq8, e⟩ | ⟨hq8, e⟩
                      · replace e := cond_eq_or e
                        rcases e with ⟨hq9, e⟩ | ⟨hq9, e⟩
                        · injection e with e; subst e; exact fn_conG hU (P := Try.prog) Try.func3 (fun xs w => by kernel_rfl) _ _ (P30 ++ [.b (z_eqlT hq8), .o, .o, .o, .o, .b (z_eqlT hq9), .o, .o, .o, .o, .o]) [] (fun b => by kernel_rfl)
                        · injection e with e; subst e; exact fn_conG hU (P := Try.prog) Try.func3 (fun xs w => by kernel_rfl) _ _ (P30 ++ [.b (z_eqlT hq8), .o, .o, .o, .o, .b (z_eqlF hq9), .o, .o, .o]) [] (fun b => by kernel_rfl)
                      · replace e := cond_eq_or e
                        rcases e with ⟨hq9, e⟩ | ⟨hq9, e⟩
                        · replace e := cond_eq_or e
                          rcases e with ⟨hq10, e⟩ | ⟨hq10, e⟩
                          · injection e with e; subst e; exact fn_conG hU (P := Try.prog) Try.func3 (fun xs w => by kernel_rfl) _ _ (P30 ++ [.b (z_eqlF hq8), .o, .o, .b (z_gtrT hq9), .o, .o, .o, .b (z_eqlT hq10), .o, .o, .o, .o, .o]) [] (fun b => by kernel_rfl)
                          · injection e with e; subst e; exact fn_conG hU (P := Try.prog) Try.func3 (fun xs w => by kernel_rfl) _ _ (P30 ++ [.b (z_eqlF hq8), .o, .o, .b (z_gtrT hq9), .o, .o, .o, .b (z_eqlF hq10), .o, .o, .o]) [] (fun b => by kernel_rfl)
                        · replace e := cond_eq_or e
                          rcases e with ⟨hq10, e⟩ | ⟨hq10, e⟩
                          · injection e with e; subst e; exact fn_conG hU (P := Try.prog) Try.func3 (fun xs w => by kernel_rfl) _ _ (P30 ++ [.b (z_eqlF hq8), .o, .o, .b (z_gtrF hq9), .o, .o, .o, .o, .o, .b (z_eqlT hq10), .o, .o, .o, .o, .o, .o]) [] (fun b => by kernel_rfl)
                          · injection e with e; subst e; exact fn_conG hU (P := Try.prog) Try.func3 (fun xs w => by kernel_rfl) _ _ (P30 ++ [.b (z_eqlF hq8), .o, .o, .b (z_gtrF hq9), .o, .o, .o, .o, .o, .b (z_eqlF hq10), .o, .o, .o]) [] (fun b => by kernel_rfl)
                  · exact none_some e
                · replace e := bindO_eq e
                  obtain ⟨g2, e_g2, e⟩ := e
                  obtain ⟨g2_0, g2_1⟩ := g2
                  try dsimp only at e
                  replace e := cond_eq_or e
                  let P31 : List (PG Try.prog M B0 S) := P27 ++ [.b (z_lssF hq5), .o, .o, .o, .a 0, .xg (ok0_object_Check_v5 hU g0_0 g1_0 g0_1 g1_1 g2_0 g2_1 e_g2) [1, 3], .o, .o, .o, .o, .o, .o]
                  rcases e with ⟨hq6, e⟩ | ⟨hq6, e⟩
                  · replace e := cond_eq_or e
                    rcases e with ⟨hq7, e⟩ | ⟨hq7, e⟩
                    · injection e with e; subst e; exact fn_conG hU (P := Try.prog) Try.func3 (fun xs w => by kernel_rfl) _ _ (P31 ++ [.b (z_gtrT hq6), .o, .o, .b (z_eqlT hq7), .o, .o, .o, .o, .o]) [] (fun b => by kernel_rfl)
                    · injection e with e; subst e; exact fn_conG hU (P := Try.prog) Try.func3 (fun xs w => by kernel_rfl) _ _ (P31 ++ [.b (z_gtrT hq6), .o, .o, .b (z_eqlF hq7), .o, .o, .o]) [] (fun b => by kernel_rfl)
                  · replace e := cond_eq_or e
                    let P32 : List (PG Try.prog M B0 S) := P31 ++ [.b (z_gtrF hq6), .o, .o]
                    rcases e with ⟨hq7, e⟩ | ⟨hq7, e⟩
                    · replace e := cond_eq_or e
                      rcases e with ⟨hq8, e⟩ | ⟨hq8, e⟩
                      · injection e with e; subst e; exact fn_conG hU (P := Try.prog) Try.func3 (fun xs w => by kernel_rfl) _ _ (P32 ++ [.b (z_eqlT hq7), .o, .o, .o, .o, .b (z_eqlT hq8), .o, .o, .o, .o, .o]) [] (fun b => by kernel_rfl)
                      · injection e with e; subst e; exact fn_conG hU (P := Try.prog) Try.func3 (fun xs w => by kernel_rfl) _ _ (P32 ++ [.b (z_eqlT hq7), .o, .o, .o, .o, .b (z_eqlF hq8), .o, .o, .o]) [] (fun b => by kernel_rfl)
                    · replace e := cond_eq_or e
                      rcases e with ⟨hq8, e⟩ | ⟨hq8, e⟩
                      · replace e := cond_eq_or e
                        rcases e with ⟨hq9, e⟩ | ⟨hq9, e⟩
                        · injection e with e; subst e; exact fn_conG hU (P := Try.prog) Try.func3 (fun xs w => by kernel_rfl) _ _ (P32 ++ [.b (z_eqlF hq7), .o, .o, .b (z_gtrT hq8), .o, .o, .o, .b (z_eqlT hq9), .o, .o, .o, .o, .o]) [] (fun b => by kernel_rfl)
                        · injection e with e; subst e; exact fn_conG hU (P := Try.prog) Try.func3 (fun xs w => by kernel_rfl) _ _ (P32 ++ [.b (z_eqlF hq7), .o, .o, .b (z_gtrT hq8), .o, .o, .o, .b (z_eqlF hq9), .o, .o, .o]) [] (fun b => by kernel_rfl)
                      · replace e := cond_eq_or e
                        rcases e with ⟨hq9, e⟩ | ⟨hq9, e⟩
                        · injection e with e; subst e; exact fn_conG hU (P := Try.prog) Try.func3 (fun xs w => by kernel_rfl) _ _ (P32 ++ [.b (z_eqlF hq7), .o, .o, .b (z_gtrF hq8), .o, .o, .o, .o, .o, .b (z_eqlT hq9), .o, .o, .o, .o, .o]) [] (fun b => by kernel_rfl)
                        · injection e with e; subst e; exact fn_conG hU (P := Try.prog) Try.func3 (fun xs w => by kernel_rfl) _ _ (P32 ++ [.b (z_eqlF hq7), .o, .o, .b (z_gtrF hq8), .o, .o, .o, .o, .o, .b (z_eqlF hq9), .o, .o, .o]) [] (fun b => by kernel_rfl)
              · replace e := bindO_eq e
                obtain ⟨g2, e_g2, e⟩ := e
                obtain ⟨g2_0, g2_1⟩ := g2
                try dsimp only at e
                replace e := cond_eq_or e
                let P33 : List (PG Try.prog M B0 S) := P26 ++ [.b (z_gtrF hq4), .o, .o, .o, .o, .a 0, .xg (ok0_object_Check_v5 hU g0_0 g1_0 g0_1 g1_1 g2_0 g2_1 e_g2) [1, 3], .o, .o, .o, .o, .o, .o]
                rcases e with ⟨hq5, e⟩ | ⟨hq5, e⟩
                · replace e := cond_eq_or e
                  rcases e with ⟨hq6, e⟩ | ⟨hq6, e⟩
                  · injection e with e; subst e; exact fn_conG hU (P := Try.prog) Try.func3 (fun xs w => by kernel_rfl) _ _ (P33 ++ [.b (z_gtrT hq5), .o, .o, .b (z_eqlT hq6), .o, .o, .o, .o, .o]) [] (fun b => by kernel_rfl)
                  · injection e with e; subst e; exact fn_conG hU (P := Try.prog) Try.func3 (fun xs w => by kernel_rfl) _ _ (P33 ++ [.b (z_gtrT hq5), .o, .o, .b (z_eqlF hq6), .o, .o, .o]) [] (fun b => by kernel_rfl)
                · replace e := cond_eq_or e
                  let P34 : List (PG Try.prog M B0 S) := P33 ++ [.b (z_gtrF hq5), .o, .o]
                  rcases e with ⟨hq6, e⟩ | ⟨hq6, e⟩
                  · replace e := cond_eq_or e
                    rcases e with ⟨hq7, e⟩ | ⟨hq7, e⟩
                    · injection e with e; subst e; exact fn_conG hU (P := Try.prog) Try.func3 (fun xs w => by kernel_rfl) _ _ (P34 ++ [.b (z_eqlT hq6), .o, .o, .o, .o, .b (z_eqlT hq7), .o, .o, .o, .o, .o]) [] (fun b => by kernel_rfl)
                    · injection e with e; subst e; exact fn_conG hU (P := Try.prog) Try.func3 (fun xs w => by kernel_rfl) _ _ (P34 ++ [.b (z_eqlT hq6), .o, .o, .o, .o, .b (z_eqlF hq7), .o, .o, .o]) [] (fun b => by kernel_rfl)
                  · replace e := cond_eq_or e
                    rcases e with ⟨hq7, e⟩ | ⟨hq7, e⟩
                    · replace e := cond_eq_or e
                      rcases e with ⟨hq8, e⟩ | ⟨hq8, e⟩
                      · injection e with e; subst e; exact fn_conG hU (P := Try.prog) Try.func3 (fun xs w => by kernel_rfl) _ _ (P34 ++ [.b (z_eqlF hq6), .o, .o, .b (z_gtrT hq7), .o, .o, .o, .b (z_eqlT hq8), .o, .o, .o, .o, .o]) [] (fun b => by kernel_rfl)
                      · injection e with e; subst e; exact fn_conG hU (P := Try.prog) Try.func3 (fun xs w => by kernel_rfl) _ _ (P34 ++ [.b (z_eqlF hq6), .o, .o, .b (z_gtrT hq7), .o, .o, .o, .b (z_eqlF hq8), .o, .o, .o]) [] (fun b => by kernel_rfl)
                    · replace e := cond_eq_or e
                      rcases e with ⟨hq8, e⟩ | ⟨hq8, e⟩
                      · injection e with e; subst e; exact fn_conG hU (P := Try.prog) Try.func3 (fun xs w => by kernel_rfl) _ _ (P34 ++ [.b (z_eqlF hq6), .o, .o, .b (z_gtrF hq7), .o, .o, .o, .o, .o, .b (z_eqlT hq8), .o, .o, .o, .o, .o]) [] (fun b => by kernel_rfl)
                      · injection e with e; subst e; exact fn_conG hU (P := Try.prog) Try.func3 (fun xs w => by kernel_rfl) _ _ (P34 ++ [.b (z_eqlF hq6), .o, .o, .b (z_gtrF hq7), .o, .o, .o, .o, .o, .b (z_eqlF hq8), .o, .o, .o]) [] (fun b => by kernel_rfl)
end

end Go.Proofs.Ytefmnjehhpceoaa


