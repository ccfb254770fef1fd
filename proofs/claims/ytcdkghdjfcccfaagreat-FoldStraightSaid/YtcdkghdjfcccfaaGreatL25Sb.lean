/-
  The law on operations without jumps, by the program's text.
-/
import Derived.Test.YtcdkghdjfcccfaaGreatL25S
import Derived.Test.YtcdkghdjfcccfaaGreatL25F
namespace Go.Proofs.YtcdkghdjfcccfaaGreat
open Go.RowKit
set_option linter.unusedVariables false
set_option linter.unusedSimpArgs false
set_option linter.unusedSectionVars false
set_option maxRecDepth 100000
set_option maxHeartbeats 4000000
noncomputable def m_barbicanlaw25_FoldStraight (y0 : Arr22) (n0 : Nat) (A0 : Nat → Insn) : Option (Bool) :=
  bif decide (60 < (n0 : Int)) then
    (some true)
  else (bindT (updF (fun _ => 0#64) 0 (BitVec.ofInt 64 (ii ((fun k => g_Arr22 y0 k) 0)))) fun r0 =>
  bindT (updF (fun _ => (⟨183#8, 0#8, 0#8, 0#16, ((fun k => g_Arr22 y0 k) 0)⟩ : Insn)) 1 (⟨183#8, 1#8, 0#8, 0#16, ((fun k => g_Arr22 y0 k) 1)⟩ : Insn)) fun r1 =>
  bindT (updF r1 2 (⟨183#8, 2#8, 0#8, 0#16, ((fun k => g_Arr22 y0 k) 2)⟩ : Insn)) fun r2 =>
  bindT (updF (updF r0 1 (BitVec.ofInt 64 (ii ((fun k => g_Arr22 y0 k) 1)))) 2 (BitVec.ofInt 64 (ii ((fun k => g_Arr22 y0 k) 2)))) fun r3 =>
  bindT (updF r2 3 (⟨183#8, 3#8, 0#8, 0#16, ((fun k => g_Arr22 y0 k) 3)⟩ : Insn)) fun r4 =>
  (lpO (st_barbicanlaw25_FoldStraight_L1 y0 n0 A0 r3 r4) (.c0 0)).bind fun g5 => match g5 with
  | .e0 g5_0 g5_1 g5_2 g5_3 g5_4 g5_5 => ((m_fold_Known 5 (updF r4 4 (⟨149#8, 0#8, 0#8, 0#16, 0#32⟩ : Insn))).bind fun g6 => match g6 with
    | .e0 g6_0 =>
    (m_fold_Fold_v1 5 (updF r4 4 (⟨149#8, 0#8, 0#8, 0#16, 0#32⟩ : Insn))).bind fun g7 => match g7 with
    | .e0 g7_0 =>
    bif ((0 + 5) : Int) == 5 then
      ((lpO (st_barbicanlaw25_FoldStraight_L2 g6_0) (.c0 (updF r4 4 (⟨149#8, 0#8, 0#8, 0#16, 0#32⟩ : Insn)) (g5_1 0) (g5_1 1) (g5_1 2) (g5_1 3) (fun _ => (⟨g5_1 0, g5_1 1, g5_1 2, g5_1 3⟩ : Arr26)) 0)).bind fun g8 => match g8 with
      | .e0 g8_0 g8_1 g8_2 g8_3 g8_4 g8_5 =>
      some true)
    else (none))
  | .e1 g5_0 g5_1 g5_2 g5_3 g5_4 g5_5 g5_6 g5_7 g5_8 g5_9 g5_10 g5_11 => (bif decide (g5_6 ≤ 1000000) then
      (bif decide (g5_8 ≤ 1000000) then
        ((m_fold_Known (g5_6 + 1) (updF g5_7 g5_6 (⟨149#8, 0#8, 0#8, 0#16, 0#32⟩ : Insn))).bind fun g6 => match g6 with
        | .e0 g6_0 =>
        (m_fold_Fold_v1 (g5_6 + 1) (updF g5_7 g5_6 (⟨149#8, 0#8, 0#8, 0#16, 0#32⟩ : Insn))).bind fun g7 => match g7 with
        | .e0 g7_0 =>
        bif ((g5_6 + 1) : Int) == ((g5_6 + 1) : Int) then
          (bif ((0 + (g5_6 + 1)) : Int) == ((g5_6 + 1) : Int) then
            ((lpO (st_barbicanlaw25_FoldStraight_L2v1 g5_6 g5_8 g5_10 g5_11 g6_0 g7_0) (.c0 (updF g5_7 g5_6 (⟨149#8, 0#8, 0#8, 0#16, 0#32⟩ : Insn)) (g5_1 0) (g5_1 1) (g5_1 2) (g5_1 3) (updF g5_9 g5_8 (⟨g5_1 0, g5_1 1, g5_1 2, g5_1 3⟩ : Arr26)) 0)).bind fun g8 => match g8 with
            | .e0 g8_0 g8_1 g8_2 g8_3 g8_4 g8_5 =>
            some true)
          else (none))
        else (none))
      else (none))
    else (none)))
section
variable {M : Nat → Prop} {B0 : Nat} {S : World → Prop} (hU : Up M B0 S)
include hU
theorem ok_barbicanlaw25_FoldStraight (y0 : Arr22) (a0 : Option Addr) (p0 : Nat) (q0 : Nat) (n0 : Nat) (k0 : Nat) (A0 : Nat → Insn) (hR0 : Ro S c_Insn 5 a0 p0 q0 n0 A0) (r : Bool) (e : m_barbicanlaw25_FoldStraight y0 n0 A0 = some r) : ConG Tryz.prog S 3 #[(v_Arr22 y0), .slice a0 n0 (n0 + k0)] (.bool (r)) := by
  unfold m_barbicanlaw25_FoldStraight at e
  replace e := cond_eq_or e
  let P1 : List (PG Tryz.prog M B0 S) := [.o, .o, .cg (ok_barbicanlaw25_known hU  ), .o, .o, .o]
  rcases e with ⟨hq0, e⟩ | ⟨hq0, e⟩
  · injection e with e; subst e; exact fn_conG hU (P := Tryz.prog) Tryz.func3 (fun xs w => by kernel_rfl) _ _ (P1 ++ [.b (z_gtrT hq0), .o]) [] (fun b => by kernel_rfl)
  · replace e := bindT_eq e
    obtain ⟨r0, e_r0, e⟩ := e
    try dsimp only at e
    replace e := bindT_eq e
    obtain ⟨r1, e_r1, e⟩ := e
    try dsimp only at e
    replace e := bindT_eq e
    obtain ⟨r2, e_r2, e⟩ := e
    try dsimp only at e
    replace e := bindT_eq e
    obtain ⟨r3, e_r3, e⟩ := e
    try dsimp only at e
    replace e := bindT_eq e
    obtain ⟨r4, e_r4, e⟩ := e
    try dsimp only at e
    replace e := bindO_eq e
    obtain ⟨g5, e_g5, e⟩ := e
    let P2 : List (PG Tryz.prog M B0 S) := P1 ++ (List.append (α := PG Tryz.prog M B0 S) [.b (z_gtrF hq0), .o, .o, .o, .o, .o, .o, .o, .o, .o, .q (ixA_ok (kd := .i64) (T := 22) (x := 0) (sz := 1) (N := 4) rfl rfl (fun w => by kernel_rfl) (show inR 0 4 = true from by decide)), .l (accF (i := 0) (f := ci32) (A := (fun k => g_Arr22 y0 k)) (k := 0) 0 [.int .i32 (ii ((fun k => g_Arr22 y0 k) 0))] ci32_len (inR_nat (show inR 0 4 = true from by decide)) rfl), .o, .o, .x (sqAppL1_ok (ty := 23) rt23 #[false, false] (f := c_Insn) (c := 1) (⟨183#8, 0#8, 0#8, 0#16, ((fun k => g_Arr22 y0 k) 0)⟩ : Insn) (T' := 29) c_Insn_len c_Insn_one (by decide)) [2], .o, .o, .o, .q (ixA_ok (kd := .i64) (T := 22) (x := 0) (sz := 1) (N := 4) rfl rfl (fun w => by kernel_rfl) (show inR 0 4 = true from by decide)), .l (accF (i := 0) (f := ci32) (A := (fun k => g_Arr22 y0 k)) (k := 0) 0 [.int .i32 (ii ((fun k => g_Arr22 y0 k) 0))] ci32_len (inR_nat (show inR 0 4 = true from by decide)) rfl), .v .i64 (z_of_ii (by decide) ((fun k => g_Arr22 y0 k) 0)), .v .u64 (u64_of_z (ii ((fun k => g_Arr22 y0 k) 0))), .q (ixA_ok (kd := .i64) (T := 26) (x := 0) (sz := 1) (N := 4) rfl rfl (fun w => by kernel_rfl) (show inR 0 4 = true from by decide)), .x (sqStFr_ok (T := 25) (e := 26) (f := cu64) (A := (fun _ => 0#64)) (v := (BitVec.ofInt 64 (ii ((fun k => g_Arr22 y0 k) 0)))) 0 (.int .u64 (nn (BitVec.ofInt 64 (ii ((fun k => g_Arr22 y0 k) 0))))) cu64_len cu64_one rfl rfl (fun w => by kernel_rfl) (inR_nat (show inR 0 4 = true from by decide)) e_r0) [1], .o, .o, .o, .o, .o, .o, .o, .o, .o, .q (ixA_ok (kd := .i64) (T := 22) (x := 1) (sz := 1) (N := 4) rfl rfl (fun w => by kernel_rfl) (show inR 1 4 = true from by decide)), .l (accF (i := 0) (f := ci32) (A := (fun k => g_Arr22 y0 k)) (k := 1) 0 [.int .i32 (ii ((fun k => g_Arr22 y0 k) 1))] ci32_len (inR_nat (show inR 1 4 = true from by decide)) rfl), .o, .o, .x (sqAppLr_ok (ty := 23) rt23 #[false, false] (f := c_Insn) (N := 1) (A := (fun _ => (⟨183#8, 0#8, 0#8, 0#16, ((fun k => g_Arr22 y0 k) 0)⟩ : Insn))) (c := 1) [(⟨183#8, 1#8, 0#8, 0#16, ((fun k => g_Arr22 y0 k) 1)⟩ : Insn)] (T' := 29) .row c_Insn_len c_Insn_one (by decide) rfl (by decide) e_r1) [3, 4], .o, .o, .o, .q (ixA_ok (kd := .i64) (T := 22) (x := 1) (sz := 1) (N := 4) rfl rfl (fun w => by kernel_rfl) (show inR 1 4 = true from by decide)), .l (accF (i := 0) (f := ci32) (A := (fun k => g_Arr22 y0 k)) (k := 1) 0 [.int .i32 (ii ((fun k => g_Arr22 y0 k) 1))] ci32_len (inR_nat (show inR 1 4 = true from by decide)) rfl), .v .i64 (z_of_ii (by decide) ((fun k => g_Arr22 y0 k) 1)), .v .u64 (u64_of_z (ii ((fun k => g_Arr22 y0 k) 1))), .q (ixA_ok (kd := .i64) (T := 26) (x := 1) (sz := 1) (N := 4) rfl rfl (fun w => by kernel_rfl) (show inR 1 4 = true from by decide)), .x (sqStF_ok (T := 25) (e := 26) (f := cu64) (A := r0) (v := (BitVec.ofInt 64 (ii ((fun k => g_Arr22 y0 k) 1)))) 0 (.int .u64 (nn (BitVec.ofInt 64 (ii ((fun k => g_Arr22 y0 k) 1))))) cu64_len cu64_one rfl rfl (fun w => by kernel_rfl) (inR_nat (show inR 1 4 = true from by decide))) [1], .o, .o, .o, .o, .o, .o, .o, .o, .o, .q (ixA_ok (kd := .i64) (T := 22) (x := 2) (sz := 1) (N := 4) rfl rfl (fun w => by kernel_rfl) (show inR 2 4 = true from by decide)), .l (accF (i := 0) (f := ci32) (A := (fun k => g_Arr22 y0 k)) (k := 2) 0 [.int .i32 (ii ((fun k => g_Arr22 y0 k) 2))] ci32_len (inR_nat (show inR 2 4 = true from by decide)) rfl), .o, .o] [.x (sqAppLr_ok (ty := 23) rt23 #[false, false] (f := c_Insn) (N := 2) (A := r1) (c := 1) [(⟨183#8, 2#8, 0#8, 0#16, ((fun k => g_Arr22 y0 k) 2)⟩ : Insn)] (T' := 29) .row c_Insn_len c_Insn_one (by decide) rfl (by decide) e_r2) [5, 6], .o, .o, .o, .q (ixA_ok (kd := .i64) (T := 22) (x := 2) (sz := 1) (N := 4) rfl rfl (fun w => by kernel_rfl) (show inR 2 4 = true from by decide)), .l (accF (i := 0) (f := ci32) (A := (fun k => g_Arr22 y0 k)) (k := 2) 0 [.int .i32 (ii ((fun k => g_Arr22 y0 k) 2))] ci32_len (inR_nat (show inR 2 4 = true from by decide)) rfl), .v .i64 (z_of_ii (by decide) ((fun k => g_Arr22 y0 k) 2)), .v .u64 (u64_of_z (ii ((fun k => g_Arr22 y0 k) 2))), .q (ixA_ok (kd := .i64) (T := 26) (x := 2) (sz := 1) (N := 4) rfl rfl (fun w => by kernel_rfl) (show inR 2 4 = true from by decide)), .x (sqStFr_ok (T := 25) (e := 26) (f := cu64) (A := updF r0 1 (BitVec.ofInt 64 (ii ((fun k => g_Arr22 y0 k) 1)))) (v := (BitVec.ofInt 64 (ii ((fun k => g_Arr22 y0 k) 2)))) 0 (.int .u64 (nn (BitVec.ofInt 64 (ii ((fun k => g_Arr22 y0 k) 2))))) cu64_len cu64_one rfl rfl (fun w => by kernel_rfl) (inR_nat (show inR 2 4 = true from by decide)) e_r3) [1], .o, .o, .o, .o, .o, .o, .o, .o, .o, .q (ixA_ok (kd := .i64) (T := 22) (x := 3) (sz := 1) (N := 4) rfl rfl (fun w => by kernel_rfl) (show inR 3 4 = true from by decide)), .l (accF (i := 0) (f := ci32) (A := (fun k => g_Arr22 y0 k)) (k := 3) 0 [.int .i32 (ii ((fun k => g_Arr22 y0 k) 3))] ci32_len (inR_nat (show inR 3 4 = true from by decide)) rfl), .o, .o, .x (sqAppLr_ok (ty := 23) rt23 #[false, false] (f := c_Insn) (N := 3) (A := r2) (c := 1) [(⟨183#8, 3#8, 0#8, 0#16, ((fun k => g_Arr22 y0 k) 3)⟩ : Insn)] (T' := 29) .row c_Insn_len c_Insn_one (by decide) rfl (by decide) e_r4) [7, 8], .o, .o, .o, .q (ixA_ok (kd := .i64) (T := 22) (x := 3) (sz := 1) (N := 4) rfl rfl (fun w => by kernel_rfl) (show inR 3 4 = true from by decide)), .l (accF (i := 0) (f := ci32) (A := (fun k => g_Arr22 y0 k)) (k := 3) 0 [.int .i32 (ii ((fun k => g_Arr22 y0 k) 3))] ci32_len (inR_nat (show inR 3 4 = true from by decide)) rfl), .v .i64 (z_of_ii (by decide) ((fun k => g_Arr22 y0 k) 3)), .v .u64 (u64_of_z (ii ((fun k => g_Arr22 y0 k) 3))), .q (ixA_ok (kd := .i64) (T := 26) (x := 3) (sz := 1) (N := 4) rfl rfl (fun w => by kernel_rfl) (show inR 3 4 = true from by decide)), .x (sqStF_ok (T := 25) (e := 26) (f := cu64) (A := r3) (v := (BitVec.ofInt 64 (ii ((fun k => g_Arr22 y0 k) 3)))) 0 (.int .u64 (nn (BitVec.ofInt 64 (ii ((fun k => g_Arr22 y0 k) 3))))) cu64_len cu64_one rfl rfl (fun w => by kernel_rfl) (inR_nat (show inR 3 4 = true from by decide))) [1], .o, .o, .o, .o, .o, .o, .o, .o, .cp])
    rcases g5 with ⟨g5_0, g5_1, g5_2, g5_3, g5_4, g5_5⟩ | ⟨g5_0, g5_1, g5_2, g5_3, g5_4, g5_5, g5_6, g5_7, g5_8, g5_9, g5_10, g5_11⟩
    · try dsimp only at e
      replace e := bindO_eq e
      obtain ⟨g6, e_g6, e⟩ := e
      obtain ⟨g6_0⟩ := g6
      try dsimp only at e
      replace e := bindO_eq e
      obtain ⟨g7, e_g7, e⟩ := e
      obtain ⟨g7_0⟩ := g7
      try dsimp only at e
      replace e := cond_eq_or e
      rcases e with ⟨hq1, e⟩ | ⟨hq1, e⟩
      · replace e := bindO_eq e
        obtain ⟨g8, e_g8, e⟩ := e
        obtain ⟨g8_0, g8_1, g8_2, g8_3, g8_4, g8_5⟩ := g8
        try dsimp only at e
        injection e with e; subst e; exact fn_conG hU (P := Tryz.prog) Tryz.func3 (fun xs w => by kernel_rfl) _ _ (P2 ++ [.cx (sp0_barbicanlaw25_FoldStraight_L1_0_ok hU y0 a0 p0 q0 n0 k0 A0 hR0 r0 r1 r2 r3 r4 0 g5_0 g5_1 g5_2 g5_3 g5_4 g5_5 e_g5) [0, 1, 2, 3, 4, 5, 6, 7, 8, 9], .o, .o, .o, .x (sqAppL_ok (ty := 23) rt23 #[false, false] (f := c_Insn) (N := 4) (A := r4) (c := 1) [(⟨149#8, 0#8, 0#8, 0#16, 0#32⟩ : Insn)] (T' := 29) .row c_Insn_len c_Insn_one (by decide) rfl (by decide)) [10, 14], .o, .o, .a 1, .o, .x (sqAppL1_ok (ty := 30) rt30 #[false, false] (f := c_Arr26) (c := 1) (⟨g5_1 0, g5_1 1, g5_1 2, g5_1 3⟩ : Arr26) (T' := 26) c_Arr26_len c_Arr26_one (by decide)) [16], .o, .o, .xg (SpcG.own hU (f := c_Insn) c_Insn_len 5 (updF r4 4 (⟨149#8, 0#8, 0#8, 0#16, 0#32⟩ : Insn)) 29 (fun l => padL l 5 5) (fun l => (padL l 5 5).length / 5) _ 1 .normal (by intros; rfl) (by intros; rfl) (by intros; rfl) (fun M0 B0 S0 x0 u0 v0 z0 hU0 hs0 hr0 => ok0_fold_Known hU0 x0 u0 v0 5 z0 (updF r4 4 (⟨149#8, 0#8, 0#8, 0#16, 0#32⟩ : Insn)) hr0 g6_0 e_g6)) [15], .o, .o, .o, .o, .o, .o, .xg (ok0_fold_Fold_v1 hU 5 (updF r4 4 (⟨149#8, 0#8, 0#8, 0#16, 0#32⟩ : Insn)) g7_0 e_g7) [15], .o, .o, .o, .o, .o, .o, .o, .o, .o, .o, .o, .o, .o, .o, .o, .o, .o, .o, .o, .o, .o, .o, .o, .b (z_neqT hq1), .o, .o, .cp, .cx (sp0_barbicanlaw25_FoldStraight_L2_0_ok hU y0 a0 p0 q0 n0 k0 A0 hR0 r0 r1 r2 r3 r4 g5_0 g5_1 g5_2 g5_3 g5_4 g5_5 g6_0 g7_0 (updF r4 4 (⟨149#8, 0#8, 0#8, 0#16, 0#32⟩ : Insn)) (g5_1 0) (g5_1 1) (g5_1 2) (g5_1 3) (fun _ => (⟨g5_1 0, g5_1 1, g5_1 2, g5_1 3⟩ : Arr26)) 0 g8_0 g8_1 g8_2 g8_3 g8_4 g8_5 e_g8) [0, 1, 2, 3, 4, 5, 6, 7, 8, 9, 10, 11, 12, 13, 14, 15, 16, 17, 18, 19], .o]) [] (fun b => by kernel_rfl)
      · exact none_some e
    · try dsimp only at e
      replace e := cond_eq_or e
      rcases e with ⟨hq1, e⟩ | ⟨hq1, e⟩
      · replace e := cond_eq_or e
        rcases e with ⟨hq2, e⟩ | ⟨hq2, e⟩
        · replace e := bindO_eq e
          obtain ⟨g6, e_g6, e⟩ := e
          obtain ⟨g6_0⟩ := g6
          try dsimp only at e
          replace e := bindO_eq e
          obtain ⟨g7, e_g7, e⟩ := e
          obtain ⟨g7_0⟩ := g7
          try dsimp only at e
          replace e := cond_eq_or e
          rcases e with ⟨hq3, e⟩ | ⟨hq3, e⟩
          · replace e := cond_eq_or e
            rcases e with ⟨hq4, e⟩ | ⟨hq4, e⟩
            · replace e := bindO_eq e
              obtain ⟨g8, e_g8, e⟩ := e
              obtain ⟨g8_0, g8_1, g8_2, g8_3, g8_4, g8_5⟩ := g8
              try dsimp only at e
              injection e with e; subst e; exact fn_conG hU (P := Tryz.prog) Tryz.func3 (fun xs w => by kernel_rfl) _ _ (P2 ++ [.cx (sp1_barbicanlaw25_FoldStraight_L1_0_ok hU y0 a0 p0 q0 n0 k0 A0 hR0 r0 r1 r2 r3 r4 0 g5_0 g5_1 g5_2 g5_3 g5_4 g5_5 g5_6 g5_7 g5_8 g5_9 g5_10 g5_11 e_g5) [0, 1, 2, 3, 4, 5, 6, 7, 8, 9], .o, .o, .o, .x (sqAppL_ok (ty := 23) rt23 #[false, false] (f := c_Insn) (N := g5_6) (A := g5_7) (c := 1) [(⟨149#8, 0#8, 0#8, 0#16, 0#32⟩ : Insn)] (T' := 29) .row c_Insn_len c_Insn_one hq1 rfl (by decide)) [10, 14], .o, .o, .a 1, .o, .x (sqAppL_ok (ty := 30) rt30 #[false, false] (f := c_Arr26) (N := g5_8) (A := g5_9) (c := 1) [(⟨g5_1 0, g5_1 1, g5_1 2, g5_1 3⟩ : Arr26)] (T' := 26) .row c_Arr26_len c_Arr26_one hq2 rfl (by decide)) [11, 16], .o, .o, .xg (SpcG.own hU (f := c_Insn) c_Insn_len (g5_6 + 1) (updF g5_7 g5_6 (⟨149#8, 0#8, 0#8, 0#16, 0#32⟩ : Insn)) 29 (fun l => padL l (g5_6 + 1) 5) (fun l => (padL l (g5_6 + 1) 5).length / 5) _ 1 .normal (by intros; rfl) (by intros; rfl) (by intros; rfl) (fun M0 B0 S0 x0 u0 v0 z0 hU0 hs0 hr0 => ok0_fold_Known hU0 x0 u0 v0 (g5_6 + 1) z0 (updF g5_7 g5_6 (⟨149#8, 0#8, 0#8, 0#16, 0#32⟩ : Insn)) hr0 g6_0 e_g6)) [15], .o, .o, .o, .o, .o, .o, .xg (ok0_fold_Fold_v1 hU (g5_6 + 1) (updF g5_7 g5_6 (⟨149#8, 0#8, 0#8, 0#16, 0#32⟩ : Insn)) g7_0 e_g7) [15], .o, .o, .o, .o, .o, .o, .o, .o, .o, .o, .o, .o, .o, .o, .o, .o, .b (z_neqT hq3), .o, .o, .o, .o, .o, .o, .b (z_neqT hq4), .o, .o, .cp, .cx (sp0_barbicanlaw25_FoldStraight_L2v1_0_ok hU y0 a0 p0 q0 n0 k0 A0 hR0 r0 r1 r2 r3 r4 g5_0 g5_1 g5_2 g5_3 g5_4 g5_5 g5_6 g5_7 g5_8 g5_9 g5_10 g5_11 g6_0 g7_0 (updF g5_7 g5_6 (⟨149#8, 0#8, 0#8, 0#16, 0#32⟩ : Insn)) (g5_1 0) (g5_1 1) (g5_1 2) (g5_1 3) (updF g5_9 g5_8 (⟨g5_1 0, g5_1 1, g5_1 2, g5_1 3⟩ : Arr26)) 0 g8_0 g8_1 g8_2 g8_3 g8_4 g8_5 e_g8) [0, 1, 2, 3, 4, 5, 6, 7, 8, 9, 10, 11, 12, 13, 14, 15, 16, 17, 18, 19], .o]) [] (fun b => by kernel_rfl)
            · exact none_some e
          · exact none_some e
        · exact none_some e
      · exact none_some e
end

end Go.Proofs.YtcdkghdjfcccfaaGreat


