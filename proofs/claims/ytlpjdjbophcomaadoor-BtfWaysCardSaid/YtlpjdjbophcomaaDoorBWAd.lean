/-
  What the law knows of the program.
-/
import Derived.Test.YtlpjdjbophcomaaDoorBWAc
import Derived.Test.YtlpjdjbophcomaaDoorRyY
import Derived.Test.YtlpjdjbophcomaaDoorRxO
import Derived.Test.YtlpjdjbophcomaaDoorRyK
import Derived.Test.YtlpjdjbophcomaaDoorRyM
import Derived.Test.YtlpjdjbophcomaaDoorProg
namespace Go.Proofs.YtlpjdjbophcomaaDoor
open Go.RowKit
set_option linter.unusedVariables false
set_option linter.unusedSimpArgs false
set_option linter.unusedSectionVars false
set_option maxRecDepth 100000
set_option maxHeartbeats 4000000
section
variable {M : Nat → Prop} {B0 : Nat} {S : World → Prop} (hU : Up M B0 S) (a0 : Option Addr) (p0 : Nat) (q0 : Nat) (n0 : Nat) (k0 : Nat) (X0 : Nat → RoX) (A0 : Nat → (Xs35 × (Nat × (Nat → Member)))) (hR0 : RoS S h_Xs35 t_Xs35 7 c_Member 3 a0 p0 q0 n0 X0 (fun i => (A0 i).2) (fun i => (A0 i).1)) (y1 : Int) (y2 : Int) (r0 : (Int) × (Int)) (g2_0 : Nat) (g2_1 : Nat → ByteArray)
include hU a0 p0 q0 n0 k0 X0 A0 hR0 y1 y2 r0 g2_0 g2_1
theorem go_barbicanlaw4_BtfWays_L1v1 (s : Sh_barbicanlaw4_BtfWays_L1v1) (r : Ex_barbicanlaw4_BtfWays_L1v1) (h : lpO (st_barbicanlaw4_BtfWays_L1v1 n0 A0 y1 y2 r0 g2_0 g2_1) s = some r) : GoesG Tryd.prog M B0 S (.loop bd_barbicanlaw4_BtfWays_L1v1) 3 (fr_barbicanlaw4_BtfWays_L1v1 a0 p0 q0 n0 k0 X0 A0 y1 y2 r0 g2_0 g2_1 s) (Hs_barbicanlaw4_BtfWays_L1v1 a0 p0 q0 n0 k0 X0 A0 y1 y2 r0 g2_0 g2_1 s) (ex_barbicanlaw4_BtfWays_L1v1 r) 2 (vf_barbicanlaw4_BtfWays_L1v1 a0 p0 q0 n0 k0 X0 A0 y1 y2 r0 g2_0 g2_1 r) (Hf_barbicanlaw4_BtfWays_L1v1 a0 p0 q0 n0 k0 X0 A0 y1 y2 r0 g2_0 g2_1 r) 3 :=
  goes_lpO (fun s q e => by
    cases s with
    | c0 s0_0 s0_1 =>
      unfold st_barbicanlaw4_BtfWays_L1v1 at e
      dsimp only at e
      replace e := cond_eq_or e
      rcases e with ⟨hq0, e⟩ | ⟨hq0, e⟩
      · replace e := bindO_eq e
        obtain ⟨rb0, e_rb0, e⟩ := e
        try dsimp only at e
        replace e := cond_eq_or e
        rcases e with ⟨hq1, e⟩ | ⟨hq1, e⟩
        · replace e := bindO_eq e
          obtain ⟨gb1, e_gb1, e⟩ := e
          rcases gb1 with _ | _
          · try dsimp only at e
            cases e; exact goes_runM hU [.o, .o, .b (z_lssT hq0), .o, .o, .o, .o, .cg (ok_btf_Field_v2 hU a0 p0 q0 n0 k0 X0 A0 hR0 y1 s0_1 y2 rb0 e_rb0), .o, .o, .o, .o, .o, .o, .b (z_neqT hq1), .o, .cp, .cx (sp0_barbicanlaw4_BtfWays_L1v1_L2v1_0_ok hU a0 p0 q0 n0 k0 X0 A0 hR0 y1 y2 r0 g2_0 g2_1 s0_0 s0_1 rb0 0  e_gb1) [0, 1, 2], .o, .o, .o, .o, .o, .o] [0, 1] (fun b => rfl) (by decide) rfl rfl (fun b => by kernel_rfl)
          · try dsimp only at e
            cases e; exact ⟨ne_ret, goes_runM hU [.o, .o, .b (z_lssT hq0), .o, .o, .o, .o, .cg (ok_btf_Field_v2 hU a0 p0 q0 n0 k0 X0 A0 hR0 y1 s0_1 y2 rb0 e_rb0), .o, .o, .o, .o, .o, .o, .b (z_neqT hq1), .o, .cp, .cx (sp1_barbicanlaw4_BtfWays_L1v1_L2v1_0_ok hU a0 p0 q0 n0 k0 X0 A0 hR0 y1 y2 r0 g2_0 g2_1 s0_0 s0_1 rb0 0  e_gb1) [0, 1, 2]] [0, 1] (fun b => rfl) (by decide) rfl rfl (fun b => by kernel_rfl)⟩
        · cases e; exact goes_runM hU [.o, .o, .b (z_lssT hq0), .o, .o, .o, .o, .cg (ok_btf_Field_v2 hU a0 p0 q0 n0 k0 X0 A0 hR0 y1 s0_1 y2 rb0 e_rb0), .o, .o, .o, .o, .o, .o, .b (z_neqF hq1), .o, .o, .o] [0, 1] (fun b => rfl) (by decide) rfl rfl (fun b => by kernel_rfl)
      · cases e; exact ⟨ne_exit 2, goes_runM hU [.o, .o, .b (z_lssF hq0)] [0, 1] (fun b => rfl) (by decide) rfl rfl (fun b => by kernel_rfl)⟩) s r h
noncomputable def t0_barbicanlaw4_BtfWays_L1v1_0 (a0 : Option Addr) (p0 : Nat) (q0 : Nat) (n0 : Nat) (k0 : Nat) (X0 : Nat → RoX) (A0 : Nat → (Xs35 × (Nat × (Nat → Member)))) (y1 : Int) (y2 : Int) (r0 : (Int) × (Int)) (g2_0 : Nat) (g2_1 : Nat → ByteArray) (s0_0 : Int) (s0_1 : Int) (ls : List L1) : List Value := List.append [.slice a0 n0 (n0 + k0), .int .i64 (y1), .int .i64 (y2)] (List.append (jks (lget ls 1).u 3 4) (List.append [.int .i64 (r0.1), ((lget ls 1).u 8), (rowV (lget ls 0) g2_0 1), ((lget ls 1).u 10), ((lget ls 1).u 11), ((lget ls 1).u 12), .int .i64 (s0_0), .int .i64 (s0_1)] (jks (lget ls 1).u 15 79)))
def pre_barbicanlaw4_BtfWays_L1v1_0 (a0 : Option Addr) (p0 : Nat) (q0 : Nat) (n0 : Nat) (k0 : Nat) (X0 : Nat → RoX) (A0 : Nat → (Xs35 × (Nat × (Nat → Member)))) (y1 : Int) (y2 : Int) (r0 : (Int) × (Int)) (g2_0 : Nat) (g2_1 : Nat → ByteArray) (s0_0 : Int) (s0_1 : Int) (ls : List L1) : List Obj := [rowO (lget ls 0) (esG cS g2_0 g2_1) 9 g2_0 1, unb]
theorem sp0_barbicanlaw4_BtfWays_L1v1_0_ok (s0_0 : Int) (s0_1 : Int) (h : lpO (st_barbicanlaw4_BtfWays_L1v1 n0 A0 y1 y2 r0 g2_0 g2_1) (.c0 s0_0 s0_1) = some (.e0 )) : SpcG Tryd.prog M B0 S ⟨fun ls => .code (.loop bd_barbicanlaw4_BtfWays_L1v1) (t0_barbicanlaw4_BtfWays_L1v1_0 a0 p0 q0 n0 k0 X0 A0 y1 y2 r0 g2_0 g2_1 s0_0 s0_1 ls), pre_barbicanlaw4_BtfWays_L1v1_0 a0 p0 q0 n0 k0 X0 A0 y1 y2 r0 g2_0 g2_1 s0_0 s0_1, 1, (.exit 2), fun ls => vf_barbicanlaw4_BtfWays_L1v1 a0 p0 q0 n0 k0 X0 A0 y1 y2 r0 g2_0 g2_1 (.e0 ) (ls.take 2 ++ ls.drop 2), fun ls => (Hf_barbicanlaw4_BtfWays_L1v1 a0 p0 q0 n0 k0 X0 A0 y1 y2 r0 g2_0 g2_1 (.e0 ) (ls.take 2 ++ ls.drop 2)).take 2 ++ List.replicate 0 unb, fun ls => (Hf_barbicanlaw4_BtfWays_L1v1 a0 p0 q0 n0 k0 X0 A0 y1 y2 r0 g2_0 g2_1 (.e0 ) (ls.take 2 ++ ls.drop 2)).drop 2⟩ :=
  spc_of_goesM hU 0 (k0 := 2) (go_barbicanlaw4_BtfWays_L1v1 hU a0 p0 q0 n0 k0 X0 A0 hR0 y1 y2 r0 g2_0 g2_1 _ _ h) (t0_barbicanlaw4_BtfWays_L1v1_0 a0 p0 q0 n0 k0 X0 A0 y1 y2 r0 g2_0 g2_1 s0_0 s0_1) (pre_barbicanlaw4_BtfWays_L1v1_0 a0 p0 q0 n0 k0 X0 A0 y1 y2 r0 g2_0 g2_1 s0_0 s0_1) (fun _ => rfl) (fun ls h => by match ls, h with | [l0, l1], _ => exact ⟨by kernel_rfl, by kernel_rfl⟩) (fun ls h => by match ls, h with | [l0, l1], _ => rfl) (by decide) (by decide) (fun ls => rfl)
theorem sp1_barbicanlaw4_BtfWays_L1v1_0_ok (s0_0 : Int) (s0_1 : Int) (h : lpO (st_barbicanlaw4_BtfWays_L1v1 n0 A0 y1 y2 r0 g2_0 g2_1) (.c0 s0_0 s0_1) = some (.e1 )) : SpcG Tryd.prog M B0 S ⟨fun ls => .code (.loop bd_barbicanlaw4_BtfWays_L1v1) (t0_barbicanlaw4_BtfWays_L1v1_0 a0 p0 q0 n0 k0 X0 A0 y1 y2 r0 g2_0 g2_1 s0_0 s0_1 ls), pre_barbicanlaw4_BtfWays_L1v1_0 a0 p0 q0 n0 k0 X0 A0 y1 y2 r0 g2_0 g2_1 s0_0 s0_1, 1, .ret, fun ls => vf_barbicanlaw4_BtfWays_L1v1 a0 p0 q0 n0 k0 X0 A0 y1 y2 r0 g2_0 g2_1 (.e1 ) (ls.take 2 ++ ls.drop 2), fun ls => (Hf_barbicanlaw4_BtfWays_L1v1 a0 p0 q0 n0 k0 X0 A0 y1 y2 r0 g2_0 g2_1 (.e1 ) (ls.take 2 ++ ls.drop 2)).take 2 ++ List.replicate 0 unb, fun ls => (Hf_barbicanlaw4_BtfWays_L1v1 a0 p0 q0 n0 k0 X0 A0 y1 y2 r0 g2_0 g2_1 (.e1 ) (ls.take 2 ++ ls.drop 2)).drop 2⟩ :=
  spc_of_goesM hU 0 (k0 := 2) (go_barbicanlaw4_BtfWays_L1v1 hU a0 p0 q0 n0 k0 X0 A0 hR0 y1 y2 r0 g2_0 g2_1 _ _ h) (t0_barbicanlaw4_BtfWays_L1v1_0 a0 p0 q0 n0 k0 X0 A0 y1 y2 r0 g2_0 g2_1 s0_0 s0_1) (pre_barbicanlaw4_BtfWays_L1v1_0 a0 p0 q0 n0 k0 X0 A0 y1 y2 r0 g2_0 g2_1 s0_0 s0_1) (fun _ => rfl) (fun ls h => by match ls, h with | [l0, l1], _ => exact ⟨by kernel_rfl, by kernel_rfl⟩) (fun ls h => by match ls, h with | [l0, l1], _ => rfl) (by decide) (by decide) (fun ls => rfl)
noncomputable def m_barbicanlaw4_BtfWays (n0 : Nat) (A0 : Nat → (Xs35 × (Nat × (Nat → Member)))) (y1 : Int) (y2 : Int) : Option (Bool) :=
  (m_btf_Size_v1 n0 A0 y1).bind fun r0 =>
  (m_barbicanlaw4_few n0 A0).bind fun r1 =>
  bif r1 then
    (bif r0.2 == 0 then
      (bif decide (100 < r0.1) then
        (some true)
      else ((lpO (st_barbicanlaw4_BtfWays_L0 n0 A0 y1 y2 r0) (.c0 0)).bind fun g2 => match g2 with
      | .e0  => ((lpO (st_barbicanlaw4_BtfWays_L1 n0 A0 y1 y2 r0) (.c0 0 0)).bind fun g3 => match g3 with
        | .e0 =>
        some true)
      | .e1 g2_0 g2_1 => ((lpO (st_barbicanlaw4_BtfWays_L1v1 n0 A0 y1 y2 r0 g2_0 g2_1) (.c0 0 0)).bind fun g3 => match g3 with
        | .e0  => (some true)
        | .e1  => (some false))))
    else (some true))
  else (some true)
end
section
variable {M : Nat → Prop} {B0 : Nat} {S : World → Prop} (hU : Up M B0 S)
include hU
theorem ok_barbicanlaw4_BtfWays (a0 : Option Addr) (p0 : Nat) (q0 : Nat) (n0 : Nat) (k0 : Nat) (X0 : Nat → RoX) (A0 : Nat → (Xs35 × (Nat × (Nat → Member)))) (hR0 : RoS S h_Xs35 t_Xs35 7 c_Member 3 a0 p0 q0 n0 X0 (fun i => (A0 i).2) (fun i => (A0 i).1)) (y1 : Int) (y2 : Int) (r : Bool) (e : m_barbicanlaw4_BtfWays n0 A0 y1 y2 = some r) : ConG Tryd.prog S 3 #[.slice a0 n0 (n0 + k0), .int .i64 (y1), .int .i64 (y2)] (.bool (r)) := by
  unfold m_barbicanlaw4_BtfWays at e
  replace e := bindO_eq e
  obtain ⟨r0, e_r0, e⟩ := e
  try dsimp only at e
  replace e := bindO_eq e
  obtain ⟨r1, e_r1, e⟩ := e
  try dsimp only at e
  replace e := cond_eq_or e
  rcases e with ⟨hq0, e⟩ | ⟨hq0, e⟩
  · subst hq0
    replace e := cond_eq_or e
    rcases e with ⟨hq1, e⟩ | ⟨hq1, e⟩
    · replace e := cond_eq_or e
      rcases e with ⟨hq2, e⟩ | ⟨hq2, e⟩
      · injection e with e; subst e; exact fn_conG hU (P := Tryd.prog) Tryd.func3 (fun xs w => by kernel_rfl) _ _ [.o, .cg (ok_barbicanlaw4_known hU  ), .o, .o, .o, .cg (ok_btf_Size_v1 hU a0 p0 q0 n0 k0 X0 A0 hR0 y1 r0 e_r0), .o, .o, .o, .o, .o, .o, .cg (ok_barbicanlaw4_few hU a0 p0 q0 n0 k0 X0 A0 hR0 true e_r1), .o, .o, .o, .b (z_neqT hq1), .o, .o, .o, .b (z_gtrT hq2), .o, .o] [] (fun b => by kernel_rfl)
      · replace e := bindO_eq e
        obtain ⟨g2, e_g2, e⟩ := e
        rcases g2 with _ | ⟨g2_0, g2_1⟩
        · try dsimp only at e
          replace e := bindO_eq e
          obtain ⟨g3, e_g3, e⟩ := e
          cases g3
          try dsimp only at e
          injection e with e; subst e; exact fn_conG hU (P := Tryd.prog) Tryd.func3 (fun xs w => by kernel_rfl) _ _ [.o, .cg (ok_barbicanlaw4_known hU  ), .o, .o, .o, .cg (ok_btf_Size_v1 hU a0 p0 q0 n0 k0 X0 A0 hR0 y1 r0 e_r0), .o, .o, .o, .o, .o, .o, .cg (ok_barbicanlaw4_few hU a0 p0 q0 n0 k0 X0 A0 hR0 true e_r1), .o, .o, .o, .b (z_neqT hq1), .o, .o, .o, .b (z_gtrF hq2), .o, .o, .o, .cp, .cx (sp0_barbicanlaw4_BtfWays_L0_0_ok hU a0 p0 q0 n0 k0 X0 A0 hR0 y1 y2 r0 0  e_g2) [], .o, .o, .cp, .cx (sp0_barbicanlaw4_BtfWays_L1_0_ok hU a0 p0 q0 n0 k0 X0 A0 hR0 y1 y2 r0 0 0  e_g3) [0, 1], .o] [] (fun b => by kernel_rfl)
        · try dsimp only at e
          replace e := bindO_eq e
          obtain ⟨g3, e_g3, e⟩ := e
          rcases g3 with _ | _
          · try dsimp only at e
            injection e with e; subst e; exact fn_conG hU (P := Tryd.prog) Tryd.func3 (fun xs w => by kernel_rfl) _ _ [.o, .cg (ok_barbicanlaw4_known hU  ), .o, .o, .o, .cg (ok_btf_Size_v1 hU a0 p0 q0 n0 k0 X0 A0 hR0 y1 r0 e_r0), .o, .o, .o, .o, .o, .o, .cg (ok_barbicanlaw4_few hU a0 p0 q0 n0 k0 X0 A0 hR0 true e_r1), .o, .o, .o, .b (z_neqT hq1), .o, .o, .o, .b (z_gtrF hq2), .o, .o, .o, .cp, .cx (sp1_barbicanlaw4_BtfWays_L0_0_ok hU a0 p0 q0 n0 k0 X0 A0 hR0 y1 y2 r0 0 g2_0 g2_1 e_g2) [], .o, .o, .cp, .cx (sp0_barbicanlaw4_BtfWays_L1v1_0_ok hU a0 p0 q0 n0 k0 X0 A0 hR0 y1 y2 r0 g2_0 g2_1 0 0  e_g3) [0, 1], .o] [] (fun b => by kernel_rfl)
          · try dsimp only at e
            injection e with e; subst e; exact fn_conG hU (P := Tryd.prog) Tryd.func3 (fun xs w => by kernel_rfl) _ _ [.o, .cg (ok_barbicanlaw4_known hU  ), .o, .o, .o, .cg (ok_btf_Size_v1 hU a0 p0 q0 n0 k0 X0 A0 hR0 y1 r0 e_r0), .o, .o, .o, .o, .o, .o, .cg (ok_barbicanlaw4_few hU a0 p0 q0 n0 k0 X0 A0 hR0 true e_r1), .o, .o, .o, .b (z_neqT hq1), .o, .o, .o, .b (z_gtrF hq2), .o, .o, .o, .cp, .cx (sp1_barbicanlaw4_BtfWays_L0_0_ok hU a0 p0 q0 n0 k0 X0 A0 hR0 y1 y2 r0 0 g2_0 g2_1 e_g2) [], .o, .o, .cp, .cx (sp1_barbicanlaw4_BtfWays_L1v1_0_ok hU a0 p0 q0 n0 k0 X0 A0 hR0 y1 y2 r0 g2_0 g2_1 0 0  e_g3) [0, 1]] [] (fun b => by kernel_rfl)
    · injection e with e; subst e; exact fn_conG hU (P := Tryd.prog) Tryd.func3 (fun xs w => by kernel_rfl) _ _ [.o, .cg (ok_barbicanlaw4_known hU  ), .o, .o, .o, .cg (ok_btf_Size_v1 hU a0 p0 q0 n0 k0 X0 A0 hR0 y1 r0 e_r0), .o, .o, .o, .o, .o, .o, .cg (ok_barbicanlaw4_few hU a0 p0 q0 n0 k0 X0 A0 hR0 true e_r1), .o, .o, .o, .b (z_neqF hq1), .o, .o, .o, .o] [] (fun b => by kernel_rfl)
  · subst hq0
    injection e with e; subst e; exact fn_conG hU (P := Tryd.prog) Tryd.func3 (fun xs w => by kernel_rfl) _ _ [.o, .cg (ok_barbicanlaw4_known hU  ), .o, .o, .o, .cg (ok_btf_Size_v1 hU a0 p0 q0 n0 k0 X0 A0 hR0 y1 r0 e_r0), .o, .o, .o, .o, .o, .o, .cg (ok_barbicanlaw4_few hU a0 p0 q0 n0 k0 X0 A0 hR0 false e_r1), .o, .o, .o, .o, .o, .o] [] (fun b => by kernel_rfl)
end

end Go.Proofs.YtlpjdjbophcomaaDoor

