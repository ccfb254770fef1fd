/-
  The law on numbers that go from register to register, by the program's text.
-/
import Derived.Test.YtjfiakgkeniocaaL16Cb
import Derived.Test.YtjfiakgkeniocaaL16K
namespace Go.Proofs.Ytjfiakgkeniocaa
open Go.RowKit
set_option linter.unusedVariables false
set_option linter.unusedSimpArgs false
set_option linter.unusedSectionVars false
set_option maxRecDepth 100000
set_option maxHeartbeats 4000000
section
variable {M : Nat → Prop} {B0 : Nat} {S : World → Prop} (hU : Up M B0 S) (a0 : Option Addr) (p0 : Nat) (q0 : Nat) (n0 : Nat) (k0 : Nat) (A0 : Nat → BitVec 8) (hR0 : Ro S cu8 1 a0 p0 q0 n0 A0) (g0_0 : Nat) (g0_1 : Nat → Insn) (g0_2 : BitVec 8) (r1 : Nat → Insn) (g2_0 : Nat → BitVec 16) (g3_0 : Nat) (g3_1 : Nat → Int)
include hU a0 p0 q0 n0 k0 A0 hR0 g0_0 g0_1 g0_2 r1 g2_0 g3_0 g3_1
theorem go_barbicanlaw16_LiveChain_L1v3 (s : Sh_barbicanlaw16_LiveChain_L1v3) (r : Ex_barbicanlaw16_LiveChain_L1v3) (h : lpO (st_barbicanlaw16_LiveChain_L1v3 g0_0 r1 g2_0) s = some r) : GoesG Try.prog M B0 S (.loop bd_barbicanlaw16_LiveChain_L1v3) 8 (fr_barbicanlaw16_LiveChain_L1v3 a0 p0 q0 n0 k0 A0 g0_0 g0_1 g0_2 r1 g2_0 g3_0 g3_1 s) (Hs_barbicanlaw16_LiveChain_L1v3 a0 p0 q0 n0 k0 A0 g0_0 g0_1 g0_2 r1 g2_0 g3_0 g3_1 s) (ex_barbicanlaw16_LiveChain_L1v3 r) 7 (vf_barbicanlaw16_LiveChain_L1v3 a0 p0 q0 n0 k0 A0 g0_0 g0_1 g0_2 r1 g2_0 g3_0 g3_1 r) (Hf_barbicanlaw16_LiveChain_L1v3 a0 p0 q0 n0 k0 A0 g0_0 g0_1 g0_2 r1 g2_0 g3_0 g3_1 r) 8 :=
  goes_lpO (fun s q e => by
    cases s with
    | c0 s0_0 =>
      unfold st_barbicanlaw16_LiveChain_L1v3 at e
      dsimp only at e
      replace e := cond_eq_or e
      rcases e with ⟨hq0, e⟩ | ⟨hq0, e⟩
      · replace e := cond_eq_or e
        rcases e with ⟨hq1, e⟩ | ⟨hq1, e⟩
        · replace e := cond_eq_or e
          let P1 : List (PG Try.prog M B0 S) := [.o, .o, .o, .o, .b (z_lssT hq0), .r [0, 1, 2, 3, 4, 5, 6, 7, 8, 9, 10] [] [], .o, .o, .q (ixM_ok (kd := .i64) (T := 27) (x := s0_0) (N := (g0_0 + 2)) (sz := 1) rfl (fun w => by kernel_rfl) hq1), .l (accG (i := 5) (f := cu16) (A := g2_0) (k := (s0_0).toNat) 0 [.int .u16 (nn (g2_0 (s0_0).toNat))] cu16_len (inR_nat hq1) rfl), .o, .o, .q (ixM_ok (kd := .i64) (T := 22) (x := s0_0) (N := (g0_0 + 2)) (sz := 5) rfl (fun w => by kernel_rfl) hq1), .o, .l (accG (i := 4) (f := c_Insn) (A := r1) (k := (s0_0).toNat) 2 [.int .u8 (nn ((r1 (s0_0).toNat)).fSrc)] c_Insn_len (inR_nat hq1) rfl), .ov (u16_shl Try.prog 31 (.const (.int .u16 (1))) (.tmp 92) (1#16) (((r1 (s0_0).toNat)).fSrc).toNat .u8 rfl)]
          rcases e with ⟨hq2, e⟩ | ⟨hq2, e⟩
          · cases e; exact goes_runM hU (P1 ++ [.tn (u_ne (g2_0 (s0_0).toNat) (1#16 <<< (((r1 (s0_0).toNat)).fSrc).toNat)) hq2, .o, .o, .o]) [0, 1, 2, 3, 4, 5, 6] (fun b => rfl) (by decide) rfl rfl (fun b => by kernel_rfl)
          · cases e; exact ⟨ne_ret, goes_runM hU (P1 ++ [.tn (u_ne (g2_0 (s0_0).toNat) (1#16 <<< (((r1 (s0_0).toNat)).fSrc).toNat)) hq2, .o]) [0, 1, 2, 3, 4, 5, 6] (fun b => rfl) (by decide) rfl rfl (fun b => by kernel_rfl)⟩
        · exact none_some e
      · cases e; exact ⟨ne_exit 2, goes_runM hU [.o, .o, .o, .o, .b (z_lssF hq0)] [0, 1, 2, 3, 4, 5, 6] (fun b => rfl) (by decide) rfl rfl (fun b => by kernel_rfl)⟩) s r h
noncomputable def t0_barbicanlaw16_LiveChain_L1v3_0 (a0 : Option Addr) (p0 : Nat) (q0 : Nat) (n0 : Nat) (k0 : Nat) (A0 : Nat → BitVec 8) (g0_0 : Nat) (g0_1 : Nat → Insn) (g0_2 : BitVec 8) (r1 : Nat → Insn) (g2_0 : Nat → BitVec 16) (g3_0 : Nat) (g3_1 : Nat → Int) (s0_0 : Int) (ls : List L1) : List Value := List.append [.slice a0 n0 (n0 + k0), ((lget ls 2).u 1), .bool false, (rowV (lget ls 4) (g0_0 + 2) 5), .int .u8 (nn g0_2), ((lget ls 2).u 5), ((lget ls 2).u 6), (rowV (lget ls 5) (g0_0 + 2) 1), .int .i64 (0), (rowV (lget ls 6) g3_0 1), .int .i64 (0), .int .i64 (s0_0)] (List.append (jks (lget ls 2).u 12 25) (List.append [(rowV (lget ls 1) g0_0 5), .int .u8 (nn g0_2), .agg #[.int .u8 (191), .int .u8 (0), .int .u8 (nn g0_2), .int .i16 (0), .int .i32 (0)], .agg #[.int .u8 (149), .int .u8 (0), .int .u8 (0), .int .i16 (0), .int .i32 (0)], .slice (some ⟨(lget ls 3).n, 0, none⟩) 2 2, (rowV (lget ls 4) (g0_0 + 2) 5), .tuple #[(rowV (lget ls 5) (g0_0 + 2) 1), .int .i64 (0)], (rowV (lget ls 4) (g0_0 + 2) 5), .tuple #[(rowV (lget ls 5) (g0_0 + 2) 1), .int .i64 (0)], (rowV (lget ls 5) (g0_0 + 2) 1), .int .i64 (0), .tuple #[(rowV (lget ls 6) g3_0 1), .int .i64 (0)], (rowV (lget ls 4) (g0_0 + 2) 5), .tuple #[(rowV (lget ls 6) g3_0 1), .int .i64 (0)], (rowV (lget ls 6) g3_0 1), .int .i64 (0), .int .i64 (0), .bool false, .bool false, .int .i64 (0), .bool false, .bool false, .bool false, (rowV (lget ls 5) (g0_0 + 2) 1), .int .i64 (((g0_0 + 2) : Int)), (rowV (lget ls 4) (g0_0 + 2) 5), .int .i64 (((g0_0 + 2) : Int)), .bool false, .bool false, .bool false, (rowV (lget ls 5) (g0_0 + 2) 1), .pointer (some ⟨(lget ls 5).n, 0 + 0 * 1, none⟩), .int .u16 (nn (g2_0 0)), .bool false, .bool false, .bool false, (rowV (lget ls 6) g3_0 1), .int .i64 ((g3_0 : Int)), .bool false, .bool false] (jks (lget ls 2).u 77 25)))
def pre_barbicanlaw16_LiveChain_L1v3_0 (a0 : Option Addr) (p0 : Nat) (q0 : Nat) (n0 : Nat) (k0 : Nat) (A0 : Nat → BitVec 8) (g0_0 : Nat) (g0_1 : Nat → Insn) (g0_2 : BitVec 8) (r1 : Nat → Insn) (g2_0 : Nat → BitVec 16) (g3_0 : Nat) (g3_1 : Nat → Int) (s0_0 : Int) (ls : List L1) : List Obj := [unb, unb, unb, .cells #[.int .u8 (191), .int .u8 (0), .int .u8 (nn g0_2), .int .i16 (0), .int .i32 (0), .int .u8 (149), .int .u8 (0), .int .u8 (0), .int .i16 (0), .int .i32 (0)] 26, rowO (lget ls 4) (esG c_Insn (g0_0 + 2) r1) 26 (g0_0 + 2) 5, rowO (lget ls 5) (esG cu16 (g0_0 + 2) g2_0) 31 (g0_0 + 2) 1, rowO (lget ls 6) (esG cZ g3_0 g3_1) 3 g3_0 1]
theorem sp0_barbicanlaw16_LiveChain_L1v3_0_ok (s0_0 : Int) (h : lpO (st_barbicanlaw16_LiveChain_L1v3 g0_0 r1 g2_0) (.c0 s0_0) = some (.e0 )) : SpcG Try.prog M B0 S ⟨fun ls => .code (.loop bd_barbicanlaw16_LiveChain_L1v3) (t0_barbicanlaw16_LiveChain_L1v3_0 a0 p0 q0 n0 k0 A0 g0_0 g0_1 g0_2 r1 g2_0 g3_0 g3_1 s0_0 ls), pre_barbicanlaw16_LiveChain_L1v3_0 a0 p0 q0 n0 k0 A0 g0_0 g0_1 g0_2 r1 g2_0 g3_0 g3_1 s0_0, 1, (.exit 2), fun ls => vf_barbicanlaw16_LiveChain_L1v3 a0 p0 q0 n0 k0 A0 g0_0 g0_1 g0_2 r1 g2_0 g3_0 g3_1 (.e0 ) (ls.take 7 ++ ls.drop 7), fun ls => (Hf_barbicanlaw16_LiveChain_L1v3 a0 p0 q0 n0 k0 A0 g0_0 g0_1 g0_2 r1 g2_0 g3_0 g3_1 (.e0 ) (ls.take 7 ++ ls.drop 7)).take 7 ++ List.replicate 0 unb, fun ls => (Hf_barbicanlaw16_LiveChain_L1v3 a0 p0 q0 n0 k0 A0 g0_0 g0_1 g0_2 r1 g2_0 g3_0 g3_1 (.e0 ) (ls.take 7 ++ ls.drop 7)).drop 7⟩ :=
  spc_of_goesM hU 0 (k0 := 7) (go_barbicanlaw16_LiveChain_L1v3 hU a0 p0 q0 n0 k0 A0 hR0 g0_0 g0_1 g0_2 r1 g2_0 g3_0 g3_1 _ _ h) (t0_barbicanlaw16_LiveChain_L1v3_0 a0 p0 q0 n0 k0 A0 g0_0 g0_1 g0_2 r1 g2_0 g3_0 g3_1 s0_0) (pre_barbicanlaw16_LiveChain_L1v3_0 a0 p0 q0 n0 k0 A0 g0_0 g0_1 g0_2 r1 g2_0 g3_0 g3_1 s0_0) (fun _ => rfl) (fun ls h => by match ls, h with | [l0, l1, l2, l3, l4, l5, l6], _ => exact ⟨by kernel_rfl, by kernel_rfl⟩) (fun ls h => by match ls, h with | [l0, l1, l2, l3, l4, l5, l6], _ => rfl) (by decide) (by decide) (fun ls => rfl)
theorem sp1_barbicanlaw16_LiveChain_L1v3_0_ok (s0_0 : Int) (h : lpO (st_barbicanlaw16_LiveChain_L1v3 g0_0 r1 g2_0) (.c0 s0_0) = some (.e1 )) : SpcG Try.prog M B0 S ⟨fun ls => .code (.loop bd_barbicanlaw16_LiveChain_L1v3) (t0_barbicanlaw16_LiveChain_L1v3_0 a0 p0 q0 n0 k0 A0 g0_0 g0_1 g0_2 r1 g2_0 g3_0 g3_1 s0_0 ls), pre_barbicanlaw16_LiveChain_L1v3_0 a0 p0 q0 n0 k0 A0 g0_0 g0_1 g0_2 r1 g2_0 g3_0 g3_1 s0_0, 1, .ret, fun ls => vf_barbicanlaw16_LiveChain_L1v3 a0 p0 q0 n0 k0 A0 g0_0 g0_1 g0_2 r1 g2_0 g3_0 g3_1 (.e1 ) (ls.take 7 ++ ls.drop 7), fun ls => (Hf_barbicanlaw16_LiveChain_L1v3 a0 p0 q0 n0 k0 A0 g0_0 g0_1 g0_2 r1 g2_0 g3_0 g3_1 (.e1 ) (ls.take 7 ++ ls.drop 7)).take 7 ++ List.replicate 0 unb, fun ls => (Hf_barbicanlaw16_LiveChain_L1v3 a0 p0 q0 n0 k0 A0 g0_0 g0_1 g0_2 r1 g2_0 g3_0 g3_1 (.e1 ) (ls.take 7 ++ ls.drop 7)).drop 7⟩ :=
  spc_of_goesM hU 0 (k0 := 7) (go_barbicanlaw16_LiveChain_L1v3 hU a0 p0 q0 n0 k0 A0 hR0 g0_0 g0_1 g0_2 r1 g2_0 g3_0 g3_1 _ _ h) (t0_barbicanlaw16_LiveChain_L1v3_0 a0 p0 q0 n0 k0 A0 g0_0 g0_1 g0_2 r1 g2_0 g3_0 g3_1 s0_0) (pre_barbicanlaw16_LiveChain_L1v3_0 a0 p0 q0 n0 k0 A0 g0_0 g0_1 g0_2 r1 g2_0 g3_0 g3_1 s0_0) (fun _ => rfl) (fun ls h => by match ls, h with | [l0, l1, l2, l3, l4, l5, l6], _ => exact ⟨by kernel_rfl, by kernel_rfl⟩) (fun ls h => by match ls, h with | [l0, l1, l2, l3, l4, l5, l6], _ => rfl) (by decide) (by decide) (fun ls => rfl)
noncomputable def m_barbicanlaw16_LiveChain (n0 : Nat) (A0 : Nat → BitVec 8) : Option (Bool) :=
  bif decide (40 < (n0 : Int)) then
    (some true)
  else ((lpO (st_barbicanlaw16_LiveChain_L0 n0 A0) (.c0)).bind fun g0 => match g0 with
  | .e0  => (bindT (appL (fun _ => (⟨183#8, 1#8, 0#8, 0#16, 7#32⟩ : Insn)) 1 [(⟨191#8, 0#8, 1#8, 0#16, 0#32⟩ : Insn), (⟨149#8, 0#8, 0#8, 0#16, 0#32⟩ : Insn)]) fun r1 =>
    (m_live_Live_v1 3 r1).bind fun g2 => match g2 with
    | .e0 g2_0 => ((m_live_Dead_v1 3 r1).bind fun g3 => match g3 with
      | .e0 g3_0 => (bif g3_0 == 0 then
          (bif (g2_0 0) == 0#16 then
            ((lpO (st_barbicanlaw16_LiveChain_L1 r1 g2_0) (.c0 1)).bind fun g4 => match g4 with
            | .e0  => (some ((g2_0 2) == 1#16))
            | .e1  => (some false))
          else (some false))
        else (some false))
      | .e1 g3_0 g3_1 => (bif (g2_0 0) == 0#16 then
          (bif (g3_0 : Int) == 0 then
            ((lpO (st_barbicanlaw16_LiveChain_L1v1 r1 g2_0) (.c0 1)).bind fun g4 => match g4 with
            | .e0  => (some ((g2_0 2) == 1#16))
            | .e1  => (some false))
          else (some false))
        else (some false)))
    | .e1 g2_0 => ((m_live_Dead_v1 3 r1).bind fun g3 => match g3 with
      | .e0 g3_0 => (bif g2_0 == 0 then
          (bif g3_0 == 0 then
            (some false)
          else (some false))
        else (some false))
      | .e1 g3_0 g3_1 => (bif g2_0 == 0 then
          (some false)
        else (some false))))
  | .e1 g0_0 g0_1 g0_2 => (bif decide (g0_0 ≤ 1000000) then
      (bindT (appL g0_1 g0_0 [(⟨191#8, 0#8, g0_2, 0#16, 0#32⟩ : Insn), (⟨149#8, 0#8, 0#8, 0#16, 0#32⟩ : Insn)]) fun r1 =>
      (m_live_Live_v1 (g0_0 + 2) r1).bind fun g2 => match g2 with
      | .e0 g2_0 => ((m_live_Dead_v1 (g0_0 + 2) r1).bind fun g3 => match g3 with
        | .e0 g3_0 => (bif g3_0 == 0 then
            (bif ((g0_0 + 2) : Int) == ((g0_0 + 2) : Int) then
              (bif inR 0 (g0_0 + 2) then
                (bif (g2_0 0) == 0#16 then
                  ((lpO (st_barbicanlaw16_LiveChain_L1v2 g0_0 r1 g2_0) (.c0 1)).bind fun g4 => match g4 with
                  | .e0  => (bif inR (IntKind.i64.wrap (((g0_0 + 2) : Int) - 1)) (g0_0 + 2) then
                      (some ((g2_0 ((IntKind.i64.wrap (((g0_0 + 2) : Int) - 1))).toNat) == 1#16))
                    else (none))
                  | .e1  => (some false))
                else (some false))
              else (none))
            else (some false))
          else (some false))
        | .e1 g3_0 g3_1 => (bif ((g0_0 + 2) : Int) == ((g0_0 + 2) : Int) then
            (bif inR 0 (g0_0 + 2) then
              (bif (g2_0 0) == 0#16 then
                (bif (g3_0 : Int) == 0 then
                  ((lpO (st_barbicanlaw16_LiveChain_L1v3 g0_0 r1 g2_0) (.c0 1)).bind fun g4 => match g4 with
                  | .e0  => (bif inR (IntKind.i64.wrap (((g0_0 + 2) : Int) - 1)) (g0_0 + 2) then
                      (some ((g2_0 ((IntKind.i64.wrap (((g0_0 + 2) : Int) - 1))).toNat) == 1#16))
                    else (none))
                  | .e1  => (some false))
                else (some false))
              else (some false))
            else (none))
          else (some false)))
      | .e1 g2_0 => ((m_live_Dead_v1 (g0_0 + 2) r1).bind fun g3 => match g3 with
        | .e0 g3_0 => (bif g2_0 == 0 then
            (bif g3_0 == 0 then
              (bif (0 : Int) == ((g0_0 + 2) : Int) then
                (none)
              else (some false))
            else (some false))
          else (some false))
        | .e1 g3_0 g3_1 => (bif g2_0 == 0 then
            (bif (0 : Int) == ((g0_0 + 2) : Int) then
              (none)
            else (some false))
          else (some false))))
    else (none)))
end
section
variable {M : Nat → Prop} {B0 : Nat} {S : World → Prop} (hU : Up M B0 S)
include hU
theorem ok_barbicanlaw16_LiveChain (a0 : Option Addr) (p0 : Nat) (q0 : Nat) (n0 : Nat) (k0 : Nat) (A0 : Nat → BitVec 8) (hR0 : Ro S cu8 1 a0 p0 q0 n0 A0) (r : Bool) (e : m_barbicanlaw16_LiveChain n0 A0 = some r) : ConG Try.prog S 4 #[.slice a0 n0 (n0 + k0)] (.bool (r)) := by
  unfold m_barbicanlaw16_LiveChain at e
  replace e := cond_eq_or e
  let P1 : List (PG Try.prog M B0 S) := [.o, .cg (ok_barbicanlaw16_known hU  ), .o, .o, .o]
  rcases e with ⟨hq0, e⟩ | ⟨hq0, e⟩
  · injection e with e; subst e; exact fn_conG hU (P := Try.prog) Try.func4 (fun xs w => by kernel_rfl) _ _ (P1 ++ [.b (z_gtrT hq0), .o]) [] (fun b => by kernel_rfl)
  · replace e := bindO_eq e
    obtain ⟨g0, e_g0, e⟩ := e
    let P2 : List (PG Try.prog M B0 S) := P1 ++ [.b (z_gtrF hq0), .o, .o, .o, .o, .o, .cp]
    rcases g0 with _ | ⟨g0_0, g0_1, g0_2⟩
    · try dsimp only at e
      replace e := bindT_eq e
      obtain ⟨r1, e_r1, e⟩ := e
      try dsimp only at e
      replace e := bindO_eq e
      obtain ⟨g2, e_g2, e⟩ := e
      let P3 : List (PG Try.prog M B0 S) := P2 ++ [.cx (sp0_barbicanlaw16_LiveChain_L0_0_ok hU a0 p0 q0 n0 k0 A0 hR0   e_g0) [0], .o, .o, .o, .o, .o, .x (sqAppLr_ok (ty := 22) rt22 #[false, false] (f := c_Insn) (N := 1) (A := (fun _ => (⟨183#8, 1#8, 0#8, 0#16, 7#32⟩ : Insn))) (c := 2) [(⟨191#8, 0#8, 1#8, 0#16, 0#32⟩ : Insn), (⟨149#8, 0#8, 0#8, 0#16, 0#32⟩ : Insn)] (T' := 26) .plain c_Insn_len c_Insn_one (by decide) rfl (by decide) e_r1) [1, 3], .o, .o]
      rcases g2 with ⟨g2_0⟩ | ⟨g2_0⟩
      · try dsimp only at e
        replace e := bindO_eq e
        obtain ⟨g3, e_g3, e⟩ := e
        let P4 : List (PG Try.prog M B0 S) := P3 ++ [.xg (SpcG.own hU (f := c_Insn) c_Insn_len 3 r1 26 (fun l => padL l 3 5) (fun l => (padL l 3 5).length / 5) _ 1 .normal (by intros; rfl) (by intros; rfl) (by intros; rfl) (fun M0 B0 S0 x0 u0 v0 z0 hU0 hs0 hr0 => ok0_live_Live_v1 hU0 x0 u0 v0 3 z0 r1 hr0 g2_0 e_g2)) [4], .o, .o, .o, .o, .o, .o]
        rcases g3 with ⟨g3_0⟩ | ⟨g3_0, g3_1⟩
        · try dsimp only at e
          replace e := cond_eq_or e
          let P5 : List (PG Try.prog M B0 S) := P4 ++ [.xg (SpcG.own hU (f := c_Insn) c_Insn_len 3 r1 26 (fun l => padL l 3 5) (fun l => (padL l 3 5).length / 5) _ 0 .normal (by intros; rfl) (by intros; rfl) (by intros; rfl) (fun M0 B0 S0 x0 u0 v0 z0 hU0 hs0 hr0 => ok0_live_Dead_v1 hU0 x0 u0 v0 3 z0 r1 hr0 g3_0 e_g3)) [4], .o, .o, .o, .o, .o, .o, .o, .o, .o]
          rcases e with ⟨hq1, e⟩ | ⟨hq1, e⟩
          · replace e := cond_eq_or e
            let P6 : List (PG Try.prog M B0 S) := P5 ++ [.b (z_neqT hq1), .o, .o, .o, .o, .o, .o, .o, .o, .o, .o, .q (ixM_ok (kd := .i64) (T := 27) (x := 0) (N := 3) (sz := 1) rfl (fun w => by kernel_rfl) (show inR 0 3 = true from by decide)), .l (accG (i := 5) (f := cu16) (A := g2_0) (k := 0) 0 [.int .u16 (nn (g2_0 0))] cu16_len (inR_nat (show inR 0 3 = true from by decide)) rfl)]
            rcases e with ⟨hq2, e⟩ | ⟨hq2, e⟩
            · replace e := bindO_eq e
              obtain ⟨g4, e_g4, e⟩ := e
              rcases g4 with _ | _
              · try dsimp only at e
                injection e with e; subst e; exact fn_conG hU (P := Try.prog) Try.func4 (fun xs w => by kernel_rfl) _ _ (P6 ++ [.tn (u_ne (g2_0 0) (0#16)) hq2, .o, .o, .o, .o, .o, .o, .o, .cp, .cx (sp0_barbicanlaw16_LiveChain_L1_0_ok hU a0 p0 q0 n0 k0 A0 hR0 r1 g2_0 g3_0 1  e_g4) [0, 1, 2, 3, 4, 5], .o, .o, .o, .o, .q (ixM_ok (kd := .i64) (T := 27) (x := 2) (N := 3) (sz := 1) rfl (fun w => by kernel_rfl) (show inR 2 3 = true from by decide)), .l (accG (i := 5) (f := cu16) (A := g2_0) (k := 2) 0 [.int .u16 (nn (g2_0 2))] cu16_len (inR_nat (show inR 2 3 = true from by decide)) rfl), .t (u_eq (g2_0 2) (1#16)) rfl, .o]) [] (fun b => by kernel_rfl)
              · try dsimp only at e
                injection e with e; subst e; exact fn_conG hU (P := Try.prog) Try.func4 (fun xs w => by kernel_rfl) _ _ (P6 ++ [.tn (u_ne (g2_0 0) (0#16)) hq2, .o, .o, .o, .o, .o, .o, .o, .cp, .cx (sp1_barbicanlaw16_LiveChain_L1_0_ok hU a0 p0 q0 n0 k0 A0 hR0 r1 g2_0 g3_0 1  e_g4) [0, 1, 2, 3, 4, 5]]) [] (fun b => by kernel_rfl)
            · injection e with e; subst e; exact fn_conG hU (P := Try.prog) Try.func4 (fun xs w => by kernel_rfl) _ _ (P6 ++ [.tn (u_ne (g2_0 0) (0#16)) hq2, .o, .o, .o, .o]) [] (fun b => by kernel_rfl)
          · injection e with e; subst e; exact fn_conG hU (P := Try.prog) Try.func4 (fun xs w => by kernel_rfl) _ _ (P5 ++ [.b (z_neqF hq1), .o, .o, .o, .o, .o, .o, .o, .o]) [] (fun b => by kernel_rfl)
        · try dsimp only at e
          replace e := cond_eq_or e
          let P7 : List (PG Try.prog M B0 S) := P4 ++ [.xg (SpcG.own hU (f := c_Insn) c_Insn_len 3 r1 26 (fun l => padL l 3 5) (fun l => (padL l 3 5).length / 5) _ 1 .normal (by intros; rfl) (by intros; rfl) (by intros; rfl) (fun M0 B0 S0 x0 u0 v0 z0 hU0 hs0 hr0 => ok1_live_Dead_v1 hU0 x0 u0 v0 3 z0 r1 hr0 g3_0 g3_1 e_g3)) [4], .o, .o, .o, .o, .o, .o, .o, .o, .o, .o, .o, .o, .o, .o, .o, .o, .o, .o, .o, .o, .q (ixM_ok (kd := .i64) (T := 27) (x := 0) (N := 3) (sz := 1) rfl (fun w => by kernel_rfl) (show inR 0 3 = true from by decide)), .l (accG (i := 5) (f := cu16) (A := g2_0) (k := 0) 0 [.int .u16 (nn (g2_0 0))] cu16_len (inR_nat (show inR 0 3 = true from by decide)) rfl)]
          rcases e with ⟨hq1, e⟩ | ⟨hq1, e⟩
          · replace e := cond_eq_or e
            let P8 : List (PG Try.prog M B0 S) := P7 ++ [.tn (u_ne (g2_0 0) (0#16)) hq1, .o, .o, .o, .o]
            rcases e with ⟨hq2, e⟩ | ⟨hq2, e⟩
            · replace e := bindO_eq e
              obtain ⟨g4, e_g4, e⟩ := e
              rcases g4 with _ | _
              · try dsimp only at e
                injection e with e; subst e; exact fn_conG hU (P := Try.prog) Try.func4 (fun xs w => by kernel_rfl) _ _ (P8 ++ [.b (z_neqT hq2), .o, .o, .cp, .cx (sp0_barbicanlaw16_LiveChain_L1v1_0_ok hU a0 p0 q0 n0 k0 A0 hR0 r1 g2_0 g3_0 g3_1 1  e_g4) [0, 1, 2, 3, 4, 5, 6], .o, .o, .o, .o, .q (ixM_ok (kd := .i64) (T := 27) (x := 2) (N := 3) (sz := 1) rfl (fun w => by kernel_rfl) (show inR 2 3 = true from by decide)), .l (accG (i := 5) (f := cu16) (A := g2_0) (k := 2) 0 [.int .u16 (nn (g2_0 2))] cu16_len (inR_nat (show inR 2 3 = true from by decide)) rfl), .t (u_eq (g2_0 2) (1#16)) rfl, .o]) [] (fun b => by kernel_rfl)
              · try dsimp only at e
                injection e with e; subst e; exact fn_conG hU (P := Try.prog) Try.func4 (fun xs w => by kernel_rfl) _ _ (P8 ++ [.b (z_neqT hq2), .o, .o, .cp, .cx (sp1_barbicanlaw16_LiveChain_L1v1_0_ok hU a0 p0 q0 n0 k0 A0 hR0 r1 g2_0 g3_0 g3_1 1  e_g4) [0, 1, 2, 3, 4, 5, 6]]) [] (fun b => by kernel_rfl)
            · injection e with e; subst e; exact fn_conG hU (P := Try.prog) Try.func4 (fun xs w => by kernel_rfl) _ _ (P8 ++ [.b (z_neqF hq2), .o, .o]) [] (fun b => by kernel_rfl)
          · injection e with e; subst e; exact fn_conG hU (P := Try.prog) Try.func4 (fun xs w => by kernel_rfl) _ _ (P7 ++ [.tn (u_ne (g2_0 0) (0#16)) hq1, .o, .o, .o, .o]) [] (fun b => by kernel_rfl)
      · try dsimp only at e
        replace e := bindO_eq e
        obtain ⟨g3, e_g3, e⟩ := e
        let P9 : List (PG Try.prog M B0 S) := P3 ++ [.xg (SpcG.own hU (f := c_Insn) c_Insn_len 3 r1 26 (fun l => padL l 3 5) (fun l => (padL l 3 5).length / 5) _ 0 .normal (by intros; rfl) (by intros; rfl) (by intros; rfl) (fun M0 B0 S0 x0 u0 v0 z0 hU0 hs0 hr0 => ok1_live_Live_v1 hU0 x0 u0 v0 3 z0 r1 hr0 g2_0 e_g2)) [4], .o, .o, .o, .o, .o, .o]
        rcases g3 with ⟨g3_0⟩ | ⟨g3_0, g3_1⟩
        · try dsimp only at e
          replace e := cond_eq_or e
          let P10 : List (PG Try.prog M B0 S) := P9 ++ [.xg (SpcG.own hU (f := c_Insn) c_Insn_len 3 r1 26 (fun l => padL l 3 5) (fun l => (padL l 3 5).length / 5) _ 0 .normal (by intros; rfl) (by intros; rfl) (by intros; rfl) (fun M0 B0 S0 x0 u0 v0 z0 hU0 hs0 hr0 => ok0_live_Dead_v1 hU0 x0 u0 v0 3 z0 r1 hr0 g3_0 e_g3)) [4], .o, .o, .o, .o, .o, .o]
          rcases e with ⟨hq1, e⟩ | ⟨hq1, e⟩
          · replace e := cond_eq_or e
            rcases e with ⟨hq2, e⟩ | ⟨hq2, e⟩
            · injection e with e; subst e; exact fn_conG hU (P := Try.prog) Try.func4 (fun xs w => by kernel_rfl) _ _ (P10 ++ [.b (z_neqT hq1), .o, .o, .b (z_neqT hq2), .o, .o, .o, .o, .o, .o, .o, .o, .o, .o, .o, .o, .o]) [] (fun b => by kernel_rfl)
            · injection e with e; subst e; exact fn_conG hU (P := Try.prog) Try.func4 (fun xs w => by kernel_rfl) _ _ (P10 ++ [.b (z_neqT hq1), .o, .o, .b (z_neqF hq2), .o, .o, .o, .o, .o, .o, .o, .o]) [] (fun b => by kernel_rfl)
          · injection e with e; subst e; exact fn_conG hU (P := Try.prog) Try.func4 (fun xs w => by kernel_rfl) _ _ (P10 ++ [.b (z_neqF hq1), .o, .o, .o, .o, .o, .o, .o, .o, .o]) [] (fun b => by kernel_rfl)
        · try dsimp only at e
          replace e := cond_eq_or e
          let P11 : List (PG Try.prog M B0 S) := P9 ++ [.xg (SpcG.own hU (f := c_Insn) c_Insn_len 3 r1 26 (fun l => padL l 3 5) (fun l => (padL l 3 5).length / 5) _ 1 .normal (by intros; rfl) (by intros; rfl) (by intros; rfl) (fun M0 B0 S0 x0 u0 v0 z0 hU0 hs0 hr0 => ok1_live_Dead_v1 hU0 x0 u0 v0 3 z0 r1 hr0 g3_0 g3_1 e_g3)) [4], .o, .o, .o, .o, .o, .o]
          rcases e with ⟨hq1, e⟩ | ⟨hq1, e⟩
          · injection e with e; subst e; exact fn_conG hU (P := Try.prog) Try.func4 (fun xs w => by kernel_rfl) _ _ (P11 ++ [.b (z_neqT hq1), .o, .o, .o, .o, .o, .o, .o, .o, .o, .o, .o, .o, .o, .o, .o, .o]) [] (fun b => by kernel_rfl)
          · injection e with e; subst e; exact fn_conG hU (P := Try.prog) Try.func4 (fun xs w => by kernel_rfl) _ _ (P11 ++ [.b (z_neqF hq1), .o, .o, .o, .o, .o, .o, .o, .o, .o]) [] (fun b => by kernel_rfl)
    · try dsimp only at e
      replace e := cond_eq_or e
      let P12 : List (PG Try.prog M B0 S) := P2 ++ [.cx (sp1_barbicanlaw16_LiveChain_L0_0_ok hU a0 p0 q0 n0 k0 A0 hR0  g0_0 g0_1 g0_2 e_g0) [0], .o, .o, .o, .o, .o]
      rcases e with ⟨hq1, e⟩ | ⟨hq1, e⟩
      · replace e := bindT_eq e
        obtain ⟨r1, e_r1, e⟩ := e
        try dsimp only at e
        replace e := bindO_eq e
        obtain ⟨g2, e_g2, e⟩ := e
        let P13 : List (PG Try.prog M B0 S) := P12 ++ [.x (sqAppLr_ok (ty := 22) rt22 #[false, false] (f := c_Insn) (N := g0_0) (A := g0_1) (c := 2) [(⟨191#8, 0#8, g0_2, 0#16, 0#32⟩ : Insn), (⟨149#8, 0#8, 0#8, 0#16, 0#32⟩ : Insn)] (T' := 26) .row c_Insn_len c_Insn_one hq1 rfl (by decide) e_r1) [1, 3], .o, .o]
        rcases g2 with ⟨g2_0⟩ | ⟨g2_0⟩
        · try dsimp only at e
          replace e := bindO_eq e
          obtain ⟨g3, e_g3, e⟩ := e
          let P14 : List (PG Try.prog M B0 S) := P13 ++ [.xg (SpcG.own hU (f := c_Insn) c_Insn_len (g0_0 + 2) r1 26 (fun l => padL l (g0_0 + 2) 5) (fun l => (padL l (g0_0 + 2) 5).length / 5) _ 1 .normal (by intros; rfl) (by intros; rfl) (by intros; rfl) (fun M0 B0 S0 x0 u0 v0 z0 hU0 hs0 hr0 => ok0_live_Live_v1 hU0 x0 u0 v0 (g0_0 + 2) z0 r1 hr0 g2_0 e_g2)) [4], .o, .o, .o, .o, .o, .o]
          rcases g3 with ⟨g3_0⟩ | ⟨g3_0, g3_1⟩
          · try dsimp only at e
            replace e := cond_eq_or e
            let P15 : List (PG Try.prog M B0 S) := P14 ++ [.xg (SpcG.own hU (f := c_Insn) c_Insn_len (g0_0 + 2) r1 26 (fun l => padL l (g0_0 + 2) 5) (fun l => (padL l (g0_0 + 2) 5).length / 5) _ 0 .normal (by intros; rfl) (by intros; rfl) (by intros; rfl) (fun M0 B0 S0 x0 u0 v0 z0 hU0 hs0 hr0 => ok0_live_Dead_v1 hU0 x0 u0 v0 (g0_0 + 2) z0 r1 hr0 g3_0 e_g3)) [4], .o, .o, .o, .o, .o, .o, .o, .o, .o]
            rcases e with ⟨hq2, e⟩ | ⟨hq2, e⟩
            · replace e := cond_eq_or e
              let P16 : List (PG Try.prog M B0 S) := P15 ++ [.b (z_neqT hq2), .o, .o, .o, .o, .o, .o]
              rcases e with ⟨hq3, e⟩ | ⟨hq3, e⟩
              · replace e := cond_eq_or e
                rcases e with ⟨hq4, e⟩ | ⟨hq4, e⟩
                · replace e := cond_eq_or e
                  let P17 : List (PG Try.prog M B0 S) := P16 ++ [.b (z_neqT hq3), .o, .o, .o, .q (ixM_ok (kd := .i64) (T := 27) (x := 0) (N := (g0_0 + 2)) (sz := 1) rfl (fun w => by kernel_rfl) hq4), .l (accG (i := 5) (f := cu16) (A := g2_0) (k := 0) 0 [.int .u16 (nn (g2_0 0))] cu16_len (inR_nat hq4) rfl)]
                  rcases e with ⟨hq5, e⟩ | ⟨hq5, e⟩
                  · replace e := bindO_eq e
                    obtain ⟨g4, e_g4, e⟩ := e
                    rcases g4 with _ | _
                    · try dsimp only at e
                      replace e := cond_eq_or e
                      rcases e with ⟨hq6, e⟩ | ⟨hq6, e⟩
                      · injection e with e; subst e; exact fn_conG hU (P := Try.prog) Try.func4 (fun xs w => by kernel_rfl) _ _ (P17 ++ [.tn (u_ne (g2_0 0) (0#16)) hq5, .o, .o, .o, .o, .o, .o, .o, .cp, .cx (sp0_barbicanlaw16_LiveChain_L1v2_0_ok hU a0 p0 q0 n0 k0 A0 hR0 g0_0 g0_1 g0_2 r1 g2_0 g3_0 1  e_g4) [0, 1, 2, 3, 4, 5], .o, .o, .o, .o, .q (ixM_ok (kd := .i64) (T := 27) (x := (IntKind.i64.wrap (((g0_0 + 2) : Int) - 1))) (N := (g0_0 + 2)) (sz := 1) rfl (fun w => by kernel_rfl) hq6), .l (accG (i := 5) (f := cu16) (A := g2_0) (k := ((IntKind.i64.wrap (((g0_0 + 2) : Int) - 1))).toNat) 0 [.int .u16 (nn (g2_0 ((IntKind.i64.wrap (((g0_0 + 2) : Int) - 1))).toNat))] cu16_len (inR_nat hq6) rfl), .t (u_eq (g2_0 ((IntKind.i64.wrap (((g0_0 + 2) : Int) - 1))).toNat) (1#16)) rfl, .o]) [] (fun b => by kernel_rfl)
                      · exact none_some e
                    · try dsimp only at e
                      injection e with e; subst e; exact fn_conG hU (P := Try.prog) Try.func4 (fun xs w => by kernel_rfl) _ _ (P17 ++ [.tn (u_ne (g2_0 0) (0#16)) hq5, .o, .o, .o, .o, .o, .o, .o, .cp, .cx (sp1_barbicanlaw16_LiveChain_L1v2_0_ok hU a0 p0 q0 n0 k0 A0 hR0 g0_0 g0_1 g0_2 r1 g2_0 g3_0 1  e_g4) [0, 1, 2, 3, 4, 5]]) [] (fun b => by kernel_rfl)
                  · injection e with e; subst e; exact fn_conG hU (P := Try.prog) Try.func4 (fun xs w => by kernel_rfl) _ _ (P17 ++ [.tn (u_ne (g2_0 0) (0#16)) hq5, .o, .o, .o, .o]) [] (fun b => by kernel_rfl)
                · exact none_some e
              · injection e with e; subst e; exact fn_conG hU (P := Try.prog) Try.func4 (fun xs w => by kernel_rfl) _ _ (P16 ++ [.b (z_neqF hq3), .o, .o, .o, .o, .o, .o]) [] (fun b => by kernel_rfl)
            · injection e with e; subst e; exact fn_conG hU (P := Try.prog) Try.func4 (fun xs w => by kernel_rfl) _ _ (P15 ++ [.b (z_neqF hq2), .o, .o, .o, .o, .o, .o, .o, .o]) [] (fun b => by kernel_rfl)
          · try dsimp only at e
            replace e := cond_eq_or e
            let P18 : List (PG Try.prog M B0 S) := P14 ++ [.xg (SpcG.own hU (f := c_Insn) c_Insn_len (g0_0 + 2) r1 26 (fun l => padL l (g0_0 + 2) 5) (fun l => (padL l (g0_0 + 2) 5).length / 5) _ 1 .normal (by intros; rfl) (by intros; rfl) (by intros; rfl) (fun M0 B0 S0 x0 u0 v0 z0 hU0 hs0 hr0 => ok1_live_Dead_v1 hU0 x0 u0 v0 (g0_0 + 2) z0 r1 hr0 g3_0 g3_1 e_g3)) [4], .o, .o, .o, .o, .o, .o, .o, .o, .o, .o, .o, .o, .o, .o, .o, .o]
            rcases e with ⟨hq2, e⟩ | ⟨hq2, e⟩
            · replace e := cond_eq_or e
              rcases e with ⟨hq3, e⟩ | ⟨hq3, e⟩
              · replace e := cond_eq_or e
                let P19 : List (PG Try.prog M B0 S) := P18 ++ [.b (z_neqT hq2), .o, .o, .o, .q (ixM_ok (kd := .i64) (T := 27) (x := 0) (N := (g0_0 + 2)) (sz := 1) rfl (fun w => by kernel_rfl) hq3), .l (accG (i := 5) (f := cu16) (A := g2_0) (k := 0) 0 [.int .u16 (nn (g2_0 0))] cu16_len (inR_nat hq3) rfl)]
                rcases e with ⟨hq4, e⟩ | ⟨hq4, e⟩
                · replace e := cond_eq_or e
                  let P20 : List (PG Try.prog M B0 S) := P19 ++ [.tn (u_ne (g2_0 0) (0#16)) hq4, .o, .o, .o, .o]
                  rcases e with ⟨hq5, e⟩ | ⟨hq5, e⟩
                  · replace e := bindO_eq e
                    obtain ⟨g4, e_g4, e⟩ := e
                    rcases g4 with _ | _
                    · try dsimp only at e
                      replace e := cond_eq_or e
                      rcases e with ⟨hq6, e⟩ | ⟨hq6, e⟩
                      · injection e with e; subst e; exact fn_conG hU (P := Try.prog) Try.func4 (fun xs w => by kernel_rfl) _ _ (P20 ++ [.b (z_neqT hq5), .o, .o, .cp, .cx (sp0_barbicanlaw16_LiveChain_L1v3_0_ok hU a0 p0 q0 n0 k0 A0 hR0 g0_0 g0_1 g0_2 r1 g2_0 g3_0 g3_1 1  e_g4) [0, 1, 2, 3, 4, 5, 6], .o, .o, .o, .o, .q (ixM_ok (kd := .i64) (T := 27) (x := (IntKind.i64.wrap (((g0_0 + 2) : Int) - 1))) (N := (g0_0 + 2)) (sz := 1) rfl (fun w => by kernel_rfl) hq6), .l (accG (i := 5) (f := cu16) (A := g2_0) (k := ((IntKind.i64.wrap (((g0_0 + 2) : Int) - 1))).toNat) 0 [.int .u16 (nn (g2_0 ((IntKind.i64.wrap (((g0_0 + 2) : Int) - 1))).toNat))] cu16_len (inR_nat hq6) rfl), .t (u_eq (g2_0 ((IntKind.i64.wrap (((g0_0 + 2) : Int) - 1))).toNat) (1#16)) rfl, .o]) [] (fun b => by kernel_rfl)
                      · exact none_some e
                    · try dsimp only at e
                      injection e with e; subst e; exact fn_conG hU (P := Try.prog) Try.func4 (fun xs w => by kernel_rfl) _ _ (P20 ++ [.b (z_neqT hq5), .o, .o, .cp, .cx (sp1_barbicanlaw16_LiveChain_L1v3_0_ok hU a0 p0 q0 n0 k0 A0 hR0 g0_0 g0_1 g0_2 r1 g2_0 g3_0 g3_1 1  e_g4) [0, 1, 2, 3, 4, 5, 6]]) [] (fun b => by kernel_rfl)
                  · injection e with e; subst e; exact fn_conG hU (P := Try.prog) Try.func4 (fun xs w => by kernel_rfl) _ _ (P20 ++ [.b (z_neqF hq5), .o, .o]) [] (fun b => by kernel_rfl)
                · injection e with e; subst e; exact fn_conG hU (P := Try.prog) Try.func4 (fun xs w => by kernel_rfl) _ _ (P19 ++ [.tn (u_ne (g2_0 0) (0#16)) hq4, .o, .o, .o, .o]) [] (fun b => by kernel_rfl)
              · exact none_some e
            · injection e with e; subst e; exact fn_conG hU (P := Try.prog) Try.func4 (fun xs w => by kernel_rfl) _ _ (P18 ++ [.b (z_neqF hq2), .o, .o, .o, .o, .o, .o]) [] (fun b => by kernel_rfl)
        · try dsimp only at e
          replace e := bindO_eq e
          obtain ⟨g3, e_g3, e⟩ := e
          let P21 : List (PG Try.prog M B0 S) := P13 ++ [.xg (SpcG.own hU (f := c_Insn) c_Insn_len (g0_0 + 2) r1 26 (fun l => padL l (g0_0 + 2) 5) (fun l => (padL l (g0_0 + 2) 5).length / 5) _ 0 .normal (by intros; rfl) (by intros; rfl) (by intros; rfl) (fun M0 B0 S0 x0 u0 v0 z0 hU0 hs0 hr0 => ok1_live_Live_v1 hU0 x0 u0 v0 (g0_0 + 2) z0 r1 hr0 g2_0 e_g2)) [4], .o, .o, .o, .o, .o, .o]
          rcases g3 with ⟨g3_0⟩ | ⟨g3_0, g3_1⟩
          · try dsimp only at e
            replace e := cond_eq_or e
            let P22 : List (PG Try.prog M B0 S) := P21 ++ [.xg (SpcG.own hU (f := c_Insn) c_Insn_len (g0_0 + 2) r1 26 (fun l => padL l (g0_0 + 2) 5) (fun l => (padL l (g0_0 + 2) 5).length / 5) _ 0 .normal (by intros; rfl) (by intros; rfl) (by intros; rfl) (fun M0 B0 S0 x0 u0 v0 z0 hU0 hs0 hr0 => ok0_live_Dead_v1 hU0 x0 u0 v0 (g0_0 + 2) z0 r1 hr0 g3_0 e_g3)) [4], .o, .o, .o, .o, .o, .o]
            rcases e with ⟨hq2, e⟩ | ⟨hq2, e⟩
            · replace e := cond_eq_or e
              rcases e with ⟨hq3, e⟩ | ⟨hq3, e⟩
              · replace e := cond_eq_or e
                rcases e with ⟨hq4, e⟩ | ⟨hq4, e⟩
                · exact none_some e
                · injection e with e; subst e; exact fn_conG hU (P := Try.prog) Try.func4 (fun xs w => by kernel_rfl) _ _ (P22 ++ [.b (z_neqT hq2), .o, .o, .b (z_neqT hq3), .o, .o, .o, .o, .o, .o, .b (z_neqF hq4), .o, .o, .o, .o, .o, .o]) [] (fun b => by kernel_rfl)
              · injection e with e; subst e; exact fn_conG hU (P := Try.prog) Try.func4 (fun xs w => by kernel_rfl) _ _ (P22 ++ [.b (z_neqT hq2), .o, .o, .b (z_neqF hq3), .o, .o, .o, .o, .o, .o, .o, .o]) [] (fun b => by kernel_rfl)
            · injection e with e; subst e; exact fn_conG hU (P := Try.prog) Try.func4 (fun xs w => by kernel_rfl) _ _ (P22 ++ [.b (z_neqF hq2), .o, .o, .o, .o, .o, .o, .o, .o, .o]) [] (fun b => by kernel_rfl)
          · try dsimp only at e
            replace e := cond_eq_or e
            let P23 : List (PG Try.prog M B0 S) := P21 ++ [.xg (SpcG.own hU (f := c_Insn) c_Insn_len (g0_0 + 2) r1 26 (fun l => padL l (g0_0 + 2) 5) (fun l => (padL l (g0_0 + 2) 5).length / 5) _ 1 .normal (by intros; rfl) (by intros; rfl) (by intros; rfl) (fun M0 B0 S0 x0 u0 v0 z0 hU0 hs0 hr0 => ok1_live_Dead_v1 hU0 x0 u0 v0 (g0_0 + 2) z0 r1 hr0 g3_0 g3_1 e_g3)) [4], .o, .o, .o, .o, .o, .o]
            rcases e with ⟨hq2, e⟩ | ⟨hq2, e⟩
            · replace e := cond_eq_or e
              rcases e with ⟨hq3, e⟩ | ⟨hq3, e⟩
              · exact none_some e
              · injection e with e; subst e; exact fn_conG hU (P := Try.prog) Try.func4 (fun xs w => by kernel_rfl) _ _ (P23 ++ [.b (z_neqT hq2), .o, .o, .o, .o, .o, .o, .o, .o, .o, .b (z_neqF hq3), .o, .o, .o, .o, .o, .o]) [] (fun b => by kernel_rfl)
            · injection e with e; subst e; exact fn_conG hU (P := Try.prog) Try.func4 (fun xs w => by kernel_rfl) _ _ (P23 ++ [.b (z_neqF hq2), .o, .o, .o, .o, .o, .o, .o, .o, .o]) [] (fun b => by kernel_rfl)
      · exact none_some e
end

end Go.Proofs.Ytjfiakgkeniocaa

