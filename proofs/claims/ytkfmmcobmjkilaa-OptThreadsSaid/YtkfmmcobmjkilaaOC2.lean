/-
  Programs made shorter.
-/
import Derived.Test.YtkfmmcobmjkilaaOC1
namespace Go.Proofs.Ytkfmmcobmjkilaa
open Go.RowKit
set_option linter.unusedVariables false
set_option linter.unusedSimpArgs false
set_option linter.unusedSectionVars false
set_option maxRecDepth 100000
set_option maxHeartbeats 4000000
noncomputable def zr22 : Value := (Try.prog.info? 40).bind TypeInfo.zero |>.getD undef
theorem rt22 : RowT Try.prog 22 40 ((Try.prog.info? 40).getD default) zr22 5 12 := ⟨by kernel_rfl, by kernel_rfl, by kernel_rfl, by kernel_rfl, by kernel_rfl, by kernel_rfl, by decide⟩
inductive Sh_opt_goesOn_L0 where
  | c0 (s0_0 : Int)
inductive Ex_opt_goesOn_L0 where
  | e0 
  | e1 
noncomputable def st_opt_goesOn_L0 (y1 : Int) (n1 : Nat) (A1 : Nat → Bool) (r0 : (Int) × (Bool)) : Sh_opt_goesOn_L0 → Option (Sh_opt_goesOn_L0 ⊕ Ex_opt_goesOn_L0)
  | .c0 s0_0 =>
    bif decide (s0_0 < (((r0.1).toNat - ((IntKind.i64.wrap (y1 + 1))).toNat : Nat) : Int)) then
      (bif inR s0_0 ((r0.1).toNat - ((IntKind.i64.wrap (y1 + 1))).toNat : Nat) then
        (bif inR (IntKind.i64.wrap (y1 + 1)) n1 then
          (bif inR r0.1 (n1 + 1) then
            (bif decide ((IntKind.i64.wrap (y1 + 1)) ≤ r0.1) then
              (bif (A1 (((IntKind.i64.wrap (y1 + 1))).toNat + (s0_0).toNat)) then
                (some (.inr (.e1 )))
              else (some (.inl (.c0 (IntKind.i64.wrap (s0_0 + 1))))))
            else (none))
          else (none))
        else (none))
      else (none))
    else (some (.inr (.e0 )))
noncomputable def bd_opt_goesOn_L0 : Code := codeOf Try.f48 [1, 1, 1, 0, 1, 0, 0]
def fl_opt_goesOn_L0 (a0 : Option Addr) (p0 : Nat) (q0 : Nat) (n0 : Nat) (k0 : Nat) (A0 : Nat → Insn) (y1 : Int) (a1 : Option Addr) (p1 : Nat) (q1 : Nat) (n1 : Nat) (k1 : Nat) (A1 : Nat → Bool) (r0 : (Int) × (Bool)) : Sh_opt_goesOn_L0 → List L1 → List Value
  | .c0 s0_0, ls => [.bool false, .slice (some ⟨p1, q1 + ((IntKind.i64.wrap (y1 + 1))).toNat * 1, none⟩) ((r0.1).toNat - ((IntKind.i64.wrap (y1 + 1))).toNat : Nat) (((r0.1).toNat - ((IntKind.i64.wrap (y1 + 1))).toNat : Nat) + (n1 + k1 - (r0.1).toNat)), .int .i64 ((((r0.1).toNat - ((IntKind.i64.wrap (y1 + 1))).toNat : Nat) : Int)), .int .i64 (s0_0)]
def mf_opt_goesOn_L0 : Sh_opt_goesOn_L0 → List (Nat × Nat)
  | .c0 _ => [(0, 6), (1, 17), (3, 5)]
noncomputable def fr_opt_goesOn_L0 (a0 : Option Addr) (p0 : Nat) (q0 : Nat) (n0 : Nat) (k0 : Nat) (A0 : Nat → Insn) (y1 : Int) (a1 : Option Addr) (p1 : Nat) (q1 : Nat) (n1 : Nat) (k1 : Nat) (A1 : Nat → Bool) (r0 : (Int) × (Bool)) (s : Sh_opt_goesOn_L0) : List L1 → List Value := mrgF (mf_opt_goesOn_L0 s) (fl_opt_goesOn_L0 a0 p0 q0 n0 k0 A0 y1 a1 p1 q1 n1 k1 A1 r0 s) 0
def Hs_opt_goesOn_L0 (a0 : Option Addr) (p0 : Nat) (q0 : Nat) (n0 : Nat) (k0 : Nat) (A0 : Nat → Insn) (y1 : Int) (a1 : Option Addr) (p1 : Nat) (q1 : Nat) (n1 : Nat) (k1 : Nat) (A1 : Nat → Bool) (r0 : (Int) × (Bool)) : Sh_opt_goesOn_L0 → List L1 → List Obj
  | .c0 s0_0, ls => [unb]
def vl_opt_goesOn_L0 (a0 : Option Addr) (p0 : Nat) (q0 : Nat) (n0 : Nat) (k0 : Nat) (A0 : Nat → Insn) (y1 : Int) (a1 : Option Addr) (p1 : Nat) (q1 : Nat) (n1 : Nat) (k1 : Nat) (A1 : Nat → Bool) (r0 : (Int) × (Bool)) : Ex_opt_goesOn_L0 → List L1 → List Value
  | .e0 , ls => [.bool false, .slice (some ⟨p1, q1 + ((IntKind.i64.wrap (y1 + 1))).toNat * 1, none⟩) ((r0.1).toNat - ((IntKind.i64.wrap (y1 + 1))).toNat : Nat) (((r0.1).toNat - ((IntKind.i64.wrap (y1 + 1))).toNat : Nat) + (n1 + k1 - (r0.1).toNat)), .int .i64 ((((r0.1).toNat - ((IntKind.i64.wrap (y1 + 1))).toNat : Nat) : Int))]
  | .e1 , ls => [.bool false, .slice (some ⟨p1, q1 + ((IntKind.i64.wrap (y1 + 1))).toNat * 1, none⟩) ((r0.1).toNat - ((IntKind.i64.wrap (y1 + 1))).toNat : Nat) (((r0.1).toNat - ((IntKind.i64.wrap (y1 + 1))).toNat : Nat) + (n1 + k1 - (r0.1).toNat)), .int .i64 ((((r0.1).toNat - ((IntKind.i64.wrap (y1 + 1))).toNat : Nat) : Int))]
def mk_opt_goesOn_L0 : Ex_opt_goesOn_L0 → List (Nat × Nat)
  | .e0  => [(0, 6), (1, 17), (2, 6)]
  | .e1  => [(0, 6), (1, 17), (2, 6)]
noncomputable def vf_opt_goesOn_L0 (a0 : Option Addr) (p0 : Nat) (q0 : Nat) (n0 : Nat) (k0 : Nat) (A0 : Nat → Insn) (y1 : Int) (a1 : Option Addr) (p1 : Nat) (q1 : Nat) (n1 : Nat) (k1 : Nat) (A1 : Nat → Bool) (r0 : (Int) × (Bool)) (r : Ex_opt_goesOn_L0) : List L1 → List Value := mrgF (mk_opt_goesOn_L0 r) (vl_opt_goesOn_L0 a0 p0 q0 n0 k0 A0 y1 a1 p1 q1 n1 k1 A1 r0 r) 0
def Hf_opt_goesOn_L0 (a0 : Option Addr) (p0 : Nat) (q0 : Nat) (n0 : Nat) (k0 : Nat) (A0 : Nat → Insn) (y1 : Int) (a1 : Option Addr) (p1 : Nat) (q1 : Nat) (n1 : Nat) (k1 : Nat) (A1 : Nat → Bool) (r0 : (Int) × (Bool)) : Ex_opt_goesOn_L0 → List L1 → List Obj
  | .e0 , ls => [unb]
  | .e1 , ls => [unb]
def ex_opt_goesOn_L0 : Ex_opt_goesOn_L0 → Ex
  | .e0  => (.exit 0)
  | .e1  => .ret
section
variable {M : Nat → Prop} {B0 : Nat} {S : World → Prop} (hU : Up M B0 S) (a0 : Option Addr) (p0 : Nat) (q0 : Nat) (n0 : Nat) (k0 : Nat) (A0 : Nat → Insn) (hR0 : Ro S c_Insn 5 a0 p0 q0 n0 A0) (y1 : Int) (a1 : Option Addr) (p1 : Nat) (q1 : Nat) (n1 : Nat) (k1 : Nat) (A1 : Nat → Bool) (hR1 : Ro S cB 1 a1 p1 q1 n1 A1) (r0 : (Int) × (Bool))
include hU a0 p0 q0 n0 k0 A0 hR0 y1 a1 p1 q1 n1 k1 A1 hR1 r0
theorem go_opt_goesOn_L0 (s : Sh_opt_goesOn_L0) (r : Ex_opt_goesOn_L0) (h : lpO (st_opt_goesOn_L0 y1 n1 A1 r0) s = some r) : GoesG Try.prog M B0 S (.loop bd_opt_goesOn_L0) 1 (fr_opt_goesOn_L0 a0 p0 q0 n0 k0 A0 y1 a1 p1 q1 n1 k1 A1 r0 s) (Hs_opt_goesOn_L0 a0 p0 q0 n0 k0 A0 y1 a1 p1 q1 n1 k1 A1 r0 s) (ex_opt_goesOn_L0 r) 0 (vf_opt_goesOn_L0 a0 p0 q0 n0 k0 A0 y1 a1 p1 q1 n1 k1 A1 r0 r) (Hf_opt_goesOn_L0 a0 p0 q0 n0 k0 A0 y1 a1 p1 q1 n1 k1 A1 r0 r) 1 :=
  goes_lpO (fun s q e => by
    cases s with
    | c0 s0_0 =>
      unfold st_opt_goesOn_L0 at e
      dsimp only at e
      replace e := cond_eq_or e
      rcases e with ⟨hq0, e⟩ | ⟨hq0, e⟩
      · replace e := cond_eq_or e
        rcases e with ⟨hq1, e⟩ | ⟨hq1, e⟩
        · replace e := cond_eq_or e
          rcases e with ⟨hq2, e⟩ | ⟨hq2, e⟩
          · replace e := cond_eq_or e
            rcases e with ⟨hq3, e⟩ | ⟨hq3, e⟩
            · replace e := cond_eq_or e
              rcases e with ⟨hq4, e⟩ | ⟨hq4, e⟩
              · replace e := cond_eq_or e
                let P1 : List (PG Try.prog M B0 S) := [.b (z_lssT hq0), .q (ixRo_ok (kd := .i64) (T := 24) (x := s0_0) (sz := 1) rfl (fun w => by kernel_rfl) (Ro.part hR1 ((IntKind.i64.wrap (y1 + 1))).toNat ((r0.1).toNat - ((IntKind.i64.wrap (y1 + 1))).toNat : Nat) (part_le hq2 hq3 hq4)) hq1)]
                rcases e with ⟨hq5, e⟩ | ⟨hq5, e⟩
                · cases e; exact ⟨ne_ret, goes_runM hU (P1 ++ [.l (accRo (Ro.part hR1 ((IntKind.i64.wrap (y1 + 1))).toNat ((r0.1).toNat - ((IntKind.i64.wrap (y1 + 1))).toNat : Nat) (part_le hq2 hq3 hq4)) cB_len (inR_nat hq1) 0 [.bool true] (congrArg (fun b => [Value.bool b]) hq5)), .o, .o, .o]) [] (fun b => rfl) (by decide) rfl rfl (fun b => by kernel_rfl)⟩
                · cases e; exact goes_runM hU (P1 ++ [.l (accRo (Ro.part hR1 ((IntKind.i64.wrap (y1 + 1))).toNat ((r0.1).toNat - ((IntKind.i64.wrap (y1 + 1))).toNat : Nat) (part_le hq2 hq3 hq4)) cB_len (inR_nat hq1) 0 [.bool false] (congrArg (fun b => [Value.bool b]) hq5)), .o, .o, .o, .o]) [] (fun b => rfl) (by decide) rfl rfl (fun b => by kernel_rfl)
              · exact none_some e
            · exact none_some e
          · exact none_some e
        · exact none_some e
      · cases e; exact ⟨ne_exit 0, goes_runM hU [.b (z_lssF hq0)] [] (fun b => rfl) (by decide) rfl rfl (fun b => by kernel_rfl)⟩) s r h
noncomputable def t0_opt_goesOn_L0_0 (a0 : Option Addr) (p0 : Nat) (q0 : Nat) (n0 : Nat) (k0 : Nat) (A0 : Nat → Insn) (y1 : Int) (a1 : Option Addr) (p1 : Nat) (q1 : Nat) (n1 : Nat) (k1 : Nat) (A1 : Nat → Bool) (r0 : (Int) × (Bool)) (s0_0 : Int) (ls : List L1) : List Value := List.append [.slice a0 n0 (n0 + k0), .int .i64 (y1), .slice a1 n1 (n1 + k1), undef, undef, undef, .bool false, .int .i64 (r0.1), .bool ((r0.2)), undef, undef, .tuple #[.int .i64 (r0.1), .bool (r0.2)], .slice a0 n0 (n0 + k0), .int .i64 (y1), .tuple #[.int .i64 (r0.1), .bool (r0.2)], .int .i64 (r0.1), .bool ((r0.2)), .int .i64 (r0.1), .int .i64 (y1), .bool false, .slice a1 n1 (n1 + k1), .int .i64 (y1), .int .i64 ((IntKind.i64.wrap (y1 + 1))), .int .i64 (r0.1), .slice (some ⟨p1, q1 + ((IntKind.i64.wrap (y1 + 1))).toNat * 1, none⟩) ((r0.1).toNat - ((IntKind.i64.wrap (y1 + 1))).toNat : Nat) (((r0.1).toNat - ((IntKind.i64.wrap (y1 + 1))).toNat : Nat) + (n1 + k1 - (r0.1).toNat)), .int .i64 ((((r0.1).toNat - ((IntKind.i64.wrap (y1 + 1))).toNat : Nat) : Int)), .int .i64 (s0_0)] (und 5)
def pre_opt_goesOn_L0_0 (a0 : Option Addr) (p0 : Nat) (q0 : Nat) (n0 : Nat) (k0 : Nat) (A0 : Nat → Insn) (y1 : Int) (a1 : Option Addr) (p1 : Nat) (q1 : Nat) (n1 : Nat) (k1 : Nat) (A1 : Nat → Bool) (r0 : (Int) × (Bool)) (s0_0 : Int) (ls : List L1) : List Obj := []
theorem sp0_opt_goesOn_L0_0_ok (s0_0 : Int) (h : lpO (st_opt_goesOn_L0 y1 n1 A1 r0) (.c0 s0_0) = some (.e0 )) : SpcG Try.prog M B0 S ⟨fun ls => .code (.loop bd_opt_goesOn_L0) (t0_opt_goesOn_L0_0 a0 p0 q0 n0 k0 A0 y1 a1 p1 q1 n1 k1 A1 r0 s0_0 ls), pre_opt_goesOn_L0_0 a0 p0 q0 n0 k0 A0 y1 a1 p1 q1 n1 k1 A1 r0 s0_0, 1, (.exit 0), fun ls => vf_opt_goesOn_L0 a0 p0 q0 n0 k0 A0 y1 a1 p1 q1 n1 k1 A1 r0 (.e0 ) (ls.take 0 ++ ls.drop 0), fun ls => (Hf_opt_goesOn_L0 a0 p0 q0 n0 k0 A0 y1 a1 p1 q1 n1 k1 A1 r0 (.e0 ) (ls.take 0 ++ ls.drop 0)).take 0 ++ List.replicate 0 unb, fun ls => (Hf_opt_goesOn_L0 a0 p0 q0 n0 k0 A0 y1 a1 p1 q1 n1 k1 A1 r0 (.e0 ) (ls.take 0 ++ ls.drop 0)).drop 0⟩ :=
  spc_of_goesM hU 0 (k0 := 0) (go_opt_goesOn_L0 hU a0 p0 q0 n0 k0 A0 hR0 y1 a1 p1 q1 n1 k1 A1 hR1 r0 _ _ h) (t0_opt_goesOn_L0_0 a0 p0 q0 n0 k0 A0 y1 a1 p1 q1 n1 k1 A1 r0 s0_0) (pre_opt_goesOn_L0_0 a0 p0 q0 n0 k0 A0 y1 a1 p1 q1 n1 k1 A1 r0 s0_0) (fun _ => rfl) (fun ls h => by match ls, h with | [], _ => exact ⟨by kernel_rfl, by kernel_rfl⟩) (fun ls h => by match ls, h with | [], _ => rfl) (by decide) (by decide) (fun ls => rfl)
theorem sp1_opt_goesOn_L0_0_ok (s0_0 : Int) (h : lpO (st_opt_goesOn_L0 y1 n1 A1 r0) (.c0 s0_0) = some (.e1 )) : SpcG Try.prog M B0 S ⟨fun ls => .code (.loop bd_opt_goesOn_L0) (t0_opt_goesOn_L0_0 a0 p0 q0 n0 k0 A0 y1 a1 p1 q1 n1 k1 A1 r0 s0_0 ls), pre_opt_goesOn_L0_0 a0 p0 q0 n0 k0 A0 y1 a1 p1 q1 n1 k1 A1 r0 s0_0, 1, .ret, fun ls => vf_opt_goesOn_L0 a0 p0 q0 n0 k0 A0 y1 a1 p1 q1 n1 k1 A1 r0 (.e1 ) (ls.take 0 ++ ls.drop 0), fun ls => (Hf_opt_goesOn_L0 a0 p0 q0 n0 k0 A0 y1 a1 p1 q1 n1 k1 A1 r0 (.e1 ) (ls.take 0 ++ ls.drop 0)).take 0 ++ List.replicate 0 unb, fun ls => (Hf_opt_goesOn_L0 a0 p0 q0 n0 k0 A0 y1 a1 p1 q1 n1 k1 A1 r0 (.e1 ) (ls.take 0 ++ ls.drop 0)).drop 0⟩ :=
  spc_of_goesM hU 0 (k0 := 0) (go_opt_goesOn_L0 hU a0 p0 q0 n0 k0 A0 hR0 y1 a1 p1 q1 n1 k1 A1 hR1 r0 _ _ h) (t0_opt_goesOn_L0_0 a0 p0 q0 n0 k0 A0 y1 a1 p1 q1 n1 k1 A1 r0 s0_0) (pre_opt_goesOn_L0_0 a0 p0 q0 n0 k0 A0 y1 a1 p1 q1 n1 k1 A1 r0 s0_0) (fun _ => rfl) (fun ls h => by match ls, h with | [], _ => exact ⟨by kernel_rfl, by kernel_rfl⟩) (fun ls h => by match ls, h with | [], _ => rfl) (by decide) (by decide) (fun ls => rfl)
noncomputable def m_opt_goesOn (n0 : Nat) (A0 : Nat → Insn) (y1 : Int) (n1 : Nat) (A1 : Nat → Bool) : Option (Bool) :=
  (m_insn_Target n0 A0 y1).bind fun r0 =>
  bif decide (r0.1 ≤ y1) then
    (some false)
  else (bif inR (IntKind.i64.wrap (y1 + 1)) n1 then
    (bif inR r0.1 (n1 + 1) then
      (bif decide ((IntKind.i64.wrap (y1 + 1)) ≤ r0.1) then
        ((lpO (st_opt_goesOn_L0 y1 n1 A1 r0) (.c0 0)).bind fun g1 => match g1 with
        | .e0  => (some true)
        | .e1  => (some false))
      else (none))
    else (none))
  else (none))
end
section
variable {M : Nat → Prop} {B0 : Nat} {S : World → Prop} (hU : Up M B0 S) (a0 : Option Addr) (p0 : Nat) (q0 : Nat) (n0 : Nat) (k0 : Nat) (A0 : Nat → Insn) (hR0 : Ro S c_Insn 5 a0 p0 q0 n0 A0)
include hU a0 p0 q0 n0 k0 A0 hR0
theorem ok_opt_goesOn (y1 : Int) (a1 : Option Addr) (p1 : Nat) (q1 : Nat) (n1 : Nat) (k1 : Nat) (A1 : Nat → Bool) (hR1 : Ro S cB 1 a1 p1 q1 n1 A1) (r : Bool) (e : m_opt_goesOn n0 A0 y1 n1 A1 = some r) : ConG Try.prog S 48 #[.slice a0 n0 (n0 + k0), .int .i64 (y1), .slice a1 n1 (n1 + k1)] (.bool (r)) := by
  unfold m_opt_goesOn at e
  replace e := bindO_eq e
  obtain ⟨r0, e_r0, e⟩ := e
  try dsimp only at e
  replace e := cond_eq_or e
  let P1 : List (PG Try.prog M B0 S) := [.o, .o, .o, .cg (ok_insn_Target hU a0 p0 q0 n0 k0 A0 hR0 y1 r0 e_r0), .o, .o, .o, .o, .o, .o, .o]
  rcases e with ⟨hq0, e⟩ | ⟨hq0, e⟩
  · injection e with e; subst e; exact fn_conG hU (P := Try.prog) Try.func48 (fun xs w => by kernel_rfl) _ _ (P1 ++ [.b (z_leqT hq0), .o]) [] (fun b => by kernel_rfl)
  · replace e := cond_eq_or e
    rcases e with ⟨hq1, e⟩ | ⟨hq1, e⟩
    · replace e := cond_eq_or e
      rcases e with ⟨hq2, e⟩ | ⟨hq2, e⟩
      · replace e := cond_eq_or e
        rcases e with ⟨hq3, e⟩ | ⟨hq3, e⟩
        · replace e := bindO_eq e
          obtain ⟨g1, e_g1, e⟩ := e
          let P2 : List (PG Try.prog M B0 S) := P1 ++ [.b (z_leqF hq0), .o, .o, .o, .o, .ov (slcRo2_ok (T := 24) (e := 4) (k := k1) (x := (IntKind.i64.wrap (y1 + 1))) (y := r0.1) hR1 (by kernel_rfl) (fun w => by kernel_rfl) hq1 hq2 hq3), .o, .o, .cp]
          rcases g1 with _ | _
          · try dsimp only at e
            injection e with e; subst e; exact fn_conG hU (P := Try.prog) Try.func48 (fun xs w => by kernel_rfl) _ _ (P2 ++ [.cx (sp0_opt_goesOn_L0_0_ok hU a0 p0 q0 n0 k0 A0 hR0 y1 a1 p1 q1 n1 k1 A1 hR1 r0 0  e_g1) [], .o]) [] (fun b => by kernel_rfl)
          · try dsimp only at e
            injection e with e; subst e; exact fn_conG hU (P := Try.prog) Try.func48 (fun xs w => by kernel_rfl) _ _ (P2 ++ [.cx (sp1_opt_goesOn_L0_0_ok hU a0 p0 q0 n0 k0 A0 hR0 y1 a1 p1 q1 n1 k1 A1 hR1 r0 0  e_g1) []]) [] (fun b => by kernel_rfl)
        · exact none_some e
      · exact none_some e
    · exact none_some e
inductive Sh_opt_kept_L0 where
  | c0 (s0_0 : Nat → Bool) (s0_1 : Int)
inductive Ex_opt_kept_L0 where
  | e0 (c0_0 : Nat → Bool)
noncomputable def st_opt_kept_L0 (n0 : Nat) (A0 : Nat → Insn) : Sh_opt_kept_L0 → Option (Sh_opt_kept_L0 ⊕ Ex_opt_kept_L0)
  | .c0 s0_0 s0_1 =>
    bif decide (s0_1 < (n0 : Int)) then
      (bif inR s0_1 n0 then
        (bif ((A0 (s0_1).toNat)).fOp == 24#8 then
          (bif (s0_0 (s0_1).toNat) then
            (bif inR (IntKind.i64.wrap (s0_1 + 1)) n0 then
              (some (.inl (.c0 (updF s0_0 ((IntKind.i64.wrap (s0_1 + 1))).toNat true) (IntKind.i64.wrap (s0_1 + 1)))))
            else (none))
          else (some (.inl (.c0 s0_0 (IntKind.i64.wrap (s0_1 + 1))))))
        else (some (.inl (.c0 s0_0 (IntKind.i64.wrap (s0_1 + 1))))))
      else (none))
    else (some (.inr (.e0 s0_0)))
noncomputable def bd_opt_kept_L0 : Code := codeOf Try.f30 [1, 1, 0, 1, 0, 0]
def fl_opt_kept_L0 (a0 : Option Addr) (p0 : Nat) (q0 : Nat) (n0 : Nat) (k0 : Nat) (A0 : Nat → Insn) (g0_0 : Nat → Bool) : Sh_opt_kept_L0 → List L1 → List Value
  | .c0 s0_0 s0_1, ls => [.slice a0 n0 (n0 + k0), .slice none 0 0, (rowV (lget ls 0) n0 1), .int .i64 ((n0 : Int)), .int .i64 (s0_1)]
def mf_opt_kept_L0 : Sh_opt_kept_L0 → List (Nat × Nat)
  | .c0 _ _ => [(1, 1), (2, 9), (2, 48)]
noncomputable def fr_opt_kept_L0 (a0 : Option Addr) (p0 : Nat) (q0 : Nat) (n0 : Nat) (k0 : Nat) (A0 : Nat → Insn) (g0_0 : Nat → Bool) (s : Sh_opt_kept_L0) : List L1 → List Value := mrgF (mf_opt_kept_L0 s) (fl_opt_kept_L0 a0 p0 q0 n0 k0 A0 g0_0 s) 1
def Hs_opt_kept_L0 (a0 : Option Addr) (p0 : Nat) (q0 : Nat) (n0 : Nat) (k0 : Nat) (A0 : Nat → Insn) (g0_0 : Nat → Bool) : Sh_opt_kept_L0 → List L1 → List Obj
  | .c0 s0_0 s0_1, ls => [rowO (lget ls 0) (esG cB n0 s0_0) 4 n0 1, unb]
def vl_opt_kept_L0 (a0 : Option Addr) (p0 : Nat) (q0 : Nat) (n0 : Nat) (k0 : Nat) (A0 : Nat → Insn) (g0_0 : Nat → Bool) : Ex_opt_kept_L0 → List L1 → List Value
  | .e0 c0_0, ls => [.slice a0 n0 (n0 + k0), .slice none 0 0, (rowV (lget ls 0) n0 1), .int .i64 ((n0 : Int))]
def mk_opt_kept_L0 : Ex_opt_kept_L0 → List (Nat × Nat)
  | .e0 _ => [(1, 1), (2, 9), (1, 49)]
noncomputable def vf_opt_kept_L0 (a0 : Option Addr) (p0 : Nat) (q0 : Nat) (n0 : Nat) (k0 : Nat) (A0 : Nat → Insn) (g0_0 : Nat → Bool) (r : Ex_opt_kept_L0) : List L1 → List Value := mrgF (mk_opt_kept_L0 r) (vl_opt_kept_L0 a0 p0 q0 n0 k0 A0 g0_0 r) 1
def Hf_opt_kept_L0 (a0 : Option Addr) (p0 : Nat) (q0 : Nat) (n0 : Nat) (k0 : Nat) (A0 : Nat → Insn) (g0_0 : Nat → Bool) : Ex_opt_kept_L0 → List L1 → List Obj
  | .e0 c0_0, ls => [rowO (lget ls 0) (esG cB n0 c0_0) 4 n0 1, unb]
def ex_opt_kept_L0 : Ex_opt_kept_L0 → Ex
  | .e0 _ => (.exit 0)
theorem go_opt_kept_L0 (g0_0 : Nat → Bool) (s : Sh_opt_kept_L0) (r : Ex_opt_kept_L0) (h : lpO (st_opt_kept_L0 n0 A0) s = some r) : GoesG Try.prog M B0 S (.loop bd_opt_kept_L0) 2 (fr_opt_kept_L0 a0 p0 q0 n0 k0 A0 g0_0 s) (Hs_opt_kept_L0 a0 p0 q0 n0 k0 A0 g0_0 s) (ex_opt_kept_L0 r) 1 (vf_opt_kept_L0 a0 p0 q0 n0 k0 A0 g0_0 r) (Hf_opt_kept_L0 a0 p0 q0 n0 k0 A0 g0_0 r) 2 :=
  goes_lpO (fun s q e => by
    cases s with
    | c0 s0_0 s0_1 =>
      unfold st_opt_kept_L0 at e
      dsimp only at e
      replace e := cond_eq_or e
      rcases e with ⟨hq0, e⟩ | ⟨hq0, e⟩
      · replace e := cond_eq_or e
        rcases e with ⟨hq1, e⟩ | ⟨hq1, e⟩
        · replace e := cond_eq_or e
          let P1 : List (PG Try.prog M B0 S) := [.b (z_lssT hq0), .o, .o, .o, .o, .q (ixRo_ok (kd := .i64) (T := 22) (x := s0_1) (sz := 5) rfl (fun w => by kernel_rfl) hR0 hq1), .o, .l (accRo hR0 c_Insn_len (inR_nat hq1) 0 [.int .u8 (nn ((A0 (s0_1).toNat)).fOp)] rfl)]
          rcases e with ⟨hq2, e⟩ | ⟨hq2, e⟩
          · replace e := cond_eq_or e
            let P2 : List (PG Try.prog M B0 S) := P1 ++ [.t (u_eq ((A0 (s0_1).toNat)).fOp (24#8)) hq2, .o, .o, .o, .q (ixM_ok (kd := .i64) (T := 24) (x := s0_1) (N := n0) (sz := 1) rfl (fun w => by kernel_rfl) hq1)]
            rcases e with ⟨hq3, e⟩ | ⟨hq3, e⟩
            · replace e := cond_eq_or e
              rcases e with ⟨hq4, e⟩ | ⟨hq4, e⟩
              · cases e; exact goes_runM hU (P2 ++ [.l (accG (i := 0) (f := cB) (A := s0_0) (k := (s0_1).toNat) 0 [.bool true] cB_len (inR_nat hq1) (congrArg (fun b => [Value.bool b]) hq3)), .o, .o, .o, .o, .q (ixM_ok (kd := .i64) (T := 24) (x := (IntKind.i64.wrap (s0_1 + 1))) (N := n0) (sz := 1) rfl (fun w => by kernel_rfl) hq4), .x (sqStG_ok (T := 4) (e := 4) (f := cB) (A := s0_0) (v := true) 0 (.bool true) cB_len cB_one rfl rfl (fun w => by kernel_rfl) (inR_nat hq4)) [0], .o, .o]) [0] (fun b => rfl) (by decide) rfl rfl (fun b => by kernel_rfl)
              · exact none_some e
            · cases e; exact goes_runM hU (P2 ++ [.l (accG (i := 0) (f := cB) (A := s0_0) (k := (s0_1).toNat) 0 [.bool false] cB_len (inR_nat hq1) (congrArg (fun b => [Value.bool b]) hq3)), .o, .o, .o]) [0] (fun b => rfl) (by decide) rfl rfl (fun b => by kernel_rfl)
          · cases e; exact goes_runM hU (P1 ++ [.t (u_eq ((A0 (s0_1).toNat)).fOp (24#8)) hq2, .o, .o, .o, .o]) [0] (fun b => rfl) (by decide) rfl rfl (fun b => by kernel_rfl)
        · exact none_some e
      · cases e; exact ⟨ne_exit 0, goes_runM hU [.b (z_lssF hq0)] [0] (fun b => rfl) (by decide) rfl rfl (fun b => by kernel_rfl)⟩) s r h
noncomputable def t0_opt_kept_L0_0 (a0 : Option Addr) (p0 : Nat) (q0 : Nat) (n0 : Nat) (k0 : Nat) (A0 : Nat → Insn) (g0_0 : Nat → Bool) (s0_0 : Nat → Bool) (s0_1 : Int) (ls : List L1) : List Value := List.append [.slice a0 n0 (n0 + k0), undef, .slice none 0 0, (rowV (lget ls 0) n0 1), .int .i64 (0), undef, undef, .tuple #[(rowV (lget ls 0) n0 1), .int .i64 (0)], .slice a0 n0 (n0 + k0), .tuple #[(rowV (lget ls 0) n0 1), .int .i64 (0)], (rowV (lget ls 0) n0 1), .int .i64 (0), .slice a0 n0 (n0 + k0), .int .i64 ((n0 : Int)), .int .i64 (s0_1)] (und 48)
def pre_opt_kept_L0_0 (a0 : Option Addr) (p0 : Nat) (q0 : Nat) (n0 : Nat) (k0 : Nat) (A0 : Nat → Insn) (g0_0 : Nat → Bool) (s0_0 : Nat → Bool) (s0_1 : Int) (ls : List L1) : List Obj := [rowO (lget ls 0) (esG cB n0 s0_0) 4 n0 1]
theorem sp0_opt_kept_L0_0_ok (g0_0 : Nat → Bool) (s0_0 : Nat → Bool) (s0_1 : Int) (c0_0 : Nat → Bool) (h : lpO (st_opt_kept_L0 n0 A0) (.c0 s0_0 s0_1) = some (.e0 c0_0)) : SpcG Try.prog M B0 S ⟨fun ls => .code (.loop bd_opt_kept_L0) (t0_opt_kept_L0_0 a0 p0 q0 n0 k0 A0 g0_0 s0_0 s0_1 ls), pre_opt_kept_L0_0 a0 p0 q0 n0 k0 A0 g0_0 s0_0 s0_1, 1, (.exit 0), fun ls => vf_opt_kept_L0 a0 p0 q0 n0 k0 A0 g0_0 (.e0 c0_0) (ls.take 1 ++ ls.drop 1), fun ls => (Hf_opt_kept_L0 a0 p0 q0 n0 k0 A0 g0_0 (.e0 c0_0) (ls.take 1 ++ ls.drop 1)).take 1 ++ List.replicate 0 unb, fun ls => (Hf_opt_kept_L0 a0 p0 q0 n0 k0 A0 g0_0 (.e0 c0_0) (ls.take 1 ++ ls.drop 1)).drop 1⟩ :=
  spc_of_goesM hU 0 (k0 := 1) (go_opt_kept_L0 hU a0 p0 q0 n0 k0 A0 hR0 g0_0 _ _ h) (t0_opt_kept_L0_0 a0 p0 q0 n0 k0 A0 g0_0 s0_0 s0_1) (pre_opt_kept_L0_0 a0 p0 q0 n0 k0 A0 g0_0 s0_0 s0_1) (fun _ => rfl) (fun ls h => by match ls, h with | [l0], _ => exact ⟨by kernel_rfl, by kernel_rfl⟩) (fun ls h => by match ls, h with | [l0], _ => rfl) (by decide) (by decide) (fun ls => rfl)
inductive Sh_opt_kept_L1 where
  | c0 (s0_0 : Nat → Bool) (s0_1 : Int)
inductive Ex_opt_kept_L1 where
  | e0 (c0_0 : Nat → Bool)
noncomputable def st_opt_kept_L1 (n0 : Nat) (A0 : Nat → Insn) : Sh_opt_kept_L1 → Option (Sh_opt_kept_L1 ⊕ Ex_opt_kept_L1)
  | .c0 s0_0 s0_1 =>
    bif decide (0 ≤ s0_1) then
      (bif inR s0_1 n0 then
        (bif (s0_0 (s0_1).toNat) then
          (bif ((A0 (s0_1).toNat)).fOp == 5#8 then
            ((m_opt_goesOn n0 A0 s0_1 n0 s0_0).bind fun rb0 =>
            bif rb0 then
              (some (.inl (.c0 (updF s0_0 (s0_1).toNat false) (IntKind.i64.wrap (s0_1 - 1)))))
            else (some (.inl (.c0 s0_0 (IntKind.i64.wrap (s0_1 - 1))))))
          else (some (.inl (.c0 s0_0 (IntKind.i64.wrap (s0_1 - 1))))))
        else (some (.inl (.c0 s0_0 (IntKind.i64.wrap (s0_1 - 1))))))
      else (none))
    else (some (.inr (.e0 s0_0)))
noncomputable def bd_opt_kept_L1 : Code := codeOf Try.f30 [1, 1, 1, 0, 1, 0, 0]
def fl_opt_kept_L1 (a0 : Option Addr) (p0 : Nat) (q0 : Nat) (n0 : Nat) (k0 : Nat) (A0 : Nat → Insn) (g0_0 : Nat → Bool) (g1_0 : Nat → Bool) : Sh_opt_kept_L1 → List L1 → List Value
  | .c0 s0_0 s0_1, ls => [.slice a0 n0 (n0 + k0), .slice none 0 0, (rowV (lget ls 0) n0 1), .int .i64 (s0_1), ((lget ls 1).u 62)]
def mf_opt_kept_L1 : Sh_opt_kept_L1 → List (Nat × Nat)
  | .c0 _ _ => [(1, 1), (2, 2), (1, 55), (1, 0)]
noncomputable def fr_opt_kept_L1 (a0 : Option Addr) (p0 : Nat) (q0 : Nat) (n0 : Nat) (k0 : Nat) (A0 : Nat → Insn) (g0_0 : Nat → Bool) (g1_0 : Nat → Bool) (s : Sh_opt_kept_L1) : List L1 → List Value := mrgF (mf_opt_kept_L1 s) (fl_opt_kept_L1 a0 p0 q0 n0 k0 A0 g0_0 g1_0 s) 2
def Hs_opt_kept_L1 (a0 : Option Addr) (p0 : Nat) (q0 : Nat) (n0 : Nat) (k0 : Nat) (A0 : Nat → Insn) (g0_0 : Nat → Bool) (g1_0 : Nat → Bool) : Sh_opt_kept_L1 → List L1 → List Obj
  | .c0 s0_0 s0_1, ls => [rowO (lget ls 0) (esG cB n0 s0_0) 4 n0 1, unb, unb]
def vl_opt_kept_L1 (a0 : Option Addr) (p0 : Nat) (q0 : Nat) (n0 : Nat) (k0 : Nat) (A0 : Nat → Insn) (g0_0 : Nat → Bool) (g1_0 : Nat → Bool) : Ex_opt_kept_L1 → List L1 → List Value
  | .e0 c0_0, ls => [.slice a0 n0 (n0 + k0), .slice none 0 0, (rowV (lget ls 0) n0 1), ((lget ls 1).u 62)]
def mk_opt_kept_L1 : Ex_opt_kept_L1 → List (Nat × Nat)
  | .e0 _ => [(1, 1), (2, 58), (1, 0)]
noncomputable def vf_opt_kept_L1 (a0 : Option Addr) (p0 : Nat) (q0 : Nat) (n0 : Nat) (k0 : Nat) (A0 : Nat → Insn) (g0_0 : Nat → Bool) (g1_0 : Nat → Bool) (r : Ex_opt_kept_L1) : List L1 → List Value := mrgF (mk_opt_kept_L1 r) (vl_opt_kept_L1 a0 p0 q0 n0 k0 A0 g0_0 g1_0 r) 2
def Hf_opt_kept_L1 (a0 : Option Addr) (p0 : Nat) (q0 : Nat) (n0 : Nat) (k0 : Nat) (A0 : Nat → Insn) (g0_0 : Nat → Bool) (g1_0 : Nat → Bool) : Ex_opt_kept_L1 → List L1 → List Obj
  | .e0 c0_0, ls => [rowO (lget ls 0) (esG cB n0 c0_0) 4 n0 1, unb, unb]
def ex_opt_kept_L1 : Ex_opt_kept_L1 → Ex
  | .e0 _ => (.exit 2)
theorem go_opt_kept_L1 (g0_0 : Nat → Bool) (g1_0 : Nat → Bool) (s : Sh_opt_kept_L1) (r : Ex_opt_kept_L1) (h : lpO (st_opt_kept_L1 n0 A0) s = some r) : GoesG Try.prog M B0 S (.loop bd_opt_kept_L1) 3 (fr_opt_kept_L1 a0 p0 q0 n0 k0 A0 g0_0 g1_0 s) (Hs_opt_kept_L1 a0 p0 q0 n0 k0 A0 g0_0 g1_0 s) (ex_opt_kept_L1 r) 2 (vf_opt_kept_L1 a0 p0 q0 n0 k0 A0 g0_0 g1_0 r) (Hf_opt_kept_L1 a0 p0 q0 n0 k0 A0 g0_0 g1_0 r) 3 :=
  goes_lpO (fun s q e => by
    cases s with
    | c0 s0_0 s0_1 =>
      unfold st_opt_kept_L1 at e
      dsimp only at e
      replace e := cond_eq_or e
      rcases e with ⟨hq0, e⟩ | ⟨hq0, e⟩
      · replace e := cond_eq_or e
        rcases e with ⟨hq1, e⟩ | ⟨hq1, e⟩
        · replace e := cond_eq_or e
          let P1 : List (PG Try.prog M B0 S) := [.o, .b (z_geqT hq0), .o, .o, .q (ixM_ok (kd := .i64) (T := 24) (x := s0_1) (N := n0) (sz := 1) rfl (fun w => by kernel_rfl) hq1)]
          rcases e with ⟨hq2, e⟩ | ⟨hq2, e⟩
          · replace e := cond_eq_or e
            let P2 : List (PG Try.prog M B0 S) := P1 ++ [.l (accG (i := 0) (f := cB) (A := s0_0) (k := (s0_1).toNat) 0 [.bool true] cB_len (inR_nat hq1) (congrArg (fun b => [Value.bool b]) hq2)), .o, .o, .o, .q (ixRo_ok (kd := .i64) (T := 22) (x := s0_1) (sz := 5) rfl (fun w => by kernel_rfl) hR0 hq1), .o, .l (accRo hR0 c_Insn_len (inR_nat hq1) 0 [.int .u8 (nn ((A0 (s0_1).toNat)).fOp)] rfl)]
            rcases e with ⟨hq3, e⟩ | ⟨hq3, e⟩
            · replace e := bindO_eq e
              obtain ⟨rb0, e_rb0, e⟩ := e
              try dsimp only at e
              replace e := cond_eq_or e
              rcases e with ⟨hq4, e⟩ | ⟨hq4, e⟩
              · subst hq4
                cases e; exact goes_runM hU (P2 ++ [.t (u_eq ((A0 (s0_1).toNat)).fOp (5#8)) hq3, .o, .o, .o, .o, .o, .xg (SpcG.own hU (f := cB) cB_len n0 s0_0 4 (fun l => padL l n0 1) (fun l => (padL l n0 1).length / 1) _ 0 .normal (by intros; rfl) (by intros; rfl) (by intros; rfl) (fun M0 B0 S0 x0 u0 v0 z0 hU0 hs0 hr0 => ConG.sp (ok_opt_goesOn hU0 a0 p0 q0 n0 k0 A0 (Ro.mono hR0 hs0) s0_1 x0 u0 v0 n0 z0 s0_0 hr0 true e_rb0))) [0], .o, .o, .o, .q (ixM_ok (kd := .i64) (T := 24) (x := s0_1) (N := n0) (sz := 1) rfl (fun w => by kernel_rfl) hq1), .x (sqStG_ok (T := 4) (e := 4) (f := cB) (A := s0_0) (v := false) 0 (.bool false) cB_len cB_one rfl rfl (fun w => by kernel_rfl) (inR_nat hq1)) [0], .o, .o, .o]) [0, 1] (fun b => rfl) (by decide) rfl rfl (fun b => by kernel_rfl)
              · subst hq4
                cases e; exact goes_runM hU (P2 ++ [.t (u_eq ((A0 (s0_1).toNat)).fOp (5#8)) hq3, .o, .o, .o, .o, .o, .xg (SpcG.own hU (f := cB) cB_len n0 s0_0 4 (fun l => padL l n0 1) (fun l => (padL l n0 1).length / 1) _ 0 .normal (by intros; rfl) (by intros; rfl) (by intros; rfl) (fun M0 B0 S0 x0 u0 v0 z0 hU0 hs0 hr0 => ConG.sp (ok_opt_goesOn hU0 a0 p0 q0 n0 k0 A0 (Ro.mono hR0 hs0) s0_1 x0 u0 v0 n0 z0 s0_0 hr0 false e_rb0))) [0], .o, .o, .o, .o]) [0, 1] (fun b => rfl) (by decide) rfl rfl (fun b => by kernel_rfl)
            · cases e; exact goes_runM hU (P2 ++ [.t (u_eq ((A0 (s0_1).toNat)).fOp (5#8)) hq3, .o, .o, .o, .o, .o, .o]) [0, 1] (fun b => rfl) (by decide) rfl rfl (fun b => by kernel_rfl)
          · cases e; exact goes_runM hU (P1 ++ [.l (accG (i := 0) (f := cB) (A := s0_0) (k := (s0_1).toNat) 0 [.bool false] cB_len (inR_nat hq1) (congrArg (fun b => [Value.bool b]) hq2)), .o, .o, .o, .o, .o, .o, .o]) [0, 1] (fun b => rfl) (by decide) rfl rfl (fun b => by kernel_rfl)
        · exact none_some e
      · cases e; exact ⟨ne_exit 2, goes_runM hU [.o, .b (z_geqF hq0)] [0, 1] (fun b => rfl) (by decide) rfl rfl (fun b => by kernel_rfl)⟩) s r h
noncomputable def t0_opt_kept_L1_0 (a0 : Option Addr) (p0 : Nat) (q0 : Nat) (n0 : Nat) (k0 : Nat) (A0 : Nat → Insn) (g0_0 : Nat → Bool) (g1_0 : Nat → Bool) (s0_0 : Nat → Bool) (s0_1 : Int) (ls : List L1) : List Value := List.append [.slice a0 n0 (n0 + k0), ((lget ls 1).u 1), .slice none 0 0, (rowV (lget ls 0) n0 1), ((lget ls 1).u 4), ((lget ls 1).u 5), .int .i64 (s0_1)] (List.append (jks (lget ls 1).u 7 6) (List.append [.int .i64 ((n0 : Int))] (List.append (jks (lget ls 1).u 14 20) (List.append [.slice a0 n0 (n0 + k0), .int .i64 ((n0 : Int)), .int .i64 ((IntKind.i64.wrap ((n0 : Int) - 1)))] (jks (lget ls 1).u 37 26)))))
def pre_opt_kept_L1_0 (a0 : Option Addr) (p0 : Nat) (q0 : Nat) (n0 : Nat) (k0 : Nat) (A0 : Nat → Insn) (g0_0 : Nat → Bool) (g1_0 : Nat → Bool) (s0_0 : Nat → Bool) (s0_1 : Int) (ls : List L1) : List Obj := [rowO (lget ls 0) (esG cB n0 s0_0) 4 n0 1, unb]
theorem sp0_opt_kept_L1_0_ok (g0_0 : Nat → Bool) (g1_0 : Nat → Bool) (s0_0 : Nat → Bool) (s0_1 : Int) (c0_0 : Nat → Bool) (h : lpO (st_opt_kept_L1 n0 A0) (.c0 s0_0 s0_1) = some (.e0 c0_0)) : SpcG Try.prog M B0 S ⟨fun ls => .code (.loop bd_opt_kept_L1) (t0_opt_kept_L1_0 a0 p0 q0 n0 k0 A0 g0_0 g1_0 s0_0 s0_1 ls), pre_opt_kept_L1_0 a0 p0 q0 n0 k0 A0 g0_0 g1_0 s0_0 s0_1, 1, (.exit 2), fun ls => vf_opt_kept_L1 a0 p0 q0 n0 k0 A0 g0_0 g1_0 (.e0 c0_0) (ls.take 2 ++ ls.drop 2), fun ls => (Hf_opt_kept_L1 a0 p0 q0 n0 k0 A0 g0_0 g1_0 (.e0 c0_0) (ls.take 2 ++ ls.drop 2)).take 2 ++ List.replicate 0 unb, fun ls => (Hf_opt_kept_L1 a0 p0 q0 n0 k0 A0 g0_0 g1_0 (.e0 c0_0) (ls.take 2 ++ ls.drop 2)).drop 2⟩ :=
  spc_of_goesM hU 0 (k0 := 2) (go_opt_kept_L1 hU a0 p0 q0 n0 k0 A0 hR0 g0_0 g1_0 _ _ h) (t0_opt_kept_L1_0 a0 p0 q0 n0 k0 A0 g0_0 g1_0 s0_0 s0_1) (pre_opt_kept_L1_0 a0 p0 q0 n0 k0 A0 g0_0 g1_0 s0_0 s0_1) (fun _ => rfl) (fun ls h => by match ls, h with | [l0, l1], _ => exact ⟨by kernel_rfl, by kernel_rfl⟩) (fun ls h => by match ls, h with | [l0, l1], _ => rfl) (by decide) (by decide) (fun ls => rfl)
inductive Sh_opt_kept_L0v1 where
  | c0 (s0_0 : Int)
inductive Ex_opt_kept_L0v1 where
  | e0 
noncomputable def st_opt_kept_L0v1 (n0 : Nat) (A0 : Nat → Insn) : Sh_opt_kept_L0v1 → Option (Sh_opt_kept_L0v1 ⊕ Ex_opt_kept_L0v1)
  | .c0 s0_0 =>
    bif decide (s0_0 < (n0 : Int)) then
      (bif inR s0_0 n0 then
        (bif ((A0 (s0_0).toNat)).fOp == 24#8 then
          (none)
        else (some (.inl (.c0 (IntKind.i64.wrap (s0_0 + 1))))))
      else (none))
    else (some (.inr (.e0 )))
noncomputable def bd_opt_kept_L0v1 : Code := codeOf Try.f30 [1, 1, 0, 1, 0, 0]
def fl_opt_kept_L0v1 (a0 : Option Addr) (p0 : Nat) (q0 : Nat) (n0 : Nat) (k0 : Nat) (A0 : Nat → Insn) (g0_0 : Int) : Sh_opt_kept_L0v1 → List L1 → List Value
  | .c0 s0_0, ls => [.slice a0 n0 (n0 + k0), .slice none 0 0, .slice none 0 0, .int .i64 ((n0 : Int)), .int .i64 (s0_0)]
def mf_opt_kept_L0v1 : Sh_opt_kept_L0v1 → List (Nat × Nat)
  | .c0 _ => [(1, 1), (2, 9), (2, 48)]
noncomputable def fr_opt_kept_L0v1 (a0 : Option Addr) (p0 : Nat) (q0 : Nat) (n0 : Nat) (k0 : Nat) (A0 : Nat → Insn) (g0_0 : Int) (s : Sh_opt_kept_L0v1) : List L1 → List Value := mrgF (mf_opt_kept_L0v1 s) (fl_opt_kept_L0v1 a0 p0 q0 n0 k0 A0 g0_0 s) 0
def Hs_opt_kept_L0v1 (a0 : Option Addr) (p0 : Nat) (q0 : Nat) (n0 : Nat) (k0 : Nat) (A0 : Nat → Insn) (g0_0 : Int) : Sh_opt_kept_L0v1 → List L1 → List Obj
  | .c0 s0_0, ls => [unb]
def vl_opt_kept_L0v1 (a0 : Option Addr) (p0 : Nat) (q0 : Nat) (n0 : Nat) (k0 : Nat) (A0 : Nat → Insn) (g0_0 : Int) : Ex_opt_kept_L0v1 → List L1 → List Value
  | .e0 , ls => [.slice a0 n0 (n0 + k0), .slice none 0 0, .slice none 0 0, .int .i64 ((n0 : Int))]
def mk_opt_kept_L0v1 : Ex_opt_kept_L0v1 → List (Nat × Nat)
  | .e0  => [(1, 1), (2, 9), (1, 49)]
noncomputable def vf_opt_kept_L0v1 (a0 : Option Addr) (p0 : Nat) (q0 : Nat) (n0 : Nat) (k0 : Nat) (A0 : Nat → Insn) (g0_0 : Int) (r : Ex_opt_kept_L0v1) : List L1 → List Value := mrgF (mk_opt_kept_L0v1 r) (vl_opt_kept_L0v1 a0 p0 q0 n0 k0 A0 g0_0 r) 0
def Hf_opt_kept_L0v1 (a0 : Option Addr) (p0 : Nat) (q0 : Nat) (n0 : Nat) (k0 : Nat) (A0 : Nat → Insn) (g0_0 : Int) : Ex_opt_kept_L0v1 → List L1 → List Obj
  | .e0 , ls => [unb]
def ex_opt_kept_L0v1 : Ex_opt_kept_L0v1 → Ex
  | .e0  => (.exit 0)
theorem go_opt_kept_L0v1 (g0_0 : Int) (s : Sh_opt_kept_L0v1) (r : Ex_opt_kept_L0v1) (h : lpO (st_opt_kept_L0v1 n0 A0) s = some r) : GoesG Try.prog M B0 S (.loop bd_opt_kept_L0v1) 1 (fr_opt_kept_L0v1 a0 p0 q0 n0 k0 A0 g0_0 s) (Hs_opt_kept_L0v1 a0 p0 q0 n0 k0 A0 g0_0 s) (ex_opt_kept_L0v1 r) 0 (vf_opt_kept_L0v1 a0 p0 q0 n0 k0 A0 g0_0 r) (Hf_opt_kept_L0v1 a0 p0 q0 n0 k0 A0 g0_0 r) 1 :=
  goes_lpO (fun s q e => by
    cases s with
    | c0 s0_0 =>
      unfold st_opt_kept_L0v1 at e
      dsimp only at e
      replace e := cond_eq_or e
      rcases e with ⟨hq0, e⟩ | ⟨hq0, e⟩
      · replace e := cond_eq_or e
        rcases e with ⟨hq1, e⟩ | ⟨hq1, e⟩
        · replace e := cond_eq_or e
          rcases e with ⟨hq2, e⟩ | ⟨hq2, e⟩
          · exact none_some e
          · cases e; exact goes_runM hU [.b (z_lssT hq0), .o, .o, .o, .o, .q (ixRo_ok (kd := .i64) (T := 22) (x := s0_0) (sz := 5) rfl (fun w => by kernel_rfl) hR0 hq1), .o, .l (accRo hR0 c_Insn_len (inR_nat hq1) 0 [.int .u8 (nn ((A0 (s0_0).toNat)).fOp)] rfl), .t (u_eq ((A0 (s0_0).toNat)).fOp (24#8)) hq2, .o, .o, .o, .o] [] (fun b => rfl) (by decide) rfl rfl (fun b => by kernel_rfl)
        · exact none_some e
      · cases e; exact ⟨ne_exit 0, goes_runM hU [.b (z_lssF hq0)] [] (fun b => rfl) (by decide) rfl rfl (fun b => by kernel_rfl)⟩) s r h
noncomputable def t0_opt_kept_L0v1_0 (a0 : Option Addr) (p0 : Nat) (q0 : Nat) (n0 : Nat) (k0 : Nat) (A0 : Nat → Insn) (g0_0 : Int) (s0_0 : Int) (ls : List L1) : List Value := List.append [.slice a0 n0 (n0 + k0), undef, .slice none 0 0, .slice none 0 0, .int .i64 (g0_0), undef, undef, .tuple #[.slice none 0 0, .int .i64 (g0_0)], .slice a0 n0 (n0 + k0), .tuple #[.slice none 0 0, .int .i64 (g0_0)], .slice none 0 0, .int .i64 (g0_0), .slice a0 n0 (n0 + k0), .int .i64 ((n0 : Int)), .int .i64 (s0_0)] (und 48)
def pre_opt_kept_L0v1_0 (a0 : Option Addr) (p0 : Nat) (q0 : Nat) (n0 : Nat) (k0 : Nat) (A0 : Nat → Insn) (g0_0 : Int) (s0_0 : Int) (ls : List L1) : List Obj := []
theorem sp0_opt_kept_L0v1_0_ok (g0_0 : Int) (s0_0 : Int) (h : lpO (st_opt_kept_L0v1 n0 A0) (.c0 s0_0) = some (.e0 )) : SpcG Try.prog M B0 S ⟨fun ls => .code (.loop bd_opt_kept_L0v1) (t0_opt_kept_L0v1_0 a0 p0 q0 n0 k0 A0 g0_0 s0_0 ls), pre_opt_kept_L0v1_0 a0 p0 q0 n0 k0 A0 g0_0 s0_0, 1, (.exit 0), fun ls => vf_opt_kept_L0v1 a0 p0 q0 n0 k0 A0 g0_0 (.e0 ) (ls.take 0 ++ ls.drop 0), fun ls => (Hf_opt_kept_L0v1 a0 p0 q0 n0 k0 A0 g0_0 (.e0 ) (ls.take 0 ++ ls.drop 0)).take 0 ++ List.replicate 0 unb, fun ls => (Hf_opt_kept_L0v1 a0 p0 q0 n0 k0 A0 g0_0 (.e0 ) (ls.take 0 ++ ls.drop 0)).drop 0⟩ :=
  spc_of_goesM hU 0 (k0 := 0) (go_opt_kept_L0v1 hU a0 p0 q0 n0 k0 A0 hR0 g0_0 _ _ h) (t0_opt_kept_L0v1_0 a0 p0 q0 n0 k0 A0 g0_0 s0_0) (pre_opt_kept_L0v1_0 a0 p0 q0 n0 k0 A0 g0_0 s0_0) (fun _ => rfl) (fun ls h => by match ls, h with | [], _ => exact ⟨by kernel_rfl, by kernel_rfl⟩) (fun ls h => by match ls, h with | [], _ => rfl) (by decide) (by decide) (fun ls => rfl)
inductive Sh_opt_kept_L1v1 where
  | c0 
inductive Ex_opt_kept_L1v1 where
  | e0 
noncomputable def st_opt_kept_L1v1 (n0 : Nat) : Sh_opt_kept_L1v1 → Option (Sh_opt_kept_L1v1 ⊕ Ex_opt_kept_L1v1)
  | .c0  =>
    bif decide (0 ≤ (IntKind.i64.wrap ((n0 : Int) - 1))) then
      (none)
    else (some (.inr (.e0 )))
noncomputable def bd_opt_kept_L1v1 : Code := codeOf Try.f30 [1, 1, 1, 0, 1, 0, 0]
def fl_opt_kept_L1v1 (a0 : Option Addr) (p0 : Nat) (q0 : Nat) (n0 : Nat) (k0 : Nat) (A0 : Nat → Insn) (g0_0 : Int) : Sh_opt_kept_L1v1 → List L1 → List Value
  | .c0 , ls => [.slice a0 n0 (n0 + k0), .slice none 0 0, .slice none 0 0, .int .i64 ((IntKind.i64.wrap ((n0 : Int) - 1))), ((lget ls 0).u 62)]
def mf_opt_kept_L1v1 : Sh_opt_kept_L1v1 → List (Nat × Nat)
  | .c0  => [(1, 1), (2, 2), (1, 55), (1, 0)]
noncomputable def fr_opt_kept_L1v1 (a0 : Option Addr) (p0 : Nat) (q0 : Nat) (n0 : Nat) (k0 : Nat) (A0 : Nat → Insn) (g0_0 : Int) (s : Sh_opt_kept_L1v1) : List L1 → List Value := mrgF (mf_opt_kept_L1v1 s) (fl_opt_kept_L1v1 a0 p0 q0 n0 k0 A0 g0_0 s) 1
def Hs_opt_kept_L1v1 (a0 : Option Addr) (p0 : Nat) (q0 : Nat) (n0 : Nat) (k0 : Nat) (A0 : Nat → Insn) (g0_0 : Int) : Sh_opt_kept_L1v1 → List L1 → List Obj
  | .c0 , ls => [unb, unb]
def vl_opt_kept_L1v1 (a0 : Option Addr) (p0 : Nat) (q0 : Nat) (n0 : Nat) (k0 : Nat) (A0 : Nat → Insn) (g0_0 : Int) : Ex_opt_kept_L1v1 → List L1 → List Value
  | .e0 , ls => [.slice a0 n0 (n0 + k0), .slice none 0 0, .slice none 0 0, ((lget ls 0).u 62)]
def mk_opt_kept_L1v1 : Ex_opt_kept_L1v1 → List (Nat × Nat)
  | .e0  => [(1, 1), (2, 58), (1, 0)]
noncomputable def vf_opt_kept_L1v1 (a0 : Option Addr) (p0 : Nat) (q0 : Nat) (n0 : Nat) (k0 : Nat) (A0 : Nat → Insn) (g0_0 : Int) (r : Ex_opt_kept_L1v1) : List L1 → List Value := mrgF (mk_opt_kept_L1v1 r) (vl_opt_kept_L1v1 a0 p0 q0 n0 k0 A0 g0_0 r) 1
def Hf_opt_kept_L1v1 (a0 : Option Addr) (p0 : Nat) (q0 : Nat) (n0 : Nat) (k0 : Nat) (A0 : Nat → Insn) (g0_0 : Int) : Ex_opt_kept_L1v1 → List L1 → List Obj
  | .e0 , ls => [unb, unb]
def ex_opt_kept_L1v1 : Ex_opt_kept_L1v1 → Ex
  | .e0  => (.exit 2)
theorem go_opt_kept_L1v1 (g0_0 : Int) (s : Sh_opt_kept_L1v1) (r : Ex_opt_kept_L1v1) (h : lpO (st_opt_kept_L1v1 n0) s = some r) : GoesG Try.prog M B0 S (.loop bd_opt_kept_L1v1) 2 (fr_opt_kept_L1v1 a0 p0 q0 n0 k0 A0 g0_0 s) (Hs_opt_kept_L1v1 a0 p0 q0 n0 k0 A0 g0_0 s) (ex_opt_kept_L1v1 r) 1 (vf_opt_kept_L1v1 a0 p0 q0 n0 k0 A0 g0_0 r) (Hf_opt_kept_L1v1 a0 p0 q0 n0 k0 A0 g0_0 r) 2 :=
  goes_lpO (fun s q e => by
    cases s with
    | c0  =>
      unfold st_opt_kept_L1v1 at e
      dsimp only at e
      replace e := cond_eq_or e
      rcases e with ⟨hq0, e⟩ | ⟨hq0, e⟩
      · exact none_some e
      · cases e; exact ⟨ne_exit 2, goes_runM hU [.o, .b (z_geqF hq0)] [0] (fun b => rfl) (by decide) rfl rfl (fun b => by kernel_rfl)⟩) s r h
noncomputable def t0_opt_kept_L1v1_0 (a0 : Option Addr) (p0 : Nat) (q0 : Nat) (n0 : Nat) (k0 : Nat) (A0 : Nat → Insn) (g0_0 : Int)  (ls : List L1) : List Value := List.append [.slice a0 n0 (n0 + k0), ((lget ls 0).u 1), .slice none 0 0, .slice none 0 0, ((lget ls 0).u 4), ((lget ls 0).u 5), .int .i64 ((IntKind.i64.wrap ((n0 : Int) - 1)))] (List.append (jks (lget ls 0).u 7 6) (List.append [.int .i64 ((n0 : Int))] (List.append (jks (lget ls 0).u 14 20) (List.append [.slice a0 n0 (n0 + k0), .int .i64 ((n0 : Int)), .int .i64 ((IntKind.i64.wrap ((n0 : Int) - 1)))] (jks (lget ls 0).u 37 26)))))
def pre_opt_kept_L1v1_0 (a0 : Option Addr) (p0 : Nat) (q0 : Nat) (n0 : Nat) (k0 : Nat) (A0 : Nat → Insn) (g0_0 : Int)  (ls : List L1) : List Obj := [unb]
theorem sp0_opt_kept_L1v1_0_ok (g0_0 : Int) (h : lpO (st_opt_kept_L1v1 n0) (.c0) = some (.e0 )) : SpcG Try.prog M B0 S ⟨fun ls => .code (.loop bd_opt_kept_L1v1) (t0_opt_kept_L1v1_0 a0 p0 q0 n0 k0 A0 g0_0  ls), pre_opt_kept_L1v1_0 a0 p0 q0 n0 k0 A0 g0_0 , 1, (.exit 2), fun ls => vf_opt_kept_L1v1 a0 p0 q0 n0 k0 A0 g0_0 (.e0 ) (ls.take 1 ++ ls.drop 1), fun ls => (Hf_opt_kept_L1v1 a0 p0 q0 n0 k0 A0 g0_0 (.e0 ) (ls.take 1 ++ ls.drop 1)).take 1 ++ List.replicate 0 unb, fun ls => (Hf_opt_kept_L1v1 a0 p0 q0 n0 k0 A0 g0_0 (.e0 ) (ls.take 1 ++ ls.drop 1)).drop 1⟩ :=
  spc_of_goesM hU 0 (k0 := 1) (go_opt_kept_L1v1 hU a0 p0 q0 n0 k0 A0 hR0 g0_0 _ _ h) (t0_opt_kept_L1v1_0 a0 p0 q0 n0 k0 A0 g0_0 ) (pre_opt_kept_L1v1_0 a0 p0 q0 n0 k0 A0 g0_0 ) (fun _ => rfl) (fun ls h => by match ls, h with | [l0], _ => exact ⟨by kernel_rfl, by kernel_rfl⟩) (fun ls h => by match ls, h with | [l0], _ => rfl) (by decide) (by decide) (fun ls => rfl)
inductive R_opt_kept where
  | e0 (c0_0 : Nat → Bool)
  | e1 
noncomputable def m_opt_kept (n0 : Nat) (A0 : Nat → Insn) : Option R_opt_kept :=
  (m_flow_Reached n0 A0).bind fun g0 => match g0 with
  | .e0 g0_0 => ((lpO (st_opt_kept_L0 n0 A0) (.c0 g0_0 0)).bind fun g1 => match g1 with
    | .e0 g1_0 =>
    (lpO (st_opt_kept_L1 n0 A0) (.c0 g1_0 (IntKind.i64.wrap ((n0 : Int) - 1)))).bind fun g2 => match g2 with
    | .e0 g2_0 =>
    some (.e0 g2_0))
  | .e1 g0_0 => ((lpO (st_opt_kept_L0v1 n0 A0) (.c0 0)).bind fun g1 => match g1 with
    | .e0 =>
    (lpO (st_opt_kept_L1v1 n0) (.c0)).bind fun g2 => match g2 with
    | .e0 =>
    some (.e1))
def sq0_opt_kept (a0 : Option Addr) (p0 : Nat) (q0 : Nat) (n0 : Nat) (k0 : Nat) (A0 : Nat → Insn) (c0_0 : Nat → Bool) : Spc := ⟨fun ls => .call 30 #[.slice a0 n0 (n0 + k0)], fun ls => [], 1, .normal, fun ls => [(rowV (lget ls 0) n0 1)], fun ls => [], fun ls => [rowO (lget ls 0) (esG cB n0 c0_0) 4 n0 1]⟩
def sq1_opt_kept (a0 : Option Addr) (p0 : Nat) (q0 : Nat) (n0 : Nat) (k0 : Nat) (A0 : Nat → Insn)  : Spc := ⟨fun ls => .call 30 #[.slice a0 n0 (n0 + k0)], fun ls => [], 0, .normal, fun ls => [.slice none 0 0], fun ls => [], fun ls => []⟩
theorem ok0_opt_kept (c0_0 : Nat → Bool) (e : m_opt_kept n0 A0 = some (.e0 c0_0)) : SpcG Try.prog M B0 S (sq0_opt_kept a0 p0 q0 n0 k0 A0 c0_0) := by
  unfold m_opt_kept at e
  replace e := bindO_eq e
  obtain ⟨g0, e_g0, e⟩ := e
  rcases g0 with ⟨g0_0⟩ | ⟨g0_0⟩
  · try dsimp only at e
    replace e := bindO_eq e
    obtain ⟨g1, e_g1, e⟩ := e
    obtain ⟨g1_0⟩ := g1
    try dsimp only at e
    replace e := bindO_eq e
    obtain ⟨g2, e_g2, e⟩ := e
    obtain ⟨g2_0⟩ := g2
    try dsimp only at e
    injection e with e; injection e with i0; subst i0; exact fn_specG hU (P := Try.prog) Try.func30 (fun xs w => by kernel_rfl) 0 _ _ (fun _ => rfl) _ _ _ [0] [.o, .o, .xg (ok0_flow_Reached hU a0 p0 q0 n0 k0 A0 hR0 g0_0 e_g0) [], .o, .o, .o, .o, .o, .o, .o, .o, .cp, .cx (sp0_opt_kept_L0_0_ok hU a0 p0 q0 n0 k0 A0 hR0 g0_0 g0_0 0 g1_0 e_g1) [0], .o, .o, .o, .o, .cp, .cx (sp0_opt_kept_L1_0_ok hU a0 p0 q0 n0 k0 A0 hR0 g0_0 g1_0 g1_0 (IntKind.i64.wrap ((n0 : Int) - 1)) g2_0 e_g2) [0, 1], .o, .o] [] (fun b => by kernel_rfl)
  · try dsimp only at e
    replace e := bindO_eq e
    obtain ⟨g1, e_g1, e⟩ := e
    cases g1
    try dsimp only at e
    replace e := bindO_eq e
    obtain ⟨g2, e_g2, e⟩ := e
    cases g2
    try dsimp only at e
    cases e
theorem ok1_opt_kept (e : m_opt_kept n0 A0 = some (.e1 )) : SpcG Try.prog M B0 S (sq1_opt_kept a0 p0 q0 n0 k0 A0 ) := by
  unfold m_opt_kept at e
  replace e := bindO_eq e
  obtain ⟨g0, e_g0, e⟩ := e
  rcases g0 with ⟨g0_0⟩ | ⟨g0_0⟩
  · try dsimp only at e
    replace e := bindO_eq e
    obtain ⟨g1, e_g1, e⟩ := e
    obtain ⟨g1_0⟩ := g1
    try dsimp only at e
    replace e := bindO_eq e
    obtain ⟨g2, e_g2, e⟩ := e
    obtain ⟨g2_0⟩ := g2
    try dsimp only at e
    cases e
  · try dsimp only at e
    replace e := bindO_eq e
    obtain ⟨g1, e_g1, e⟩ := e
    cases g1
    try dsimp only at e
    replace e := bindO_eq e
    obtain ⟨g2, e_g2, e⟩ := e
    cases g2
    try dsimp only at e
    exact fn_specG hU (P := Try.prog) Try.func30 (fun xs w => by kernel_rfl) 0 _ _ (fun _ => rfl) _ _ _ [] [.o, .o, .xg (ok1_flow_Reached hU a0 p0 q0 n0 k0 A0 hR0 g0_0 e_g0) [], .o, .o, .o, .o, .o, .o, .o, .o, .cp, .cx (sp0_opt_kept_L0v1_0_ok hU a0 p0 q0 n0 k0 A0 hR0 g0_0 0  e_g1) [], .o, .o, .o, .o, .cp, .cx (sp0_opt_kept_L1v1_0_ok hU a0 p0 q0 n0 k0 A0 hR0 g0_0   e_g2) [0], .o, .o] [] (fun b => by kernel_rfl)
noncomputable def m_opt_fitted (y0 : Insn) (y1 : Int) : Insn :=
  bif m_op_Jumps y0 then
    ((⟨y0.fOp, y0.fDst, y0.fSrc, (BitVec.ofInt 16 y1), y0.fImm⟩ : Insn))
  else ((⟨y0.fOp, y0.fDst, y0.fSrc, y0.fOff, (BitVec.ofInt 32 y1)⟩ : Insn))
end
section
variable {M : Nat → Prop} {B0 : Nat} {S : World → Prop} (hU : Up M B0 S)
include hU
theorem ok_opt_fitted (y0 : Insn) (y1 : Int) (r : Insn) (e : m_opt_fitted y0 y1 = r) : ConG Try.prog S 32 #[(v_Insn y0), .int .i64 (y1)] ((v_Insn r)) := by
  unfold m_opt_fitted at e
  replace e := cond_eq_or e
  rcases e with ⟨hq0, e⟩ | ⟨hq0, e⟩
  · subst e; exact fn_conG hU (P := Try.prog) Try.func32 (fun xs w => by kernel_rfl) _ _ [.o, .o, .a 0, .cg (ok_op_Jumps hU y0 true hq0), .o, .v .i16 (i16_of_z y1), .o, .a 0, .a 0, .a 1] [1, 1, 1, 1, 1] (fun b => by kernel_rfl)
  · subst e; exact fn_conG hU (P := Try.prog) Try.func32 (fun xs w => by kernel_rfl) _ _ [.o, .o, .a 0, .cg (ok_op_Jumps hU y0 false hq0), .o, .v .i32 (i32_of_z y1), .o, .a 0, .a 0, .a 1] [1, 1, 1, 1, 1] (fun b => by kernel_rfl)
inductive Sh_opt_Trim_L0 where
  | c0 (s0_0 : Nat → Int) (s0_1 : Int)
inductive Ex_opt_Trim_L0 where
  | e0 (c0_0 : Nat → Int)
noncomputable def st_opt_Trim_L0 (n0 : Nat) (g1_0 : Nat → Bool) : Sh_opt_Trim_L0 → Option (Sh_opt_Trim_L0 ⊕ Ex_opt_Trim_L0)
  | .c0 s0_0 s0_1 =>
    bif decide (s0_1 < (n0 : Int)) then
      (bif inR s0_1 4097 then
        (bif inR (IntKind.i64.wrap (s0_1 + 1)) 4097 then
          (bif inR s0_1 n0 then
            (bif (g1_0 (s0_1).toNat) then
              (bindT (updF (updF s0_0 ((IntKind.i64.wrap (s0_1 + 1))).toNat (s0_0 (s0_1).toNat)) ((IntKind.i64.wrap (s0_1 + 1))).toNat (IntKind.i64.wrap (((updF s0_0 ((IntKind.i64.wrap (s0_1 + 1))).toNat (s0_0 (s0_1).toNat)) ((IntKind.i64.wrap (s0_1 + 1))).toNat) + 1))) fun rb0 =>
              some (.inl (.c0 rb0 (IntKind.i64.wrap (s0_1 + 1)))))
            else (some (.inl (.c0 (updF s0_0 ((IntKind.i64.wrap (s0_1 + 1))).toNat (s0_0 (s0_1).toNat)) (IntKind.i64.wrap (s0_1 + 1))))))
          else (none))
        else (none))
      else (none))
    else (some (.inr (.e0 s0_0)))
noncomputable def bd_opt_Trim_L0 : Code := codeOf Try.f13 [1, 1, 1, 1, 0, 1, 0, 0]
def fl_opt_Trim_L0 (a0 : Option Addr) (p0 : Nat) (q0 : Nat) (n0 : Nat) (k0 : Nat) (A0 : Nat → Insn) (r0 : (Int) × (Int)) (g1_0 : Nat → Bool) : Sh_opt_Trim_L0 → List L1 → List Value
  | .c0 s0_0 s0_1, ls => [.slice a0 n0 (n0 + k0), .slice none 0 0, .slice none 0 0, .int .i64 (0), (rowV (lget ls 0) n0 1), .pointer (some ⟨(lget ls 1).n, 0, none⟩), .int .i64 ((n0 : Int)), .int .i64 (s0_1)]
def mf_opt_Trim_L0 : Sh_opt_Trim_L0 → List (Nat × Nat)
  | .c0 _ _ => [(1, 1), (3, 2), (2, 18), (2, 77)]
noncomputable def fr_opt_Trim_L0 (a0 : Option Addr) (p0 : Nat) (q0 : Nat) (n0 : Nat) (k0 : Nat) (A0 : Nat → Insn) (r0 : (Int) × (Int)) (g1_0 : Nat → Bool) (s : Sh_opt_Trim_L0) : List L1 → List Value := mrgF (mf_opt_Trim_L0 s) (fl_opt_Trim_L0 a0 p0 q0 n0 k0 A0 r0 g1_0 s) 2
def Hs_opt_Trim_L0 (a0 : Option Addr) (p0 : Nat) (q0 : Nat) (n0 : Nat) (k0 : Nat) (A0 : Nat → Insn) (r0 : (Int) × (Int)) (g1_0 : Nat → Bool) : Sh_opt_Trim_L0 → List L1 → List Obj
  | .c0 s0_0 s0_1, ls => [rowO (lget ls 0) (esG cB n0 g1_0) 4 n0 1, .cells ⟨esG cZ 4097 s0_0⟩ 66, unb]
def vl_opt_Trim_L0 (a0 : Option Addr) (p0 : Nat) (q0 : Nat) (n0 : Nat) (k0 : Nat) (A0 : Nat → Insn) (r0 : (Int) × (Int)) (g1_0 : Nat → Bool) : Ex_opt_Trim_L0 → List L1 → List Value
  | .e0 c0_0, ls => [.slice a0 n0 (n0 + k0), .slice none 0 0, .slice none 0 0, .int .i64 (0), (rowV (lget ls 0) n0 1), .pointer (some ⟨(lget ls 1).n, 0, none⟩), .int .i64 ((n0 : Int))]
def mk_opt_Trim_L0 : Ex_opt_Trim_L0 → List (Nat × Nat)
  | .e0 _ => [(1, 1), (3, 2), (2, 18), (1, 78)]
noncomputable def vf_opt_Trim_L0 (a0 : Option Addr) (p0 : Nat) (q0 : Nat) (n0 : Nat) (k0 : Nat) (A0 : Nat → Insn) (r0 : (Int) × (Int)) (g1_0 : Nat → Bool) (r : Ex_opt_Trim_L0) : List L1 → List Value := mrgF (mk_opt_Trim_L0 r) (vl_opt_Trim_L0 a0 p0 q0 n0 k0 A0 r0 g1_0 r) 2
def Hf_opt_Trim_L0 (a0 : Option Addr) (p0 : Nat) (q0 : Nat) (n0 : Nat) (k0 : Nat) (A0 : Nat → Insn) (r0 : (Int) × (Int)) (g1_0 : Nat → Bool) : Ex_opt_Trim_L0 → List L1 → List Obj
  | .e0 c0_0, ls => [rowO (lget ls 0) (esG cB n0 g1_0) 4 n0 1, .cells ⟨esG cZ 4097 c0_0⟩ 66, unb]
def ex_opt_Trim_L0 : Ex_opt_Trim_L0 → Ex
  | .e0 _ => (.exit 0)
end
section
variable {M : Nat → Prop} {B0 : Nat} {S : World → Prop} (hU : Up M B0 S) (a0 : Option Addr) (p0 : Nat) (q0 : Nat) (n0 : Nat) (k0 : Nat) (A0 : Nat → Insn) (hR0 : Ro S c_Insn 5 a0 p0 q0 n0 A0) (r0 : (Int) × (Int)) (g1_0 : Nat → Bool)
include hU a0 p0 q0 n0 k0 A0 hR0 r0 g1_0
theorem go_opt_Trim_L0 (s : Sh_opt_Trim_L0) (r : Ex_opt_Trim_L0) (h : lpO (st_opt_Trim_L0 n0 g1_0) s = some r) : GoesG Try.prog M B0 S (.loop bd_opt_Trim_L0) 3 (fr_opt_Trim_L0 a0 p0 q0 n0 k0 A0 r0 g1_0 s) (Hs_opt_Trim_L0 a0 p0 q0 n0 k0 A0 r0 g1_0 s) (ex_opt_Trim_L0 r) 2 (vf_opt_Trim_L0 a0 p0 q0 n0 k0 A0 r0 g1_0 r) (Hf_opt_Trim_L0 a0 p0 q0 n0 k0 A0 r0 g1_0 r) 3 :=
  goes_lpO (fun s q e => by
    cases s with
    | c0 s0_0 s0_1 =>
      unfold st_opt_Trim_L0 at e
      dsimp only at e
      replace e := cond_eq_or e
      rcases e with ⟨hq0, e⟩ | ⟨hq0, e⟩
      · replace e := cond_eq_or e
        rcases e with ⟨hq1, e⟩ | ⟨hq1, e⟩
        · replace e := cond_eq_or e
          let P1 : List (PG Try.prog M B0 S) := [.b (z_lssT hq0), .o, .o, .o, .o, .o, .q (ixA_ok (kd := .i64) (T := 66) (x := s0_1) (sz := 1) (N := 4097) rfl rfl (fun w => by kernel_rfl) hq1), .l (accF (i := 1) (f := cZ) (A := s0_0) (k := (s0_1).toNat) 0 [.int .i64 ((s0_0 (s0_1).toNat))] cZ_len (inR_nat hq1) rfl)]
          rcases e with ⟨hq2, e⟩ | ⟨hq2, e⟩
          · replace e := cond_eq_or e
            let P2 : List (PG Try.prog M B0 S) := P1 ++ [.q (ixA_ok (kd := .i64) (T := 66) (x := (IntKind.i64.wrap (s0_1 + 1))) (sz := 1) (N := 4097) rfl rfl (fun w => by kernel_rfl) hq2), .x (sqStF_ok (T := 3) (e := 66) (f := cZ) (A := s0_0) (v := (s0_0 (s0_1).toNat)) 0 (.int .i64 ((s0_0 (s0_1).toNat))) cZ_len cZ_one rfl rfl (fun w => by kernel_rfl) (inR_nat hq2)) [1], .o, .o]
            rcases e with ⟨hq3, e⟩ | ⟨hq3, e⟩
            · replace e := cond_eq_or e
              let P3 : List (PG Try.prog M B0 S) := P2 ++ [.q (ixM_ok (kd := .i64) (T := 24) (x := s0_1) (N := n0) (sz := 1) rfl (fun w => by kernel_rfl) hq3)]
              rcases e with ⟨hq4, e⟩ | ⟨hq4, e⟩
              · replace e := bindT_eq e
                obtain ⟨rb0, e_rb0, e⟩ := e
                try dsimp only at e
                cases e; exact goes_runM hU (P3 ++ [.l (accG (i := 0) (f := cB) (A := g1_0) (k := (s0_1).toNat) 0 [.bool true] cB_len (inR_nat hq3) (congrArg (fun b => [Value.bool b]) hq4)), .o, .o, .q (ixA_ok (kd := .i64) (T := 66) (x := (IntKind.i64.wrap (s0_1 + 1))) (sz := 1) (N := 4097) rfl rfl (fun w => by kernel_rfl) hq2), .l (accF (i := 1) (f := cZ) (A := updF s0_0 ((IntKind.i64.wrap (s0_1 + 1))).toNat (s0_0 (s0_1).toNat)) (k := ((IntKind.i64.wrap (s0_1 + 1))).toNat) 0 [.int .i64 (((updF s0_0 ((IntKind.i64.wrap (s0_1 + 1))).toNat (s0_0 (s0_1).toNat)) ((IntKind.i64.wrap (s0_1 + 1))).toNat))] cZ_len (inR_nat hq2) rfl), .o, .q (ixA_ok (kd := .i64) (T := 66) (x := (IntKind.i64.wrap (s0_1 + 1))) (sz := 1) (N := 4097) rfl rfl (fun w => by kernel_rfl) hq2), .x (sqStFr_ok (T := 3) (e := 66) (f := cZ) (A := updF s0_0 ((IntKind.i64.wrap (s0_1 + 1))).toNat (s0_0 (s0_1).toNat)) (v := (IntKind.i64.wrap (((updF s0_0 ((IntKind.i64.wrap (s0_1 + 1))).toNat (s0_0 (s0_1).toNat)) ((IntKind.i64.wrap (s0_1 + 1))).toNat) + 1))) 0 (.int .i64 ((IntKind.i64.wrap (((updF s0_0 ((IntKind.i64.wrap (s0_1 + 1))).toNat (s0_0 (s0_1).toNat)) ((IntKind.i64.wrap (s0_1 + 1))).toNat) + 1)))) cZ_len cZ_one rfl rfl (fun w => by kernel_rfl) (inR_nat hq2) e_rb0) [1], .o, .o]) [0, 1] (fun b => rfl) (by decide) rfl rfl (fun b => by kernel_rfl)
              · cases e; exact goes_runM hU (P3 ++ [.l (accG (i := 0) (f := cB) (A := g1_0) (k := (s0_1).toNat) 0 [.bool false] cB_len (inR_nat hq3) (congrArg (fun b => [Value.bool b]) hq4)), .o, .o]) [0, 1] (fun b => rfl) (by decide) rfl rfl (fun b => by kernel_rfl)
            · exact none_some e
          · exact none_some e
        · exact none_some e
      · cases e; exact ⟨ne_exit 0, goes_runM hU [.b (z_lssF hq0)] [0, 1] (fun b => rfl) (by decide) rfl rfl (fun b => by kernel_rfl)⟩) s r h
noncomputable def t0_opt_Trim_L0_0 (a0 : Option Addr) (p0 : Nat) (q0 : Nat) (n0 : Nat) (k0 : Nat) (A0 : Nat → Insn) (r0 : (Int) × (Int)) (g1_0 : Nat → Bool) (s0_0 : Nat → Int) (s0_1 : Int) (ls : List L1) : List Value := List.append [.slice a0 n0 (n0 + k0), undef, .slice none 0 0, .slice none 0 0, .int .i64 (0), .int .i64 (r0.1), .int .i64 (r0.2), (rowV (lget ls 0) n0 1), .pointer (some ⟨(lget ls 1).n, 0, none⟩)] (List.append (und 7) (List.append [.tuple #[.int .i64 (r0.1), .int .i64 (r0.2)], .slice a0 n0 (n0 + k0), .tuple #[.int .i64 (r0.1), .int .i64 (r0.2)], .int .i64 (r0.1), .int .i64 (r0.2), .int .i64 (r0.2), .bool false, undef, .slice a0 n0 (n0 + k0), (rowV (lget ls 0) n0 1), .slice a0 n0 (n0 + k0), .int .i64 ((n0 : Int)), .int .i64 (s0_1)] (und 77)))
def pre_opt_Trim_L0_0 (a0 : Option Addr) (p0 : Nat) (q0 : Nat) (n0 : Nat) (k0 : Nat) (A0 : Nat → Insn) (r0 : (Int) × (Int)) (g1_0 : Nat → Bool) (s0_0 : Nat → Int) (s0_1 : Int) (ls : List L1) : List Obj := [rowO (lget ls 0) (esG cB n0 g1_0) 4 n0 1, .cells ⟨esG cZ 4097 s0_0⟩ 66]
theorem sp0_opt_Trim_L0_0_ok (s0_0 : Nat → Int) (s0_1 : Int) (c0_0 : Nat → Int) (h : lpO (st_opt_Trim_L0 n0 g1_0) (.c0 s0_0 s0_1) = some (.e0 c0_0)) : SpcG Try.prog M B0 S ⟨fun ls => .code (.loop bd_opt_Trim_L0) (t0_opt_Trim_L0_0 a0 p0 q0 n0 k0 A0 r0 g1_0 s0_0 s0_1 ls), pre_opt_Trim_L0_0 a0 p0 q0 n0 k0 A0 r0 g1_0 s0_0 s0_1, 1, (.exit 0), fun ls => vf_opt_Trim_L0 a0 p0 q0 n0 k0 A0 r0 g1_0 (.e0 c0_0) (ls.take 2 ++ ls.drop 2), fun ls => (Hf_opt_Trim_L0 a0 p0 q0 n0 k0 A0 r0 g1_0 (.e0 c0_0) (ls.take 2 ++ ls.drop 2)).take 2 ++ List.replicate 0 unb, fun ls => (Hf_opt_Trim_L0 a0 p0 q0 n0 k0 A0 r0 g1_0 (.e0 c0_0) (ls.take 2 ++ ls.drop 2)).drop 2⟩ :=
  spc_of_goesM hU 0 (k0 := 2) (go_opt_Trim_L0 hU a0 p0 q0 n0 k0 A0 hR0 r0 g1_0 _ _ h) (t0_opt_Trim_L0_0 a0 p0 q0 n0 k0 A0 r0 g1_0 s0_0 s0_1) (pre_opt_Trim_L0_0 a0 p0 q0 n0 k0 A0 r0 g1_0 s0_0 s0_1) (fun _ => rfl) (fun ls h => by match ls, h with | [l0, l1], _ => exact ⟨by kernel_rfl, by kernel_rfl⟩) (fun ls h => by match ls, h with | [l0, l1], _ => rfl) (by decide) (by decide) (fun ls => rfl)
inductive Sh_opt_Trim_L1 where
  | c0 (s0_0 : Nat) (s0_1 : Nat → Insn) (s0_2 : Nat) (s0_3 : Nat → Int) (s0_4 : Int)
inductive Ex_opt_Trim_L1 where
  | e0 (c0_0 : Nat) (c0_1 : Nat → Insn) (c0_2 : Nat) (c0_3 : Nat → Int)
noncomputable def st_opt_Trim_L1 (n0 : Nat) (A0 : Nat → Insn) (g1_0 : Nat → Bool) (g2_0 : Nat → Int) : Sh_opt_Trim_L1 → Option (Sh_opt_Trim_L1 ⊕ Ex_opt_Trim_L1)
  | .c0 s0_0 s0_1 s0_2 s0_3 s0_4 =>
    bif decide (s0_4 < (n0 : Int)) then
      (bif inR s0_4 n0 then
        (bif (g1_0 (s0_4).toNat) then
          ((m_insn_Target n0 A0 s0_4).bind fun rb0 =>
          bif rb0.2 then
            (bif inR rb0.1 4097 then
              (bif inR s0_4 4097 then
                (bindT (m_opt_fitted ((A0 (s0_4).toNat)) (IntKind.i64.wrap ((IntKind.i64.wrap ((g2_0 (rb0.1).toNat) - (g2_0 (s0_4).toNat))) - 1))) fun rb1 =>
                bif decide (s0_0 ≤ 1000000) then
                  (bif decide (s0_2 ≤ 1000000) then
                    (some (.inl (.c0 (s0_0 + 1) (updF s0_1 s0_0 rb1) (s0_2 + 1) (updF s0_3 s0_2 s0_4) (IntKind.i64.wrap (s0_4 + 1)))))
                  else (none))
                else (none))
              else (none))
            else (none))
          else (bif decide (s0_0 ≤ 1000000) then
            (bif decide (s0_2 ≤ 1000000) then
              (some (.inl (.c0 (s0_0 + 1) (updF s0_1 s0_0 ((A0 (s0_4).toNat))) (s0_2 + 1) (updF s0_3 s0_2 s0_4) (IntKind.i64.wrap (s0_4 + 1)))))
            else (none))
          else (none)))
        else (some (.inl (.c0 s0_0 s0_1 s0_2 s0_3 (IntKind.i64.wrap (s0_4 + 1))))))
      else (none))
    else (some (.inr (.e0 s0_0 s0_1 s0_2 s0_3)))
noncomputable def bd_opt_Trim_L1 : Code := codeOf Try.f13 [1, 1, 1, 1, 1, 1, 1, 0, 1, 0, 0]
def fl_opt_Trim_L1 (a0 : Option Addr) (p0 : Nat) (q0 : Nat) (n0 : Nat) (k0 : Nat) (A0 : Nat → Insn) (r0 : (Int) × (Int)) (g1_0 : Nat → Bool) (g2_0 : Nat → Int) : Sh_opt_Trim_L1 → List L1 → List Value
  | .c0 s0_0 s0_1 s0_2 s0_3 s0_4, ls => [.slice a0 n0 (n0 + k0), .slice none 0 0, .slice none 0 0, .int .i64 (0), (rowV (lget ls 0) n0 1), .pointer (some ⟨(lget ls 1).n, 0, none⟩), (rowV (lget ls 3) s0_0 5), (rowV (lget ls 4) s0_2 1), .int .i64 ((n0 : Int)), .int .i64 (s0_4), ((lget ls 2).u 94), ((lget ls 2).u 95), ((lget ls 2).u 96), ((lget ls 2).u 97), ((lget ls 2).u 98), ((lget ls 2).u 99), ((lget ls 2).u 100), ((lget ls 2).u 101), ((lget ls 2).u 102), ((lget ls 2).u 103), ((lget ls 2).u 104), ((lget ls 2).u 105)]
def mf_opt_Trim_L1 : Sh_opt_Trim_L1 → List (Nat × Nat)
  | .c0 _ _ _ _ _ => [(1, 1), (3, 2), (2, 1), (2, 43), (2, 37), (12, 0)]
noncomputable def fr_opt_Trim_L1 (a0 : Option Addr) (p0 : Nat) (q0 : Nat) (n0 : Nat) (k0 : Nat) (A0 : Nat → Insn) (r0 : (Int) × (Int)) (g1_0 : Nat → Bool) (g2_0 : Nat → Int) (s : Sh_opt_Trim_L1) : List L1 → List Value := mrgF (mf_opt_Trim_L1 s) (fl_opt_Trim_L1 a0 p0 q0 n0 k0 A0 r0 g1_0 g2_0 s) 5
def Hs_opt_Trim_L1 (a0 : Option Addr) (p0 : Nat) (q0 : Nat) (n0 : Nat) (k0 : Nat) (A0 : Nat → Insn) (r0 : (Int) × (Int)) (g1_0 : Nat → Bool) (g2_0 : Nat → Int) : Sh_opt_Trim_L1 → List L1 → List Obj
  | .c0 s0_0 s0_1 s0_2 s0_3 s0_4, ls => [rowO (lget ls 0) (esG cB n0 g1_0) 4 n0 1, .cells ⟨esG cZ 4097 g2_0⟩ 66, unb, rowO (lget ls 3) (esG c_Insn s0_0 s0_1) 40 s0_0 5, rowO (lget ls 4) (esG cZ s0_2 s0_3) 3 s0_2 1, unb]
def vl_opt_Trim_L1 (a0 : Option Addr) (p0 : Nat) (q0 : Nat) (n0 : Nat) (k0 : Nat) (A0 : Nat → Insn) (r0 : (Int) × (Int)) (g1_0 : Nat → Bool) (g2_0 : Nat → Int) : Ex_opt_Trim_L1 → List L1 → List Value
  | .e0 c0_0 c0_1 c0_2 c0_3, ls => [.slice a0 n0 (n0 + k0), .slice none 0 0, .slice none 0 0, .int .i64 (0), (rowV (lget ls 0) n0 1), .pointer (some ⟨(lget ls 1).n, 0, none⟩), (rowV (lget ls 3) c0_0 5), (rowV (lget ls 4) c0_2 1), .int .i64 ((n0 : Int)), ((lget ls 2).u 94), ((lget ls 2).u 95), ((lget ls 2).u 96), ((lget ls 2).u 97), ((lget ls 2).u 98), ((lget ls 2).u 99), ((lget ls 2).u 100), ((lget ls 2).u 101), ((lget ls 2).u 102), ((lget ls 2).u 103), ((lget ls 2).u 104), ((lget ls 2).u 105)]
def mk_opt_Trim_L1 : Ex_opt_Trim_L1 → List (Nat × Nat)
  | .e0 _ _ _ _ => [(1, 1), (3, 2), (2, 1), (2, 43), (1, 38), (12, 0)]
noncomputable def vf_opt_Trim_L1 (a0 : Option Addr) (p0 : Nat) (q0 : Nat) (n0 : Nat) (k0 : Nat) (A0 : Nat → Insn) (r0 : (Int) × (Int)) (g1_0 : Nat → Bool) (g2_0 : Nat → Int) (r : Ex_opt_Trim_L1) : List L1 → List Value := mrgF (mk_opt_Trim_L1 r) (vl_opt_Trim_L1 a0 p0 q0 n0 k0 A0 r0 g1_0 g2_0 r) 5
def Hf_opt_Trim_L1 (a0 : Option Addr) (p0 : Nat) (q0 : Nat) (n0 : Nat) (k0 : Nat) (A0 : Nat → Insn) (r0 : (Int) × (Int)) (g1_0 : Nat → Bool) (g2_0 : Nat → Int) : Ex_opt_Trim_L1 → List L1 → List Obj
  | .e0 c0_0 c0_1 c0_2 c0_3, ls => [rowO (lget ls 0) (esG cB n0 g1_0) 4 n0 1, .cells ⟨esG cZ 4097 g2_0⟩ 66, unb, rowO (lget ls 3) (esG c_Insn c0_0 c0_1) 40 c0_0 5, rowO (lget ls 4) (esG cZ c0_2 c0_3) 3 c0_2 1, unb]
def ex_opt_Trim_L1 : Ex_opt_Trim_L1 → Ex
  | .e0 _ _ _ _ => (.exit 2)
theorem go_opt_Trim_L1 (g2_0 : Nat → Int) (s : Sh_opt_Trim_L1) (r : Ex_opt_Trim_L1) (h : lpO (st_opt_Trim_L1 n0 A0 g1_0 g2_0) s = some r) : GoesG Try.prog M B0 S (.loop bd_opt_Trim_L1) 6 (fr_opt_Trim_L1 a0 p0 q0 n0 k0 A0 r0 g1_0 g2_0 s) (Hs_opt_Trim_L1 a0 p0 q0 n0 k0 A0 r0 g1_0 g2_0 s) (ex_opt_Trim_L1 r) 3 (vf_opt_Trim_L1 a0 p0 q0 n0 k0 A0 r0 g1_0 g2_0 r) (Hf_opt_Trim_L1 a0 p0 q0 n0 k0 A0 r0 g1_0 g2_0 r) 6 :=
  goes_lpO (fun s q e => by
    cases s with
    | c0 s0_0 s0_1 s0_2 s0_3 s0_4 =>
      unfold st_opt_Trim_L1 at e
      dsimp only at e
      replace e := cond_eq_or e
      rcases e with ⟨hq0, e⟩ | ⟨hq0, e⟩
      · replace e := cond_eq_or e
        rcases e with ⟨hq1, e⟩ | ⟨hq1, e⟩
        · replace e := cond_eq_or e
          let P1 : List (PG Try.prog M B0 S) := [.b (z_lssT hq0), .o, .o, .o, .o, .q (ixM_ok (kd := .i64) (T := 24) (x := s0_4) (N := n0) (sz := 1) rfl (fun w => by kernel_rfl) hq1)]
          rcases e with ⟨hq2, e⟩ | ⟨hq2, e⟩
          · replace e := bindO_eq e
            obtain ⟨rb0, e_rb0, e⟩ := e
            try dsimp only at e
            replace e := cond_eq_or e
            let P2 : List (PG Try.prog M B0 S) := P1 ++ [.l (accG (i := 0) (f := cB) (A := g1_0) (k := (s0_4).toNat) 0 [.bool true] cB_len (inR_nat hq1) (congrArg (fun b => [Value.bool b]) hq2)), .o, .o, .o, .q (ixRo_ok (kd := .i64) (T := 22) (x := s0_4) (sz := 5) rfl (fun w => by kernel_rfl) hR0 hq1), .l (accRo hR0 c_Insn_len (inR_nat hq1) 0 [.int .u8 (nn ((A0 (s0_4).toNat)).fOp), .int .u8 (nn ((A0 (s0_4).toNat)).fDst), .int .u8 (nn ((A0 (s0_4).toNat)).fSrc), .int .i16 (ii ((A0 (s0_4).toNat)).fOff), .int .i32 (ii ((A0 (s0_4).toNat)).fImm)] rfl), .o, .a 6, .o, .o, .cg (ok_insn_Target hU a0 p0 q0 n0 k0 A0 hR0 s0_4 rb0 e_rb0), .o, .o]
            rcases e with ⟨hq3, e⟩ | ⟨hq3, e⟩
            · replace e := cond_eq_or e
              rcases e with ⟨hq4, e⟩ | ⟨hq4, e⟩
              · replace e := cond_eq_or e
                rcases e with ⟨hq5, e⟩ | ⟨hq5, e⟩
                · replace e := bindT_eq e
                  obtain ⟨rb1, e_rb1, e⟩ := e
                  try dsimp only at e
                  replace e := cond_eq_or e
                  rcases e with ⟨hq6, e⟩ | ⟨hq6, e⟩
                  · replace e := cond_eq_or e
                    rcases e with ⟨hq7, e⟩ | ⟨hq7, e⟩
                    · cases e; exact goes_runM hU (P2 ++ [.b hq3, .o, .o, .o, .r [0, 1, 2, 3, 4, 5, 6, 7, 8, 9] [] [10], .a 6, .o, .q (ixA_ok (kd := .i64) (T := 66) (x := rb0.1) (sz := 1) (N := 4097) rfl rfl (fun w => by kernel_rfl) hq4), .l (accF (i := 1) (f := cZ) (A := g2_0) (k := (rb0.1).toNat) 0 [.int .i64 ((g2_0 (rb0.1).toNat))] cZ_len (inR_nat hq4) rfl), .o, .q (ixA_ok (kd := .i64) (T := 66) (x := s0_4) (sz := 1) (N := 4097) rfl rfl (fun w => by kernel_rfl) hq5), .l (accF (i := 1) (f := cZ) (A := g2_0) (k := (s0_4).toNat) 0 [.int .i64 ((g2_0 (s0_4).toNat))] cZ_len (inR_nat hq5) rfl), .o, .o, .cg (ok_opt_fitted hU ((A0 (s0_4).toNat)) (IntKind.i64.wrap ((IntKind.i64.wrap ((g2_0 (rb0.1).toNat) - (g2_0 (s0_4).toNat))) - 1)) rb1 e_rb1), .a 6, .o, .a 6, .o, .x (sqAppL_ok (ty := 22) rt22 #[false, false] (f := c_Insn) (N := s0_0) (A := s0_1) (c := 1) [rb1] (T' := 40) .row c_Insn_len c_Insn_one hq6 rfl (by decide)) [3, 7], .o, .o, .o, .x (sqAppL_ok (ty := 33) rt33 #[false, false] (f := cZ) (N := s0_2) (A := s0_3) (c := 1) [s0_4] (T' := 3) .row cZ_len cZ_one hq7 rfl (by decide)) [4, 9], .o, .o, .o, .o]) [0, 1, 2, 8, 10] (fun b => rfl) (by decide) rfl rfl (fun b => by kernel_rfl)
                    · exact none_some e
                  · exact none_some e
                · exact none_some e
              · exact none_some e
            · replace e := cond_eq_or e
              rcases e with ⟨hq4, e⟩ | ⟨hq4, e⟩
              · replace e := cond_eq_or e
                rcases e with ⟨hq5, e⟩ | ⟨hq5, e⟩
                · cases e; exact goes_runM hU (P2 ++ [.b hq3, .o, .o, .o, .o, .a 6, .o, .x (sqAppL_ok (ty := 22) rt22 #[false, false] (f := c_Insn) (N := s0_0) (A := s0_1) (c := 1) [((A0 (s0_4).toNat))] (T' := 40) .row c_Insn_len c_Insn_one hq4 rfl (by decide)) [3, 7], .o, .o, .o, .x (sqAppL_ok (ty := 33) rt33 #[false, false] (f := cZ) (N := s0_2) (A := s0_3) (c := 1) [s0_4] (T' := 3) .row cZ_len cZ_one hq5 rfl (by decide)) [4, 9], .o, .o, .o, .o]) [0, 1, 2, 8, 10] (fun b => rfl) (by decide) rfl rfl (fun b => by kernel_rfl)
                · exact none_some e
              · exact none_some e
          · cases e; exact goes_runM hU (P1 ++ [.l (accG (i := 0) (f := cB) (A := g1_0) (k := (s0_4).toNat) 0 [.bool false] cB_len (inR_nat hq1) (congrArg (fun b => [Value.bool b]) hq2)), .o, .o, .o]) [0, 1, 2, 3, 4] (fun b => rfl) (by decide) rfl rfl (fun b => by kernel_rfl)
        · exact none_some e
      · cases e; exact ⟨ne_exit 2, goes_runM hU [.b (z_lssF hq0)] [0, 1, 2, 3, 4] (fun b => rfl) (by decide) rfl rfl (fun b => by kernel_rfl)⟩) s r h
noncomputable def t0_opt_Trim_L1_0 (a0 : Option Addr) (p0 : Nat) (q0 : Nat) (n0 : Nat) (k0 : Nat) (A0 : Nat → Insn) (r0 : (Int) × (Int)) (g1_0 : Nat → Bool) (g2_0 : Nat → Int) (s0_0 : Nat) (s0_1 : Nat → Insn) (s0_2 : Nat) (s0_3 : Nat → Int) (s0_4 : Int) (ls : List L1) : List Value := List.append [.slice a0 n0 (n0 + k0), ((lget ls 2).u 1), .slice none 0 0, .slice none 0 0, .int .i64 (0), ((lget ls 2).u 5), ((lget ls 2).u 6), (rowV (lget ls 0) n0 1), .pointer (some ⟨(lget ls 1).n, 0, none⟩), ((lget ls 2).u 9), (rowV (lget ls 3) s0_0 5), (rowV (lget ls 4) s0_2 1)] (List.append (jks (lget ls 2).u 12 15) (List.append [.int .i64 ((n0 : Int))] (List.append (jks (lget ls 2).u 28 20) (List.append [.slice a0 n0 (n0 + k0), .int .i64 ((n0 : Int)), (rowV (lget ls 3) 0 5), .slice a0 n0 (n0 + k0), .int .i64 ((n0 : Int)), (rowV (lget ls 4) 0 1), .slice a0 n0 (n0 + k0), .int .i64 ((n0 : Int)), .int .i64 (s0_4)] (jks (lget ls 2).u 57 49)))))
def pre_opt_Trim_L1_0 (a0 : Option Addr) (p0 : Nat) (q0 : Nat) (n0 : Nat) (k0 : Nat) (A0 : Nat → Insn) (r0 : (Int) × (Int)) (g1_0 : Nat → Bool) (g2_0 : Nat → Int) (s0_0 : Nat) (s0_1 : Nat → Insn) (s0_2 : Nat) (s0_3 : Nat → Int) (s0_4 : Int) (ls : List L1) : List Obj := [rowO (lget ls 0) (esG cB n0 g1_0) 4 n0 1, .cells ⟨esG cZ 4097 g2_0⟩ 66, unb, rowO (lget ls 3) (esG c_Insn s0_0 s0_1) 40 s0_0 5, rowO (lget ls 4) (esG cZ s0_2 s0_3) 3 s0_2 1]
theorem sp0_opt_Trim_L1_0_ok (g2_0 : Nat → Int) (s0_0 : Nat) (s0_1 : Nat → Insn) (s0_2 : Nat) (s0_3 : Nat → Int) (s0_4 : Int) (c0_0 : Nat) (c0_1 : Nat → Insn) (c0_2 : Nat) (c0_3 : Nat → Int) (h : lpO (st_opt_Trim_L1 n0 A0 g1_0 g2_0) (.c0 s0_0 s0_1 s0_2 s0_3 s0_4) = some (.e0 c0_0 c0_1 c0_2 c0_3)) : SpcG Try.prog M B0 S ⟨fun ls => .code (.loop bd_opt_Trim_L1) (t0_opt_Trim_L1_0 a0 p0 q0 n0 k0 A0 r0 g1_0 g2_0 s0_0 s0_1 s0_2 s0_3 s0_4 ls), pre_opt_Trim_L1_0 a0 p0 q0 n0 k0 A0 r0 g1_0 g2_0 s0_0 s0_1 s0_2 s0_3 s0_4, 3, (.exit 2), fun ls => vf_opt_Trim_L1 a0 p0 q0 n0 k0 A0 r0 g1_0 g2_0 (.e0 c0_0 c0_1 c0_2 c0_3) (ls.take 3 ++ ls.drop 5), fun ls => (Hf_opt_Trim_L1 a0 p0 q0 n0 k0 A0 r0 g1_0 g2_0 (.e0 c0_0 c0_1 c0_2 c0_3) (ls.take 3 ++ ls.drop 5)).take 3 ++ List.replicate 2 unb, fun ls => (Hf_opt_Trim_L1 a0 p0 q0 n0 k0 A0 r0 g1_0 g2_0 (.e0 c0_0 c0_1 c0_2 c0_3) (ls.take 3 ++ ls.drop 5)).drop 3⟩ :=
  spc_of_goesM hU 0 (k0 := 5) (go_opt_Trim_L1 hU a0 p0 q0 n0 k0 A0 hR0 r0 g1_0 g2_0 _ _ h) (t0_opt_Trim_L1_0 a0 p0 q0 n0 k0 A0 r0 g1_0 g2_0 s0_0 s0_1 s0_2 s0_3 s0_4) (pre_opt_Trim_L1_0 a0 p0 q0 n0 k0 A0 r0 g1_0 g2_0 s0_0 s0_1 s0_2 s0_3 s0_4) (fun _ => rfl) (fun ls h => by match ls, h with | [l0, l1, l2, l3, l4], _ => exact ⟨by kernel_rfl, by kernel_rfl⟩) (fun ls h => by match ls, h with | [l0, l1, l2, l3, l4], _ => rfl) (by decide) (by decide) (fun ls => rfl)
inductive Sh_opt_Trim_L0v1 where
  | c0 
inductive Ex_opt_Trim_L0v1 where
  | e0 (c0_0 : Nat → Int)
noncomputable def st_opt_Trim_L0v1 (n0 : Nat) : Sh_opt_Trim_L0v1 → Option (Sh_opt_Trim_L0v1 ⊕ Ex_opt_Trim_L0v1)
  | .c0  =>
    bif decide (0 < (n0 : Int)) then
      (none)
    else (some (.inr (.e0 (fun _ => 0))))
noncomputable def bd_opt_Trim_L0v1 : Code := codeOf Try.f13 [1, 1, 1, 1, 0, 1, 0, 0]
def fl_opt_Trim_L0v1 (a0 : Option Addr) (p0 : Nat) (q0 : Nat) (n0 : Nat) (k0 : Nat) (A0 : Nat → Insn) (r0 : (Int) × (Int)) : Sh_opt_Trim_L0v1 → List L1 → List Value
  | .c0 , ls => [.slice a0 n0 (n0 + k0), .slice none 0 0, .slice none 0 0, .int .i64 (0), .slice none 0 0, .pointer (some ⟨(lget ls 0).n, 0, none⟩), .int .i64 ((n0 : Int)), .int .i64 (0)]
def mf_opt_Trim_L0v1 : Sh_opt_Trim_L0v1 → List (Nat × Nat)
  | .c0  => [(1, 1), (3, 2), (2, 18), (2, 77)]
noncomputable def fr_opt_Trim_L0v1 (a0 : Option Addr) (p0 : Nat) (q0 : Nat) (n0 : Nat) (k0 : Nat) (A0 : Nat → Insn) (r0 : (Int) × (Int)) (s : Sh_opt_Trim_L0v1) : List L1 → List Value := mrgF (mf_opt_Trim_L0v1 s) (fl_opt_Trim_L0v1 a0 p0 q0 n0 k0 A0 r0 s) 1
def Hs_opt_Trim_L0v1 (a0 : Option Addr) (p0 : Nat) (q0 : Nat) (n0 : Nat) (k0 : Nat) (A0 : Nat → Insn) (r0 : (Int) × (Int)) : Sh_opt_Trim_L0v1 → List L1 → List Obj
  | .c0 , ls => [.cells ⟨esG cZ 4097 (fun _ => 0)⟩ 66, unb]
def vl_opt_Trim_L0v1 (a0 : Option Addr) (p0 : Nat) (q0 : Nat) (n0 : Nat) (k0 : Nat) (A0 : Nat → Insn) (r0 : (Int) × (Int)) : Ex_opt_Trim_L0v1 → List L1 → List Value
  | .e0 c0_0, ls => [.slice a0 n0 (n0 + k0), .slice none 0 0, .slice none 0 0, .int .i64 (0), .slice none 0 0, .pointer (some ⟨(lget ls 0).n, 0, none⟩), .int .i64 ((n0 : Int))]
def mk_opt_Trim_L0v1 : Ex_opt_Trim_L0v1 → List (Nat × Nat)
  | .e0 _ => [(1, 1), (3, 2), (2, 18), (1, 78)]
noncomputable def vf_opt_Trim_L0v1 (a0 : Option Addr) (p0 : Nat) (q0 : Nat) (n0 : Nat) (k0 : Nat) (A0 : Nat → Insn) (r0 : (Int) × (Int)) (r : Ex_opt_Trim_L0v1) : List L1 → List Value := mrgF (mk_opt_Trim_L0v1 r) (vl_opt_Trim_L0v1 a0 p0 q0 n0 k0 A0 r0 r) 1
def Hf_opt_Trim_L0v1 (a0 : Option Addr) (p0 : Nat) (q0 : Nat) (n0 : Nat) (k0 : Nat) (A0 : Nat → Insn) (r0 : (Int) × (Int)) : Ex_opt_Trim_L0v1 → List L1 → List Obj
  | .e0 c0_0, ls => [.cells ⟨esG cZ 4097 c0_0⟩ 66, unb]
def ex_opt_Trim_L0v1 : Ex_opt_Trim_L0v1 → Ex
  | .e0 _ => (.exit 0)
end
section
variable {M : Nat → Prop} {B0 : Nat} {S : World → Prop} (hU : Up M B0 S) (a0 : Option Addr) (p0 : Nat) (q0 : Nat) (n0 : Nat) (k0 : Nat) (A0 : Nat → Insn) (hR0 : Ro S c_Insn 5 a0 p0 q0 n0 A0) (r0 : (Int) × (Int))
include hU a0 p0 q0 n0 k0 A0 hR0 r0
theorem go_opt_Trim_L0v1 (s : Sh_opt_Trim_L0v1) (r : Ex_opt_Trim_L0v1) (h : lpO (st_opt_Trim_L0v1 n0) s = some r) : GoesG Try.prog M B0 S (.loop bd_opt_Trim_L0v1) 2 (fr_opt_Trim_L0v1 a0 p0 q0 n0 k0 A0 r0 s) (Hs_opt_Trim_L0v1 a0 p0 q0 n0 k0 A0 r0 s) (ex_opt_Trim_L0v1 r) 1 (vf_opt_Trim_L0v1 a0 p0 q0 n0 k0 A0 r0 r) (Hf_opt_Trim_L0v1 a0 p0 q0 n0 k0 A0 r0 r) 2 :=
  goes_lpO (fun s q e => by
    cases s with
    | c0  =>
      unfold st_opt_Trim_L0v1 at e
      dsimp only at e
      replace e := cond_eq_or e
      rcases e with ⟨hq0, e⟩ | ⟨hq0, e⟩
      · exact none_some e
      · cases e; exact ⟨ne_exit 0, goes_runM hU [.b (z_lssF hq0)] [0] (fun b => rfl) (by decide) rfl rfl (fun b => by kernel_rfl)⟩) s r h
noncomputable def t0_opt_Trim_L0v1_0 (a0 : Option Addr) (p0 : Nat) (q0 : Nat) (n0 : Nat) (k0 : Nat) (A0 : Nat → Insn) (r0 : (Int) × (Int))  (ls : List L1) : List Value := List.append [.slice a0 n0 (n0 + k0), undef, .slice none 0 0, .slice none 0 0, .int .i64 (0), .int .i64 (r0.1), .int .i64 (r0.2), .slice none 0 0, .pointer (some ⟨(lget ls 0).n, 0, none⟩)] (List.append (und 7) (List.append [.tuple #[.int .i64 (r0.1), .int .i64 (r0.2)], .slice a0 n0 (n0 + k0), .tuple #[.int .i64 (r0.1), .int .i64 (r0.2)], .int .i64 (r0.1), .int .i64 (r0.2), .int .i64 (r0.2), .bool false, undef, .slice a0 n0 (n0 + k0), .slice none 0 0, .slice a0 n0 (n0 + k0), .int .i64 ((n0 : Int)), .int .i64 (0)] (und 77)))
def pre_opt_Trim_L0v1_0 (a0 : Option Addr) (p0 : Nat) (q0 : Nat) (n0 : Nat) (k0 : Nat) (A0 : Nat → Insn) (r0 : (Int) × (Int))  (ls : List L1) : List Obj := [.cells ⟨esG cZ 4097 (fun _ => 0)⟩ 66]
theorem sp0_opt_Trim_L0v1_0_ok (c0_0 : Nat → Int) (h : lpO (st_opt_Trim_L0v1 n0) (.c0) = some (.e0 c0_0)) : SpcG Try.prog M B0 S ⟨fun ls => .code (.loop bd_opt_Trim_L0v1) (t0_opt_Trim_L0v1_0 a0 p0 q0 n0 k0 A0 r0  ls), pre_opt_Trim_L0v1_0 a0 p0 q0 n0 k0 A0 r0 , 1, (.exit 0), fun ls => vf_opt_Trim_L0v1 a0 p0 q0 n0 k0 A0 r0 (.e0 c0_0) (ls.take 1 ++ ls.drop 1), fun ls => (Hf_opt_Trim_L0v1 a0 p0 q0 n0 k0 A0 r0 (.e0 c0_0) (ls.take 1 ++ ls.drop 1)).take 1 ++ List.replicate 0 unb, fun ls => (Hf_opt_Trim_L0v1 a0 p0 q0 n0 k0 A0 r0 (.e0 c0_0) (ls.take 1 ++ ls.drop 1)).drop 1⟩ :=
  spc_of_goesM hU 0 (k0 := 1) (go_opt_Trim_L0v1 hU a0 p0 q0 n0 k0 A0 hR0 r0 _ _ h) (t0_opt_Trim_L0v1_0 a0 p0 q0 n0 k0 A0 r0 ) (pre_opt_Trim_L0v1_0 a0 p0 q0 n0 k0 A0 r0 ) (fun _ => rfl) (fun ls h => by match ls, h with | [l0], _ => exact ⟨by kernel_rfl, by kernel_rfl⟩) (fun ls h => by match ls, h with | [l0], _ => rfl) (by decide) (by decide) (fun ls => rfl)
inductive Sh_opt_Trim_L1v1 where
  | c0 
inductive Ex_opt_Trim_L1v1 where
  | e0 (c0_0 : Nat → Insn) (c0_1 : Nat → Int)
noncomputable def st_opt_Trim_L1v1 (n0 : Nat) : Sh_opt_Trim_L1v1 → Option (Sh_opt_Trim_L1v1 ⊕ Ex_opt_Trim_L1v1)
  | .c0  =>
    bif decide (0 < (n0 : Int)) then
      (none)
    else (some (.inr (.e0 (fun _ => (⟨0#8, 0#8, 0#8, 0#16, 0#32⟩ : Insn)) (fun _ => 0))))
noncomputable def bd_opt_Trim_L1v1 : Code := codeOf Try.f13 [1, 1, 1, 1, 1, 1, 1, 0, 1, 0, 0]
def fl_opt_Trim_L1v1 (a0 : Option Addr) (p0 : Nat) (q0 : Nat) (n0 : Nat) (k0 : Nat) (A0 : Nat → Insn) (r0 : (Int) × (Int)) (g2_0 : Nat → Int) : Sh_opt_Trim_L1v1 → List L1 → List Value
  | .c0 , ls => [.slice a0 n0 (n0 + k0), .slice none 0 0, .slice none 0 0, .int .i64 (0), .slice none 0 0, .pointer (some ⟨(lget ls 0).n, 0, none⟩), (rowV (lget ls 2) 0 5), (rowV (lget ls 3) 0 1), .int .i64 ((n0 : Int)), .int .i64 (0), ((lget ls 1).u 94), ((lget ls 1).u 95), ((lget ls 1).u 96), ((lget ls 1).u 97), ((lget ls 1).u 98), ((lget ls 1).u 99), ((lget ls 1).u 100), ((lget ls 1).u 101), ((lget ls 1).u 102), ((lget ls 1).u 103), ((lget ls 1).u 104), ((lget ls 1).u 105)]
def mf_opt_Trim_L1v1 : Sh_opt_Trim_L1v1 → List (Nat × Nat)
  | .c0  => [(1, 1), (3, 2), (2, 1), (2, 43), (2, 37), (12, 0)]
noncomputable def fr_opt_Trim_L1v1 (a0 : Option Addr) (p0 : Nat) (q0 : Nat) (n0 : Nat) (k0 : Nat) (A0 : Nat → Insn) (r0 : (Int) × (Int)) (g2_0 : Nat → Int) (s : Sh_opt_Trim_L1v1) : List L1 → List Value := mrgF (mf_opt_Trim_L1v1 s) (fl_opt_Trim_L1v1 a0 p0 q0 n0 k0 A0 r0 g2_0 s) 4
def Hs_opt_Trim_L1v1 (a0 : Option Addr) (p0 : Nat) (q0 : Nat) (n0 : Nat) (k0 : Nat) (A0 : Nat → Insn) (r0 : (Int) × (Int)) (g2_0 : Nat → Int) : Sh_opt_Trim_L1v1 → List L1 → List Obj
  | .c0 , ls => [.cells ⟨esG cZ 4097 g2_0⟩ 66, unb, rowO (lget ls 2) (esG c_Insn 0 (fun _ => (⟨0#8, 0#8, 0#8, 0#16, 0#32⟩ : Insn))) 40 0 5, rowO (lget ls 3) (esG cZ 0 (fun _ => 0)) 3 0 1, unb]
def vl_opt_Trim_L1v1 (a0 : Option Addr) (p0 : Nat) (q0 : Nat) (n0 : Nat) (k0 : Nat) (A0 : Nat → Insn) (r0 : (Int) × (Int)) (g2_0 : Nat → Int) : Ex_opt_Trim_L1v1 → List L1 → List Value
  | .e0 c0_0 c0_1, ls => [.slice a0 n0 (n0 + k0), .slice none 0 0, .slice none 0 0, .int .i64 (0), .slice none 0 0, .pointer (some ⟨(lget ls 0).n, 0, none⟩), (rowV (lget ls 2) 0 5), (rowV (lget ls 3) 0 1), .int .i64 ((n0 : Int)), ((lget ls 1).u 94), ((lget ls 1).u 95), ((lget ls 1).u 96), ((lget ls 1).u 97), ((lget ls 1).u 98), ((lget ls 1).u 99), ((lget ls 1).u 100), ((lget ls 1).u 101), ((lget ls 1).u 102), ((lget ls 1).u 103), ((lget ls 1).u 104), ((lget ls 1).u 105)]
def mk_opt_Trim_L1v1 : Ex_opt_Trim_L1v1 → List (Nat × Nat)
  | .e0 _ _ => [(1, 1), (3, 2), (2, 1), (2, 43), (1, 38), (12, 0)]
noncomputable def vf_opt_Trim_L1v1 (a0 : Option Addr) (p0 : Nat) (q0 : Nat) (n0 : Nat) (k0 : Nat) (A0 : Nat → Insn) (r0 : (Int) × (Int)) (g2_0 : Nat → Int) (r : Ex_opt_Trim_L1v1) : List L1 → List Value := mrgF (mk_opt_Trim_L1v1 r) (vl_opt_Trim_L1v1 a0 p0 q0 n0 k0 A0 r0 g2_0 r) 4
def Hf_opt_Trim_L1v1 (a0 : Option Addr) (p0 : Nat) (q0 : Nat) (n0 : Nat) (k0 : Nat) (A0 : Nat → Insn) (r0 : (Int) × (Int)) (g2_0 : Nat → Int) : Ex_opt_Trim_L1v1 → List L1 → List Obj
  | .e0 c0_0 c0_1, ls => [.cells ⟨esG cZ 4097 g2_0⟩ 66, unb, rowO (lget ls 2) (esG c_Insn 0 c0_0) 40 0 5, rowO (lget ls 3) (esG cZ 0 c0_1) 3 0 1, unb]
def ex_opt_Trim_L1v1 : Ex_opt_Trim_L1v1 → Ex
  | .e0 _ _ => (.exit 2)
theorem go_opt_Trim_L1v1 (g2_0 : Nat → Int) (s : Sh_opt_Trim_L1v1) (r : Ex_opt_Trim_L1v1) (h : lpO (st_opt_Trim_L1v1 n0) s = some r) : GoesG Try.prog M B0 S (.loop bd_opt_Trim_L1v1) 5 (fr_opt_Trim_L1v1 a0 p0 q0 n0 k0 A0 r0 g2_0 s) (Hs_opt_Trim_L1v1 a0 p0 q0 n0 k0 A0 r0 g2_0 s) (ex_opt_Trim_L1v1 r) 4 (vf_opt_Trim_L1v1 a0 p0 q0 n0 k0 A0 r0 g2_0 r) (Hf_opt_Trim_L1v1 a0 p0 q0 n0 k0 A0 r0 g2_0 r) 5 :=
  goes_lpO (fun s q e => by
    cases s with
    | c0  =>
      unfold st_opt_Trim_L1v1 at e
      dsimp only at e
      replace e := cond_eq_or e
      rcases e with ⟨hq0, e⟩ | ⟨hq0, e⟩
      · exact none_some e
      · cases e; exact ⟨ne_exit 2, goes_runM hU [.b (z_lssF hq0)] [0, 1, 2, 3] (fun b => rfl) (by decide) rfl rfl (fun b => by kernel_rfl)⟩) s r h
noncomputable def t0_opt_Trim_L1v1_0 (a0 : Option Addr) (p0 : Nat) (q0 : Nat) (n0 : Nat) (k0 : Nat) (A0 : Nat → Insn) (r0 : (Int) × (Int)) (g2_0 : Nat → Int)  (ls : List L1) : List Value := List.append [.slice a0 n0 (n0 + k0), ((lget ls 1).u 1), .slice none 0 0, .slice none 0 0, .int .i64 (0), ((lget ls 1).u 5), ((lget ls 1).u 6), .slice none 0 0, .pointer (some ⟨(lget ls 0).n, 0, none⟩), ((lget ls 1).u 9), (rowV (lget ls 2) 0 5), (rowV (lget ls 3) 0 1)] (List.append (jks (lget ls 1).u 12 15) (List.append [.int .i64 ((n0 : Int))] (List.append (jks (lget ls 1).u 28 20) (List.append [.slice a0 n0 (n0 + k0), .int .i64 ((n0 : Int)), (rowV (lget ls 2) 0 5), .slice a0 n0 (n0 + k0), .int .i64 ((n0 : Int)), (rowV (lget ls 3) 0 1), .slice a0 n0 (n0 + k0), .int .i64 ((n0 : Int)), .int .i64 (0)] (jks (lget ls 1).u 57 49)))))
def pre_opt_Trim_L1v1_0 (a0 : Option Addr) (p0 : Nat) (q0 : Nat) (n0 : Nat) (k0 : Nat) (A0 : Nat → Insn) (r0 : (Int) × (Int)) (g2_0 : Nat → Int)  (ls : List L1) : List Obj := [.cells ⟨esG cZ 4097 g2_0⟩ 66, unb, rowO (lget ls 2) (esG c_Insn 0 (fun _ => (⟨0#8, 0#8, 0#8, 0#16, 0#32⟩ : Insn))) 40 0 5, rowO (lget ls 3) (esG cZ 0 (fun _ => 0)) 3 0 1]
theorem sp0_opt_Trim_L1v1_0_ok (g2_0 : Nat → Int) (c0_0 : Nat → Insn) (c0_1 : Nat → Int) (h : lpO (st_opt_Trim_L1v1 n0) (.c0) = some (.e0 c0_0 c0_1)) : SpcG Try.prog M B0 S ⟨fun ls => .code (.loop bd_opt_Trim_L1v1) (t0_opt_Trim_L1v1_0 a0 p0 q0 n0 k0 A0 r0 g2_0  ls), pre_opt_Trim_L1v1_0 a0 p0 q0 n0 k0 A0 r0 g2_0 , 1, (.exit 2), fun ls => vf_opt_Trim_L1v1 a0 p0 q0 n0 k0 A0 r0 g2_0 (.e0 c0_0 c0_1) (ls.take 4 ++ ls.drop 4), fun ls => (Hf_opt_Trim_L1v1 a0 p0 q0 n0 k0 A0 r0 g2_0 (.e0 c0_0 c0_1) (ls.take 4 ++ ls.drop 4)).take 4 ++ List.replicate 0 unb, fun ls => (Hf_opt_Trim_L1v1 a0 p0 q0 n0 k0 A0 r0 g2_0 (.e0 c0_0 c0_1) (ls.take 4 ++ ls.drop 4)).drop 4⟩ :=
  spc_of_goesM hU 0 (k0 := 4) (go_opt_Trim_L1v1 hU a0 p0 q0 n0 k0 A0 hR0 r0 g2_0 _ _ h) (t0_opt_Trim_L1v1_0 a0 p0 q0 n0 k0 A0 r0 g2_0 ) (pre_opt_Trim_L1v1_0 a0 p0 q0 n0 k0 A0 r0 g2_0 ) (fun _ => rfl) (fun ls h => by match ls, h with | [l0, l1, l2, l3], _ => exact ⟨by kernel_rfl, by kernel_rfl⟩) (fun ls h => by match ls, h with | [l0, l1, l2, l3], _ => rfl) (by decide) (by decide) (fun ls => rfl)
inductive R_opt_Trim where
  | e0 (c0_0 : Nat) (c0_1 : Nat → Insn) (c0_2 : Nat) (c0_3 : Nat → Int)
  | e1 (c1_0 : Int)
noncomputable def m_opt_Trim (n0 : Nat) (A0 : Nat → Insn) : Option R_opt_Trim :=
  (m_insn_Check n0 A0).bind fun r0 =>
  bif r0.2 == 0 then
    ((m_opt_kept n0 A0).bind fun g1 => match g1 with
    | .e0 g1_0 => ((lpO (st_opt_Trim_L0 n0 g1_0) (.c0 (fun _ => 0) 0)).bind fun g2 => match g2 with
      | .e0 g2_0 =>
      bif inR (n0 : Int) 1000001 then
        ((lpO (st_opt_Trim_L1 n0 A0 g1_0 g2_0) (.c0 0 (fun _ => (⟨0#8, 0#8, 0#8, 0#16, 0#32⟩ : Insn)) 0 (fun _ => 0) 0)).bind fun g3 => match g3 with
        | .e0 g3_0 g3_1 g3_2 g3_3 =>
        bif inR (g3_0 : Int) (g3_0 + 1) then
          (bif inR (g3_2 : Int) (g3_2 + 1) then
            (some (.e0 g3_0 g3_1 g3_2 g3_3))
          else (none))
        else (none))
      else (none))
    | .e1  => ((lpO (st_opt_Trim_L0v1 n0) (.c0)).bind fun g2 => match g2 with
      | .e0 g2_0 =>
      bif inR (n0 : Int) 1000001 then
        ((lpO (st_opt_Trim_L1v1 n0) (.c0)).bind fun g3 => match g3 with
        | .e0 g3_0 g3_1 =>
        some (.e0 0 g3_0 0 g3_1))
      else (none)))
  else (some (.e1 r0.2))
def sq0_opt_Trim (a0 : Option Addr) (p0 : Nat) (q0 : Nat) (n0 : Nat) (k0 : Nat) (A0 : Nat → Insn) (c0_0 : Nat) (c0_1 : Nat → Insn) (c0_2 : Nat) (c0_3 : Nat → Int) : Spc := ⟨fun ls => .call 13 #[.slice a0 n0 (n0 + k0)], fun ls => [], 2, .normal, fun ls => [.tuple #[(rowCV .cap (lget ls 0) c0_0 5), (rowCV .cap (lget ls 1) c0_2 1), .int .i64 (0)]], fun ls => [], fun ls => [rowO (lget ls 0) (esG c_Insn c0_0 c0_1) 40 c0_0 5, rowO (lget ls 1) (esG cZ c0_2 c0_3) 3 c0_2 1]⟩
def sq1_opt_Trim (a0 : Option Addr) (p0 : Nat) (q0 : Nat) (n0 : Nat) (k0 : Nat) (A0 : Nat → Insn) (c1_0 : Int) : Spc := ⟨fun ls => .call 13 #[.slice a0 n0 (n0 + k0)], fun ls => [], 0, .normal, fun ls => [.tuple #[.slice none 0 0, .slice none 0 0, .int .i64 (c1_0)]], fun ls => [], fun ls => []⟩
end
section
variable {M : Nat → Prop} {B0 : Nat} {S : World → Prop} (hU : Up M B0 S) (a0 : Option Addr) (p0 : Nat) (q0 : Nat) (n0 : Nat) (k0 : Nat) (A0 : Nat → Insn) (hR0 : Ro S c_Insn 5 a0 p0 q0 n0 A0)
include hU a0 p0 q0 n0 k0 A0 hR0
theorem ok0_opt_Trim (c0_0 : Nat) (c0_1 : Nat → Insn) (c0_2 : Nat) (c0_3 : Nat → Int) (e : m_opt_Trim n0 A0 = some (.e0 c0_0 c0_1 c0_2 c0_3)) : SpcG Try.prog M B0 S (sq0_opt_Trim a0 p0 q0 n0 k0 A0 c0_0 c0_1 c0_2 c0_3) := by
  unfold m_opt_Trim at e
  replace e := bindO_eq e
  obtain ⟨r0, e_r0, e⟩ := e
  try dsimp only at e
  replace e := cond_eq_or e
  let P1 : List (PG Try.prog M B0 S) := [.o, .o, .o, .o, .cg (ok_insn_Check hU a0 p0 q0 n0 k0 A0 hR0 r0 e_r0), .o, .o, .o, .o, .o, .o]
  rcases e with ⟨hq0, e⟩ | ⟨hq0, e⟩
  · replace e := bindO_eq e
    obtain ⟨g1, e_g1, e⟩ := e
    rcases g1 with ⟨g1_0⟩ | _
    · try dsimp only at e
      replace e := bindO_eq e
      obtain ⟨g2, e_g2, e⟩ := e
      obtain ⟨g2_0⟩ := g2
      try dsimp only at e
      replace e := cond_eq_or e
      rcases e with ⟨hq1, e⟩ | ⟨hq1, e⟩
      · replace e := bindO_eq e
        obtain ⟨g3, e_g3, e⟩ := e
        obtain ⟨g3_0, g3_1, g3_2, g3_3⟩ := g3
        try dsimp only at e
        replace e := cond_eq_or e
        rcases e with ⟨hq2, e⟩ | ⟨hq2, e⟩
        · replace e := cond_eq_or e
          rcases e with ⟨hq3, e⟩ | ⟨hq3, e⟩
          · injection e with e; injection e with i0 i1 i2 i3; subst i0 i1 i2 i3; exact fn_specG hU (P := Try.prog) Try.func13 (fun xs w => by kernel_rfl) 0 _ _ (fun _ => rfl) _ _ _ [5, 6] (P1 ++ [.b (z_neqT hq0), .o, .xg (ok0_opt_kept hU a0 p0 q0 n0 k0 A0 hR0 g1_0 e_g1) [], .o, .o, .o, .o, .o, .cp, .cx (sp0_opt_Trim_L0_0_ok hU a0 p0 q0 n0 k0 A0 hR0 r0 g1_0 (fun _ => 0) 0 g2_0 e_g2) [0, 1], .o, .o, .x (sqMkE_ok rt22 (f := c_Insn) (c := (n0 : Int)) (A := fun _ => (⟨0#8, 0#8, 0#8, 0#16, 0#32⟩ : Insn)) c_Insn_len hq1 (by decide)) [], .o, .o, .o, .x (sqMkE_ok rt33 (f := cZ) (c := (n0 : Int)) (A := fun _ => 0) cZ_len hq1 (by decide)) [], .o, .o, .o, .o, .cp, .cx (sp0_opt_Trim_L1_0_ok hU a0 p0 q0 n0 k0 A0 hR0 r0 g1_0 g2_0 0 (fun _ => (⟨0#8, 0#8, 0#8, 0#16, 0#32⟩ : Insn)) 0 (fun _ => 0) 0 g3_0 g3_1 g3_2 g3_3 e_g3) [0, 1, 2, 3, 4], .r [0, 1, 2, 3, 4, 5, 6, 7, 8, 9, 10, 11, 12, 13, 14] [] [], .o, .o, .o, .o, .o, .qb (slLow_ok (T := 22) (e := 40) (sz := 5) (N := g3_0) (x := (g3_0 : Int)) .row (by kernel_rfl) (fun w => by kernel_rfl) hq2) 5, .o, .o, .o, .o, .o, .qb (slLow_ok (T := 33) (e := 3) (sz := 1) (N := g3_2) (x := (g3_2 : Int)) .row (by kernel_rfl) (fun w => by kernel_rfl) hq3) 6, .o, .o, .o]) [] (fun b => by kernel_rfl)
          · exact none_some e
        · exact none_some e
      · exact none_some e
    · try dsimp only at e
      replace e := bindO_eq e
      obtain ⟨g2, e_g2, e⟩ := e
      obtain ⟨g2_0⟩ := g2
      try dsimp only at e
      replace e := cond_eq_or e
      rcases e with ⟨hq1, e⟩ | ⟨hq1, e⟩
      · replace e := bindO_eq e
        obtain ⟨g3, e_g3, e⟩ := e
        obtain ⟨g3_0, g3_1⟩ := g3
        try dsimp only at e
        injection e with e; injection e with i0 i1 i2 i3; subst i0 i1 i2 i3; exact fn_specG hU (P := Try.prog) Try.func13 (fun xs w => by kernel_rfl) 0 _ _ (fun _ => rfl) _ _ _ [2, 3] (P1 ++ [.b (z_neqT hq0), .o, .xg (ok1_opt_kept hU a0 p0 q0 n0 k0 A0 hR0  e_g1) [], .o, .o, .o, .o, .o, .cp, .cx (sp0_opt_Trim_L0v1_0_ok hU a0 p0 q0 n0 k0 A0 hR0 r0  g2_0 e_g2) [0], .o, .o, .x (sqMkE_ok rt22 (f := c_Insn) (c := (n0 : Int)) (A := fun _ => (⟨0#8, 0#8, 0#8, 0#16, 0#32⟩ : Insn)) c_Insn_len hq1 (by decide)) [], .o, .o, .o, .x (sqMkE_ok rt33 (f := cZ) (c := (n0 : Int)) (A := fun _ => 0) cZ_len hq1 (by decide)) [], .o, .o, .o, .o, .cp, .cx (sp0_opt_Trim_L1v1_0_ok hU a0 p0 q0 n0 k0 A0 hR0 r0 g2_0  g3_0 g3_1 e_g3) [0, 1, 2, 3], .r [0, 1, 2, 3, 4, 5, 6, 7, 8, 9, 10, 11, 12, 13, 14] [] [], .o, .o, .o, .o, .o, .qb (slLow_ok (T := 22) (e := 40) (sz := 5) (N := 0) (x := 0) .row (by kernel_rfl) (fun w => by kernel_rfl) (show inR 0 (0 + 1) = true from by decide)) 2, .o, .o, .o, .o, .o, .qb (slLow_ok (T := 33) (e := 3) (sz := 1) (N := 0) (x := 0) .row (by kernel_rfl) (fun w => by kernel_rfl) (show inR 0 (0 + 1) = true from by decide)) 3, .o, .o, .o]) [] (fun b => by kernel_rfl)
      · exact none_some e
  · cases e
theorem ok1_opt_Trim (c1_0 : Int) (e : m_opt_Trim n0 A0 = some (.e1 c1_0)) : SpcG Try.prog M B0 S (sq1_opt_Trim a0 p0 q0 n0 k0 A0 c1_0) := by
  unfold m_opt_Trim at e
  replace e := bindO_eq e
  obtain ⟨r0, e_r0, e⟩ := e
  try dsimp only at e
  replace e := cond_eq_or e
  rcases e with ⟨hq0, e⟩ | ⟨hq0, e⟩
  · replace e := bindO_eq e
    obtain ⟨g1, e_g1, e⟩ := e
    rcases g1 with ⟨g1_0⟩ | _
    · try dsimp only at e
      replace e := bindO_eq e
      obtain ⟨g2, e_g2, e⟩ := e
      obtain ⟨g2_0⟩ := g2
      try dsimp only at e
      replace e := cond_eq_or e
      rcases e with ⟨hq1, e⟩ | ⟨hq1, e⟩
      · replace e := bindO_eq e
        obtain ⟨g3, e_g3, e⟩ := e
        obtain ⟨g3_0, g3_1, g3_2, g3_3⟩ := g3
        try dsimp only at e
        replace e := cond_eq_or e
        rcases e with ⟨hq2, e⟩ | ⟨hq2, e⟩
        · replace e := cond_eq_or e
          rcases e with ⟨hq3, e⟩ | ⟨hq3, e⟩
          · cases e
          · exact none_some e
        · exact none_some e
      · exact none_some e
    · try dsimp only at e
      replace e := bindO_eq e
      obtain ⟨g2, e_g2, e⟩ := e
      obtain ⟨g2_0⟩ := g2
      try dsimp only at e
      replace e := cond_eq_or e
      rcases e with ⟨hq1, e⟩ | ⟨hq1, e⟩
      · replace e := bindO_eq e
        obtain ⟨g3, e_g3, e⟩ := e
        obtain ⟨g3_0, g3_1⟩ := g3
        try dsimp only at e
        cases e
      · exact none_some e
  · injection e with e; injection e with i0; subst i0; exact fn_specG hU (P := Try.prog) Try.func13 (fun xs w => by kernel_rfl) 0 _ _ (fun _ => rfl) _ _ _ [] [.o, .o, .o, .o, .cg (ok_insn_Check hU a0 p0 q0 n0 k0 A0 hR0 r0 e_r0), .o, .o, .o, .o, .o, .o, .b (z_neqF hq0), .o, .o, .o, .o] [] (fun b => by kernel_rfl)
noncomputable def m_opt_near (y0 : Int) (y1 : Int) : Bool :=
  bif decide ((-32768) ≤ (IntKind.i64.wrap ((IntKind.i64.wrap (y1 - y0)) - 1))) then
    ((decide ((IntKind.i64.wrap ((IntKind.i64.wrap (y1 - y0)) - 1)) ≤ 32767)))
  else (false)
end
section
variable {M : Nat → Prop} {B0 : Nat} {S : World → Prop} (hU : Up M B0 S)
include hU
theorem ok_opt_near (y0 : Int) (y1 : Int) (r : Bool) (e : m_opt_near y0 y1 = r) : ConG Try.prog S 34 #[.int .i64 (y0), .int .i64 (y1)] (.bool (r)) := by
  unfold m_opt_near at e
  replace e := cond_eq_or e
  rcases e with ⟨hq0, e⟩ | ⟨hq0, e⟩
  · subst e; exact fn_conG hU (P := Try.prog) Try.func34 (fun xs w => by kernel_rfl) _ _ [.o, .o, .o, .o, .o, .o, .o, .b (z_geqT hq0), .o, .o, .o, .o, .o] [] (fun b => by kernel_rfl)
  · subst e; exact fn_conG hU (P := Try.prog) Try.func34 (fun xs w => by kernel_rfl) _ _ [.o, .o, .o, .o, .o, .o, .o, .b (z_geqF hq0), .o, .o, .o] [] (fun b => by kernel_rfl)
inductive Sh_opt_Thread_L0_L1v2 where
  | c0 (sb0_0 : Nat → Int) (sb0_1 : Int)
inductive Ex_opt_Thread_L0_L1v2 where
  | e0 (c0_0 : Nat → Int) (c0_1 : Int) (c0_2 : Int) (c0_3 : BitVec 8) (c0_4 : Bool)
noncomputable def st_opt_Thread_L0_L1v2 (n0 : Nat) (A0 : Nat → Insn) (s0_2 : Int) : Sh_opt_Thread_L0_L1v2 → Option (Sh_opt_Thread_L0_L1v2 ⊕ Ex_opt_Thread_L0_L1v2)
  | .c0 sb0_0 sb0_1 =>
    bif inR sb0_1 n0 then
      (bif ((A0 (sb0_1).toNat)).fOp == 5#8 then
        (bif inR sb0_1 4096 then
          ((m_insn_Target n0 A0 sb0_1).bind fun rc0 =>
          bif inR rc0.1 n0 then
            (bif ((A0 (rc0.1).toNat)).fOp == 5#8 then
              (bif inR rc0.1 4096 then
                (bif ((updF sb0_0 (sb0_1).toNat (IntKind.i64.wrap (s0_2 + 1))) (rc0.1).toNat) == (IntKind.i64.wrap (s0_2 + 1)) then
                  (some (.inr (.e0 (updF sb0_0 (sb0_1).toNat (IntKind.i64.wrap (s0_2 + 1))) sb0_1 sb0_1 ((A0 (sb0_1).toNat)).fOp true)))
                else (bif m_opt_near s0_2 rc0.1 then
                  (some (.inl (.c0 (updF sb0_0 (sb0_1).toNat (IntKind.i64.wrap (s0_2 + 1))) rc0.1)))
                else (some (.inr (.e0 (updF sb0_0 (sb0_1).toNat (IntKind.i64.wrap (s0_2 + 1))) sb0_1 sb0_1 ((A0 (sb0_1).toNat)).fOp true)))))
              else (none))
            else (bif m_opt_near s0_2 rc0.1 then
              (some (.inl (.c0 (updF sb0_0 (sb0_1).toNat (IntKind.i64.wrap (s0_2 + 1))) rc0.1)))
            else (some (.inr (.e0 (updF sb0_0 (sb0_1).toNat (IntKind.i64.wrap (s0_2 + 1))) sb0_1 sb0_1 ((A0 (sb0_1).toNat)).fOp true)))))
          else (none))
        else (none))
      else (some (.inr (.e0 sb0_0 sb0_1 sb0_1 ((A0 (sb0_1).toNat)).fOp false))))
    else (none)
noncomputable def bd_opt_Thread_L0_L1v2 : Code := codeOf Try.f14 [1, 1, 1, 1, 1, 0, 1, 0, 0, 1, 1, 0, 0, 1, 1, 1, 0, 0, 0]
def fl_opt_Thread_L0_L1v2 (a0 : Option Addr) (p0 : Nat) (q0 : Nat) (n0 : Nat) (k0 : Nat) (A0 : Nat → Insn) (r0 : (Int) × (Int)) (s0_0 : Nat → Insn) (s0_1 : Nat → Int) (s0_2 : Int) (rb0 : (Int) × (Bool)) : Sh_opt_Thread_L0_L1v2 → List L1 → List Value
  | .c0 sb0_0 sb0_1, ls => [.slice a0 n0 (n0 + k0), .slice none 0 0, .int .i64 (0), (rowV (lget ls 0) n0 5), .pointer (some ⟨(lget ls 1).n, 0, none⟩), .int .i64 (s0_2), .int .i64 (sb0_1), .int .i64 ((n0 : Int)), .int .i64 (s0_2), .bool true, .int .i64 (s0_2), .slice a0 n0 (n0 + k0), .int .i64 (s0_2), .pointer (some ⟨p0, q0 + (s0_2).toNat * 5, none⟩), .agg #[.int .u8 (nn ((A0 (s0_2).toNat)).fOp), .int .u8 (nn ((A0 (s0_2).toNat)).fDst), .int .u8 (nn ((A0 (s0_2).toNat)).fSrc), .int .i16 (ii ((A0 (s0_2).toNat)).fOff), .int .i32 (ii ((A0 (s0_2).toNat)).fImm)], .bool true, .bool false, .tuple #[.int .i64 (rb0.1), .bool (rb0.2)], .slice a0 n0 (n0 + k0), .int .i64 (s0_2), .tuple #[.int .i64 (rb0.1), .bool (rb0.2)], .int .i64 (rb0.1), .bool ((rb0.2)), ((lget ls 2).u 81), ((lget ls 2).u 82), ((lget ls 2).u 83), ((lget ls 2).u 84), ((lget ls 2).u 85), ((lget ls 2).u 86), ((lget ls 2).u 87), ((lget ls 2).u 88), ((lget ls 2).u 89), ((lget ls 2).u 90), ((lget ls 2).u 91)]
def mf_opt_Thread_L0_L1v2 : Sh_opt_Thread_L0_L1v2 → List (Nat × Nat)
  | .c0 _ _ => [(1, 1), (2, 2), (4, 18), (16, 37), (11, 0)]
noncomputable def fr_opt_Thread_L0_L1v2 (a0 : Option Addr) (p0 : Nat) (q0 : Nat) (n0 : Nat) (k0 : Nat) (A0 : Nat → Insn) (r0 : (Int) × (Int)) (s0_0 : Nat → Insn) (s0_1 : Nat → Int) (s0_2 : Int) (rb0 : (Int) × (Bool)) (s : Sh_opt_Thread_L0_L1v2) : List L1 → List Value := mrgF (mf_opt_Thread_L0_L1v2 s) (fl_opt_Thread_L0_L1v2 a0 p0 q0 n0 k0 A0 r0 s0_0 s0_1 s0_2 rb0 s) 3
def Hs_opt_Thread_L0_L1v2 (a0 : Option Addr) (p0 : Nat) (q0 : Nat) (n0 : Nat) (k0 : Nat) (A0 : Nat → Insn) (r0 : (Int) × (Int)) (s0_0 : Nat → Insn) (s0_1 : Nat → Int) (s0_2 : Int) (rb0 : (Int) × (Bool)) : Sh_opt_Thread_L0_L1v2 → List L1 → List Obj
  | .c0 sb0_0 sb0_1, ls => [rowO (lget ls 0) (esG c_Insn n0 s0_0) 40 n0 5, .cells ⟨esG cZ 4096 sb0_0⟩ 70, unb, unb]
def vl_opt_Thread_L0_L1v2 (a0 : Option Addr) (p0 : Nat) (q0 : Nat) (n0 : Nat) (k0 : Nat) (A0 : Nat → Insn) (r0 : (Int) × (Int)) (s0_0 : Nat → Insn) (s0_1 : Nat → Int) (s0_2 : Int) (rb0 : (Int) × (Bool)) : Ex_opt_Thread_L0_L1v2 → List L1 → List Value
  | .e0 c0_0 c0_1 c0_2 c0_3 c0_4, ls => [.slice a0 n0 (n0 + k0), .slice none 0 0, .int .i64 (0), (rowV (lget ls 0) n0 5), .pointer (some ⟨(lget ls 1).n, 0, none⟩), .int .i64 (s0_2), .int .i64 (c0_1), .int .i64 ((n0 : Int)), .int .i64 (s0_2), .bool true, .int .i64 (s0_2), .slice a0 n0 (n0 + k0), .int .i64 (s0_2), .pointer (some ⟨p0, q0 + (s0_2).toNat * 5, none⟩), .agg #[.int .u8 (nn ((A0 (s0_2).toNat)).fOp), .int .u8 (nn ((A0 (s0_2).toNat)).fDst), .int .u8 (nn ((A0 (s0_2).toNat)).fSrc), .int .i16 (ii ((A0 (s0_2).toNat)).fOff), .int .i32 (ii ((A0 (s0_2).toNat)).fImm)], .bool true, .bool false, .tuple #[.int .i64 (rb0.1), .bool (rb0.2)], .slice a0 n0 (n0 + k0), .int .i64 (s0_2), .tuple #[.int .i64 (rb0.1), .bool (rb0.2)], .int .i64 (rb0.1), .bool ((rb0.2)), .slice a0 n0 (n0 + k0), .int .i64 (c0_2), .int .u8 (nn c0_3), .bool (c0_4), ((lget ls 2).u 81), ((lget ls 2).u 82), ((lget ls 2).u 83), ((lget ls 2).u 84), ((lget ls 2).u 85), ((lget ls 2).u 86), ((lget ls 2).u 87), ((lget ls 2).u 88), ((lget ls 2).u 89), ((lget ls 2).u 90), ((lget ls 2).u 91)]
def mk_opt_Thread_L0_L1v2 : Ex_opt_Thread_L0_L1v2 → List (Nat × Nat)
  | .e0 _ _ _ _ _ => [(1, 1), (2, 2), (4, 18), (18, 2), (2, 31), (11, 0)]
noncomputable def vf_opt_Thread_L0_L1v2 (a0 : Option Addr) (p0 : Nat) (q0 : Nat) (n0 : Nat) (k0 : Nat) (A0 : Nat → Insn) (r0 : (Int) × (Int)) (s0_0 : Nat → Insn) (s0_1 : Nat → Int) (s0_2 : Int) (rb0 : (Int) × (Bool)) (r : Ex_opt_Thread_L0_L1v2) : List L1 → List Value := mrgF (mk_opt_Thread_L0_L1v2 r) (vl_opt_Thread_L0_L1v2 a0 p0 q0 n0 k0 A0 r0 s0_0 s0_1 s0_2 rb0 r) 3
def Hf_opt_Thread_L0_L1v2 (a0 : Option Addr) (p0 : Nat) (q0 : Nat) (n0 : Nat) (k0 : Nat) (A0 : Nat → Insn) (r0 : (Int) × (Int)) (s0_0 : Nat → Insn) (s0_1 : Nat → Int) (s0_2 : Int) (rb0 : (Int) × (Bool)) : Ex_opt_Thread_L0_L1v2 → List L1 → List Obj
  | .e0 c0_0 c0_1 c0_2 c0_3 c0_4, ls => [rowO (lget ls 0) (esG c_Insn n0 s0_0) 40 n0 5, .cells ⟨esG cZ 4096 c0_0⟩ 70, unb, unb]
def ex_opt_Thread_L0_L1v2 : Ex_opt_Thread_L0_L1v2 → Ex
  | .e0 _ _ _ _ _ => (.exit 2)
end
section
variable {M : Nat → Prop} {B0 : Nat} {S : World → Prop} (hU : Up M B0 S) (a0 : Option Addr) (p0 : Nat) (q0 : Nat) (n0 : Nat) (k0 : Nat) (A0 : Nat → Insn) (hR0 : Ro S c_Insn 5 a0 p0 q0 n0 A0) (r0 : (Int) × (Int)) (s0_0 : Nat → Insn) (s0_1 : Nat → Int) (s0_2 : Int) (rb0 : (Int) × (Bool))
include hU a0 p0 q0 n0 k0 A0 hR0 r0 s0_0 s0_1 s0_2 rb0
theorem go_opt_Thread_L0_L1v2 (s : Sh_opt_Thread_L0_L1v2) (r : Ex_opt_Thread_L0_L1v2) (h : lpO (st_opt_Thread_L0_L1v2 n0 A0 s0_2) s = some r) : GoesG Try.prog M B0 S (.loop bd_opt_Thread_L0_L1v2) 4 (fr_opt_Thread_L0_L1v2 a0 p0 q0 n0 k0 A0 r0 s0_0 s0_1 s0_2 rb0 s) (Hs_opt_Thread_L0_L1v2 a0 p0 q0 n0 k0 A0 r0 s0_0 s0_1 s0_2 rb0 s) (ex_opt_Thread_L0_L1v2 r) 3 (vf_opt_Thread_L0_L1v2 a0 p0 q0 n0 k0 A0 r0 s0_0 s0_1 s0_2 rb0 r) (Hf_opt_Thread_L0_L1v2 a0 p0 q0 n0 k0 A0 r0 s0_0 s0_1 s0_2 rb0 r) 4 :=
  goes_lpO (fun s q e => by
    cases s with
    | c0 sb0_0 sb0_1 =>
      unfold st_opt_Thread_L0_L1v2 at e
      dsimp only at e
      replace e := cond_eq_or e
      rcases e with ⟨hq0, e⟩ | ⟨hq0, e⟩
      · replace e := cond_eq_or e
        let P1 : List (PG Try.prog M B0 S) := [.o, .o, .q (ixRo_ok (kd := .i64) (T := 22) (x := sb0_1) (sz := 5) rfl (fun w => by kernel_rfl) hR0 hq0), .o, .l (accRo hR0 c_Insn_len (inR_nat hq0) 0 [.int .u8 (nn ((A0 (sb0_1).toNat)).fOp)] rfl)]
        rcases e with ⟨hq1, e⟩ | ⟨hq1, e⟩
        · replace e := cond_eq_or e
          let P2 : List (PG Try.prog M B0 S) := P1 ++ [.t (u_eq ((A0 (sb0_1).toNat)).fOp (5#8)) hq1, .o, .o, .o]
          rcases e with ⟨hq2, e⟩ | ⟨hq2, e⟩
          · replace e := bindO_eq e
            obtain ⟨rc0, e_rc0, e⟩ := e
            try dsimp only at e
            replace e := cond_eq_or e
            let P3 : List (PG Try.prog M B0 S) := P2 ++ [.q (ixA_ok (kd := .i64) (T := 70) (x := sb0_1) (sz := 1) (N := 4096) rfl rfl (fun w => by kernel_rfl) hq2), .x (sqStF_ok (T := 3) (e := 70) (f := cZ) (A := sb0_0) (v := (IntKind.i64.wrap (s0_2 + 1))) 0 (.int .i64 ((IntKind.i64.wrap (s0_2 + 1)))) cZ_len cZ_one rfl rfl (fun w => by kernel_rfl) (inR_nat hq2)) [1], .o, .o, .cg (ok_insn_Target hU a0 p0 q0 n0 k0 A0 hR0 sb0_1 rc0 e_rc0), .o, .o, .o, .o, .o, .o, .o]
            rcases e with ⟨hq3, e⟩ | ⟨hq3, e⟩
            · replace e := cond_eq_or e
              let P4 : List (PG Try.prog M B0 S) := P3 ++ [.q (ixRo_ok (kd := .i64) (T := 22) (x := rc0.1) (sz := 5) rfl (fun w => by kernel_rfl) hR0 hq3), .o, .l (accRo hR0 c_Insn_len (inR_nat hq3) 0 [.int .u8 (nn ((A0 (rc0.1).toNat)).fOp)] rfl)]
              rcases e with ⟨hq4, e⟩ | ⟨hq4, e⟩
              · replace e := cond_eq_or e
                let P5 : List (PG Try.prog M B0 S) := P4 ++ [.t (u_eq ((A0 (rc0.1).toNat)).fOp (5#8)) hq4, .o, .o]
                rcases e with ⟨hq5, e⟩ | ⟨hq5, e⟩
                · replace e := cond_eq_or e
                  let P6 : List (PG Try.prog M B0 S) := P5 ++ [.q (ixA_ok (kd := .i64) (T := 70) (x := rc0.1) (sz := 1) (N := 4096) rfl rfl (fun w => by kernel_rfl) hq5), .l (accF (i := 1) (f := cZ) (A := updF sb0_0 (sb0_1).toNat (IntKind.i64.wrap (s0_2 + 1))) (k := (rc0.1).toNat) 0 [.int .i64 (((updF sb0_0 (sb0_1).toNat (IntKind.i64.wrap (s0_2 + 1))) (rc0.1).toNat))] cZ_len (inR_nat hq5) rfl), .o, .o]
                  rcases e with ⟨hq6, e⟩ | ⟨hq6, e⟩
                  · cases e; exact ⟨ne_exit 2, goes_runM hU (P6 ++ [.b (z_eqlT hq6), .o, .o, .o]) [0, 1, 2] (fun b => rfl) (by decide) rfl rfl (fun b => by kernel_rfl)⟩
                  · replace e := cond_eq_or e
                    rcases e with ⟨hq7, e⟩ | ⟨hq7, e⟩
                    · cases e; exact goes_runM hU (P6 ++ [.b (z_eqlF hq6), .o, .o, .o, .o, .cg (ok_opt_near hU s0_2 rc0.1 true hq7), .o, .o, .o, .o]) [0, 1, 2] (fun b => rfl) (by decide) rfl rfl (fun b => by kernel_rfl)
                    · cases e; exact ⟨ne_exit 2, goes_runM hU (P6 ++ [.b (z_eqlF hq6), .o, .o, .o, .o, .cg (ok_opt_near hU s0_2 rc0.1 false hq7), .o, .o]) [0, 1, 2] (fun b => rfl) (by decide) rfl rfl (fun b => by kernel_rfl)⟩
                · exact none_some e
              · replace e := cond_eq_or e
                rcases e with ⟨hq5, e⟩ | ⟨hq5, e⟩
                · cases e; exact goes_runM hU (P4 ++ [.t (u_eq ((A0 (rc0.1).toNat)).fOp (5#8)) hq4, .o, .o, .o, .o, .o, .cg (ok_opt_near hU s0_2 rc0.1 true hq5), .o, .o, .o, .o]) [0, 1, 2] (fun b => rfl) (by decide) rfl rfl (fun b => by kernel_rfl)
                · cases e; exact ⟨ne_exit 2, goes_runM hU (P4 ++ [.t (u_eq ((A0 (rc0.1).toNat)).fOp (5#8)) hq4, .o, .o, .o, .o, .o, .cg (ok_opt_near hU s0_2 rc0.1 false hq5), .o, .o]) [0, 1, 2] (fun b => rfl) (by decide) rfl rfl (fun b => by kernel_rfl)⟩
            · exact none_some e
          · exact none_some e
        · cases e; exact ⟨ne_exit 2, goes_runM hU (P1 ++ [.t (u_eq ((A0 (sb0_1).toNat)).fOp (5#8)) hq1]) [0, 1, 2] (fun b => rfl) (by decide) rfl rfl (fun b => by kernel_rfl)⟩
      · exact none_some e) s r h
noncomputable def t0_opt_Thread_L0_L1v2_0 (a0 : Option Addr) (p0 : Nat) (q0 : Nat) (n0 : Nat) (k0 : Nat) (A0 : Nat → Insn) (r0 : (Int) × (Int)) (s0_0 : Nat → Insn) (s0_1 : Nat → Int) (s0_2 : Int) (rb0 : (Int) × (Bool)) (sb0_0 : Nat → Int) (sb0_1 : Int) (ls : List L1) : List Value := List.append [.slice a0 n0 (n0 + k0), ((lget ls 2).u 1), .slice none 0 0, .int .i64 (0), ((lget ls 2).u 4), ((lget ls 2).u 5), (rowV (lget ls 0) n0 5), .pointer (some ⟨(lget ls 1).n, 0, none⟩), .int .i64 (s0_2), .int .i64 (sb0_1), .bool ((rb0.2))] (List.append (jks (lget ls 2).u 11 17) (List.append [.int .i64 ((n0 : Int)), .int .i64 (s0_2), .bool true, .int .i64 (s0_2), .slice a0 n0 (n0 + k0), .int .i64 (s0_2), .pointer (some ⟨p0, q0 + (s0_2).toNat * 5, none⟩), .agg #[.int .u8 (nn ((A0 (s0_2).toNat)).fOp), .int .u8 (nn ((A0 (s0_2).toNat)).fDst), .int .u8 (nn ((A0 (s0_2).toNat)).fSrc), .int .i16 (ii ((A0 (s0_2).toNat)).fOff), .int .i32 (ii ((A0 (s0_2).toNat)).fImm)], .bool true, .bool false, .tuple #[.int .i64 (rb0.1), .bool (rb0.2)], .slice a0 n0 (n0 + k0), .int .i64 (s0_2), .tuple #[.int .i64 (rb0.1), .bool (rb0.2)], .int .i64 (rb0.1), .bool ((rb0.2))] (jks (lget ls 2).u 44 48)))
def pre_opt_Thread_L0_L1v2_0 (a0 : Option Addr) (p0 : Nat) (q0 : Nat) (n0 : Nat) (k0 : Nat) (A0 : Nat → Insn) (r0 : (Int) × (Int)) (s0_0 : Nat → Insn) (s0_1 : Nat → Int) (s0_2 : Int) (rb0 : (Int) × (Bool)) (sb0_0 : Nat → Int) (sb0_1 : Int) (ls : List L1) : List Obj := [rowO (lget ls 0) (esG c_Insn n0 s0_0) 40 n0 5, .cells ⟨esG cZ 4096 sb0_0⟩ 70, unb]
theorem sp0_opt_Thread_L0_L1v2_0_ok (sb0_0 : Nat → Int) (sb0_1 : Int) (c0_0 : Nat → Int) (c0_1 : Int) (c0_2 : Int) (c0_3 : BitVec 8) (c0_4 : Bool) (h : lpO (st_opt_Thread_L0_L1v2 n0 A0 s0_2) (.c0 sb0_0 sb0_1) = some (.e0 c0_0 c0_1 c0_2 c0_3 c0_4)) : SpcG Try.prog M B0 S ⟨fun ls => .code (.loop bd_opt_Thread_L0_L1v2) (t0_opt_Thread_L0_L1v2_0 a0 p0 q0 n0 k0 A0 r0 s0_0 s0_1 s0_2 rb0 sb0_0 sb0_1 ls), pre_opt_Thread_L0_L1v2_0 a0 p0 q0 n0 k0 A0 r0 s0_0 s0_1 s0_2 rb0 sb0_0 sb0_1, 1, (.exit 2), fun ls => vf_opt_Thread_L0_L1v2 a0 p0 q0 n0 k0 A0 r0 s0_0 s0_1 s0_2 rb0 (.e0 c0_0 c0_1 c0_2 c0_3 c0_4) (ls.take 3 ++ ls.drop 3), fun ls => (Hf_opt_Thread_L0_L1v2 a0 p0 q0 n0 k0 A0 r0 s0_0 s0_1 s0_2 rb0 (.e0 c0_0 c0_1 c0_2 c0_3 c0_4) (ls.take 3 ++ ls.drop 3)).take 3 ++ List.replicate 0 unb, fun ls => (Hf_opt_Thread_L0_L1v2 a0 p0 q0 n0 k0 A0 r0 s0_0 s0_1 s0_2 rb0 (.e0 c0_0 c0_1 c0_2 c0_3 c0_4) (ls.take 3 ++ ls.drop 3)).drop 3⟩ :=
  spc_of_goesM hU 0 (k0 := 3) (go_opt_Thread_L0_L1v2 hU a0 p0 q0 n0 k0 A0 hR0 r0 s0_0 s0_1 s0_2 rb0 _ _ h) (t0_opt_Thread_L0_L1v2_0 a0 p0 q0 n0 k0 A0 r0 s0_0 s0_1 s0_2 rb0 sb0_0 sb0_1) (pre_opt_Thread_L0_L1v2_0 a0 p0 q0 n0 k0 A0 r0 s0_0 s0_1 s0_2 rb0 sb0_0 sb0_1) (fun _ => rfl) (fun ls h => by match ls, h with | [l0, l1, l2], _ => exact ⟨by kernel_rfl, by kernel_rfl⟩) (fun ls h => by match ls, h with | [l0, l1, l2], _ => rfl) (by decide) (by decide) (fun ls => rfl)
inductive Sh_opt_Thread_L0 where
  | c0 (s0_0 : Nat → Insn) (s0_1 : Nat → Int) (s0_2 : Int)
inductive Ex_opt_Thread_L0 where
  | e0 (c0_0 : Nat → Insn) (c0_1 : Nat → Int)
noncomputable def st_opt_Thread_L0 (n0 : Nat) (A0 : Nat → Insn) : Sh_opt_Thread_L0 → Option (Sh_opt_Thread_L0 ⊕ Ex_opt_Thread_L0)
  | .c0 s0_0 s0_1 s0_2 =>
    bif decide (s0_2 < (n0 : Int)) then
      (bif inR s0_2 n0 then
        (bif m_op_Jumps ((A0 (s0_2).toNat)) then
          ((m_insn_Target n0 A0 s0_2).bind fun rb0 =>
          (lpO (st_opt_Thread_L0_L1v2 n0 A0 s0_2) (.c0 s0_1 rb0.1)).bind fun gb1 => match gb1 with
          | .e0 gb1_0 gb1_1 gb1_2 gb1_3 gb1_4 =>
          bindT (updF s0_0 (s0_2).toNat (⟨((s0_0 (s0_2).toNat)).fOp, ((s0_0 (s0_2).toNat)).fDst, ((s0_0 (s0_2).toNat)).fSrc, (BitVec.ofInt 16 (IntKind.i64.wrap ((IntKind.i64.wrap (gb1_1 - s0_2)) - 1))), ((s0_0 (s0_2).toNat)).fImm⟩ : Insn)) fun rb2 =>
          some (.inl (.c0 rb2 gb1_0 (IntKind.i64.wrap (s0_2 + 1)))))
        else (some (.inl (.c0 s0_0 s0_1 (IntKind.i64.wrap (s0_2 + 1))))))
      else (none))
    else (some (.inr (.e0 s0_0 s0_1)))
noncomputable def bd_opt_Thread_L0 : Code := codeOf Try.f14 [1, 1, 1, 1, 1, 0, 1, 0, 0]
def fl_opt_Thread_L0 (a0 : Option Addr) (p0 : Nat) (q0 : Nat) (n0 : Nat) (k0 : Nat) (A0 : Nat → Insn) (r0 : (Int) × (Int)) : Sh_opt_Thread_L0 → List L1 → List Value
  | .c0 s0_0 s0_1 s0_2, ls => [.slice a0 n0 (n0 + k0), .slice none 0 0, .int .i64 (0), (rowV (lget ls 0) n0 5), .pointer (some ⟨(lget ls 1).n, 0, none⟩), .int .i64 ((n0 : Int)), .int .i64 (s0_2)]
def mf_opt_Thread_L0 : Sh_opt_Thread_L0 → List (Nat × Nat)
  | .c0 _ _ _ => [(1, 1), (2, 2), (2, 20), (2, 62)]
noncomputable def fr_opt_Thread_L0 (a0 : Option Addr) (p0 : Nat) (q0 : Nat) (n0 : Nat) (k0 : Nat) (A0 : Nat → Insn) (r0 : (Int) × (Int)) (s : Sh_opt_Thread_L0) : List L1 → List Value := mrgF (mf_opt_Thread_L0 s) (fl_opt_Thread_L0 a0 p0 q0 n0 k0 A0 r0 s) 2
def Hs_opt_Thread_L0 (a0 : Option Addr) (p0 : Nat) (q0 : Nat) (n0 : Nat) (k0 : Nat) (A0 : Nat → Insn) (r0 : (Int) × (Int)) : Sh_opt_Thread_L0 → List L1 → List Obj
  | .c0 s0_0 s0_1 s0_2, ls => [rowO (lget ls 0) (esG c_Insn n0 s0_0) 40 n0 5, .cells ⟨esG cZ 4096 s0_1⟩ 70, unb]
def vl_opt_Thread_L0 (a0 : Option Addr) (p0 : Nat) (q0 : Nat) (n0 : Nat) (k0 : Nat) (A0 : Nat → Insn) (r0 : (Int) × (Int)) : Ex_opt_Thread_L0 → List L1 → List Value
  | .e0 c0_0 c0_1, ls => [.slice a0 n0 (n0 + k0), .slice none 0 0, .int .i64 (0), (rowV (lget ls 0) n0 5), .pointer (some ⟨(lget ls 1).n, 0, none⟩), .int .i64 ((n0 : Int))]
def mk_opt_Thread_L0 : Ex_opt_Thread_L0 → List (Nat × Nat)
  | .e0 _ _ => [(1, 1), (2, 2), (2, 20), (1, 63)]
noncomputable def vf_opt_Thread_L0 (a0 : Option Addr) (p0 : Nat) (q0 : Nat) (n0 : Nat) (k0 : Nat) (A0 : Nat → Insn) (r0 : (Int) × (Int)) (r : Ex_opt_Thread_L0) : List L1 → List Value := mrgF (mk_opt_Thread_L0 r) (vl_opt_Thread_L0 a0 p0 q0 n0 k0 A0 r0 r) 2
def Hf_opt_Thread_L0 (a0 : Option Addr) (p0 : Nat) (q0 : Nat) (n0 : Nat) (k0 : Nat) (A0 : Nat → Insn) (r0 : (Int) × (Int)) : Ex_opt_Thread_L0 → List L1 → List Obj
  | .e0 c0_0 c0_1, ls => [rowO (lget ls 0) (esG c_Insn n0 c0_0) 40 n0 5, .cells ⟨esG cZ 4096 c0_1⟩ 70, unb]
def ex_opt_Thread_L0 : Ex_opt_Thread_L0 → Ex
  | .e0 _ _ => (.exit 0)
end
section
variable {M : Nat → Prop} {B0 : Nat} {S : World → Prop} (hU : Up M B0 S) (a0 : Option Addr) (p0 : Nat) (q0 : Nat) (n0 : Nat) (k0 : Nat) (A0 : Nat → Insn) (hR0 : Ro S c_Insn 5 a0 p0 q0 n0 A0) (r0 : (Int) × (Int))
include hU a0 p0 q0 n0 k0 A0 hR0 r0
theorem go_opt_Thread_L0 (s : Sh_opt_Thread_L0) (r : Ex_opt_Thread_L0) (h : lpO (st_opt_Thread_L0 n0 A0) s = some r) : GoesG Try.prog M B0 S (.loop bd_opt_Thread_L0) 3 (fr_opt_Thread_L0 a0 p0 q0 n0 k0 A0 r0 s) (Hs_opt_Thread_L0 a0 p0 q0 n0 k0 A0 r0 s) (ex_opt_Thread_L0 r) 2 (vf_opt_Thread_L0 a0 p0 q0 n0 k0 A0 r0 r) (Hf_opt_Thread_L0 a0 p0 q0 n0 k0 A0 r0 r) 3 :=
  goes_lpO (fun s q e => by
    cases s with
    | c0 s0_0 s0_1 s0_2 =>
      unfold st_opt_Thread_L0 at e
      dsimp only at e
      replace e := cond_eq_or e
      rcases e with ⟨hq0, e⟩ | ⟨hq0, e⟩
      · replace e := cond_eq_or e
        rcases e with ⟨hq1, e⟩ | ⟨hq1, e⟩
        · replace e := cond_eq_or e
          let P1 : List (PG Try.prog M B0 S) := [.b (z_lssT hq0), .o, .o, .o, .o, .q (ixRo_ok (kd := .i64) (T := 22) (x := s0_2) (sz := 5) rfl (fun w => by kernel_rfl) hR0 hq1), .l (accRo hR0 c_Insn_len (inR_nat hq1) 0 [.int .u8 (nn ((A0 (s0_2).toNat)).fOp), .int .u8 (nn ((A0 (s0_2).toNat)).fDst), .int .u8 (nn ((A0 (s0_2).toNat)).fSrc), .int .i16 (ii ((A0 (s0_2).toNat)).fOff), .int .i32 (ii ((A0 (s0_2).toNat)).fImm)] rfl)]
          rcases e with ⟨hq2, e⟩ | ⟨hq2, e⟩
          · replace e := bindO_eq e
            obtain ⟨rb0, e_rb0, e⟩ := e
            try dsimp only at e
            replace e := bindO_eq e
            obtain ⟨gb1, e_gb1, e⟩ := e
            obtain ⟨gb1_0, gb1_1, gb1_2, gb1_3, gb1_4⟩ := gb1
            try dsimp only at e
            replace e := bindT_eq e
            obtain ⟨rb2, e_rb2, e⟩ := e
            try dsimp only at e
            cases e; exact goes_runM hU (P1 ++ [.cg (ok_op_Jumps hU ((A0 (s0_2).toNat)) true hq2), .o, .o, .o, .cg (ok_insn_Target hU a0 p0 q0 n0 k0 A0 hR0 s0_2 rb0 e_rb0), .o, .o, .o, .o, .o, .cp, .cx (sp0_opt_Thread_L0_L1v2_0_ok hU a0 p0 q0 n0 k0 A0 hR0 r0 s0_0 s0_1 s0_2 rb0 s0_1 rb0.1 gb1_0 gb1_1 gb1_2 gb1_3 gb1_4 e_gb1) [0, 1, 2], .o, .o, .o, .o, .o, .o, .v .i16 (i16_of_z (IntKind.i64.wrap ((IntKind.i64.wrap (gb1_1 - s0_2)) - 1))), .q (ixM_ok (kd := .i64) (T := 22) (x := s0_2) (N := n0) (sz := 5) rfl (fun w => by kernel_rfl) hq1), .o, .x (sqStGr_ok (T := 38) (e := 40) (f := c_Insn) (A := s0_0) (v := (⟨((s0_0 (s0_2).toNat)).fOp, ((s0_0 (s0_2).toNat)).fDst, ((s0_0 (s0_2).toNat)).fSrc, (BitVec.ofInt 16 (IntKind.i64.wrap ((IntKind.i64.wrap (gb1_1 - s0_2)) - 1))), ((s0_0 (s0_2).toNat)).fImm⟩ : Insn)) 3 (.int .i16 (ii (BitVec.ofInt 16 (IntKind.i64.wrap ((IntKind.i64.wrap (gb1_1 - s0_2)) - 1))))) c_Insn_len c_Insn_one rfl rfl (fun w => by kernel_rfl) (inR_nat hq1) e_rb2) [0], .o, .o]) [0, 1] (fun b => rfl) (by decide) rfl rfl (fun b => by kernel_rfl)
          · cases e; exact goes_runM hU (P1 ++ [.cg (ok_op_Jumps hU ((A0 (s0_2).toNat)) false hq2), .o, .o, .o]) [0, 1] (fun b => rfl) (by decide) rfl rfl (fun b => by kernel_rfl)
        · exact none_some e
      · cases e; exact ⟨ne_exit 0, goes_runM hU [.b (z_lssF hq0)] [0, 1] (fun b => rfl) (by decide) rfl rfl (fun b => by kernel_rfl)⟩) s r h
noncomputable def t0_opt_Thread_L0_0 (a0 : Option Addr) (p0 : Nat) (q0 : Nat) (n0 : Nat) (k0 : Nat) (A0 : Nat → Insn) (r0 : (Int) × (Int)) (s0_0 : Nat → Insn) (s0_1 : Nat → Int) (s0_2 : Int) (ls : List L1) : List Value := List.append [.slice a0 n0 (n0 + k0), undef, .slice none 0 0, .int .i64 (0), .int .i64 (r0.1), .int .i64 (r0.2), (rowV (lget ls 0) n0 5), .pointer (some ⟨(lget ls 1).n, 0, none⟩)] (List.append (und 5) (List.append [.tuple #[.int .i64 (r0.1), .int .i64 (r0.2)], .slice a0 n0 (n0 + k0), .tuple #[.int .i64 (r0.1), .int .i64 (r0.2)], .int .i64 (r0.1), .int .i64 (r0.2), .int .i64 (r0.2), .bool false, undef, .slice a0 n0 (n0 + k0), .int .i64 ((n0 : Int)), (rowV (lget ls 0) n0 5), (rowV (lget ls 0) n0 5), .slice a0 n0 (n0 + k0), .int .i64 ((n0 : Int)), .slice a0 n0 (n0 + k0), .int .i64 ((n0 : Int)), .int .i64 (s0_2)] (und 62)))
def pre_opt_Thread_L0_0 (a0 : Option Addr) (p0 : Nat) (q0 : Nat) (n0 : Nat) (k0 : Nat) (A0 : Nat → Insn) (r0 : (Int) × (Int)) (s0_0 : Nat → Insn) (s0_1 : Nat → Int) (s0_2 : Int) (ls : List L1) : List Obj := [rowO (lget ls 0) (esG c_Insn n0 s0_0) 40 n0 5, .cells ⟨esG cZ 4096 s0_1⟩ 70]
theorem sp0_opt_Thread_L0_0_ok (s0_0 : Nat → Insn) (s0_1 : Nat → Int) (s0_2 : Int) (c0_0 : Nat → Insn) (c0_1 : Nat → Int) (h : lpO (st_opt_Thread_L0 n0 A0) (.c0 s0_0 s0_1 s0_2) = some (.e0 c0_0 c0_1)) : SpcG Try.prog M B0 S ⟨fun ls => .code (.loop bd_opt_Thread_L0) (t0_opt_Thread_L0_0 a0 p0 q0 n0 k0 A0 r0 s0_0 s0_1 s0_2 ls), pre_opt_Thread_L0_0 a0 p0 q0 n0 k0 A0 r0 s0_0 s0_1 s0_2, 1, (.exit 0), fun ls => vf_opt_Thread_L0 a0 p0 q0 n0 k0 A0 r0 (.e0 c0_0 c0_1) (ls.take 2 ++ ls.drop 2), fun ls => (Hf_opt_Thread_L0 a0 p0 q0 n0 k0 A0 r0 (.e0 c0_0 c0_1) (ls.take 2 ++ ls.drop 2)).take 2 ++ List.replicate 0 unb, fun ls => (Hf_opt_Thread_L0 a0 p0 q0 n0 k0 A0 r0 (.e0 c0_0 c0_1) (ls.take 2 ++ ls.drop 2)).drop 2⟩ :=
  spc_of_goesM hU 0 (k0 := 2) (go_opt_Thread_L0 hU a0 p0 q0 n0 k0 A0 hR0 r0 _ _ h) (t0_opt_Thread_L0_0 a0 p0 q0 n0 k0 A0 r0 s0_0 s0_1 s0_2) (pre_opt_Thread_L0_0 a0 p0 q0 n0 k0 A0 r0 s0_0 s0_1 s0_2) (fun _ => rfl) (fun ls h => by match ls, h with | [l0, l1], _ => exact ⟨by kernel_rfl, by kernel_rfl⟩) (fun ls h => by match ls, h with | [l0, l1], _ => rfl) (by decide) (by decide) (fun ls => rfl)
inductive R_opt_Thread where
  | e0 (c0_0 : Nat → Insn)
  | e1 (c1_0 : Int)
noncomputable def m_opt_Thread (n0 : Nat) (A0 : Nat → Insn) : Option R_opt_Thread :=
  (m_insn_Check n0 A0).bind fun r0 =>
  bif r0.2 == 0 then
    (bif decide (n0 ≤ 1000000) then
      ((lpO (st_opt_Thread_L0 n0 A0) (.c0 A0 (fun _ => 0) 0)).bind fun g1 => match g1 with
      | .e0 g1_0 g1_1 =>
      some (.e0 g1_0))
    else (none))
  else (some (.e1 r0.2))
def sq0_opt_Thread (a0 : Option Addr) (p0 : Nat) (q0 : Nat) (n0 : Nat) (k0 : Nat) (A0 : Nat → Insn) (c0_0 : Nat → Insn) : Spc := ⟨fun ls => .call 14 #[.slice a0 n0 (n0 + k0)], fun ls => [], 1, .normal, fun ls => [.tuple #[(rowV (lget ls 0) n0 5), .int .i64 (0)]], fun ls => [], fun ls => [rowO (lget ls 0) (esG c_Insn n0 c0_0) 40 n0 5]⟩
def sq1_opt_Thread (a0 : Option Addr) (p0 : Nat) (q0 : Nat) (n0 : Nat) (k0 : Nat) (A0 : Nat → Insn) (c1_0 : Int) : Spc := ⟨fun ls => .call 14 #[.slice a0 n0 (n0 + k0)], fun ls => [], 0, .normal, fun ls => [.tuple #[.slice none 0 0, .int .i64 (c1_0)]], fun ls => [], fun ls => []⟩
end
section
variable {M : Nat → Prop} {B0 : Nat} {S : World → Prop} (hU : Up M B0 S) (a0 : Option Addr) (p0 : Nat) (q0 : Nat) (n0 : Nat) (k0 : Nat) (A0 : Nat → Insn) (hR0 : Ro S c_Insn 5 a0 p0 q0 n0 A0)
include hU a0 p0 q0 n0 k0 A0 hR0
theorem ok0_opt_Thread (c0_0 : Nat → Insn) (e : m_opt_Thread n0 A0 = some (.e0 c0_0)) : SpcG Try.prog M B0 S (sq0_opt_Thread a0 p0 q0 n0 k0 A0 c0_0) := by
  unfold m_opt_Thread at e
  replace e := bindO_eq e
  obtain ⟨r0, e_r0, e⟩ := e
  try dsimp only at e
  replace e := cond_eq_or e
  rcases e with ⟨hq0, e⟩ | ⟨hq0, e⟩
  · replace e := cond_eq_or e
    rcases e with ⟨hq1, e⟩ | ⟨hq1, e⟩
    · replace e := bindO_eq e
      obtain ⟨g1, e_g1, e⟩ := e
      obtain ⟨g1_0, g1_1⟩ := g1
      try dsimp only at e
      injection e with e; injection e with i0; subst i0; exact fn_specG hU (P := Try.prog) Try.func14 (fun xs w => by kernel_rfl) 0 _ _ (fun _ => rfl) _ _ _ [0] [.o, .o, .o, .cg (ok_insn_Check hU a0 p0 q0 n0 k0 A0 hR0 r0 e_r0), .o, .o, .o, .o, .o, .o, .b (z_neqT hq0), .o, .o, .x (sqMkN_ok rt22 (f := c_Insn) (a0 := (⟨0#8, 0#8, 0#8, 0#16, 0#32⟩ : Insn)) c_Insn_len (by kernel_rfl) hq1 (by decide)) [], .o, .o, .o, .x (sqCpR_ok (ty := 3) rt22 #[false, false] (f := c_Insn) (N := n0) (c := (n0 + k0)) (B := (fun _ => (⟨0#8, 0#8, 0#8, 0#16, 0#32⟩ : Insn))) hR0 c_Insn_len c_Insn_one) [0], .o, .o, .o, .o, .cp, .cx (sp0_opt_Thread_L0_0_ok hU a0 p0 q0 n0 k0 A0 hR0 r0 A0 (fun _ => 0) 0 g1_0 g1_1 e_g1) [0, 1], .o, .o, .o] [] (fun b => by kernel_rfl)
    · exact none_some e
  · cases e
theorem ok1_opt_Thread (c1_0 : Int) (e : m_opt_Thread n0 A0 = some (.e1 c1_0)) : SpcG Try.prog M B0 S (sq1_opt_Thread a0 p0 q0 n0 k0 A0 c1_0) := by
  unfold m_opt_Thread at e
  replace e := bindO_eq e
  obtain ⟨r0, e_r0, e⟩ := e
  try dsimp only at e
  replace e := cond_eq_or e
  rcases e with ⟨hq0, e⟩ | ⟨hq0, e⟩
  · replace e := cond_eq_or e
    rcases e with ⟨hq1, e⟩ | ⟨hq1, e⟩
    · replace e := bindO_eq e
      obtain ⟨g1, e_g1, e⟩ := e
      obtain ⟨g1_0, g1_1⟩ := g1
      try dsimp only at e
      cases e
    · exact none_some e
  · injection e with e; injection e with i0; subst i0; exact fn_specG hU (P := Try.prog) Try.func14 (fun xs w => by kernel_rfl) 0 _ _ (fun _ => rfl) _ _ _ [] [.o, .o, .o, .cg (ok_insn_Check hU a0 p0 q0 n0 k0 A0 hR0 r0 e_r0), .o, .o, .o, .o, .o, .o, .b (z_neqF hq0), .o, .o, .o] [] (fun b => by kernel_rfl)
end

end Go.Proofs.Ytkfmmcobmjkilaa


