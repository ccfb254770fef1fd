/-
  Programs made shorter.
-/
import Derived.Test.YtnoflelhkgdebaaOFR
namespace Go.Proofs.Ytnoflelhkgdebaa
open Go.RowKit
set_option linter.unusedVariables false
set_option linter.unusedSimpArgs false
set_option linter.unusedSectionVars false
set_option maxRecDepth 100000
set_option maxHeartbeats 4000000
noncomputable def zr22 : Value := (Try.prog.info? 37).bind TypeInfo.zero |>.getD undef
theorem rt22 : RowT Try.prog 22 37 ((Try.prog.info? 37).getD default) zr22 5 12 := ⟨by kernel_rfl, by kernel_rfl, by kernel_rfl, by kernel_rfl, by kernel_rfl, by kernel_rfl, by decide⟩
inductive Sh_opt_goesOn_L0 where
  | c0 (s0_0 : Int)
inductive Ex_opt_goesOn_L0 where
  | e0 
  | e1 
noncomputable def st_opt_goesOn_L0 (y1 : Int) (n1 : Nat) (A1 : Nat → Bool) (r0 : (Int) × (Bool)) : Sh_opt_goesOn_L0 → Option (Sh_opt_goesOn_L0 ⊕ Ex_opt_goesOn_L0)
  | .c0 s0_0 =>
    bif decide (s0_0 < (((r0.1).toNat - ((IntKind.i64.wrap (y1 + 1))).toNat : Nat) : Int)) then
      (bif inR s0_0 ((r0.1).toNat - ((IntKind.i64.wrap (y1 + 1))).toNat : Nat) then
        (bif inR (IntKind.i64.wrap (y1 + 1)) n1 then
          (bif inR r0.1 (n1 + 1) then
            (bif decide ((IntKind.i64.wrap (y1 + 1)) ≤ r0.1) then
              (bif (A1 (((IntKind.i64.wrap (y1 + 1))).toNat + (s0_0).toNat)) then
                (some (.inr (.e1 )))
              else (some (.inl (.c0 (IntKind.i64.wrap (s0_0 + 1))))))
            else (none))
          else (none))
        else (none))
      else (none))
    else (some (.inr (.e0 )))
noncomputable def bd_opt_goesOn_L0 : Code := codeOf Try.f30 [1, 1, 1, 0, 1, 0, 0]
def fl_opt_goesOn_L0 (a0 : Option Addr) (p0 : Nat) (q0 : Nat) (n0 : Nat) (k0 : Nat) (A0 : Nat → Insn) (y1 : Int) (a1 : Option Addr) (p1 : Nat) (q1 : Nat) (n1 : Nat) (k1 : Nat) (A1 : Nat → Bool) (r0 : (Int) × (Bool)) : Sh_opt_goesOn_L0 → List L1 → List Value
  | .c0 s0_0, ls => [.bool false, .slice (some ⟨p1, q1 + ((IntKind.i64.wrap (y1 + 1))).toNat * 1, none⟩) ((r0.1).toNat - ((IntKind.i64.wrap (y1 + 1))).toNat : Nat) (((r0.1).toNat - ((IntKind.i64.wrap (y1 + 1))).toNat : Nat) + (n1 + k1 - (r0.1).toNat)), .int .i64 ((((r0.1).toNat - ((IntKind.i64.wrap (y1 + 1))).toNat : Nat) : Int)), .int .i64 (s0_0)]
def mf_opt_goesOn_L0 : Sh_opt_goesOn_L0 → List (Nat × Nat)
  | .c0 _ => [(0, 6), (1, 17), (3, 5)]
noncomputable def fr_opt_goesOn_L0 (a0 : Option Addr) (p0 : Nat) (q0 : Nat) (n0 : Nat) (k0 : Nat) (A0 : Nat → Insn) (y1 : Int) (a1 : Option Addr) (p1 : Nat) (q1 : Nat) (n1 : Nat) (k1 : Nat) (A1 : Nat → Bool) (r0 : (Int) × (Bool)) (s : Sh_opt_goesOn_L0) : List L1 → List Value := mrgF (mf_opt_goesOn_L0 s) (fl_opt_goesOn_L0 a0 p0 q0 n0 k0 A0 y1 a1 p1 q1 n1 k1 A1 r0 s) 0
def Hs_opt_goesOn_L0 (a0 : Option Addr) (p0 : Nat) (q0 : Nat) (n0 : Nat) (k0 : Nat) (A0 : Nat → Insn) (y1 : Int) (a1 : Option Addr) (p1 : Nat) (q1 : Nat) (n1 : Nat) (k1 : Nat) (A1 : Nat → Bool) (r0 : (Int) × (Bool)) : Sh_opt_goesOn_L0 → List L1 → List Obj
  | .c0 s0_0, ls => [unb]
def vl_opt_goesOn_L0 (a0 : Option Addr) (p0 : Nat) (q0 : Nat) (n0 : Nat) (k0 : Nat) (A0 : Nat → Insn) (y1 : Int) (a1 : Option Addr) (p1 : Nat) (q1 : Nat) (n1 : Nat) (k1 : Nat) (A1 : Nat → Bool) (r0 : (Int) × (Bool)) : Ex_opt_goesOn_L0 → List L1 → List Value
  | .e0 , ls => [.bool false, .slice (some ⟨p1, q1 + ((IntKind.i64.wrap (y1 + 1))).toNat * 1, none⟩) ((r0.1).toNat - ((IntKind.i64.wrap (y1 + 1))).toNat : Nat) (((r0.1).toNat - ((IntKind.i64.wrap (y1 + 1))).toNat : Nat) + (n1 + k1 - (r0.1).toNat)), .int .i64 ((((r0.1).toNat - ((IntKind.i64.wrap (y1 + 1))).toNat : Nat) : Int))]
  | .e1 , ls => [.bool false, .slice (some ⟨p1, q1 + ((IntKind.i64.wrap (y1 + 1))).toNat * 1, none⟩) ((r0.1).toNat - ((IntKind.i64.wrap (y1 + 1))).toNat : Nat) (((r0.1).toNat - ((IntKind.i64.wrap (y1 + 1))).toNat : Nat) + (n1 + k1 - (r0.1).toNat)), .int .i64 ((((r0.1).toNat - ((IntKind.i64.wrap (y1 + 1))).toNat : Nat) : Int))]
def mk_opt_goesOn_L0 : Ex_opt_goesOn_L0 → List (Nat × Nat)
  | .e0  => [(0, 6), (1, 17), (2, 6)]
  | .e1  => [(0, 6), (1, 17), (2, 6)]
noncomputable def vf_opt_goesOn_L0 (a0 : Option Addr) (p0 : Nat) (q0 : Nat) (n0 : Nat) (k0 : Nat) (A0 : Nat → Insn) (y1 : Int) (a1 : Option Addr) (p1 : Nat) (q1 : Nat) (n1 : Nat) (k1 : Nat) (A1 : Nat → Bool) (r0 : (Int) × (Bool)) (r : Ex_opt_goesOn_L0) : List L1 → List Value := mrgF (mk_opt_goesOn_L0 r) (vl_opt_goesOn_L0 a0 p0 q0 n0 k0 A0 y1 a1 p1 q1 n1 k1 A1 r0 r) 0
def Hf_opt_goesOn_L0 (a0 : Option Addr) (p0 : Nat) (q0 : Nat) (n0 : Nat) (k0 : Nat) (A0 : Nat → Insn) (y1 : Int) (a1 : Option Addr) (p1 : Nat) (q1 : Nat) (n1 : Nat) (k1 : Nat) (A1 : Nat → Bool) (r0 : (Int) × (Bool)) : Ex_opt_goesOn_L0 → List L1 → List Obj
  | .e0 , ls => [unb]
  | .e1 , ls => [unb]
def ex_opt_goesOn_L0 : Ex_opt_goesOn_L0 → Ex
  | .e0  => (.exit 0)
  | .e1  => .ret
section
variable {M : Nat → Prop} {B0 : Nat} {S : World → Prop} (hU : Up M B0 S) (a0 : Option Addr) (p0 : Nat) (q0 : Nat) (n0 : Nat) (k0 : Nat) (A0 : Nat → Insn) (hR0 : Ro S c_Insn 5 a0 p0 q0 n0 A0) (y1 : Int) (a1 : Option Addr) (p1 : Nat) (q1 : Nat) (n1 : Nat) (k1 : Nat) (A1 : Nat → Bool) (hR1 : Ro S cB 1 a1 p1 q1 n1 A1) (r0 : (Int) × (Bool))
include hU a0 p0 q0 n0 k0 A0 hR0 y1 a1 p1 q1 n1 k1 A1 hR1 r0
theorem go_opt_goesOn_L0 (s : Sh_opt_goesOn_L0) (r : Ex_opt_goesOn_L0) (h : lpO (st_opt_goesOn_L0 y1 n1 A1 r0) s = some r) : GoesG Try.prog M B0 S (.loop bd_opt_goesOn_L0) 1 (fr_opt_goesOn_L0 a0 p0 q0 n0 k0 A0 y1 a1 p1 q1 n1 k1 A1 r0 s) (Hs_opt_goesOn_L0 a0 p0 q0 n0 k0 A0 y1 a1 p1 q1 n1 k1 A1 r0 s) (ex_opt_goesOn_L0 r) 0 (vf_opt_goesOn_L0 a0 p0 q0 n0 k0 A0 y1 a1 p1 q1 n1 k1 A1 r0 r) (Hf_opt_goesOn_L0 a0 p0 q0 n0 k0 A0 y1 a1 p1 q1 n1 k1 A1 r0 r) 1 :=
  goes_lpO (fun s q e => by
    cases s with
    | c0 s0_0 =>
      unfold st_opt_goesOn_L0 at e
      dsimp only at e
      replace e := cond_eq_or e
      rcases e with ⟨hq0, e⟩ | ⟨hq0, e⟩
      · replace e := cond_eq_or e
        rcases e with ⟨hq1, e⟩ | ⟨hq1, e⟩
        · replace e := cond_eq_or e
          rcases e with ⟨hq2, e⟩ | ⟨hq2, e⟩
          · replace e := cond_eq_or e
            rcases e with ⟨hq3, e⟩ | ⟨hq3, e⟩
            · replace e := cond_eq_or e
              rcases e with ⟨hq4, e⟩ | ⟨hq4, e⟩
              · replace e := cond_eq_or e
                let P1 : List (PG Try.prog M B0 S) := [.b (z_lssT hq0), .q (ixRo_ok (kd := .i64) (T := 30) (x := s0_0) (sz := 1) rfl (fun w => by kernel_rfl) (Ro.part hR1 ((IntKind.i64.wrap (y1 + 1))).toNat ((r0.1).toNat - ((IntKind.i64.wrap (y1 + 1))).toNat : Nat) (part_le hq2 hq3 hq4)) hq1)]
                rcases e with ⟨hq5, e⟩ | ⟨hq5, e⟩
                · cases e; exact ⟨ne_ret, goes_runM hU (P1 ++ [.l (accRo (Ro.part hR1 ((IntKind.i64.wrap (y1 + 1))).toNat ((r0.1).toNat - ((IntKind.i64.wrap (y1 + 1))).toNat : Nat) (part_le hq2 hq3 hq4)) cB_len (inR_nat hq1) 0 [.bool true] (congrArg (fun b => [Value.bool b]) hq5)), .o, .o, .o]) [] (fun b => rfl) (by decide) rfl rfl (fun b => by kernel_rfl)⟩
                · cases e; exact goes_runM hU (P1 ++ [.l (accRo (Ro.part hR1 ((IntKind.i64.wrap (y1 + 1))).toNat ((r0.1).toNat - ((IntKind.i64.wrap (y1 + 1))).toNat : Nat) (part_le hq2 hq3 hq4)) cB_len (inR_nat hq1) 0 [.bool false] (congrArg (fun b => [Value.bool b]) hq5)), .o, .o, .o, .o]) [] (fun b => rfl) (by decide) rfl rfl (fun b => by kernel_rfl)
              · exact none_some e
            · exact none_some e
          · exact none_some e
        · exact none_some e
      · cases e; exact ⟨ne_exit 0, goes_runM hU [.b (z_lssF hq0)] [] (fun b => rfl) (by decide) rfl rfl (fun b => by kernel_rfl)⟩) s r h
noncomputable def t0_opt_goesOn_L0_0 (a0 : Option Addr) (p0 : Nat) (q0 : Nat) (n0 : Nat) (k0 : Nat) (A0 : Nat → Insn) (y1 : Int) (a1 : Option Addr) (p1 : Nat) (q1 : Nat) (n1 : Nat) (k1 : Nat) (A1 : Nat → Bool) (r0 : (Int) × (Bool)) (s0_0 : Int) (ls : List L1) : List Value := List.append [.slice a0 n0 (n0 + k0), .int .i64 (y1), .slice a1 n1 (n1 + k1), undef, undef, undef, .bool false, .int .i64 (r0.1), .bool ((r0.2)), undef, undef, .tuple #[.int .i64 (r0.1), .bool (r0.2)], .slice a0 n0 (n0 + k0), .int .i64 (y1), .tuple #[.int .i64 (r0.1), .bool (r0.2)], .int .i64 (r0.1), .bool ((r0.2)), .int .i64 (r0.1), .int .i64 (y1), .bool false, .slice a1 n1 (n1 + k1), .int .i64 (y1), .int .i64 ((IntKind.i64.wrap (y1 + 1))), .int .i64 (r0.1), .slice (some ⟨p1, q1 + ((IntKind.i64.wrap (y1 + 1))).toNat * 1, none⟩) ((r0.1).toNat - ((IntKind.i64.wrap (y1 + 1))).toNat : Nat) (((r0.1).toNat - ((IntKind.i64.wrap (y1 + 1))).toNat : Nat) + (n1 + k1 - (r0.1).toNat)), .int .i64 ((((r0.1).toNat - ((IntKind.i64.wrap (y1 + 1))).toNat : Nat) : Int)), .int .i64 (s0_0)] (und 5)
def pre_opt_goesOn_L0_0 (a0 : Option Addr) (p0 : Nat) (q0 : Nat) (n0 : Nat) (k0 : Nat) (A0 : Nat → Insn) (y1 : Int) (a1 : Option Addr) (p1 : Nat) (q1 : Nat) (n1 : Nat) (k1 : Nat) (A1 : Nat → Bool) (r0 : (Int) × (Bool)) (s0_0 : Int) (ls : List L1) : List Obj := []
theorem sp0_opt_goesOn_L0_0_ok (s0_0 : Int) (h : lpO (st_opt_goesOn_L0 y1 n1 A1 r0) (.c0 s0_0) = some (.e0 )) : SpcG Try.prog M B0 S ⟨fun ls => .code (.loop bd_opt_goesOn_L0) (t0_opt_goesOn_L0_0 a0 p0 q0 n0 k0 A0 y1 a1 p1 q1 n1 k1 A1 r0 s0_0 ls), pre_opt_goesOn_L0_0 a0 p0 q0 n0 k0 A0 y1 a1 p1 q1 n1 k1 A1 r0 s0_0, 1, (.exit 0), fun ls => vf_opt_goesOn_L0 a0 p0 q0 n0 k0 A0 y1 a1 p1 q1 n1 k1 A1 r0 (.e0 ) (ls.take 0 ++ ls.drop 0), fun ls => (Hf_opt_goesOn_L0 a0 p0 q0 n0 k0 A0 y1 a1 p1 q1 n1 k1 A1 r0 (.e0 ) (ls.take 0 ++ ls.drop 0)).take 0 ++ List.replicate 0 unb, fun ls => (Hf_opt_goesOn_L0 a0 p0 q0 n0 k0 A0 y1 a1 p1 q1 n1 k1 A1 r0 (.e0 ) (ls.take 0 ++ ls.drop 0)).drop 0⟩ :=
  spc_of_goesM hU 0 (k0 := 0) (go_opt_goesOn_L0 hU a0 p0 q0 n0 k0 A0 hR0 y1 a1 p1 q1 n1 k1 A1 hR1 r0 _ _ h) (t0_opt_goesOn_L0_0 a0 p0 q0 n0 k0 A0 y1 a1 p1 q1 n1 k1 A1 r0 s0_0) (pre_opt_goesOn_L0_0 a0 p0 q0 n0 k0 A0 y1 a1 p1 q1 n1 k1 A1 r0 s0_0) (fun _ => rfl) (fun ls h => by match ls, h with | [], _ => exact ⟨by kernel_rfl, by kernel_rfl⟩) (fun ls h => by match ls, h with | [], _ => rfl) (by decide) (by decide) (fun ls => rfl)
theorem sp1_opt_goesOn_L0_0_ok (s0_0 : Int) (h : lpO (st_opt_goesOn_L0 y1 n1 A1 r0) (.c0 s0_0) = some (.e1 )) : SpcG Try.prog M B0 S ⟨fun ls => .code (.loop bd_opt_goesOn_L0) (t0_opt_goesOn_L0_0 a0 p0 q0 n0 k0 A0 y1 a1 p1 q1 n1 k1 A1 r0 s0_0 ls), pre_opt_goesOn_L0_0 a0 p0 q0 n0 k0 A0 y1 a1 p1 q1 n1 k1 A1 r0 s0_0, 1, .ret, fun ls => vf_opt_goesOn_L0 a0 p0 q0 n0 k0 A0 y1 a1 p1 q1 n1 k1 A1 r0 (.e1 ) (ls.take 0 ++ ls.drop 0), fun ls => (Hf_opt_goesOn_L0 a0 p0 q0 n0 k0 A0 y1 a1 p1 q1 n1 k1 A1 r0 (.e1 ) (ls.take 0 ++ ls.drop 0)).take 0 ++ List.replicate 0 unb, fun ls => (Hf_opt_goesOn_L0 a0 p0 q0 n0 k0 A0 y1 a1 p1 q1 n1 k1 A1 r0 (.e1 ) (ls.take 0 ++ ls.drop 0)).drop 0⟩ :=
  spc_of_goesM hU 0 (k0 := 0) (go_opt_goesOn_L0 hU a0 p0 q0 n0 k0 A0 hR0 y1 a1 p1 q1 n1 k1 A1 hR1 r0 _ _ h) (t0_opt_goesOn_L0_0 a0 p0 q0 n0 k0 A0 y1 a1 p1 q1 n1 k1 A1 r0 s0_0) (pre_opt_goesOn_L0_0 a0 p0 q0 n0 k0 A0 y1 a1 p1 q1 n1 k1 A1 r0 s0_0) (fun _ => rfl) (fun ls h => by match ls, h with | [], _ => exact ⟨by kernel_rfl, by kernel_rfl⟩) (fun ls h => by match ls, h with | [], _ => rfl) (by decide) (by decide) (fun ls => rfl)
noncomputable def m_opt_goesOn (n0 : Nat) (A0 : Nat → Insn) (y1 : Int) (n1 : Nat) (A1 : Nat → Bool) : Option (Bool) :=
  (m_insn_Target n0 A0 y1).bind fun r0 =>
  bif decide (r0.1 ≤ y1) then
    (some false)
  else (bif inR (IntKind.i64.wrap (y1 + 1)) n1 then
    (bif inR r0.1 (n1 + 1) then
      (bif decide ((IntKind.i64.wrap (y1 + 1)) ≤ r0.1) then
        ((lpO (st_opt_goesOn_L0 y1 n1 A1 r0) (.c0 0)).bind fun g1 => match g1 with
        | .e0  => (some true)
        | .e1  => (some false))
      else (none))
    else (none))
  else (none))
end
section
variable {M : Nat → Prop} {B0 : Nat} {S : World → Prop} (hU : Up M B0 S) (a0 : Option Addr) (p0 : Nat) (q0 : Nat) (n0 : Nat) (k0 : Nat) (A0 : Nat → Insn) (hR0 : Ro S c_Insn 5 a0 p0 q0 n0 A0)
include hU a0 p0 q0 n0 k0 A0 hR0
theorem ok_opt_goesOn (y1 : Int) (a1 : Option Addr) (p1 : Nat) (q1 : Nat) (n1 : Nat) (k1 : Nat) (A1 : Nat → Bool) (hR1 : Ro S cB 1 a1 p1 q1 n1 A1) (r : Bool) (e : m_opt_goesOn n0 A0 y1 n1 A1 = some r) : ConG Try.prog S 30 #[.slice a0 n0 (n0 + k0), .int .i64 (y1), .slice a1 n1 (n1 + k1)] (.bool (r)) := by
  unfold m_opt_goesOn at e
  replace e := bindO_eq e
  obtain ⟨r0, e_r0, e⟩ := e
  try dsimp only at e
  replace e := cond_eq_or e
  let P1 : List (PG Try.prog M B0 S) := [.o, .o, .o, .cg (ok_insn_Target hU a0 p0 q0 n0 k0 A0 hR0 y1 r0 e_r0), .o, .o, .o, .o, .o, .o, .o]
  rcases e with ⟨hq0, e⟩ | ⟨hq0, e⟩
  · injection e with e; subst e; exact fn_conG hU (P := Try.prog) Try.func30 (fun xs w => by kernel_rfl) _ _ (P1 ++ [.b (z_leqT hq0), .o]) [] (fun b => by kernel_rfl)
  · replace e := cond_eq_or e
    rcases e with ⟨hq1, e⟩ | ⟨hq1, e⟩
    · replace e := cond_eq_or e
      rcases e with ⟨hq2, e⟩ | ⟨hq2, e⟩
      · replace e := cond_eq_or e
        rcases e with ⟨hq3, e⟩ | ⟨hq3, e⟩
        · replace e := bindO_eq e
          obtain ⟨g1, e_g1, e⟩ := e
          let P2 : List (PG Try.prog M B0 S) := P1 ++ [.b (z_leqF hq0), .o, .o, .o, .o, .ov (slcRo2_ok (T := 30) (e := 4) (k := k1) (x := (IntKind.i64.wrap (y1 + 1))) (y := r0.1) hR1 (by kernel_rfl) (fun w => by kernel_rfl) hq1 hq2 hq3), .o, .o, .cp]
          rcases g1 with _ | _
          · try dsimp only at e
            injection e with e; subst e; exact fn_conG hU (P := Try.prog) Try.func30 (fun xs w => by kernel_rfl) _ _ (P2 ++ [.cx (sp0_opt_goesOn_L0_0_ok hU a0 p0 q0 n0 k0 A0 hR0 y1 a1 p1 q1 n1 k1 A1 hR1 r0 0  e_g1) [], .o]) [] (fun b => by kernel_rfl)
          · try dsimp only at e
            injection e with e; subst e; exact fn_conG hU (P := Try.prog) Try.func30 (fun xs w => by kernel_rfl) _ _ (P2 ++ [.cx (sp1_opt_goesOn_L0_0_ok hU a0 p0 q0 n0 k0 A0 hR0 y1 a1 p1 q1 n1 k1 A1 hR1 r0 0  e_g1) []]) [] (fun b => by kernel_rfl)
        · exact none_some e
      · exact none_some e
    · exact none_some e
inductive Sh_opt_kept_L0 where
  | c0 (s0_0 : Nat → Bool) (s0_1 : Int)
inductive Ex_opt_kept_L0 where
  | e0 (c0_0 : Nat → Bool)
noncomputable def st_opt_kept_L0 (n0 : Nat) (A0 : Nat → Insn) : Sh_opt_kept_L0 → Option (Sh_opt_kept_L0 ⊕ Ex_opt_kept_L0)
  | .c0 s0_0 s0_1 =>
    bif decide (s0_1 < (n0 : Int)) then
      (bif inR s0_1 n0 then
        (bif ((A0 (s0_1).toNat)).fOp == 24#8 then
          (bif inR s0_1 ((n0 : Int)).toNat then
            (bif (s0_0 (s0_1).toNat) then
              (bif inR (IntKind.i64.wrap (s0_1 + 1)) ((n0 : Int)).toNat then
                (some (.inl (.c0 (updF s0_0 ((IntKind.i64.wrap (s0_1 + 1))).toNat true) (IntKind.i64.wrap (s0_1 + 1)))))
              else (none))
            else (some (.inl (.c0 s0_0 (IntKind.i64.wrap (s0_1 + 1))))))
          else (none))
        else (some (.inl (.c0 s0_0 (IntKind.i64.wrap (s0_1 + 1))))))
      else (none))
    else (some (.inr (.e0 s0_0)))
noncomputable def bd_opt_kept_L0 : Code := codeOf Try.f17 [1, 1, 0, 1, 0, 0]
def fl_opt_kept_L0 (a0 : Option Addr) (p0 : Nat) (q0 : Nat) (n0 : Nat) (k0 : Nat) (A0 : Nat → Insn) (g0_0 : Nat → Bool) : Sh_opt_kept_L0 → List L1 → List Value
  | .c0 s0_0 s0_1, ls => [.slice a0 n0 (n0 + k0), (rowV (lget ls 0) ((n0 : Int)).toNat 1), .int .i64 ((n0 : Int)), .int .i64 (s0_1)]
def mf_opt_kept_L0 : Sh_opt_kept_L0 → List (Nat × Nat)
  | .c0 _ _ => [(1, 2), (1, 9), (2, 48)]
noncomputable def fr_opt_kept_L0 (a0 : Option Addr) (p0 : Nat) (q0 : Nat) (n0 : Nat) (k0 : Nat) (A0 : Nat → Insn) (g0_0 : Nat → Bool) (s : Sh_opt_kept_L0) : List L1 → List Value := mrgF (mf_opt_kept_L0 s) (fl_opt_kept_L0 a0 p0 q0 n0 k0 A0 g0_0 s) 1
def Hs_opt_kept_L0 (a0 : Option Addr) (p0 : Nat) (q0 : Nat) (n0 : Nat) (k0 : Nat) (A0 : Nat → Insn) (g0_0 : Nat → Bool) : Sh_opt_kept_L0 → List L1 → List Obj
  | .c0 s0_0 s0_1, ls => [rowO (lget ls 0) (esG cB ((n0 : Int)).toNat s0_0) 4 ((n0 : Int)).toNat 1, unb]
def vl_opt_kept_L0 (a0 : Option Addr) (p0 : Nat) (q0 : Nat) (n0 : Nat) (k0 : Nat) (A0 : Nat → Insn) (g0_0 : Nat → Bool) : Ex_opt_kept_L0 → List L1 → List Value
  | .e0 c0_0, ls => [.slice a0 n0 (n0 + k0), (rowV (lget ls 0) ((n0 : Int)).toNat 1), .int .i64 ((n0 : Int))]
def mk_opt_kept_L0 : Ex_opt_kept_L0 → List (Nat × Nat)
  | .e0 _ => [(1, 2), (1, 9), (1, 49)]
noncomputable def vf_opt_kept_L0 (a0 : Option Addr) (p0 : Nat) (q0 : Nat) (n0 : Nat) (k0 : Nat) (A0 : Nat → Insn) (g0_0 : Nat → Bool) (r : Ex_opt_kept_L0) : List L1 → List Value := mrgF (mk_opt_kept_L0 r) (vl_opt_kept_L0 a0 p0 q0 n0 k0 A0 g0_0 r) 1
def Hf_opt_kept_L0 (a0 : Option Addr) (p0 : Nat) (q0 : Nat) (n0 : Nat) (k0 : Nat) (A0 : Nat → Insn) (g0_0 : Nat → Bool) : Ex_opt_kept_L0 → List L1 → List Obj
  | .e0 c0_0, ls => [rowO (lget ls 0) (esG cB ((n0 : Int)).toNat c0_0) 4 ((n0 : Int)).toNat 1, unb]
def ex_opt_kept_L0 : Ex_opt_kept_L0 → Ex
  | .e0 _ => (.exit 0)
theorem go_opt_kept_L0 (g0_0 : Nat → Bool) (s : Sh_opt_kept_L0) (r : Ex_opt_kept_L0) (h : lpO (st_opt_kept_L0 n0 A0) s = some r) : GoesG Try.prog M B0 S (.loop bd_opt_kept_L0) 2 (fr_opt_kept_L0 a0 p0 q0 n0 k0 A0 g0_0 s) (Hs_opt_kept_L0 a0 p0 q0 n0 k0 A0 g0_0 s) (ex_opt_kept_L0 r) 1 (vf_opt_kept_L0 a0 p0 q0 n0 k0 A0 g0_0 r) (Hf_opt_kept_L0 a0 p0 q0 n0 k0 A0 g0_0 r) 2 :=
  goes_lpO (fun s q e => by
    cases s with
    | c0 s0_0 s0_1 =>
      unfold st_opt_kept_L0 at e
      dsimp only at e
      replace e := cond_eq_or e
      rcases e with ⟨hq0, e⟩ | ⟨hq0, e⟩
      · replace e := cond_eq_or e
        rcases e with ⟨hq1, e⟩ | ⟨hq1, e⟩
        · replace e := cond_eq_or e
          let P1 : List (PG Try.prog M B0 S) := [.b (z_lssT hq0), .o, .o, .o, .o, .q (ixRo_ok (kd := .i64) (T := 22) (x := s0_1) (sz := 5) rfl (fun w => by kernel_rfl) hR0 hq1), .o, .l (accRo hR0 c_Insn_len (inR_nat hq1) 0 [.int .u8 (nn ((A0 (s0_1).toNat)).fOp)] rfl)]
          rcases e with ⟨hq2, e⟩ | ⟨hq2, e⟩
          · replace e := cond_eq_or e
            rcases e with ⟨hq3, e⟩ | ⟨hq3, e⟩
            · replace e := cond_eq_or e
              let P2 : List (PG Try.prog M B0 S) := P1 ++ [.t (u_eq ((A0 (s0_1).toNat)).fOp (24#8)) hq2, .o, .o, .o, .q (ixM_ok (kd := .i64) (T := 30) (x := s0_1) (N := ((n0 : Int)).toNat) (sz := 1) rfl (fun w => by kernel_rfl) hq3)]
              rcases e with ⟨hq4, e⟩ | ⟨hq4, e⟩
              · replace e := cond_eq_or e
                rcases e with ⟨hq5, e⟩ | ⟨hq5, e⟩
                · cases e; exact goes_runM hU (P2 ++ [.l (accG (i := 0) (f := cB) (A := s0_0) (k := (s0_1).toNat) 0 [.bool true] cB_len (inR_nat hq3) (congrArg (fun b => [Value.bool b]) hq4)), .o, .o, .o, .o, .q (ixM_ok (kd := .i64) (T := 30) (x := (IntKind.i64.wrap (s0_1 + 1))) (N := ((n0 : Int)).toNat) (sz := 1) rfl (fun w => by kernel_rfl) hq5), .x (sqStG_ok (T := 4) (e := 4) (f := cB) (A := s0_0) (v := true) 0 (.bool true) cB_len cB_one rfl rfl (fun w => by kernel_rfl) (inR_nat hq5)) [0], .o, .o]) [0] (fun b => rfl) (by decide) rfl rfl (fun b => by kernel_rfl)
                · exact none_some e
              · cases e; exact goes_runM hU (P2 ++ [.l (accG (i := 0) (f := cB) (A := s0_0) (k := (s0_1).toNat) 0 [.bool false] cB_len (inR_nat hq3) (congrArg (fun b => [Value.bool b]) hq4)), .o, .o, .o]) [0] (fun b => rfl) (by decide) rfl rfl (fun b => by kernel_rfl)
            · exact none_some e
          · cases e; exact goes_runM hU (P1 ++ [.t (u_eq ((A0 (s0_1).toNat)).fOp (24#8)) hq2, .o, .o, .o, .o]) [0] (fun b => rfl) (by decide) rfl rfl (fun b => by kernel_rfl)
        · exact none_some e
      · cases e; exact ⟨ne_exit 0, goes_runM hU [.b (z_lssF hq0)] [0] (fun b => rfl) (by decide) rfl rfl (fun b => by kernel_rfl)⟩) s r h
noncomputable def t0_opt_kept_L0_0 (a0 : Option Addr) (p0 : Nat) (q0 : Nat) (n0 : Nat) (k0 : Nat) (A0 : Nat → Insn) (g0_0 : Nat → Bool) (s0_0 : Nat → Bool) (s0_1 : Int) (ls : List L1) : List Value := List.append [.slice a0 n0 (n0 + k0), undef, .slice none 0 0, (rowV (lget ls 0) ((n0 : Int)).toNat 1), .int .i64 (0), undef, undef, .tuple #[(rowV (lget ls 0) ((n0 : Int)).toNat 1), .int .i64 (0)], .slice a0 n0 (n0 + k0), .tuple #[(rowV (lget ls 0) ((n0 : Int)).toNat 1), .int .i64 (0)], (rowV (lget ls 0) ((n0 : Int)).toNat 1), .int .i64 (0), .slice a0 n0 (n0 + k0), .int .i64 ((n0 : Int)), .int .i64 (s0_1)] (und 48)
def pre_opt_kept_L0_0 (a0 : Option Addr) (p0 : Nat) (q0 : Nat) (n0 : Nat) (k0 : Nat) (A0 : Nat → Insn) (g0_0 : Nat → Bool) (s0_0 : Nat → Bool) (s0_1 : Int) (ls : List L1) : List Obj := [rowO (lget ls 0) (esG cB ((n0 : Int)).toNat s0_0) 4 ((n0 : Int)).toNat 1]
theorem sp0_opt_kept_L0_0_ok (g0_0 : Nat → Bool) (s0_0 : Nat → Bool) (s0_1 : Int) (c0_0 : Nat → Bool) (h : lpO (st_opt_kept_L0 n0 A0) (.c0 s0_0 s0_1) = some (.e0 c0_0)) : SpcG Try.prog M B0 S ⟨fun ls => .code (.loop bd_opt_kept_L0) (t0_opt_kept_L0_0 a0 p0 q0 n0 k0 A0 g0_0 s0_0 s0_1 ls), pre_opt_kept_L0_0 a0 p0 q0 n0 k0 A0 g0_0 s0_0 s0_1, 1, (.exit 0), fun ls => vf_opt_kept_L0 a0 p0 q0 n0 k0 A0 g0_0 (.e0 c0_0) (ls.take 1 ++ ls.drop 1), fun ls => (Hf_opt_kept_L0 a0 p0 q0 n0 k0 A0 g0_0 (.e0 c0_0) (ls.take 1 ++ ls.drop 1)).take 1 ++ List.replicate 0 unb, fun ls => (Hf_opt_kept_L0 a0 p0 q0 n0 k0 A0 g0_0 (.e0 c0_0) (ls.take 1 ++ ls.drop 1)).drop 1⟩ :=
  spc_of_goesM hU 0 (k0 := 1) (go_opt_kept_L0 hU a0 p0 q0 n0 k0 A0 hR0 g0_0 _ _ h) (t0_opt_kept_L0_0 a0 p0 q0 n0 k0 A0 g0_0 s0_0 s0_1) (pre_opt_kept_L0_0 a0 p0 q0 n0 k0 A0 g0_0 s0_0 s0_1) (fun _ => rfl) (fun ls h => by match ls, h with | [l0], _ => exact ⟨by kernel_rfl, by kernel_rfl⟩) (fun ls h => by match ls, h with | [l0], _ => rfl) (by decide) (by decide) (fun ls => rfl)
inductive Sh_opt_kept_L1 where
  | c0 (s0_0 : Nat → Bool) (s0_1 : Int)
inductive Ex_opt_kept_L1 where
  | e0 (c0_0 : Nat → Bool)
noncomputable def st_opt_kept_L1 (n0 : Nat) (A0 : Nat → Insn) : Sh_opt_kept_L1 → Option (Sh_opt_kept_L1 ⊕ Ex_opt_kept_L1)
  | .c0 s0_0 s0_1 =>
    bif decide (0 ≤ s0_1) then
      (bif inR s0_1 ((n0 : Int)).toNat then
        (bif (s0_0 (s0_1).toNat) then
          (bif inR s0_1 n0 then
            (bif ((A0 (s0_1).toNat)).fOp == 5#8 then
              ((m_opt_goesOn n0 A0 s0_1 ((n0 : Int)).toNat s0_0).bind fun rb0 =>
              bif rb0 then
                (some (.inl (.c0 (updF s0_0 (s0_1).toNat false) (IntKind.i64.wrap (s0_1 - 1)))))
              else (some (.inl (.c0 s0_0 (IntKind.i64.wrap (s0_1 - 1))))))
            else (some (.inl (.c0 s0_0 (IntKind.i64.wrap (s0_1 - 1))))))
          else (none))
        else (some (.inl (.c0 s0_0 (IntKind.i64.wrap (s0_1 - 1))))))
      else (none))
    else (some (.inr (.e0 s0_0)))
noncomputable def bd_opt_kept_L1 : Code := codeOf Try.f17 [1, 1, 1, 0, 1, 0, 0]
def fl_opt_kept_L1 (a0 : Option Addr) (p0 : Nat) (q0 : Nat) (n0 : Nat) (k0 : Nat) (A0 : Nat → Insn) (g0_0 : Nat → Bool) (g1_0 : Nat → Bool) : Sh_opt_kept_L1 → List L1 → List Value
  | .c0 s0_0 s0_1, ls => [.slice a0 n0 (n0 + k0), (rowV (lget ls 0) ((n0 : Int)).toNat 1), .int .i64 (s0_1)]
def mf_opt_kept_L1 : Sh_opt_kept_L1 → List (Nat × Nat)
  | .c0 _ _ => [(1, 2), (1, 2), (1, 56)]
noncomputable def fr_opt_kept_L1 (a0 : Option Addr) (p0 : Nat) (q0 : Nat) (n0 : Nat) (k0 : Nat) (A0 : Nat → Insn) (g0_0 : Nat → Bool) (g1_0 : Nat → Bool) (s : Sh_opt_kept_L1) : List L1 → List Value := mrgF (mf_opt_kept_L1 s) (fl_opt_kept_L1 a0 p0 q0 n0 k0 A0 g0_0 g1_0 s) 2
def Hs_opt_kept_L1 (a0 : Option Addr) (p0 : Nat) (q0 : Nat) (n0 : Nat) (k0 : Nat) (A0 : Nat → Insn) (g0_0 : Nat → Bool) (g1_0 : Nat → Bool) : Sh_opt_kept_L1 → List L1 → List Obj
  | .c0 s0_0 s0_1, ls => [rowO (lget ls 0) (esG cB ((n0 : Int)).toNat s0_0) 4 ((n0 : Int)).toNat 1, unb, unb]
def vl_opt_kept_L1 (a0 : Option Addr) (p0 : Nat) (q0 : Nat) (n0 : Nat) (k0 : Nat) (A0 : Nat → Insn) (g0_0 : Nat → Bool) (g1_0 : Nat → Bool) : Ex_opt_kept_L1 → List L1 → List Value
  | .e0 c0_0, ls => [.slice a0 n0 (n0 + k0), (rowV (lget ls 0) ((n0 : Int)).toNat 1)]
def mk_opt_kept_L1 : Ex_opt_kept_L1 → List (Nat × Nat)
  | .e0 _ => [(1, 2), (1, 59)]
noncomputable def vf_opt_kept_L1 (a0 : Option Addr) (p0 : Nat) (q0 : Nat) (n0 : Nat) (k0 : Nat) (A0 : Nat → Insn) (g0_0 : Nat → Bool) (g1_0 : Nat → Bool) (r : Ex_opt_kept_L1) : List L1 → List Value := mrgF (mk_opt_kept_L1 r) (vl_opt_kept_L1 a0 p0 q0 n0 k0 A0 g0_0 g1_0 r) 2
def Hf_opt_kept_L1 (a0 : Option Addr) (p0 : Nat) (q0 : Nat) (n0 : Nat) (k0 : Nat) (A0 : Nat → Insn) (g0_0 : Nat → Bool) (g1_0 : Nat → Bool) : Ex_opt_kept_L1 → List L1 → List Obj
  | .e0 c0_0, ls => [rowO (lget ls 0) (esG cB ((n0 : Int)).toNat c0_0) 4 ((n0 : Int)).toNat 1, unb, unb]
def ex_opt_kept_L1 : Ex_opt_kept_L1 → Ex
  | .e0 _ => (.exit 2)
theorem go_opt_kept_L1 (g0_0 : Nat → Bool) (g1_0 : Nat → Bool) (s : Sh_opt_kept_L1) (r : Ex_opt_kept_L1) (h : lpO (st_opt_kept_L1 n0 A0) s = some r) : GoesG Try.prog M B0 S (.loop bd_opt_kept_L1) 3 (fr_opt_kept_L1 a0 p0 q0 n0 k0 A0 g0_0 g1_0 s) (Hs_opt_kept_L1 a0 p0 q0 n0 k0 A0 g0_0 g1_0 s) (ex_opt_kept_L1 r) 2 (vf_opt_kept_L1 a0 p0 q0 n0 k0 A0 g0_0 g1_0 r) (Hf_opt_kept_L1 a0 p0 q0 n0 k0 A0 g0_0 g1_0 r) 3 :=
  goes_lpO (fun s q e => by
    cases s with
    | c0 s0_0 s0_1 =>
      unfold st_opt_kept_L1 at e
      dsimp only at e
      replace e := cond_eq_or e
      rcases e with ⟨hq0, e⟩ | ⟨hq0, e⟩
      · replace e := cond_eq_or e
        rcases e with ⟨hq1, e⟩ | ⟨hq1, e⟩
        · replace e := cond_eq_or e
          let P1 : List (PG Try.prog M B0 S) := [.o, .b (z_geqT hq0), .o, .o, .q (ixM_ok (kd := .i64) (T := 30) (x := s0_1) (N := ((n0 : Int)).toNat) (sz := 1) rfl (fun w => by kernel_rfl) hq1)]
          rcases e with ⟨hq2, e⟩ | ⟨hq2, e⟩
          · replace e := cond_eq_or e
            let P2 : List (PG Try.prog M B0 S) := P1 ++ [.l (accG (i := 0) (f := cB) (A := s0_0) (k := (s0_1).toNat) 0 [.bool true] cB_len (inR_nat hq1) (congrArg (fun b => [Value.bool b]) hq2)), .o, .o, .o]
            rcases e with ⟨hq3, e⟩ | ⟨hq3, e⟩
            · replace e := cond_eq_or e
              let P3 : List (PG Try.prog M B0 S) := P2 ++ [.q (ixRo_ok (kd := .i64) (T := 22) (x := s0_1) (sz := 5) rfl (fun w => by kernel_rfl) hR0 hq3), .o, .l (accRo hR0 c_Insn_len (inR_nat hq3) 0 [.int .u8 (nn ((A0 (s0_1).toNat)).fOp)] rfl)]
              rcases e with ⟨hq4, e⟩ | ⟨hq4, e⟩
              · replace e := bindO_eq e
                obtain ⟨rb0, e_rb0, e⟩ := e
                try dsimp only at e
                replace e := cond_eq_or e
                rcases e with ⟨hq5, e⟩ | ⟨hq5, e⟩
                · subst hq5
                  cases e; exact goes_runM hU (P3 ++ [.t (u_eq ((A0 (s0_1).toNat)).fOp (5#8)) hq4, .o, .o, .o, .o, .o, .xg (SpcG.own hU (f := cB) cB_len ((n0 : Int)).toNat s0_0 4 (fun l => padL l ((n0 : Int)).toNat 1) (fun l => (padL l ((n0 : Int)).toNat 1).length / 1) _ 0 .normal (by intros; rfl) (by intros; rfl) (by intros; rfl) (fun M0 B0 S0 x0 u0 v0 z0 hU0 hs0 hr0 => ConG.sp (ok_opt_goesOn hU0 a0 p0 q0 n0 k0 A0 (Ro.mono hR0 hs0) s0_1 x0 u0 v0 ((n0 : Int)).toNat z0 s0_0 hr0 true e_rb0))) [0], .o, .o, .o, .q (ixM_ok (kd := .i64) (T := 30) (x := s0_1) (N := ((n0 : Int)).toNat) (sz := 1) rfl (fun w => by kernel_rfl) hq1), .x (sqStG_ok (T := 4) (e := 4) (f := cB) (A := s0_0) (v := false) 0 (.bool false) cB_len cB_one rfl rfl (fun w => by kernel_rfl) (inR_nat hq1)) [0], .o, .o, .o]) [0, 1] (fun b => rfl) (by decide) rfl rfl (fun b => by kernel_rfl)
                · subst hq5
                  cases e; exact goes_runM hU (P3 ++ [.t (u_eq ((A0 (s0_1).toNat)).fOp (5#8)) hq4, .o, .o, .o, .o, .o, .xg (SpcG.own hU (f := cB) cB_len ((n0 : Int)).toNat s0_0 4 (fun l => padL l ((n0 : Int)).toNat 1) (fun l => (padL l ((n0 : Int)).toNat 1).length / 1) _ 0 .normal (by intros; rfl) (by intros; rfl) (by intros; rfl) (fun M0 B0 S0 x0 u0 v0 z0 hU0 hs0 hr0 => ConG.sp (ok_opt_goesOn hU0 a0 p0 q0 n0 k0 A0 (Ro.mono hR0 hs0) s0_1 x0 u0 v0 ((n0 : Int)).toNat z0 s0_0 hr0 false e_rb0))) [0], .o, .o, .o, .o]) [0, 1] (fun b => rfl) (by decide) rfl rfl (fun b => by kernel_rfl)
              · cases e; exact goes_runM hU (P3 ++ [.t (u_eq ((A0 (s0_1).toNat)).fOp (5#8)) hq4, .o, .o, .o, .o, .o, .o]) [0, 1] (fun b => rfl) (by decide) rfl rfl (fun b => by kernel_rfl)
            · exact none_some e
          · cases e; exact goes_runM hU (P1 ++ [.l (accG (i := 0) (f := cB) (A := s0_0) (k := (s0_1).toNat) 0 [.bool false] cB_len (inR_nat hq1) (congrArg (fun b => [Value.bool b]) hq2)), .o, .o, .o, .o, .o, .o, .o]) [0, 1] (fun b => rfl) (by decide) rfl rfl (fun b => by kernel_rfl)
        · exact none_some e
      · cases e; exact ⟨ne_exit 2, goes_runM hU [.o, .b (z_geqF hq0)] [0, 1] (fun b => rfl) (by decide) rfl rfl (fun b => by kernel_rfl)⟩) s r h
noncomputable def t0_opt_kept_L1_0 (a0 : Option Addr) (p0 : Nat) (q0 : Nat) (n0 : Nat) (k0 : Nat) (A0 : Nat → Insn) (g0_0 : Nat → Bool) (g1_0 : Nat → Bool) (s0_0 : Nat → Bool) (s0_1 : Int) (ls : List L1) : List Value := List.append [.slice a0 n0 (n0 + k0), ((lget ls 1).u 1), ((lget ls 1).u 2), (rowV (lget ls 0) ((n0 : Int)).toNat 1), ((lget ls 1).u 4), ((lget ls 1).u 5), .int .i64 (s0_1)] (List.append (jks (lget ls 1).u 7 6) (List.append [.int .i64 ((n0 : Int))] (List.append (jks (lget ls 1).u 14 20) (List.append [.slice a0 n0 (n0 + k0), .int .i64 ((n0 : Int)), .int .i64 ((IntKind.i64.wrap ((n0 : Int) - 1)))] (jks (lget ls 1).u 37 26)))))
def pre_opt_kept_L1_0 (a0 : Option Addr) (p0 : Nat) (q0 : Nat) (n0 : Nat) (k0 : Nat) (A0 : Nat → Insn) (g0_0 : Nat → Bool) (g1_0 : Nat → Bool) (s0_0 : Nat → Bool) (s0_1 : Int) (ls : List L1) : List Obj := [rowO (lget ls 0) (esG cB ((n0 : Int)).toNat s0_0) 4 ((n0 : Int)).toNat 1, unb]
theorem sp0_opt_kept_L1_0_ok (g0_0 : Nat → Bool) (g1_0 : Nat → Bool) (s0_0 : Nat → Bool) (s0_1 : Int) (c0_0 : Nat → Bool) (h : lpO (st_opt_kept_L1 n0 A0) (.c0 s0_0 s0_1) = some (.e0 c0_0)) : SpcG Try.prog M B0 S ⟨fun ls => .code (.loop bd_opt_kept_L1) (t0_opt_kept_L1_0 a0 p0 q0 n0 k0 A0 g0_0 g1_0 s0_0 s0_1 ls), pre_opt_kept_L1_0 a0 p0 q0 n0 k0 A0 g0_0 g1_0 s0_0 s0_1, 1, (.exit 2), fun ls => vf_opt_kept_L1 a0 p0 q0 n0 k0 A0 g0_0 g1_0 (.e0 c0_0) (ls.take 2 ++ ls.drop 2), fun ls => (Hf_opt_kept_L1 a0 p0 q0 n0 k0 A0 g0_0 g1_0 (.e0 c0_0) (ls.take 2 ++ ls.drop 2)).take 2 ++ List.replicate 0 unb, fun ls => (Hf_opt_kept_L1 a0 p0 q0 n0 k0 A0 g0_0 g1_0 (.e0 c0_0) (ls.take 2 ++ ls.drop 2)).drop 2⟩ :=
  spc_of_goesM hU 0 (k0 := 2) (go_opt_kept_L1 hU a0 p0 q0 n0 k0 A0 hR0 g0_0 g1_0 _ _ h) (t0_opt_kept_L1_0 a0 p0 q0 n0 k0 A0 g0_0 g1_0 s0_0 s0_1) (pre_opt_kept_L1_0 a0 p0 q0 n0 k0 A0 g0_0 g1_0 s0_0 s0_1) (fun _ => rfl) (fun ls h => by match ls, h with | [l0, l1], _ => exact ⟨by kernel_rfl, by kernel_rfl⟩) (fun ls h => by match ls, h with | [l0, l1], _ => rfl) (by decide) (by decide) (fun ls => rfl)
inductive R_opt_kept where
  | e0 (c0_0 : Nat → Bool)
noncomputable def m_opt_kept (n0 : Nat) (A0 : Nat → Insn) : Option R_opt_kept :=
  (m_flow_Reached n0 A0).bind fun g0 => match g0 with
  | .e0 g0_0 =>
  (lpO (st_opt_kept_L0 n0 A0) (.c0 g0_0 0)).bind fun g1 => match g1 with
  | .e0 g1_0 =>
  (lpO (st_opt_kept_L1 n0 A0) (.c0 g1_0 (IntKind.i64.wrap ((n0 : Int) - 1)))).bind fun g2 => match g2 with
  | .e0 g2_0 =>
  some (.e0 g2_0)
def sq0_opt_kept (a0 : Option Addr) (p0 : Nat) (q0 : Nat) (n0 : Nat) (k0 : Nat) (A0 : Nat → Insn) (c0_0 : Nat → Bool) : Spc := ⟨fun ls => .call 17 #[.slice a0 n0 (n0 + k0)], fun ls => [], 1, .normal, fun ls => [(rowV (lget ls 0) ((n0 : Int)).toNat 1)], fun ls => [], fun ls => [rowO (lget ls 0) (esG cB ((n0 : Int)).toNat c0_0) 4 ((n0 : Int)).toNat 1]⟩
theorem ok0_opt_kept (c0_0 : Nat → Bool) (e : m_opt_kept n0 A0 = some (.e0 c0_0)) : SpcG Try.prog M B0 S (sq0_opt_kept a0 p0 q0 n0 k0 A0 c0_0) := by
  unfold m_opt_kept at e
  replace e := bindO_eq e
  obtain ⟨g0, e_g0, e⟩ := e
  obtain ⟨g0_0⟩ := g0
  try dsimp only at e
  replace e := bindO_eq e
  obtain ⟨g1, e_g1, e⟩ := e
  obtain ⟨g1_0⟩ := g1
  try dsimp only at e
  replace e := bindO_eq e
  obtain ⟨g2, e_g2, e⟩ := e
  obtain ⟨g2_0⟩ := g2
  try dsimp only at e
  injection e with e; injection e with i0; subst i0; exact fn_specG hU (P := Try.prog) Try.func17 (fun xs w => by kernel_rfl) 0 _ _ (fun _ => rfl) _ _ _ [0] [.o, .o, .xg (ok0_flow_Reached hU a0 p0 q0 n0 k0 A0 hR0 g0_0 e_g0) [], .o, .o, .o, .o, .o, .o, .o, .o, .cp, .cx (sp0_opt_kept_L0_0_ok hU a0 p0 q0 n0 k0 A0 hR0 g0_0 g0_0 0 g1_0 e_g1) [0], .o, .o, .o, .o, .cp, .cx (sp0_opt_kept_L1_0_ok hU a0 p0 q0 n0 k0 A0 hR0 g0_0 g1_0 g1_0 (IntKind.i64.wrap ((n0 : Int) - 1)) g2_0 e_g2) [0, 1], .o, .o] [] (fun b => by kernel_rfl)
noncomputable def m_opt_fitted (y0 : Insn) (y1 : Int) : Insn :=
  bif m_op_Jumps y0 then
    ((⟨y0.fOp, y0.fDst, y0.fSrc, (BitVec.ofInt 16 y1), y0.fImm⟩ : Insn))
  else ((⟨y0.fOp, y0.fDst, y0.fSrc, y0.fOff, (BitVec.ofInt 32 y1)⟩ : Insn))
end
section
variable {M : Nat → Prop} {B0 : Nat} {S : World → Prop} (hU : Up M B0 S)
include hU
theorem ok_opt_fitted (y0 : Insn) (y1 : Int) (r : Insn) (e : m_opt_fitted y0 y1 = r) : ConG Try.prog S 19 #[(v_Insn y0), .int .i64 (y1)] ((v_Insn r)) := by
  unfold m_opt_fitted at e
  replace e := cond_eq_or e
  rcases e with ⟨hq0, e⟩ | ⟨hq0, e⟩
  · subst e; exact fn_conG hU (P := Try.prog) Try.func19 (fun xs w => by kernel_rfl) _ _ [.o, .o, .a 0, .cg (ok_op_Jumps hU y0 true hq0), .o, .v .i16 (i16_of_z y1), .o, .a 0, .a 0, .a 1] [1, 1, 1, 1, 1] (fun b => by kernel_rfl)
  · subst e; exact fn_conG hU (P := Try.prog) Try.func19 (fun xs w => by kernel_rfl) _ _ [.o, .o, .a 0, .cg (ok_op_Jumps hU y0 false hq0), .o, .v .i32 (i32_of_z y1), .o, .a 0, .a 0, .a 1] [1, 1, 1, 1, 1] (fun b => by kernel_rfl)
inductive Sh_opt_Trim_L0 where
  | c0 (s0_0 : Nat → Int) (s0_1 : Int)
inductive Ex_opt_Trim_L0 where
  | e0 (c0_0 : Nat → Int)
noncomputable def st_opt_Trim_L0 (n0 : Nat) (g1_0 : Nat → Bool) : Sh_opt_Trim_L0 → Option (Sh_opt_Trim_L0 ⊕ Ex_opt_Trim_L0)
  | .c0 s0_0 s0_1 =>
    bif decide (s0_1 < (n0 : Int)) then
      (bif inR s0_1 4097 then
        (bif inR (IntKind.i64.wrap (s0_1 + 1)) 4097 then
          (bif inR s0_1 ((n0 : Int)).toNat then
            (bif (g1_0 (s0_1).toNat) then
              (bindT (updF (updF s0_0 ((IntKind.i64.wrap (s0_1 + 1))).toNat (s0_0 (s0_1).toNat)) ((IntKind.i64.wrap (s0_1 + 1))).toNat (IntKind.i64.wrap (((updF s0_0 ((IntKind.i64.wrap (s0_1 + 1))).toNat (s0_0 (s0_1).toNat)) ((IntKind.i64.wrap (s0_1 + 1))).toNat) + 1))) fun rb0 =>
              some (.inl (.c0 rb0 (IntKind.i64.wrap (s0_1 + 1)))))
            else (some (.inl (.c0 (updF s0_0 ((IntKind.i64.wrap (s0_1 + 1))).toNat (s0_0 (s0_1).toNat)) (IntKind.i64.wrap (s0_1 + 1))))))
          else (none))
        else (none))
      else (none))
    else (some (.inr (.e0 s0_0)))
noncomputable def bd_opt_Trim_L0 : Code := codeOf Try.f6 [1, 1, 1, 1, 0, 1, 0, 0]
def fl_opt_Trim_L0 (a0 : Option Addr) (p0 : Nat) (q0 : Nat) (n0 : Nat) (k0 : Nat) (A0 : Nat → Insn) (r0 : (Int) × (Int)) (g1_0 : Nat → Bool) : Sh_opt_Trim_L0 → List L1 → List Value
  | .c0 s0_0 s0_1, ls => [.slice a0 n0 (n0 + k0), (rowV (lget ls 0) ((n0 : Int)).toNat 1), .pointer (some ⟨(lget ls 1).n, 0, none⟩), .int .i64 ((n0 : Int)), .int .i64 (s0_1)]
def mf_opt_Trim_L0 : Sh_opt_Trim_L0 → List (Nat × Nat)
  | .c0 _ _ => [(1, 6), (2, 18), (2, 77)]
noncomputable def fr_opt_Trim_L0 (a0 : Option Addr) (p0 : Nat) (q0 : Nat) (n0 : Nat) (k0 : Nat) (A0 : Nat → Insn) (r0 : (Int) × (Int)) (g1_0 : Nat → Bool) (s : Sh_opt_Trim_L0) : List L1 → List Value := mrgF (mf_opt_Trim_L0 s) (fl_opt_Trim_L0 a0 p0 q0 n0 k0 A0 r0 g1_0 s) 2
def Hs_opt_Trim_L0 (a0 : Option Addr) (p0 : Nat) (q0 : Nat) (n0 : Nat) (k0 : Nat) (A0 : Nat → Insn) (r0 : (Int) × (Int)) (g1_0 : Nat → Bool) : Sh_opt_Trim_L0 → List L1 → List Obj
  | .c0 s0_0 s0_1, ls => [rowO (lget ls 0) (esG cB ((n0 : Int)).toNat g1_0) 4 ((n0 : Int)).toNat 1, .cells ⟨esG cZ 4097 s0_0⟩ 49, unb]
def vl_opt_Trim_L0 (a0 : Option Addr) (p0 : Nat) (q0 : Nat) (n0 : Nat) (k0 : Nat) (A0 : Nat → Insn) (r0 : (Int) × (Int)) (g1_0 : Nat → Bool) : Ex_opt_Trim_L0 → List L1 → List Value
  | .e0 c0_0, ls => [.slice a0 n0 (n0 + k0), (rowV (lget ls 0) ((n0 : Int)).toNat 1), .pointer (some ⟨(lget ls 1).n, 0, none⟩), .int .i64 ((n0 : Int))]
def mk_opt_Trim_L0 : Ex_opt_Trim_L0 → List (Nat × Nat)
  | .e0 _ => [(1, 6), (2, 18), (1, 78)]
noncomputable def vf_opt_Trim_L0 (a0 : Option Addr) (p0 : Nat) (q0 : Nat) (n0 : Nat) (k0 : Nat) (A0 : Nat → Insn) (r0 : (Int) × (Int)) (g1_0 : Nat → Bool) (r : Ex_opt_Trim_L0) : List L1 → List Value := mrgF (mk_opt_Trim_L0 r) (vl_opt_Trim_L0 a0 p0 q0 n0 k0 A0 r0 g1_0 r) 2
def Hf_opt_Trim_L0 (a0 : Option Addr) (p0 : Nat) (q0 : Nat) (n0 : Nat) (k0 : Nat) (A0 : Nat → Insn) (r0 : (Int) × (Int)) (g1_0 : Nat → Bool) : Ex_opt_Trim_L0 → List L1 → List Obj
  | .e0 c0_0, ls => [rowO (lget ls 0) (esG cB ((n0 : Int)).toNat g1_0) 4 ((n0 : Int)).toNat 1, .cells ⟨esG cZ 4097 c0_0⟩ 49, unb]
def ex_opt_Trim_L0 : Ex_opt_Trim_L0 → Ex
  | .e0 _ => (.exit 0)
end
section
variable {M : Nat → Prop} {B0 : Nat} {S : World → Prop} (hU : Up M B0 S) (a0 : Option Addr) (p0 : Nat) (q0 : Nat) (n0 : Nat) (k0 : Nat) (A0 : Nat → Insn) (hR0 : Ro S c_Insn 5 a0 p0 q0 n0 A0) (r0 : (Int) × (Int)) (g1_0 : Nat → Bool)
include hU a0 p0 q0 n0 k0 A0 hR0 r0 g1_0
theorem go_opt_Trim_L0 (s : Sh_opt_Trim_L0) (r : Ex_opt_Trim_L0) (h : lpO (st_opt_Trim_L0 n0 g1_0) s = some r) : GoesG Try.prog M B0 S (.loop bd_opt_Trim_L0) 3 (fr_opt_Trim_L0 a0 p0 q0 n0 k0 A0 r0 g1_0 s) (Hs_opt_Trim_L0 a0 p0 q0 n0 k0 A0 r0 g1_0 s) (ex_opt_Trim_L0 r) 2 (vf_opt_Trim_L0 a0 p0 q0 n0 k0 A0 r0 g1_0 r) (Hf_opt_Trim_L0 a0 p0 q0 n0 k0 A0 r0 g1_0 r) 3 :=
  goes_lpO (fun s q e => by
    cases s with
    | c0 s0_0 s0_1 =>
      unfold st_opt_Trim_L0 at e
      dsimp only at e
      replace e := cond_eq_or e
      rcases e with ⟨hq0, e⟩ | ⟨hq0, e⟩
      · replace e := cond_eq_or e
        rcases e with ⟨hq1, e⟩ | ⟨hq1, e⟩
        · replace e := cond_eq_or e
          let P1 : List (PG Try.prog M B0 S) := [.b (z_lssT hq0), .o, .o, .o, .o, .o, .q (ixA_ok (kd := .i64) (T := 49) (x := s0_1) (sz := 1) (N := 4097) rfl rfl (fun w => by kernel_rfl) hq1), .l (accF (i := 1) (f := cZ) (A := s0_0) (k := (s0_1).toNat) 0 [.int .i64 ((s0_0 (s0_1).toNat))] cZ_len (inR_nat hq1) rfl)]
          rcases e with ⟨hq2, e⟩ | ⟨hq2, e⟩
          · replace e := cond_eq_or e
            let P2 : List (PG Try.prog M B0 S) := P1 ++ [.q (ixA_ok (kd := .i64) (T := 49) (x := (IntKind.i64.wrap (s0_1 + 1))) (sz := 1) (N := 4097) rfl rfl (fun w => by kernel_rfl) hq2), .x (sqStF_ok (T := 3) (e := 49) (f := cZ) (A := s0_0) (v := (s0_0 (s0_1).toNat)) 0 (.int .i64 ((s0_0 (s0_1).toNat))) cZ_len cZ_one rfl rfl (fun w => by kernel_rfl) (inR_nat hq2)) [1], .o, .o]
            rcases e with ⟨hq3, e⟩ | ⟨hq3, e⟩
            · replace e := cond_eq_or e
              let P3 : List (PG Try.prog M B0 S) := P2 ++ [.q (ixM_ok (kd := .i64) (T := 30) (x := s0_1) (N := ((n0 : Int)).toNat) (sz := 1) rfl (fun w => by kernel_rfl) hq3)]
              rcases e with ⟨hq4, e⟩ | ⟨hq4, e⟩
              · replace e := bindT_eq e
                obtain ⟨rb0, e_rb0, e⟩ := e
                try dsimp only at e
                cases e; exact goes_runM hU (P3 ++ [.l (accG (i := 0) (f := cB) (A := g1_0) (k := (s0_1).toNat) 0 [.bool true] cB_len (inR_nat hq3) (congrArg (fun b => [Value.bool b]) hq4)), .o, .o, .q (ixA_ok (kd := .i64) (T := 49) (x := (IntKind.i64.wrap (s0_1 + 1))) (sz := 1) (N := 4097) rfl rfl (fun w => by kernel_rfl) hq2), .l (accF (i := 1) (f := cZ) (A := updF s0_0 ((IntKind.i64.wrap (s0_1 + 1))).toNat (s0_0 (s0_1).toNat)) (k := ((IntKind.i64.wrap (s0_1 + 1))).toNat) 0 [.int .i64 (((updF s0_0 ((IntKind.i64.wrap (s0_1 + 1))).toNat (s0_0 (s0_1).toNat)) ((IntKind.i64.wrap (s0_1 + 1))).toNat))] cZ_len (inR_nat hq2) rfl), .o, .q (ixA_ok (kd := .i64) (T := 49) (x := (IntKind.i64.wrap (s0_1 + 1))) (sz := 1) (N := 4097) rfl rfl (fun w => by kernel_rfl) hq2), .x (sqStFr_ok (T := 3) (e := 49) (f := cZ) (A := updF s0_0 ((IntKind.i64.wrap (s0_1 + 1))).toNat (s0_0 (s0_1).toNat)) (v := (IntKind.i64.wrap (((updF s0_0 ((IntKind.i64.wrap (s0_1 + 1))).toNat (s0_0 (s0_1).toNat)) ((IntKind.i64.wrap (s0_1 + 1))).toNat) + 1))) 0 (.int .i64 ((IntKind.i64.wrap (((updF s0_0 ((IntKind.i64.wrap (s0_1 + 1))).toNat (s0_0 (s0_1).toNat)) ((IntKind.i64.wrap (s0_1 + 1))).toNat) + 1)))) cZ_len cZ_one rfl rfl (fun w => by kernel_rfl) (inR_nat hq2) e_rb0) [1], .o, .o]) [0, 1] (fun b => rfl) (by decide) rfl rfl (fun b => by kernel_rfl)
              · cases e; exact goes_runM hU (P3 ++ [.l (accG (i := 0) (f := cB) (A := g1_0) (k := (s0_1).toNat) 0 [.bool false] cB_len (inR_nat hq3) (congrArg (fun b => [Value.bool b]) hq4)), .o, .o]) [0, 1] (fun b => rfl) (by decide) rfl rfl (fun b => by kernel_rfl)
            · exact none_some e
          · exact none_some e
        · exact none_some e
      · cases e; exact ⟨ne_exit 0, goes_runM hU [.b (z_lssF hq0)] [0, 1] (fun b => rfl) (by decide) rfl rfl (fun b => by kernel_rfl)⟩) s r h
noncomputable def t0_opt_Trim_L0_0 (a0 : Option Addr) (p0 : Nat) (q0 : Nat) (n0 : Nat) (k0 : Nat) (A0 : Nat → Insn) (r0 : (Int) × (Int)) (g1_0 : Nat → Bool) (s0_0 : Nat → Int) (s0_1 : Int) (ls : List L1) : List Value := List.append [.slice a0 n0 (n0 + k0), undef, .slice none 0 0, .slice none 0 0, .int .i64 (0), .int .i64 (r0.1), .int .i64 (r0.2), (rowV (lget ls 0) ((n0 : Int)).toNat 1), .pointer (some ⟨(lget ls 1).n, 0, none⟩)] (List.append (und 7) (List.append [.tuple #[.int .i64 (r0.1), .int .i64 (r0.2)], .slice a0 n0 (n0 + k0), .tuple #[.int .i64 (r0.1), .int .i64 (r0.2)], .int .i64 (r0.1), .int .i64 (r0.2), .int .i64 (r0.2), .bool false, undef, .slice a0 n0 (n0 + k0), (rowV (lget ls 0) ((n0 : Int)).toNat 1), .slice a0 n0 (n0 + k0), .int .i64 ((n0 : Int)), .int .i64 (s0_1)] (und 77)))
def pre_opt_Trim_L0_0 (a0 : Option Addr) (p0 : Nat) (q0 : Nat) (n0 : Nat) (k0 : Nat) (A0 : Nat → Insn) (r0 : (Int) × (Int)) (g1_0 : Nat → Bool) (s0_0 : Nat → Int) (s0_1 : Int) (ls : List L1) : List Obj := [rowO (lget ls 0) (esG cB ((n0 : Int)).toNat g1_0) 4 ((n0 : Int)).toNat 1, .cells ⟨esG cZ 4097 s0_0⟩ 49]
theorem sp0_opt_Trim_L0_0_ok (s0_0 : Nat → Int) (s0_1 : Int) (c0_0 : Nat → Int) (h : lpO (st_opt_Trim_L0 n0 g1_0) (.c0 s0_0 s0_1) = some (.e0 c0_0)) : SpcG Try.prog M B0 S ⟨fun ls => .code (.loop bd_opt_Trim_L0) (t0_opt_Trim_L0_0 a0 p0 q0 n0 k0 A0 r0 g1_0 s0_0 s0_1 ls), pre_opt_Trim_L0_0 a0 p0 q0 n0 k0 A0 r0 g1_0 s0_0 s0_1, 1, (.exit 0), fun ls => vf_opt_Trim_L0 a0 p0 q0 n0 k0 A0 r0 g1_0 (.e0 c0_0) (ls.take 2 ++ ls.drop 2), fun ls => (Hf_opt_Trim_L0 a0 p0 q0 n0 k0 A0 r0 g1_0 (.e0 c0_0) (ls.take 2 ++ ls.drop 2)).take 2 ++ List.replicate 0 unb, fun ls => (Hf_opt_Trim_L0 a0 p0 q0 n0 k0 A0 r0 g1_0 (.e0 c0_0) (ls.take 2 ++ ls.drop 2)).drop 2⟩ :=
  spc_of_goesM hU 0 (k0 := 2) (go_opt_Trim_L0 hU a0 p0 q0 n0 k0 A0 hR0 r0 g1_0 _ _ h) (t0_opt_Trim_L0_0 a0 p0 q0 n0 k0 A0 r0 g1_0 s0_0 s0_1) (pre_opt_Trim_L0_0 a0 p0 q0 n0 k0 A0 r0 g1_0 s0_0 s0_1) (fun _ => rfl) (fun ls h => by match ls, h with | [l0, l1], _ => exact ⟨by kernel_rfl, by kernel_rfl⟩) (fun ls h => by match ls, h with | [l0, l1], _ => rfl) (by decide) (by decide) (fun ls => rfl)
inductive Sh_opt_Trim_L1 where
  | c0 (s0_0 : Nat) (s0_1 : Nat → Insn) (s0_2 : Nat) (s0_3 : Nat → Int) (s0_4 : Int)
inductive Ex_opt_Trim_L1 where
  | e0 (c0_0 : Nat) (c0_1 : Nat → Insn) (c0_2 : Nat) (c0_3 : Nat → Int)
noncomputable def st_opt_Trim_L1 (n0 : Nat) (A0 : Nat → Insn) (g1_0 : Nat → Bool) (g2_0 : Nat → Int) : Sh_opt_Trim_L1 → Option (Sh_opt_Trim_L1 ⊕ Ex_opt_Trim_L1)
  | .c0 s0_0 s0_1 s0_2 s0_3 s0_4 =>
    bif decide (s0_4 < (n0 : Int)) then
      (bif inR s0_4 ((n0 : Int)).toNat then
        (bif (g1_0 (s0_4).toNat) then
          (bif inR s0_4 n0 then
            ((m_insn_Target n0 A0 s0_4).bind fun rb0 =>
            bif rb0.2 then
              (bif inR rb0.1 4097 then
                (bif inR s0_4 4097 then
                  (bindT (m_opt_fitted ((A0 (s0_4).toNat)) (IntKind.i64.wrap ((IntKind.i64.wrap ((g2_0 (rb0.1).toNat) - (g2_0 (s0_4).toNat))) - 1))) fun rb1 =>
                  bif decide (s0_0 ≤ 1000000) then
                    (bif decide (s0_2 ≤ 1000000) then
                      (some (.inl (.c0 (s0_0 + 1) (updF s0_1 s0_0 rb1) (s0_2 + 1) (updF s0_3 s0_2 s0_4) (IntKind.i64.wrap (s0_4 + 1)))))
                    else (none))
                  else (none))
                else (none))
              else (none))
            else (bif decide (s0_0 ≤ 1000000) then
              (bif decide (s0_2 ≤ 1000000) then
                (some (.inl (.c0 (s0_0 + 1) (updF s0_1 s0_0 ((A0 (s0_4).toNat))) (s0_2 + 1) (updF s0_3 s0_2 s0_4) (IntKind.i64.wrap (s0_4 + 1)))))
              else (none))
            else (none)))
          else (none))
        else (some (.inl (.c0 s0_0 s0_1 s0_2 s0_3 (IntKind.i64.wrap (s0_4 + 1))))))
      else (none))
    else (some (.inr (.e0 s0_0 s0_1 s0_2 s0_3)))
noncomputable def bd_opt_Trim_L1 : Code := codeOf Try.f6 [1, 1, 1, 1, 1, 1, 1, 0, 1, 0, 0]
def fl_opt_Trim_L1 (a0 : Option Addr) (p0 : Nat) (q0 : Nat) (n0 : Nat) (k0 : Nat) (A0 : Nat → Insn) (r0 : (Int) × (Int)) (g1_0 : Nat → Bool) (g2_0 : Nat → Int) : Sh_opt_Trim_L1 → List L1 → List Value
  | .c0 s0_0 s0_1 s0_2 s0_3 s0_4, ls => [.slice a0 n0 (n0 + k0), (rowV (lget ls 0) ((n0 : Int)).toNat 1), .pointer (some ⟨(lget ls 1).n, 0, none⟩), (rowV (lget ls 3) s0_0 5), (rowV (lget ls 4) s0_2 1), .int .i64 ((n0 : Int)), .int .i64 (s0_4)]
def mf_opt_Trim_L1 : Sh_opt_Trim_L1 → List (Nat × Nat)
  | .c0 _ _ _ _ _ => [(1, 6), (2, 1), (2, 43), (2, 49)]
noncomputable def fr_opt_Trim_L1 (a0 : Option Addr) (p0 : Nat) (q0 : Nat) (n0 : Nat) (k0 : Nat) (A0 : Nat → Insn) (r0 : (Int) × (Int)) (g1_0 : Nat → Bool) (g2_0 : Nat → Int) (s : Sh_opt_Trim_L1) : List L1 → List Value := mrgF (mf_opt_Trim_L1 s) (fl_opt_Trim_L1 a0 p0 q0 n0 k0 A0 r0 g1_0 g2_0 s) 5
def Hs_opt_Trim_L1 (a0 : Option Addr) (p0 : Nat) (q0 : Nat) (n0 : Nat) (k0 : Nat) (A0 : Nat → Insn) (r0 : (Int) × (Int)) (g1_0 : Nat → Bool) (g2_0 : Nat → Int) : Sh_opt_Trim_L1 → List L1 → List Obj
  | .c0 s0_0 s0_1 s0_2 s0_3 s0_4, ls => [rowO (lget ls 0) (esG cB ((n0 : Int)).toNat g1_0) 4 ((n0 : Int)).toNat 1, .cells ⟨esG cZ 4097 g2_0⟩ 49, unb, rowO (lget ls 3) (esG c_Insn s0_0 s0_1) 37 s0_0 5, rowO (lget ls 4) (esG cZ s0_2 s0_3) 3 s0_2 1, unb]
def vl_opt_Trim_L1 (a0 : Option Addr) (p0 : Nat) (q0 : Nat) (n0 : Nat) (k0 : Nat) (A0 : Nat → Insn) (r0 : (Int) × (Int)) (g1_0 : Nat → Bool) (g2_0 : Nat → Int) : Ex_opt_Trim_L1 → List L1 → List Value
  | .e0 c0_0 c0_1 c0_2 c0_3, ls => [.slice a0 n0 (n0 + k0), (rowV (lget ls 0) ((n0 : Int)).toNat 1), .pointer (some ⟨(lget ls 1).n, 0, none⟩), (rowV (lget ls 3) c0_0 5), (rowV (lget ls 4) c0_2 1), .int .i64 ((n0 : Int))]
def mk_opt_Trim_L1 : Ex_opt_Trim_L1 → List (Nat × Nat)
  | .e0 _ _ _ _ => [(1, 6), (2, 1), (2, 43), (1, 50)]
noncomputable def vf_opt_Trim_L1 (a0 : Option Addr) (p0 : Nat) (q0 : Nat) (n0 : Nat) (k0 : Nat) (A0 : Nat → Insn) (r0 : (Int) × (Int)) (g1_0 : Nat → Bool) (g2_0 : Nat → Int) (r : Ex_opt_Trim_L1) : List L1 → List Value := mrgF (mk_opt_Trim_L1 r) (vl_opt_Trim_L1 a0 p0 q0 n0 k0 A0 r0 g1_0 g2_0 r) 5
def Hf_opt_Trim_L1 (a0 : Option Addr) (p0 : Nat) (q0 : Nat) (n0 : Nat) (k0 : Nat) (A0 : Nat → Insn) (r0 : (Int) × (Int)) (g1_0 : Nat → Bool) (g2_0 : Nat → Int) : Ex_opt_Trim_L1 → List L1 → List Obj
  | .e0 c0_0 c0_1 c0_2 c0_3, ls => [rowO (lget ls 0) (esG cB ((n0 : Int)).toNat g1_0) 4 ((n0 : Int)).toNat 1, .cells ⟨esG cZ 4097 g2_0⟩ 49, unb, rowO (lget ls 3) (esG c_Insn c0_0 c0_1) 37 c0_0 5, rowO (lget ls 4) (esG cZ c0_2 c0_3) 3 c0_2 1, unb]
def ex_opt_Trim_L1 : Ex_opt_Trim_L1 → Ex
  | .e0 _ _ _ _ => (.exit 2)
theorem go_opt_Trim_L1 (g2_0 : Nat → Int) (s : Sh_opt_Trim_L1) (r : Ex_opt_Trim_L1) (h : lpO (st_opt_Trim_L1 n0 A0 g1_0 g2_0) s = some r) : GoesG Try.prog M B0 S (.loop bd_opt_Trim_L1) 6 (fr_opt_Trim_L1 a0 p0 q0 n0 k0 A0 r0 g1_0 g2_0 s) (Hs_opt_Trim_L1 a0 p0 q0 n0 k0 A0 r0 g1_0 g2_0 s) (ex_opt_Trim_L1 r) 3 (vf_opt_Trim_L1 a0 p0 q0 n0 k0 A0 r0 g1_0 g2_0 r) (Hf_opt_Trim_L1 a0 p0 q0 n0 k0 A0 r0 g1_0 g2_0 r) 6 :=
  goes_lpO (fun s q e => by
    cases s with
    | c0 s0_0 s0_1 s0_2 s0_3 s0_4 =>
      unfold st_opt_Trim_L1 at e
      dsimp only at e
      replace e := cond_eq_or e
      rcases e with ⟨hq0, e⟩ | ⟨hq0, e⟩
      · replace e := cond_eq_or e
        rcases e with ⟨hq1, e⟩ | ⟨hq1, e⟩
        · replace e := cond_eq_or e
          let P1 : List (PG Try.prog M B0 S) := [.b (z_lssT hq0), .o, .o, .o, .o, .q (ixM_ok (kd := .i64) (T := 30) (x := s0_4) (N := ((n0 : Int)).toNat) (sz := 1) rfl (fun w => by kernel_rfl) hq1)]
          rcases e with ⟨hq2, e⟩ | ⟨hq2, e⟩
          · replace e := cond_eq_or e
            let P2 : List (PG Try.prog M B0 S) := P1 ++ [.l (accG (i := 0) (f := cB) (A := g1_0) (k := (s0_4).toNat) 0 [.bool true] cB_len (inR_nat hq1) (congrArg (fun b => [Value.bool b]) hq2)), .o, .o, .o]
            rcases e with ⟨hq3, e⟩ | ⟨hq3, e⟩
            · replace e := bindO_eq e
              obtain ⟨rb0, e_rb0, e⟩ := e
              try dsimp only at e
              replace e := cond_eq_or e
              let P3 : List (PG Try.prog M B0 S) := P2 ++ [.q (ixRo_ok (kd := .i64) (T := 22) (x := s0_4) (sz := 5) rfl (fun w => by kernel_rfl) hR0 hq3), .l (accRo hR0 c_Insn_len (inR_nat hq3) 0 [.int .u8 (nn ((A0 (s0_4).toNat)).fOp), .int .u8 (nn ((A0 (s0_4).toNat)).fDst), .int .u8 (nn ((A0 (s0_4).toNat)).fSrc), .int .i16 (ii ((A0 (s0_4).toNat)).fOff), .int .i32 (ii ((A0 (s0_4).toNat)).fImm)] rfl), .o, .a 6, .o, .o, .cg (ok_insn_Target hU a0 p0 q0 n0 k0 A0 hR0 s0_4 rb0 e_rb0), .o, .o]
              rcases e with ⟨hq4, e⟩ | ⟨hq4, e⟩
              · replace e := cond_eq_or e
                rcases e with ⟨hq5, e⟩ | ⟨hq5, e⟩
                · replace e := cond_eq_or e
                  rcases e with ⟨hq6, e⟩ | ⟨hq6, e⟩
                  · replace e := bindT_eq e
                    obtain ⟨rb1, e_rb1, e⟩ := e
                    try dsimp only at e
                    replace e := cond_eq_or e
                    rcases e with ⟨hq7, e⟩ | ⟨hq7, e⟩
                    · replace e := cond_eq_or e
                      rcases e with ⟨hq8, e⟩ | ⟨hq8, e⟩
                      · cases e; exact goes_runM hU (P3 ++ [.b hq4, .o, .o, .o, .r [0, 1, 2, 3, 4, 5, 6, 7, 8, 9] [] [10], .a 6, .o, .q (ixA_ok (kd := .i64) (T := 49) (x := rb0.1) (sz := 1) (N := 4097) rfl rfl (fun w => by kernel_rfl) hq5), .l (accF (i := 1) (f := cZ) (A := g2_0) (k := (rb0.1).toNat) 0 [.int .i64 ((g2_0 (rb0.1).toNat))] cZ_len (inR_nat hq5) rfl), .o, .q (ixA_ok (kd := .i64) (T := 49) (x := s0_4) (sz := 1) (N := 4097) rfl rfl (fun w => by kernel_rfl) hq6), .l (accF (i := 1) (f := cZ) (A := g2_0) (k := (s0_4).toNat) 0 [.int .i64 ((g2_0 (s0_4).toNat))] cZ_len (inR_nat hq6) rfl), .o, .o, .cg (ok_opt_fitted hU ((A0 (s0_4).toNat)) (IntKind.i64.wrap ((IntKind.i64.wrap ((g2_0 (rb0.1).toNat) - (g2_0 (s0_4).toNat))) - 1)) rb1 e_rb1), .a 6, .o, .a 6, .o, .x (sqAppL_ok (ty := 22) rt22 #[false, false] (f := c_Insn) (N := s0_0) (A := s0_1) (c := 1) [rb1] (T' := 37) .row c_Insn_len c_Insn_one hq7 rfl (by decide)) [3, 7], .o, .o, .o, .x (sqAppL_ok (ty := 26) rt26 #[false, false] (f := cZ) (N := s0_2) (A := s0_3) (c := 1) [s0_4] (T' := 3) .row cZ_len cZ_one hq8 rfl (by decide)) [4, 9], .o, .o, .o, .o]) [0, 1, 2, 8, 10] (fun b => rfl) (by decide) rfl rfl (fun b => by kernel_rfl)
                      · exact none_some e
                    · exact none_some e
                  · exact none_some e
                · exact none_some e
              · replace e := cond_eq_or e
                rcases e with ⟨hq5, e⟩ | ⟨hq5, e⟩
                · replace e := cond_eq_or e
                  rcases e with ⟨hq6, e⟩ | ⟨hq6, e⟩
                  · cases e; exact goes_runM hU (P3 ++ [.b hq4, .o, .o, .o, .o, .a 6, .o, .x (sqAppL_ok (ty := 22) rt22 #[false, false] (f := c_Insn) (N := s0_0) (A := s0_1) (c := 1) [((A0 (s0_4).toNat))] (T' := 37) .row c_Insn_len c_Insn_one hq5 rfl (by decide)) [3, 7], .o, .o, .o, .x (sqAppL_ok (ty := 26) rt26 #[false, false] (f := cZ) (N := s0_2) (A := s0_3) (c := 1) [s0_4] (T' := 3) .row cZ_len cZ_one hq6 rfl (by decide)) [4, 9], .o, .o, .o, .o]) [0, 1, 2, 8, 10] (fun b => rfl) (by decide) rfl rfl (fun b => by kernel_rfl)
                  · exact none_some e
                · exact none_some e
            · exact none_some e
          · cases e; exact goes_runM hU (P1 ++ [.l (accG (i := 0) (f := cB) (A := g1_0) (k := (s0_4).toNat) 0 [.bool false] cB_len (inR_nat hq1) (congrArg (fun b => [Value.bool b]) hq2)), .o, .o, .o]) [0, 1, 2, 3, 4] (fun b => rfl) (by decide) rfl rfl (fun b => by kernel_rfl)
        · exact none_some e
      · cases e; exact ⟨ne_exit 2, goes_runM hU [.b (z_lssF hq0)] [0, 1, 2, 3, 4] (fun b => rfl) (by decide) rfl rfl (fun b => by kernel_rfl)⟩) s r h
noncomputable def t0_opt_Trim_L1_0 (a0 : Option Addr) (p0 : Nat) (q0 : Nat) (n0 : Nat) (k0 : Nat) (A0 : Nat → Insn) (r0 : (Int) × (Int)) (g1_0 : Nat → Bool) (g2_0 : Nat → Int) (s0_0 : Nat) (s0_1 : Nat → Insn) (s0_2 : Nat) (s0_3 : Nat → Int) (s0_4 : Int) (ls : List L1) : List Value := List.append [.slice a0 n0 (n0 + k0)] (List.append (jks (lget ls 2).u 1 6) (List.append [(rowV (lget ls 0) ((n0 : Int)).toNat 1), .pointer (some ⟨(lget ls 1).n, 0, none⟩), ((lget ls 2).u 9), (rowV (lget ls 3) s0_0 5), (rowV (lget ls 4) s0_2 1)] (List.append (jks (lget ls 2).u 12 15) (List.append [.int .i64 ((n0 : Int))] (List.append (jks (lget ls 2).u 28 20) (List.append [.slice a0 n0 (n0 + k0), .int .i64 ((n0 : Int)), (rowV (lget ls 3) 0 5), .slice a0 n0 (n0 + k0), .int .i64 ((n0 : Int)), (rowV (lget ls 4) 0 1), .slice a0 n0 (n0 + k0), .int .i64 ((n0 : Int)), .int .i64 (s0_4)] (jks (lget ls 2).u 57 49)))))))
def pre_opt_Trim_L1_0 (a0 : Option Addr) (p0 : Nat) (q0 : Nat) (n0 : Nat) (k0 : Nat) (A0 : Nat → Insn) (r0 : (Int) × (Int)) (g1_0 : Nat → Bool) (g2_0 : Nat → Int) (s0_0 : Nat) (s0_1 : Nat → Insn) (s0_2 : Nat) (s0_3 : Nat → Int) (s0_4 : Int) (ls : List L1) : List Obj := [rowO (lget ls 0) (esG cB ((n0 : Int)).toNat g1_0) 4 ((n0 : Int)).toNat 1, .cells ⟨esG cZ 4097 g2_0⟩ 49, unb, rowO (lget ls 3) (esG c_Insn s0_0 s0_1) 37 s0_0 5, rowO (lget ls 4) (esG cZ s0_2 s0_3) 3 s0_2 1]
theorem sp0_opt_Trim_L1_0_ok (g2_0 : Nat → Int) (s0_0 : Nat) (s0_1 : Nat → Insn) (s0_2 : Nat) (s0_3 : Nat → Int) (s0_4 : Int) (c0_0 : Nat) (c0_1 : Nat → Insn) (c0_2 : Nat) (c0_3 : Nat → Int) (h : lpO (st_opt_Trim_L1 n0 A0 g1_0 g2_0) (.c0 s0_0 s0_1 s0_2 s0_3 s0_4) = some (.e0 c0_0 c0_1 c0_2 c0_3)) : SpcG Try.prog M B0 S ⟨fun ls => .code (.loop bd_opt_Trim_L1) (t0_opt_Trim_L1_0 a0 p0 q0 n0 k0 A0 r0 g1_0 g2_0 s0_0 s0_1 s0_2 s0_3 s0_4 ls), pre_opt_Trim_L1_0 a0 p0 q0 n0 k0 A0 r0 g1_0 g2_0 s0_0 s0_1 s0_2 s0_3 s0_4, 3, (.exit 2), fun ls => vf_opt_Trim_L1 a0 p0 q0 n0 k0 A0 r0 g1_0 g2_0 (.e0 c0_0 c0_1 c0_2 c0_3) (ls.take 3 ++ ls.drop 5), fun ls => (Hf_opt_Trim_L1 a0 p0 q0 n0 k0 A0 r0 g1_0 g2_0 (.e0 c0_0 c0_1 c0_2 c0_3) (ls.take 3 ++ ls.drop 5)).take 3 ++ List.replicate 2 unb, fun ls => (Hf_opt_Trim_L1 a0 p0 q0 n0 k0 A0 r0 g1_0 g2_0 (.e0 c0_0 c0_1 c0_2 c0_3) (ls.take 3 ++ ls.drop 5)).drop 3⟩ :=
  spc_of_goesM hU 0 (k0 := 5) (go_opt_Trim_L1 hU a0 p0 q0 n0 k0 A0 hR0 r0 g1_0 g2_0 _ _ h) (t0_opt_Trim_L1_0 a0 p0 q0 n0 k0 A0 r0 g1_0 g2_0 s0_0 s0_1 s0_2 s0_3 s0_4) (pre_opt_Trim_L1_0 a0 p0 q0 n0 k0 A0 r0 g1_0 g2_0 s0_0 s0_1 s0_2 s0_3 s0_4) (fun _ => rfl) (fun ls h => by match ls, h with | [l0, l1, l2, l3, l4], _ => exact ⟨by kernel_rfl, by kernel_rfl⟩) (fun ls h => by match ls, h with | [l0, l1, l2, l3, l4], _ => rfl) (by decide) (by decide) (fun ls => rfl)
inductive R_opt_Trim where
  | e0 (c0_0 : Nat) (c0_1 : Nat → Insn) (c0_2 : Nat) (c0_3 : Nat → Int)
  | e1 (c1_0 : Int)
noncomputable def m_opt_Trim (n0 : Nat) (A0 : Nat → Insn) : Option R_opt_Trim :=
  (m_insn_Check n0 A0).bind fun r0 =>
  bif r0.2 == 0 then
    ((m_opt_kept n0 A0).bind fun g1 => match g1 with
    | .e0 g1_0 =>
    (lpO (st_opt_Trim_L0 n0 g1_0) (.c0 (fun _ => 0) 0)).bind fun g2 => match g2 with
    | .e0 g2_0 =>
    bif inR (n0 : Int) 1000001 then
      ((lpO (st_opt_Trim_L1 n0 A0 g1_0 g2_0) (.c0 0 (fun _ => (⟨0#8, 0#8, 0#8, 0#16, 0#32⟩ : Insn)) 0 (fun _ => 0) 0)).bind fun g3 => match g3 with
      | .e0 g3_0 g3_1 g3_2 g3_3 =>
      bif inR (g3_0 : Int) (g3_0 + 1) then
        (bif inR (g3_2 : Int) (g3_2 + 1) then
          (some (.e0 g3_0 g3_1 g3_2 g3_3))
        else (none))
      else (none))
    else (none))
  else (some (.e1 r0.2))
def sq0_opt_Trim (a0 : Option Addr) (p0 : Nat) (q0 : Nat) (n0 : Nat) (k0 : Nat) (A0 : Nat → Insn) (c0_0 : Nat) (c0_1 : Nat → Insn) (c0_2 : Nat) (c0_3 : Nat → Int) : Spc := ⟨fun ls => .call 6 #[.slice a0 n0 (n0 + k0)], fun ls => [], 2, .normal, fun ls => [.tuple #[(rowCV .cap (lget ls 0) c0_0 5), (rowCV .cap (lget ls 1) c0_2 1), .int .i64 (0)]], fun ls => [], fun ls => [rowO (lget ls 0) (esG c_Insn c0_0 c0_1) 37 c0_0 5, rowO (lget ls 1) (esG cZ c0_2 c0_3) 3 c0_2 1]⟩
def sq1_opt_Trim (a0 : Option Addr) (p0 : Nat) (q0 : Nat) (n0 : Nat) (k0 : Nat) (A0 : Nat → Insn) (c1_0 : Int) : Spc := ⟨fun ls => .call 6 #[.slice a0 n0 (n0 + k0)], fun ls => [], 0, .normal, fun ls => [.tuple #[.slice none 0 0, .slice none 0 0, .int .i64 (c1_0)]], fun ls => [], fun ls => []⟩
end
section
variable {M : Nat → Prop} {B0 : Nat} {S : World → Prop} (hU : Up M B0 S) (a0 : Option Addr) (p0 : Nat) (q0 : Nat) (n0 : Nat) (k0 : Nat) (A0 : Nat → Insn) (hR0 : Ro S c_Insn 5 a0 p0 q0 n0 A0)
include hU a0 p0 q0 n0 k0 A0 hR0
theorem ok0_opt_Trim (c0_0 : Nat) (c0_1 : Nat → Insn) (c0_2 : Nat) (c0_3 : Nat → Int) (e : m_opt_Trim n0 A0 = some (.e0 c0_0 c0_1 c0_2 c0_3)) : SpcG Try.prog M B0 S (sq0_opt_Trim a0 p0 q0 n0 k0 A0 c0_0 c0_1 c0_2 c0_3) := by
  unfold m_opt_Trim at e
  replace e := bindO_eq e
  obtain ⟨r0, e_r0, e⟩ := e
  try dsimp only at e
  replace e := cond_eq_or e
  rcases e with ⟨hq0, e⟩ | ⟨hq0, e⟩
  · replace e := bindO_eq e
    obtain ⟨g1, e_g1, e⟩ := e
    obtain ⟨g1_0⟩ := g1
    try dsimp only at e
    replace e := bindO_eq e
    obtain ⟨g2, e_g2, e⟩ := e
    obtain ⟨g2_0⟩ := g2
    try dsimp only at e
    replace e := cond_eq_or e
    rcases e with ⟨hq1, e⟩ | ⟨hq1, e⟩
    · replace e := bindO_eq e
      obtain ⟨g3, e_g3, e⟩ := e
      obtain ⟨g3_0, g3_1, g3_2, g3_3⟩ := g3
      try dsimp only at e
      replace e := cond_eq_or e
      rcases e with ⟨hq2, e⟩ | ⟨hq2, e⟩
      · replace e := cond_eq_or e
        rcases e with ⟨hq3, e⟩ | ⟨hq3, e⟩
        · injection e with e; injection e with i0 i1 i2 i3; subst i0 i1 i2 i3; exact fn_specG hU (P := Try.prog) Try.func6 (fun xs w => by kernel_rfl) 0 _ _ (fun _ => rfl) _ _ _ [5, 6] [.o, .o, .o, .o, .cg (ok_insn_Check hU a0 p0 q0 n0 k0 A0 hR0 r0 e_r0), .o, .o, .o, .o, .o, .o, .b (z_neqT hq0), .o, .xg (ok0_opt_kept hU a0 p0 q0 n0 k0 A0 hR0 g1_0 e_g1) [], .o, .o, .o, .o, .o, .cp, .cx (sp0_opt_Trim_L0_0_ok hU a0 p0 q0 n0 k0 A0 hR0 r0 g1_0 (fun _ => 0) 0 g2_0 e_g2) [0, 1], .o, .o, .x (sqMkE_ok rt22 (f := c_Insn) (c := (n0 : Int)) (A := fun _ => (⟨0#8, 0#8, 0#8, 0#16, 0#32⟩ : Insn)) c_Insn_len hq1 (by decide)) [], .o, .o, .o, .x (sqMkE_ok rt26 (f := cZ) (c := (n0 : Int)) (A := fun _ => 0) cZ_len hq1 (by decide)) [], .o, .o, .o, .o, .cp, .cx (sp0_opt_Trim_L1_0_ok hU a0 p0 q0 n0 k0 A0 hR0 r0 g1_0 g2_0 0 (fun _ => (⟨0#8, 0#8, 0#8, 0#16, 0#32⟩ : Insn)) 0 (fun _ => 0) 0 g3_0 g3_1 g3_2 g3_3 e_g3) [0, 1, 2, 3, 4], .r [0, 1, 2, 3, 4, 5, 6, 7, 8, 9, 10, 11, 12, 13, 14] [] [], .o, .o, .o, .o, .o, .qb (slLow_ok (T := 22) (e := 37) (sz := 5) (N := g3_0) (x := (g3_0 : Int)) .row (by kernel_rfl) (fun w => by kernel_rfl) hq2) 5, .o, .o, .o, .o, .o, .qb (slLow_ok (T := 26) (e := 3) (sz := 1) (N := g3_2) (x := (g3_2 : Int)) .row (by kernel_rfl) (fun w => by kernel_rfl) hq3) 6, .o, .o, .o] [] (fun b => by kernel_rfl)
        · exact none_some e
      · exact none_some e
    · exact none_some e
  · cases e
theorem ok1_opt_Trim (c1_0 : Int) (e : m_opt_Trim n0 A0 = some (.e1 c1_0)) : SpcG Try.prog M B0 S (sq1_opt_Trim a0 p0 q0 n0 k0 A0 c1_0) := by
  unfold m_opt_Trim at e
  replace e := bindO_eq e
  obtain ⟨r0, e_r0, e⟩ := e
  try dsimp only at e
  replace e := cond_eq_or e
  rcases e with ⟨hq0, e⟩ | ⟨hq0, e⟩
  · replace e := bindO_eq e
    obtain ⟨g1, e_g1, e⟩ := e
    obtain ⟨g1_0⟩ := g1
    try dsimp only at e
    replace e := bindO_eq e
    obtain ⟨g2, e_g2, e⟩ := e
    obtain ⟨g2_0⟩ := g2
    try dsimp only at e
    replace e := cond_eq_or e
    rcases e with ⟨hq1, e⟩ | ⟨hq1, e⟩
    · replace e := bindO_eq e
      obtain ⟨g3, e_g3, e⟩ := e
      obtain ⟨g3_0, g3_1, g3_2, g3_3⟩ := g3
      try dsimp only at e
      replace e := cond_eq_or e
      rcases e with ⟨hq2, e⟩ | ⟨hq2, e⟩
      · replace e := cond_eq_or e
        rcases e with ⟨hq3, e⟩ | ⟨hq3, e⟩
        · cases e
        · exact none_some e
      · exact none_some e
    · exact none_some e
  · injection e with e; injection e with i0; subst i0; exact fn_specG hU (P := Try.prog) Try.func6 (fun xs w => by kernel_rfl) 0 _ _ (fun _ => rfl) _ _ _ [] [.o, .o, .o, .o, .cg (ok_insn_Check hU a0 p0 q0 n0 k0 A0 hR0 r0 e_r0), .o, .o, .o, .o, .o, .o, .b (z_neqF hq0), .o, .o, .o, .o] [] (fun b => by kernel_rfl)
end

end Go.Proofs.Ytnoflelhkgdebaa


