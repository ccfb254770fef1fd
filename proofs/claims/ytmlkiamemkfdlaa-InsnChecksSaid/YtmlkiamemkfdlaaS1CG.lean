/-
  Instructions: the reference.
-/
import Derived.Test.YtmlkiamemkfdlaaS1CF
namespace Go.Proofs.Ytmlkiamemkfdlaa
open Go.RowKit
set_option linter.unusedVariables false
set_option linter.unusedSimpArgs false
set_option linter.unusedSectionVars false
set_option maxRecDepth 100000
set_option maxHeartbeats 4000000
theorem eqi49 (d : Nat) (a0 b0 : Int) (a1 b1 : Int) (w : World) : (Op.equalIn (d + 2) 49 (.agg #[.int .i64 (a0), .int .i64 (a1)]) (.agg #[.int .i64 (b0), .int .i64 (b1)])).run Try.prog w = .ok ((a0 == b0) && (a1 == b1)) w :=
  eqi_of (d := d + 1) (l := [fl Try.prog 49 0, fl Try.prog 49 1]) (by kernel_rfl) (by kernel_rfl) (by kernel_rfl) (eqf_cons (f := fl Try.prog 49 0) (a := .int .i64 (a0)) (b := .int .i64 (b0)) (by kernel_rfl) (by kernel_rfl) (by kernel_rfl) (eq_z (d := d + 0) (k' := .i64) a0 b0 (by kernel_rfl)) (eqf_last (f := fl Try.prog 49 1) (a := .int .i64 (a1)) (b := .int .i64 (b1)) (by kernel_rfl) (by kernel_rfl) (by kernel_rfl) (eq_z (d := d + 0) (k' := .i64) a1 b1 (by kernel_rfl)) ))
inductive Sh_barbicanhelp_Parts_L0 where
  | c0 (s0_0 : Int)
inductive Ex_barbicanhelp_Parts_L0 where
  | e0 
  | e1 
noncomputable def st_barbicanhelp_Parts_L0 (n0 : Nat) (A0 : Nat → Part) (n1 : Nat) (A1 : Nat → Part) : Sh_barbicanhelp_Parts_L0 → Option (Sh_barbicanhelp_Parts_L0 ⊕ Ex_barbicanhelp_Parts_L0)
  | .c0 s0_0 =>
    bif decide (s0_0 < (n0 : Int)) then
      (bif inR s0_0 n0 then
        (bif inR s0_0 n1 then
          (bif ((((A0 (s0_0).toNat)).fFrom == ((A1 (s0_0).toNat)).fFrom) && (((A0 (s0_0).toNat)).fTo == ((A1 (s0_0).toNat)).fTo)) then
            (some (.inl (.c0 (IntKind.i64.wrap (s0_0 + 1)))))
          else (some (.inr (.e1 ))))
        else (none))
      else (none))
    else (some (.inr (.e0 )))
noncomputable def bd_barbicanhelp_Parts_L0 : Code := codeOf Try.f21 [1, 1, 0, 1, 0, 0]
def fl_barbicanhelp_Parts_L0 (a0 : Option Addr) (p0 : Nat) (q0 : Nat) (n0 : Nat) (k0 : Nat) (A0 : Nat → Part) (a1 : Option Addr) (p1 : Nat) (q1 : Nat) (n1 : Nat) (k1 : Nat) (A1 : Nat → Part) : Sh_barbicanhelp_Parts_L0 → List L1 → List Value
  | .c0 s0_0, ls => [.slice a0 n0 (n0 + k0), .slice a1 n1 (n1 + k1), .bool false, .int .i64 (s0_0)]
def mf_barbicanhelp_Parts_L0 : Sh_barbicanhelp_Parts_L0 → List (Nat × Nat)
  | .c0 _ => [(2, 2), (2, 20)]
noncomputable def fr_barbicanhelp_Parts_L0 (a0 : Option Addr) (p0 : Nat) (q0 : Nat) (n0 : Nat) (k0 : Nat) (A0 : Nat → Part) (a1 : Option Addr) (p1 : Nat) (q1 : Nat) (n1 : Nat) (k1 : Nat) (A1 : Nat → Part) (s : Sh_barbicanhelp_Parts_L0) : List L1 → List Value := mrgF (mf_barbicanhelp_Parts_L0 s) (fl_barbicanhelp_Parts_L0 a0 p0 q0 n0 k0 A0 a1 p1 q1 n1 k1 A1 s) 0
def Hs_barbicanhelp_Parts_L0 (a0 : Option Addr) (p0 : Nat) (q0 : Nat) (n0 : Nat) (k0 : Nat) (A0 : Nat → Part) (a1 : Option Addr) (p1 : Nat) (q1 : Nat) (n1 : Nat) (k1 : Nat) (A1 : Nat → Part) : Sh_barbicanhelp_Parts_L0 → List L1 → List Obj
  | .c0 s0_0, ls => [unb]
def vl_barbicanhelp_Parts_L0 (a0 : Option Addr) (p0 : Nat) (q0 : Nat) (n0 : Nat) (k0 : Nat) (A0 : Nat → Part) (a1 : Option Addr) (p1 : Nat) (q1 : Nat) (n1 : Nat) (k1 : Nat) (A1 : Nat → Part) : Ex_barbicanhelp_Parts_L0 → List L1 → List Value
  | .e0 , ls => [.slice a0 n0 (n0 + k0), .slice a1 n1 (n1 + k1), .bool false]
  | .e1 , ls => [.slice a0 n0 (n0 + k0), .slice a1 n1 (n1 + k1), .bool false]
def mk_barbicanhelp_Parts_L0 : Ex_barbicanhelp_Parts_L0 → List (Nat × Nat)
  | .e0  => [(2, 2), (1, 21)]
  | .e1  => [(2, 2), (1, 21)]
noncomputable def vf_barbicanhelp_Parts_L0 (a0 : Option Addr) (p0 : Nat) (q0 : Nat) (n0 : Nat) (k0 : Nat) (A0 : Nat → Part) (a1 : Option Addr) (p1 : Nat) (q1 : Nat) (n1 : Nat) (k1 : Nat) (A1 : Nat → Part) (r : Ex_barbicanhelp_Parts_L0) : List L1 → List Value := mrgF (mk_barbicanhelp_Parts_L0 r) (vl_barbicanhelp_Parts_L0 a0 p0 q0 n0 k0 A0 a1 p1 q1 n1 k1 A1 r) 0
def Hf_barbicanhelp_Parts_L0 (a0 : Option Addr) (p0 : Nat) (q0 : Nat) (n0 : Nat) (k0 : Nat) (A0 : Nat → Part) (a1 : Option Addr) (p1 : Nat) (q1 : Nat) (n1 : Nat) (k1 : Nat) (A1 : Nat → Part) : Ex_barbicanhelp_Parts_L0 → List L1 → List Obj
  | .e0 , ls => [unb]
  | .e1 , ls => [unb]
def ex_barbicanhelp_Parts_L0 : Ex_barbicanhelp_Parts_L0 → Ex
  | .e0  => (.exit 0)
  | .e1  => .ret
section
variable {M : Nat → Prop} {B0 : Nat} {S : World → Prop} (hU : Up M B0 S) (a0 : Option Addr) (p0 : Nat) (q0 : Nat) (n0 : Nat) (k0 : Nat) (A0 : Nat → Part) (hR0 : Ro S c_Part 2 a0 p0 q0 n0 A0) (a1 : Option Addr) (p1 : Nat) (q1 : Nat) (n1 : Nat) (k1 : Nat) (A1 : Nat → Part) (hR1 : Ro S c_Part 2 a1 p1 q1 n1 A1)
include hU a0 p0 q0 n0 k0 A0 hR0 a1 p1 q1 n1 k1 A1 hR1
theorem go_barbicanhelp_Parts_L0 (s : Sh_barbicanhelp_Parts_L0) (r : Ex_barbicanhelp_Parts_L0) (h : lpO (st_barbicanhelp_Parts_L0 n0 A0 n1 A1) s = some r) : GoesG Try.prog M B0 S (.loop bd_barbicanhelp_Parts_L0) 1 (fr_barbicanhelp_Parts_L0 a0 p0 q0 n0 k0 A0 a1 p1 q1 n1 k1 A1 s) (Hs_barbicanhelp_Parts_L0 a0 p0 q0 n0 k0 A0 a1 p1 q1 n1 k1 A1 s) (ex_barbicanhelp_Parts_L0 r) 0 (vf_barbicanhelp_Parts_L0 a0 p0 q0 n0 k0 A0 a1 p1 q1 n1 k1 A1 r) (Hf_barbicanhelp_Parts_L0 a0 p0 q0 n0 k0 A0 a1 p1 q1 n1 k1 A1 r) 1 :=
  goes_lpO (fun s q e => by
    cases s with
    | c0 s0_0 =>
      unfold st_barbicanhelp_Parts_L0 at e
      dsimp only at e
      replace e := cond_eq_or e
      rcases e with ⟨hq0, e⟩ | ⟨hq0, e⟩
      · replace e := cond_eq_or e
        rcases e with ⟨hq1, e⟩ | ⟨hq1, e⟩
        · replace e := cond_eq_or e
          rcases e with ⟨hq2, e⟩ | ⟨hq2, e⟩
          · replace e := cond_eq_or e
            rcases e with ⟨hq3, e⟩ | ⟨hq3, e⟩
            · cases e; exact goes_runM hU [.o, .o, .o, .b (z_lssT hq0), .r [0, 1, 2, 3, 4, 5, 6, 7, 8] [] [], .o, .o, .q (ixRo_ok (kd := .i64) (T := 41) (x := s0_0) (sz := 2) rfl (fun w => by kernel_rfl) hR0 hq1), .l (accRo hR0 c_Part_len (inR_nat hq1) 0 [.int .i64 (((A0 (s0_0).toNat)).fFrom), .int .i64 (((A0 (s0_0).toNat)).fTo)] rfl), .o, .o, .q (ixRo_ok (kd := .i64) (T := 41) (x := s0_0) (sz := 2) rfl (fun w => by kernel_rfl) hR1 hq2), .l (accRo hR1 c_Part_len (inR_nat hq2) 0 [.int .i64 (((A1 (s0_0).toNat)).fFrom), .int .i64 (((A1 (s0_0).toNat)).fTo)] rfl), .ov (fun w => (run_aggeq 49 #[.int .i64 (((A0 (s0_0).toNat)).fFrom), .int .i64 (((A0 (s0_0).toNat)).fTo)] #[.int .i64 (((A1 (s0_0).toNat)).fFrom), .int .i64 (((A1 (s0_0).toNat)).fTo)] true (by kernel_rfl) (fun w => (eqi49 9998 ((A0 (s0_0).toNat)).fFrom ((A1 (s0_0).toNat)).fFrom ((A0 (s0_0).toNat)).fTo ((A1 (s0_0).toNat)).fTo w).trans (congrArg (fun b => Result.ok b w) hq3)) (.tmp 20) (.tmp 24) w).2), .o, .o, .o] [] (fun b => rfl) (by decide) rfl rfl (fun b => by kernel_rfl)
            · cases e; exact ⟨ne_ret, goes_runM hU [.o, .o, .o, .b (z_lssT hq0), .r [0, 1, 2, 3, 4, 5, 6, 7, 8] [] [], .o, .o, .q (ixRo_ok (kd := .i64) (T := 41) (x := s0_0) (sz := 2) rfl (fun w => by kernel_rfl) hR0 hq1), .l (accRo hR0 c_Part_len (inR_nat hq1) 0 [.int .i64 (((A0 (s0_0).toNat)).fFrom), .int .i64 (((A0 (s0_0).toNat)).fTo)] rfl), .o, .o, .q (ixRo_ok (kd := .i64) (T := 41) (x := s0_0) (sz := 2) rfl (fun w => by kernel_rfl) hR1 hq2), .l (accRo hR1 c_Part_len (inR_nat hq2) 0 [.int .i64 (((A1 (s0_0).toNat)).fFrom), .int .i64 (((A1 (s0_0).toNat)).fTo)] rfl), .ov (fun w => (run_aggeq 49 #[.int .i64 (((A0 (s0_0).toNat)).fFrom), .int .i64 (((A0 (s0_0).toNat)).fTo)] #[.int .i64 (((A1 (s0_0).toNat)).fFrom), .int .i64 (((A1 (s0_0).toNat)).fTo)] false (by kernel_rfl) (fun w => (eqi49 9998 ((A0 (s0_0).toNat)).fFrom ((A1 (s0_0).toNat)).fFrom ((A0 (s0_0).toNat)).fTo ((A1 (s0_0).toNat)).fTo w).trans (congrArg (fun b => Result.ok b w) hq3)) (.tmp 20) (.tmp 24) w).2), .o] [] (fun b => rfl) (by decide) rfl rfl (fun b => by kernel_rfl)⟩
          · exact none_some e
        · exact none_some e
      · cases e; exact ⟨ne_exit 0, goes_runM hU [.o, .o, .o, .b (z_lssF hq0)] [] (fun b => rfl) (by decide) rfl rfl (fun b => by kernel_rfl)⟩) s r h
noncomputable def t0_barbicanhelp_Parts_L0_0 (a0 : Option Addr) (p0 : Nat) (q0 : Nat) (n0 : Nat) (k0 : Nat) (A0 : Nat → Part) (a1 : Option Addr) (p1 : Nat) (q1 : Nat) (n1 : Nat) (k1 : Nat) (A1 : Nat → Part) (s0_0 : Int) (ls : List L1) : List Value := List.append [.slice a0 n0 (n0 + k0), .slice a1 n1 (n1 + k1), undef, undef, .bool false, .int .i64 (s0_0), .slice a0 n0 (n0 + k0), .int .i64 ((n0 : Int)), .slice a1 n1 (n1 + k1), .int .i64 ((n1 : Int)), .bool false] (und 15)
def pre_barbicanhelp_Parts_L0_0 (a0 : Option Addr) (p0 : Nat) (q0 : Nat) (n0 : Nat) (k0 : Nat) (A0 : Nat → Part) (a1 : Option Addr) (p1 : Nat) (q1 : Nat) (n1 : Nat) (k1 : Nat) (A1 : Nat → Part) (s0_0 : Int) (ls : List L1) : List Obj := []
theorem sp0_barbicanhelp_Parts_L0_0_ok (s0_0 : Int) (h : lpO (st_barbicanhelp_Parts_L0 n0 A0 n1 A1) (.c0 s0_0) = some (.e0 )) : SpcG Try.prog M B0 S ⟨fun ls => .code (.loop bd_barbicanhelp_Parts_L0) (t0_barbicanhelp_Parts_L0_0 a0 p0 q0 n0 k0 A0 a1 p1 q1 n1 k1 A1 s0_0 ls), pre_barbicanhelp_Parts_L0_0 a0 p0 q0 n0 k0 A0 a1 p1 q1 n1 k1 A1 s0_0, 1, (.exit 0), fun ls => vf_barbicanhelp_Parts_L0 a0 p0 q0 n0 k0 A0 a1 p1 q1 n1 k1 A1 (.e0 ) (ls.take 0 ++ ls.drop 0), fun ls => (Hf_barbicanhelp_Parts_L0 a0 p0 q0 n0 k0 A0 a1 p1 q1 n1 k1 A1 (.e0 ) (ls.take 0 ++ ls.drop 0)).take 0 ++ List.replicate 0 unb, fun ls => (Hf_barbicanhelp_Parts_L0 a0 p0 q0 n0 k0 A0 a1 p1 q1 n1 k1 A1 (.e0 ) (ls.take 0 ++ ls.drop 0)).drop 0⟩ :=
  spc_of_goesM hU 0 (k0 := 0) (go_barbicanhelp_Parts_L0 hU a0 p0 q0 n0 k0 A0 hR0 a1 p1 q1 n1 k1 A1 hR1 _ _ h) (t0_barbicanhelp_Parts_L0_0 a0 p0 q0 n0 k0 A0 a1 p1 q1 n1 k1 A1 s0_0) (pre_barbicanhelp_Parts_L0_0 a0 p0 q0 n0 k0 A0 a1 p1 q1 n1 k1 A1 s0_0) (fun _ => rfl) (fun ls h => by match ls, h with | [], _ => exact ⟨by kernel_rfl, by kernel_rfl⟩) (fun ls h => by match ls, h with | [], _ => rfl) (by decide) (by decide) (fun ls => rfl)
theorem sp1_barbicanhelp_Parts_L0_0_ok (s0_0 : Int) (h : lpO (st_barbicanhelp_Parts_L0 n0 A0 n1 A1) (.c0 s0_0) = some (.e1 )) : SpcG Try.prog M B0 S ⟨fun ls => .code (.loop bd_barbicanhelp_Parts_L0) (t0_barbicanhelp_Parts_L0_0 a0 p0 q0 n0 k0 A0 a1 p1 q1 n1 k1 A1 s0_0 ls), pre_barbicanhelp_Parts_L0_0 a0 p0 q0 n0 k0 A0 a1 p1 q1 n1 k1 A1 s0_0, 1, .ret, fun ls => vf_barbicanhelp_Parts_L0 a0 p0 q0 n0 k0 A0 a1 p1 q1 n1 k1 A1 (.e1 ) (ls.take 0 ++ ls.drop 0), fun ls => (Hf_barbicanhelp_Parts_L0 a0 p0 q0 n0 k0 A0 a1 p1 q1 n1 k1 A1 (.e1 ) (ls.take 0 ++ ls.drop 0)).take 0 ++ List.replicate 0 unb, fun ls => (Hf_barbicanhelp_Parts_L0 a0 p0 q0 n0 k0 A0 a1 p1 q1 n1 k1 A1 (.e1 ) (ls.take 0 ++ ls.drop 0)).drop 0⟩ :=
  spc_of_goesM hU 0 (k0 := 0) (go_barbicanhelp_Parts_L0 hU a0 p0 q0 n0 k0 A0 hR0 a1 p1 q1 n1 k1 A1 hR1 _ _ h) (t0_barbicanhelp_Parts_L0_0 a0 p0 q0 n0 k0 A0 a1 p1 q1 n1 k1 A1 s0_0) (pre_barbicanhelp_Parts_L0_0 a0 p0 q0 n0 k0 A0 a1 p1 q1 n1 k1 A1 s0_0) (fun _ => rfl) (fun ls h => by match ls, h with | [], _ => exact ⟨by kernel_rfl, by kernel_rfl⟩) (fun ls h => by match ls, h with | [], _ => rfl) (by decide) (by decide) (fun ls => rfl)
noncomputable def m_barbicanhelp_Parts (n0 : Nat) (A0 : Nat → Part) (n1 : Nat) (A1 : Nat → Part) : Option (Bool) :=
  bif (n0 : Int) == (n1 : Int) then
    ((lpO (st_barbicanhelp_Parts_L0 n0 A0 n1 A1) (.c0 0)).bind fun g0 => match g0 with
    | .e0  => (some true)
    | .e1  => (some false))
  else (some false)
theorem ok_barbicanhelp_Parts (r : Bool) (e : m_barbicanhelp_Parts n0 A0 n1 A1 = some r) : ConG Try.prog S 21 #[.slice a0 n0 (n0 + k0), .slice a1 n1 (n1 + k1)] (.bool (r)) := by
  unfold m_barbicanhelp_Parts at e
  replace e := cond_eq_or e
  rcases e with ⟨hq0, e⟩ | ⟨hq0, e⟩
  · replace e := bindO_eq e
    obtain ⟨g0, e_g0, e⟩ := e
    rcases g0 with _ | _
    · try dsimp only at e
      injection e with e; subst e; exact fn_conG hU (P := Try.prog) Try.func21 (fun xs w => by kernel_rfl) _ _ [.o, .o, .o, .o, .o, .b (z_neqT hq0), .o, .cp, .cx (sp0_barbicanhelp_Parts_L0_0_ok hU a0 p0 q0 n0 k0 A0 hR0 a1 p1 q1 n1 k1 A1 hR1 0  e_g0) [], .o] [] (fun b => by kernel_rfl)
    · try dsimp only at e
      injection e with e; subst e; exact fn_conG hU (P := Try.prog) Try.func21 (fun xs w => by kernel_rfl) _ _ [.o, .o, .o, .o, .o, .b (z_neqT hq0), .o, .cp, .cx (sp1_barbicanhelp_Parts_L0_0_ok hU a0 p0 q0 n0 k0 A0 hR0 a1 p1 q1 n1 k1 A1 hR1 0  e_g0) []] [] (fun b => by kernel_rfl)
  · injection e with e; subst e; exact fn_conG hU (P := Try.prog) Try.func21 (fun xs w => by kernel_rfl) _ _ [.o, .o, .o, .o, .o, .b (z_neqF hq0), .o] [] (fun b => by kernel_rfl)
noncomputable def m_barbicanlaw1_InsnChecks (n0 : Nat) (A0 : Nat → Insn) : Option (Bool) :=
  bif decide (400 < (n0 : Int)) then
    (bif decide ((n0 : Int) ≤ 4096) then
      (some true)
    else ((m_insn_Check n0 A0).bind fun r0 =>
    (m_barbicanref1_Check n0 A0).bind fun r1 =>
    bif r0.1 == r1.1 then
      (bif r0.2 == r1.2 then
        ((m_insn_Subs n0 A0).bind fun g2 => match g2 with
        | .e0 g2_0 g2_1 => ((m_barbicanref1_Subs n0 A0).bind fun g3 => match g3 with
          | .e0 g3_0 g3_1 => (bif g2_0 == g3_0 then
              (bif g2_1 == g3_1 then
                ((m_barbicanhelp_Parts 0 (fun _ => (⟨0, 0⟩ : Part)) 0 (fun _ => (⟨0, 0⟩ : Part))).bind fun r4 =>
                some r4)
              else (some false))
            else (some false))
          | .e1 g3_0 g3_1 => (bif g2_0 == 0 then
              (bif g2_1 == 0 then
                ((m_barbicanhelp_Parts 0 (fun _ => (⟨0, 0⟩ : Part)) g3_0 g3_1).bind fun r4 =>
                some r4)
              else (some false))
            else (some false)))
        | .e1 g2_0 g2_1 => ((m_barbicanref1_Subs n0 A0).bind fun g3 => match g3 with
          | .e0 g3_0 g3_1 => (bif (0 : Int) == g3_0 then
              (bif (0 : Int) == g3_1 then
                ((m_barbicanhelp_Parts g2_0 g2_1 0 (fun _ => (⟨0, 0⟩ : Part))).bind fun r4 =>
                some r4)
              else (some false))
            else (some false))
          | .e1 g3_0 g3_1 => ((m_barbicanhelp_Parts g2_0 g2_1 g3_0 g3_1).bind fun r4 =>
            some r4)))
      else (some false))
    else (some false)))
  else ((m_insn_Check n0 A0).bind fun r0 =>
  (m_barbicanref1_Check n0 A0).bind fun r1 =>
  bif r0.1 == r1.1 then
    (bif r0.2 == r1.2 then
      ((m_insn_Subs n0 A0).bind fun g2 => match g2 with
      | .e0 g2_0 g2_1 => ((m_barbicanref1_Subs n0 A0).bind fun g3 => match g3 with
        | .e0 g3_0 g3_1 => (bif g2_0 == g3_0 then
            (bif g2_1 == g3_1 then
              ((m_barbicanhelp_Parts 0 (fun _ => (⟨0, 0⟩ : Part)) 0 (fun _ => (⟨0, 0⟩ : Part))).bind fun r4 =>
              some r4)
            else (some false))
          else (some false))
        | .e1 g3_0 g3_1 => (bif g2_0 == 0 then
            (bif g2_1 == 0 then
              ((m_barbicanhelp_Parts 0 (fun _ => (⟨0, 0⟩ : Part)) g3_0 g3_1).bind fun r4 =>
              some r4)
            else (some false))
          else (some false)))
      | .e1 g2_0 g2_1 => ((m_barbicanref1_Subs n0 A0).bind fun g3 => match g3 with
        | .e0 g3_0 g3_1 => (bif (0 : Int) == g3_0 then
            (bif (0 : Int) == g3_1 then
              ((m_barbicanhelp_Parts g2_0 g2_1 0 (fun _ => (⟨0, 0⟩ : Part))).bind fun r4 =>
              some r4)
            else (some false))
          else (some false))
        | .e1 g3_0 g3_1 => ((m_barbicanhelp_Parts g2_0 g2_1 g3_0 g3_1).bind fun r4 =>
          some r4)))
    else (some false))
  else (some false))
end
section
variable {M : Nat → Prop} {B0 : Nat} {S : World → Prop} (hU : Up M B0 S)
include hU
theorem ok_barbicanlaw1_InsnChecks (a0 : Option Addr) (p0 : Nat) (q0 : Nat) (n0 : Nat) (k0 : Nat) (A0 : Nat → Insn) (hR0 : Ro S c_Insn 5 a0 p0 q0 n0 A0) (r : Bool) (e : m_barbicanlaw1_InsnChecks n0 A0 = some r) : ConG Try.prog S 4 #[.slice a0 n0 (n0 + k0)] (.bool (r)) := by
  unfold m_barbicanlaw1_InsnChecks at e
  replace e := cond_eq_or e
  rcases e with ⟨hq0, e⟩ | ⟨hq0, e⟩
  · replace e := cond_eq_or e
    rcases e with ⟨hq1, e⟩ | ⟨hq1, e⟩
    · injection e with e; subst e; exact fn_conG hU (P := Try.prog) Try.func4 (fun xs w => by kernel_rfl) _ _ [.o, .cg (ok_barbicanlaw1_known hU  ), .o, .o, .o, .b (z_gtrT hq0), .o, .o, .o, .b (z_leqT hq1), .o, .o] [] (fun b => by kernel_rfl)
    · replace e := bindO_eq e
      obtain ⟨r0, e_r0, e⟩ := e
      try dsimp only at e
      replace e := bindO_eq e
      obtain ⟨r1, e_r1, e⟩ := e
      try dsimp only at e
      replace e := cond_eq_or e
      rcases e with ⟨hq2, e⟩ | ⟨hq2, e⟩
      · replace e := cond_eq_or e
        rcases e with ⟨hq3, e⟩ | ⟨hq3, e⟩
        · replace e := bindO_eq e
          obtain ⟨g2, e_g2, e⟩ := e
          rcases g2 with ⟨g2_0, g2_1⟩ | ⟨g2_0, g2_1⟩
          · try dsimp only at e
            replace e := bindO_eq e
            obtain ⟨g3, e_g3, e⟩ := e
            rcases g3 with ⟨g3_0, g3_1⟩ | ⟨g3_0, g3_1⟩
            · try dsimp only at e
              replace e := cond_eq_or e
              rcases e with ⟨hq4, e⟩ | ⟨hq4, e⟩
              · replace e := cond_eq_or e
                rcases e with ⟨hq5, e⟩ | ⟨hq5, e⟩
                · replace e := bindO_eq e
                  obtain ⟨r4, e_r4, e⟩ := e
                  try dsimp only at e
                  injection e with e; subst e; exact fn_conG hU (P := Try.prog) Try.func4 (fun xs w => by kernel_rfl) _ _ [.o, .cg (ok_barbicanlaw1_known hU  ), .o, .o, .o, .b (z_gtrT hq0), .o, .o, .o, .b (z_leqF hq1), .o, .o, .cg (ok_insn_Check hU a0 p0 q0 n0 k0 A0 hR0 r0 e_r0), .o, .o, .o, .o, .o, .o, .cg (ok_barbicanref1_Check hU a0 p0 q0 n0 k0 A0 hR0 r1 e_r1), .o, .o, .o, .o, .o, .o, .o, .b (z_neqT hq2), .o, .o, .o, .b (z_neqT hq3), .o, .o, .xg (ok0_insn_Subs hU a0 p0 q0 n0 k0 A0 hR0 g2_0 g2_1 e_g2) [], .o, .o, .o, .o, .o, .o, .o, .o, .xg (ok0_barbicanref1_Subs hU a0 p0 q0 n0 k0 A0 hR0 g3_0 g3_1 e_g3) [], .o, .o, .o, .o, .o, .o, .o, .o, .o, .b (z_eqlT hq4), .o, .o, .o, .b (z_eqlT hq5), .o, .o, .o, .o, .cg (ok_barbicanhelp_Parts hU none 0 0 0 0 (fun _ => (⟨0, 0⟩ : Part)) Ro.nil none 0 0 0 0 (fun _ => (⟨0, 0⟩ : Part)) Ro.nil r4 e_r4), .o, .o] [] (fun b => by kernel_rfl)
                · injection e with e; subst e; exact fn_conG hU (P := Try.prog) Try.func4 (fun xs w => by kernel_rfl) _ _ [.o, .cg (ok_barbicanlaw1_known hU  ), .o, .o, .o, .b (z_gtrT hq0), .o, .o, .o, .b (z_leqF hq1), .o, .o, .cg (ok_insn_Check hU a0 p0 q0 n0 k0 A0 hR0 r0 e_r0), .o, .o, .o, .o, .o, .o, .cg (ok_barbicanref1_Check hU a0 p0 q0 n0 k0 A0 hR0 r1 e_r1), .o, .o, .o, .o, .o, .o, .o, .b (z_neqT hq2), .o, .o, .o, .b (z_neqT hq3), .o, .o, .xg (ok0_insn_Subs hU a0 p0 q0 n0 k0 A0 hR0 g2_0 g2_1 e_g2) [], .o, .o, .o, .o, .o, .o, .o, .o, .xg (ok0_barbicanref1_Subs hU a0 p0 q0 n0 k0 A0 hR0 g3_0 g3_1 e_g3) [], .o, .o, .o, .o, .o, .o, .o, .o, .o, .b (z_eqlT hq4), .o, .o, .o, .b (z_eqlF hq5), .o, .o, .o, .o] [] (fun b => by kernel_rfl)
              · injection e with e; subst e; exact fn_conG hU (P := Try.prog) Try.func4 (fun xs w => by kernel_rfl) _ _ [.o, .cg (ok_barbicanlaw1_known hU  ), .o, .o, .o, .b (z_gtrT hq0), .o, .o, .o, .b (z_leqF hq1), .o, .o, .cg (ok_insn_Check hU a0 p0 q0 n0 k0 A0 hR0 r0 e_r0), .o, .o, .o, .o, .o, .o, .cg (ok_barbicanref1_Check hU a0 p0 q0 n0 k0 A0 hR0 r1 e_r1), .o, .o, .o, .o, .o, .o, .o, .b (z_neqT hq2), .o, .o, .o, .b (z_neqT hq3), .o, .o, .xg (ok0_insn_Subs hU a0 p0 q0 n0 k0 A0 hR0 g2_0 g2_1 e_g2) [], .o, .o, .o, .o, .o, .o, .o, .o, .xg (ok0_barbicanref1_Subs hU a0 p0 q0 n0 k0 A0 hR0 g3_0 g3_1 e_g3) [], .o, .o, .o, .o, .o, .o, .o, .o, .o, .b (z_eqlF hq4), .o, .o, .o, .o, .o] [] (fun b => by kernel_rfl)
            · try dsimp only at e
              replace e := cond_eq_or e
              rcases e with ⟨hq4, e⟩ | ⟨hq4, e⟩
              · replace e := cond_eq_or e
                rcases e with ⟨hq5, e⟩ | ⟨hq5, e⟩
                · replace e := bindO_eq e
                  obtain ⟨r4, e_r4, e⟩ := e
                  try dsimp only at e
                  injection e with e; subst e; exact fn_conG hU (P := Try.prog) Try.func4 (fun xs w => by kernel_rfl) _ _ [.o, .cg (ok_barbicanlaw1_known hU  ), .o, .o, .o, .b (z_gtrT hq0), .o, .o, .o, .b (z_leqF hq1), .o, .o, .cg (ok_insn_Check hU a0 p0 q0 n0 k0 A0 hR0 r0 e_r0), .o, .o, .o, .o, .o, .o, .cg (ok_barbicanref1_Check hU a0 p0 q0 n0 k0 A0 hR0 r1 e_r1), .o, .o, .o, .o, .o, .o, .o, .b (z_neqT hq2), .o, .o, .o, .b (z_neqT hq3), .o, .o, .xg (ok0_insn_Subs hU a0 p0 q0 n0 k0 A0 hR0 g2_0 g2_1 e_g2) [], .o, .o, .o, .o, .o, .o, .o, .o, .xg (ok1_barbicanref1_Subs hU a0 p0 q0 n0 k0 A0 hR0 g3_0 g3_1 e_g3) [], .o, .o, .o, .o, .o, .o, .o, .o, .o, .b (z_eqlT hq4), .o, .o, .o, .b (z_eqlT hq5), .o, .o, .o, .o, .xg (SpcG.ownC hU c_Part_len g3_0 g3_1 49 fun hU x u v z hr => ok_barbicanhelp_Parts hU none 0 0 0 0 (fun _ => (⟨0, 0⟩ : Part)) Ro.nil x u v g3_0 z g3_1 hr r4 e_r4) [0], .o, .o] [] (fun b => by kernel_rfl)
                · injection e with e; subst e; exact fn_conG hU (P := Try.prog) Try.func4 (fun xs w => by kernel_rfl) _ _ [.o, .cg (ok_barbicanlaw1_known hU  ), .o, .o, .o, .b (z_gtrT hq0), .o, .o, .o, .b (z_leqF hq1), .o, .o, .cg (ok_insn_Check hU a0 p0 q0 n0 k0 A0 hR0 r0 e_r0), .o, .o, .o, .o, .o, .o, .cg (ok_barbicanref1_Check hU a0 p0 q0 n0 k0 A0 hR0 r1 e_r1), .o, .o, .o, .o, .o, .o, .o, .b (z_neqT hq2), .o, .o, .o, .b (z_neqT hq3), .o, .o, .xg (ok0_insn_Subs hU a0 p0 q0 n0 k0 A0 hR0 g2_0 g2_1 e_g2) [], .o, .o, .o, .o, .o, .o, .o, .o, .xg (ok1_barbicanref1_Subs hU a0 p0 q0 n0 k0 A0 hR0 g3_0 g3_1 e_g3) [], .o, .o, .o, .o, .o, .o, .o, .o, .o, .b (z_eqlT hq4), .o, .o, .o, .b (z_eqlF hq5), .o, .o, .o, .o] [] (fun b => by kernel_rfl)
              · injection e with e; subst e; exact fn_conG hU (P := Try.prog) Try.func4 (fun xs w => by kernel_rfl) _ _ [.o, .cg (ok_barbicanlaw1_known hU  ), .o, .o, .o, .b (z_gtrT hq0), .o, .o, .o, .b (z_leqF hq1), .o, .o, .cg (ok_insn_Check hU a0 p0 q0 n0 k0 A0 hR0 r0 e_r0), .o, .o, .o, .o, .o, .o, .cg (ok_barbicanref1_Check hU a0 p0 q0 n0 k0 A0 hR0 r1 e_r1), .o, .o, .o, .o, .o, .o, .o, .b (z_neqT hq2), .o, .o, .o, .b (z_neqT hq3), .o, .o, .xg (ok0_insn_Subs hU a0 p0 q0 n0 k0 A0 hR0 g2_0 g2_1 e_g2) [], .o, .o, .o, .o, .o, .o, .o, .o, .xg (ok1_barbicanref1_Subs hU a0 p0 q0 n0 k0 A0 hR0 g3_0 g3_1 e_g3) [], .o, .o, .o, .o, .o, .o, .o, .o, .o, .b (z_eqlF hq4), .o, .o, .o, .o, .o] [] (fun b => by kernel_rfl)
          · try dsimp only at e
            replace e := bindO_eq e
            obtain ⟨g3, e_g3, e⟩ := e
            rcases g3 with ⟨g3_0, g3_1⟩ | ⟨g3_0, g3_1⟩
            · try dsimp only at e
              replace e := cond_eq_or e
              rcases e with ⟨hq4, e⟩ | ⟨hq4, e⟩
              · replace e := cond_eq_or e
                rcases e with ⟨hq5, e⟩ | ⟨hq5, e⟩
                · replace e := bindO_eq e
                  obtain ⟨r4, e_r4, e⟩ := e
                  try dsimp only at e
                  injection e with e; subst e; exact fn_conG hU (P := Try.prog) Try.func4 (fun xs w => by kernel_rfl) _ _ [.o, .cg (ok_barbicanlaw1_known hU  ), .o, .o, .o, .b (z_gtrT hq0), .o, .o, .o, .b (z_leqF hq1), .o, .o, .cg (ok_insn_Check hU a0 p0 q0 n0 k0 A0 hR0 r0 e_r0), .o, .o, .o, .o, .o, .o, .cg (ok_barbicanref1_Check hU a0 p0 q0 n0 k0 A0 hR0 r1 e_r1), .o, .o, .o, .o, .o, .o, .o, .b (z_neqT hq2), .o, .o, .o, .b (z_neqT hq3), .o, .o, .xg (ok1_insn_Subs hU a0 p0 q0 n0 k0 A0 hR0 g2_0 g2_1 e_g2) [], .o, .o, .o, .o, .o, .o, .o, .o, .xg (ok0_barbicanref1_Subs hU a0 p0 q0 n0 k0 A0 hR0 g3_0 g3_1 e_g3) [], .o, .o, .o, .o, .o, .o, .o, .o, .o, .b (z_eqlT hq4), .o, .o, .o, .b (z_eqlT hq5), .o, .o, .o, .o, .xg (SpcG.ownC hU c_Part_len g2_0 g2_1 49 fun hU x u v z hr => ok_barbicanhelp_Parts hU x u v g2_0 z g2_1 hr none 0 0 0 0 (fun _ => (⟨0, 0⟩ : Part)) Ro.nil r4 e_r4) [0], .o, .o] [] (fun b => by kernel_rfl)
                · injection e with e; subst e; exact fn_conG hU (P := Try.prog) Try.func4 (fun xs w => by kernel_rfl) _ _ [.o, .cg (ok_barbicanlaw1_known hU  ), .o, .o, .o, .b (z_gtrT hq0), .o, .o, .o, .b (z_leqF hq1), .o, .o, .cg (ok_insn_Check hU a0 p0 q0 n0 k0 A0 hR0 r0 e_r0), .o, .o, .o, .o, .o, .o, .cg (ok_barbicanref1_Check hU a0 p0 q0 n0 k0 A0 hR0 r1 e_r1), .o, .o, .o, .o, .o, .o, .o, .b (z_neqT hq2), .o, .o, .o, .b (z_neqT hq3), .o, .o, .xg (ok1_insn_Subs hU a0 p0 q0 n0 k0 A0 hR0 g2_0 g2_1 e_g2) [], .o, .o, .o, .o, .o, .o, .o, .o, .xg (ok0_barbicanref1_Subs hU a0 p0 q0 n0 k0 A0 hR0 g3_0 g3_1 e_g3) [], .o, .o, .o, .o, .o, .o, .o, .o, .o, .b (z_eqlT hq4), .o, .o, .o, .b (z_eqlF hq5), .o, .o, .o, .o] [] (fun b => by kernel_rfl)
              · injection e with e; subst e; exact fn_conG hU (P := Try.prog) Try.func4 (fun xs w => by kernel_rfl) _ _ [.o, .cg (ok_barbicanlaw1_known hU  ), .o, .o, .o, .b (z_gtrT hq0), .o, .o, .o, .b (z_leqF hq1), .o, .o, .cg (ok_insn_Check hU a0 p0 q0 n0 k0 A0 hR0 r0 e_r0), .o, .o, .o, .o, .o, .o, .cg (ok_barbicanref1_Check hU a0 p0 q0 n0 k0 A0 hR0 r1 e_r1), .o, .o, .o, .o, .o, .o, .o, .b (z_neqT hq2), .o, .o, .o, .b (z_neqT hq3), .o, .o, .xg (ok1_insn_Subs hU a0 p0 q0 n0 k0 A0 hR0 g2_0 g2_1 e_g2) [], .o, .o, .o, .o, .o, .o, .o, .o, .xg (ok0_barbicanref1_Subs hU a0 p0 q0 n0 k0 A0 hR0 g3_0 g3_1 e_g3) [], .o, .o, .o, .o, .o, .o, .o, .o, .o, .b (z_eqlF hq4), .o, .o, .o, .o, .o] [] (fun b => by kernel_rfl)
            · try dsimp only at e
              replace e := bindO_eq e
              obtain ⟨r4, e_r4, e⟩ := e
              try dsimp only at e
              injection e with e; subst e; exact fn_conG hU (P := Try.prog) Try.func4 (fun xs w => by kernel_rfl) _ _ [.o, .cg (ok_barbicanlaw1_known hU  ), .o, .o, .o, .b (z_gtrT hq0), .o, .o, .o, .b (z_leqF hq1), .o, .o, .cg (ok_insn_Check hU a0 p0 q0 n0 k0 A0 hR0 r0 e_r0), .o, .o, .o, .o, .o, .o, .cg (ok_barbicanref1_Check hU a0 p0 q0 n0 k0 A0 hR0 r1 e_r1), .o, .o, .o, .o, .o, .o, .o, .b (z_neqT hq2), .o, .o, .o, .b (z_neqT hq3), .o, .o, .xg (ok1_insn_Subs hU a0 p0 q0 n0 k0 A0 hR0 g2_0 g2_1 e_g2) [], .o, .o, .o, .o, .o, .o, .o, .o, .xg (ok1_barbicanref1_Subs hU a0 p0 q0 n0 k0 A0 hR0 g3_0 g3_1 e_g3) [], .o, .o, .o, .o, .o, .o, .o, .o, .o, .o, .o, .o, .o, .o, .o, .o, .o, .o, .xg (SpcG.own hU (f := c_Part) c_Part_len g2_0 g2_1 49 (fun l => padL l g2_0 2) (fun l => (padL l g2_0 2).length / 2) _ 0 .normal (by intros; rfl) (by intros; rfl) (by intros; rfl) (fun M0 B0 S0 x0 u0 v0 z0 hU0 hs0 hr0 => SpcG.own hU0 (f := c_Part) c_Part_len g3_0 g3_1 49 (fun l => padL l g3_0 2) (fun l => (padL l g3_0 2).length / 2) _ 0 .normal (by intros; rfl) (by intros; rfl) (by intros; rfl) (fun M1 B1 S1 x1 u1 v1 z1 hU1 hs1 hr1 => ConG.sp (ok_barbicanhelp_Parts hU1 x0 u0 v0 g2_0 z0 g2_1 (Ro.mono hr0 hs1) x1 u1 v1 g3_0 z1 g3_1 hr1 r4 e_r4)))) [0, 1], .o, .o] [] (fun b => by kernel_rfl)
        · injection e with e; subst e; exact fn_conG hU (P := Try.prog) Try.func4 (fun xs w => by kernel_rfl) _ _ [.o, .cg (ok_barbicanlaw1_known hU  ), .o, .o, .o, .b (z_gtrT hq0), .o, .o, .o, .b (z_leqF hq1), .o, .o, .cg (ok_insn_Check hU a0 p0 q0 n0 k0 A0 hR0 r0 e_r0), .o, .o, .o, .o, .o, .o, .cg (ok_barbicanref1_Check hU a0 p0 q0 n0 k0 A0 hR0 r1 e_r1), .o, .o, .o, .o, .o, .o, .o, .b (z_neqT hq2), .o, .o, .o, .b (z_neqF hq3), .o, .o] [] (fun b => by kernel_rfl)
      · injection e with e; subst e; exact fn_conG hU (P := Try.prog) Try.func4 (fun xs w => by kernel_rfl) _ _ [.o, .cg (ok_barbicanlaw1_known hU  ), .o, .o, .o, .b (z_gtrT hq0), .o, .o, .o, .b (z_leqF hq1), .o, .o, .cg (ok_insn_Check hU a0 p0 q0 n0 k0 A0 hR0 r0 e_r0), .o, .o, .o, .o, .o, .o, .cg (ok_barbicanref1_Check hU a0 p0 q0 n0 k0 A0 hR0 r1 e_r1), .o, .o, .o, .o, .o, .o, .o, .b (z_neqF hq2), .o, .o, .o] [] (fun b => by kernel_rfl)
  · replace e := bindO_eq e
    obtain ⟨r0, e_r0, e⟩ := e
    try dsimp only at e
    replace e := bindO_eq e
    obtain ⟨r1, e_r1, e⟩ := e
    try dsimp only at e
    replace e := cond_eq_or e
    rcases e with ⟨hq1, e⟩ | ⟨hq1, e⟩
    · replace e := cond_eq_or e
      rcases e with ⟨hq2, e⟩ | ⟨hq2, e⟩
      · replace e := bindO_eq e
        obtain ⟨g2, e_g2, e⟩ := e
        rcases g2 with ⟨g2_0, g2_1⟩ | ⟨g2_0, g2_1⟩
        · try dsimp only at e
          replace e := bindO_eq e
          obtain ⟨g3, e_g3, e⟩ := e
          rcases g3 with ⟨g3_0, g3_1⟩ | ⟨g3_0, g3_1⟩
          · try dsimp only at e
            replace e := cond_eq_or e
            rcases e with ⟨hq3, e⟩ | ⟨hq3, e⟩
            · replace e := cond_eq_or e
              rcases e with ⟨hq4, e⟩ | ⟨hq4, e⟩
              · replace e := bindO_eq e
                obtain ⟨r4, e_r4, e⟩ := e
                try dsimp only at e
                injection e with e; subst e; exact fn_conG hU (P := Try.prog) Try.func4 (fun xs w => by kernel_rfl) _ _ [.o, .cg (ok_barbicanlaw1_known hU  ), .o, .o, .o, .b (z_gtrF hq0), .o, .o, .o, .cg (ok_insn_Check hU a0 p0 q0 n0 k0 A0 hR0 r0 e_r0), .o, .o, .o, .o, .o, .o, .cg (ok_barbicanref1_Check hU a0 p0 q0 n0 k0 A0 hR0 r1 e_r1), .o, .o, .o, .o, .o, .o, .o, .b (z_neqT hq1), .o, .o, .o, .b (z_neqT hq2), .o, .o, .xg (ok0_insn_Subs hU a0 p0 q0 n0 k0 A0 hR0 g2_0 g2_1 e_g2) [], .o, .o, .o, .o, .o, .o, .o, .o, .xg (ok0_barbicanref1_Subs hU a0 p0 q0 n0 k0 A0 hR0 g3_0 g3_1 e_g3) [], .o, .o, .o, .o, .o, .o, .o, .o, .o, .b (z_eqlT hq3), .o, .o, .o, .b (z_eqlT hq4), .o, .o, .o, .o, .cg (ok_barbicanhelp_Parts hU none 0 0 0 0 (fun _ => (⟨0, 0⟩ : Part)) Ro.nil none 0 0 0 0 (fun _ => (⟨0, 0⟩ : Part)) Ro.nil r4 e_r4), .o, .o] [] (fun b => by kernel_rfl)
              · injection e with e; subst e; exact fn_conG hU (P := Try.prog) Try.func4 (fun xs w => by kernel_rfl) _ _ [.o, .cg (ok_barbicanlaw1_known hU  ), .o, .o, .o, .b (z_gtrF hq0), .o, .o, .o, .cg (ok_insn_Check hU a0 p0 q0 n0 k0 A0 hR0 r0 e_r0), .o, .o, .o, .o, .o, .o, .cg (ok_barbicanref1_Check hU a0 p0 q0 n0 k0 A0 hR0 r1 e_r1), .o, .o, .o, .o, .o, .o, .o, .b (z_neqT hq1), .o, .o, .o, .b (z_neqT hq2), .o, .o, .xg (ok0_insn_Subs hU a0 p0 q0 n0 k0 A0 hR0 g2_0 g2_1 e_g2) [], .o, .o, .o, .o, .o, .o, .o, .o, .xg (ok0_barbicanref1_Subs hU a0 p0 q0 n0 k0 A0 hR0 g3_0 g3_1 e_g3) [], .o, .o, .o, .o, .o, .o, .o, .o, .o, .b (z_eqlT hq3), .o, .o, .o, .b (z_eqlF hq4), .o, .o, .o, .o] [] (fun b => by kernel_rfl)
            · injection e with e; subst e; exact fn_conG hU (P := Try.prog) Try.func4 (fun xs w => by kernel_rfl) _ _ [.o, .cg (ok_barbicanlaw1_known hU  ), .o, .o, .o, .b (z_gtrF hq0), .o, .o, .o, .cg (ok_insn_Check hU a0 p0 q0 n0 k0 A0 hR0 r0 e_r0), .o, .o, .o, .o, .o, .o, .cg (ok_barbicanref1_Check hU a0 p0 q0 n0 k0 A0 hR0 r1 e_r1), .o, .o, .o, .o, .o, .o, .o, .b (z_neqT hq1), .o, .o, .o, .b (z_neqT hq2), .o, .o, .xg (ok0_insn_Subs hU a0 p0 q0 n0 k0 A0 hR0 g2_0 g2_1 e_g2) [], .o, .o, .o, .o, .o, .o, .o, .o, .xg (ok0_barbicanref1_Subs hU a0 p0 q0 n0 k0 A0 hR0 g3_0 g3_1 e_g3) [], .o, .o, .o, .o, .o, .o, .o, .o, .o, .b (z_eqlF hq3), .o, .o, .o, .o, .o] [] (fun b => by kernel_rfl)
          · try dsimp only at e
            replace e := cond_eq_or e
            rcases e with ⟨hq3, e⟩ | ⟨hq3, e⟩
            · replace e := cond_eq_or e
              rcases e with ⟨hq4, e⟩ | ⟨hq4, e⟩
              · replace e := bindO_eq e
                obtain ⟨r4, e_r4, e⟩ := e
                try dsimp only at e
                injection e with e; subst e; exact fn_conG hU (P := Try.prog) Try.func4 (fun xs w => by kernel_rfl) _ _ [.o, .cg (ok_barbicanlaw1_known hU  ), .o, .o, .o, .b (z_gtrF hq0), .o, .o, .o, .cg (ok_insn_Check hU a0 p0 q0 n0 k0 A0 hR0 r0 e_r0), .o, .o, .o, .o, .o, .o, .cg (ok_barbicanref1_Check hU a0 p0 q0 n0 k0 A0 hR0 r1 e_r1), .o, .o, .o, .o, .o, .o, .o, .b (z_neqT hq1), .o, .o, .o, .b (z_neqT hq2), .o, .o, .xg (ok0_insn_Subs hU a0 p0 q0 n0 k0 A0 hR0 g2_0 g2_1 e_g2) [], .o, .o, .o, .o, .o, .o, .o, .o, .xg (ok1_barbicanref1_Subs hU a0 p0 q0 n0 k0 A0 hR0 g3_0 g3_1 e_g3) [], .o, .o, .o, .o, .o, .o, .o, .o, .o, .b (z_eqlT hq3), .o, .o, .o, .b (z_eqlT hq4), .o, .o, .o, .o, .xg (SpcG.ownC hU c_Part_len g3_0 g3_1 49 fun hU x u v z hr => ok_barbicanhelp_Parts hU none 0 0 0 0 (fun _ => (⟨0, 0⟩ : Part)) Ro.nil x u v g3_0 z g3_1 hr r4 e_r4) [0], .o, .o] [] (fun b => by kernel_rfl)
              · injection e with e; subst e; exact fn_conG hU (P := Try.prog) Try.func4 (fun xs w => by kernel_rfl) _ _ [.o, .cg (ok_barbicanlaw1_known hU  ), .o, .o, .o, .b (z_gtrF hq0), .o, .o, .o, .cg (ok_insn_Check hU a0 p0 q0 n0 k0 A0 hR0 r0 e_r0), .o, .o, .o, .o, .o, .o, .cg (ok_barbicanref1_Check hU a0 p0 q0 n0 k0 A0 hR0 r1 e_r1), .o, .o, .o, .o, .o, .o, .o, .b (z_neqT hq1), .o, .o, .o, .b (z_neqT hq2), .o, .o, .xg (ok0_insn_Subs hU a0 p0 q0 n0 k0 A0 hR0 g2_0 g2_1 e_g2) [], .o, .o, .o, .o, .o, .o, .o, .o, .xg (ok1_barbicanref1_Subs hU a0 p0 q0 n0 k0 A0 hR0 g3_0 g3_1 e_g3) [], .o, .o, .o, .o, .o, .o, .o, .o, .o, .b (z_eqlT hq3), .o, .o, .o, .b (z_eqlF hq4), .o, .o, .o, .o] [] (fun b => by kernel_rfl)
            · injection e with e; subst e; exact fn_conG hU (P := Try.prog) Try.func4 (fun xs w => by kernel_rfl) _ _ [.o, .cg (ok_barbicanlaw1_known hU  ), .o, .o, .o, .b (z_gtrF hq0), .o, .o, .o, .cg (ok_insn_Check hU a0 p0 q0 n0 k0 A0 hR0 r0 e_r0), .o, .o, .o, .o, .o, .o, .cg (ok_barbicanref1_Check hU a0 p0 q0 n0 k0 A0 hR0 r1 e_r1), .o, .o, .o, .o, .o, .o, .o, .b (z_neqT hq1), .o, .o, .o, .b (z_neqT hq2), .o, .o, .xg (ok0_insn_Subs hU a0 p0 q0 n0 k0 A0 hR0 g2_0 g2_1 e_g2) [], .o, .o, .o, .o, .o, .o, .o, .o, .xg (ok1_barbicanref1_Subs hU a0 p0 q0 n0 k0 A0 hR0 g3_0 g3_1 e_g3) [], .o, .o, .o, .o, .o, .o, .o, .o, .o, .b (z_eqlF hq3), .o, .o, .o, .o, .o] [] (fun b => by kernel_rfl)
        · try dsimp only at e
          replace e := bindO_eq e
          obtain ⟨g3, e_g3, e⟩ := e
          rcases g3 with ⟨g3_0, g3_1⟩ | ⟨g3_0, g3_1⟩
          · try dsimp only at e
            replace e := cond_eq_or e
            rcases e with ⟨hq3, e⟩ | ⟨hq3, e⟩
            · replace e := cond_eq_or e
              rcases e with ⟨hq4, e⟩ | ⟨hq4, e⟩
              · replace e := bindO_eq e
                obtain ⟨r4, e_r4, e⟩ := e
                try dsimp only at e
                injection e with e; subst e; exact fn_conG hU (P := Try.prog) Try.func4 (fun xs w => by kernel_rfl) _ _ [.o, .cg (ok_barbicanlaw1_known hU  ), .o, .o, .o, .b (z_gtrF hq0), .o, .o, .o, .cg (ok_insn_Check hU a0 p0 q0 n0 k0 A0 hR0 r0 e_r0), .o, .o, .o, .o, .o, .o, .cg (ok_barbicanref1_Check hU a0 p0 q0 n0 k0 A0 hR0 r1 e_r1), .o, .o, .o, .o, .o, .o, .o, .b (z_neqT hq1), .o, .o, .o, .b (z_neqT hq2), .o, .o, .xg (ok1_insn_Subs hU a0 p0 q0 n0 k0 A0 hR0 g2_0 g2_1 e_g2) [], .o, .o, .o, .o, .o, .o, .o, .o, .xg (ok0_barbicanref1_Subs hU a0 p0 q0 n0 k0 A0 hR0 g3_0 g3_1 e_g3) [], .o, .o, .o, .o, .o, .o, .o, .o, .o, .b (z_eqlT hq3), .o, .o, .o, .b (z_eqlT hq4), .o, .o, .o, .o, .xg (SpcG.ownC hU c_Part_len g2_0 g2_1 49 fun hU x u v z hr => ok_barbicanhelp_Parts hU x u v g2_0 z g2_1 hr none 0 0 0 0 (fun _ => (⟨0, 0⟩ : Part)) Ro.nil r4 e_r4) [0], .o, .o] [] (fun b => by kernel_rfl)
              · injection e with e; subst e; exact fn_conG hU (P := Try.prog) Try.func4 (fun xs w => by kernel_rfl) _ _ [.o, .cg (ok_barbicanlaw1_known hU  ), .o, .o, .o, .b (z_gtrF hq0), .o, .o, .o, .cg (ok_insn_Check hU a0 p0 q0 n0 k0 A0 hR0 r0 e_r0), .o, .o, .o, .o, .o, .o, .cg (ok_barbicanref1_Check hU a0 p0 q0 n0 k0 A0 hR0 r1 e_r1), .o, .o, .o, .o, .o, .o, .o, .b (z_neqT hq1), .o, .o, .o, .b (z_neqT hq2), .o, .o, .xg (ok1_insn_Subs hU a0 p0 q0 n0 k0 A0 hR0 g2_0 g2_1 e_g2) [], .o, .o, .o, .o, .o, .o, .o, .o, .xg (ok0_barbicanref1_Subs hU a0 p0 q0 n0 k0 A0 hR0 g3_0 g3_1 e_g3) [], .o, .o, .o, .o, .o, .o, .o, .o, .o, .b (z_eqlT hq3), .o, .o, .o, .b (z_eqlF hq4), .o, .o, .o, .o] [] (fun b => by kernel_rfl)
            · injection e with e; subst e; exact fn_conG hU (P := Try.prog) Try.func4 (fun xs w => by kernel_rfl) _ _ [.o, .cg (ok_barbicanlaw1_known hU  ), .o, .o, .o, .b (z_gtrF hq0), .o, .o, .o, .cg (ok_insn_Check hU a0 p0 q0 n0 k0 A0 hR0 r0 e_r0), .o, .o, .o, .o, .o, .o, .cg (ok_barbicanref1_Check hU a0 p0 q0 n0 k0 A0 hR0 r1 e_r1), .o, .o, .o, .o, .o, .o, .o, .b (z_neqT hq1), .o, .o, .o, .b (z_neqT hq2), .o, .o, .xg (ok1_insn_Subs hU a0 p0 q0 n0 k0 A0 hR0 g2_0 g2_1 e_g2) [], .o, .o, .o, .o, .o, .o, .o, .o, .xg (ok0_barbicanref1_Subs hU a0 p0 q0 n0 k0 A0 hR0 g3_0 g3_1 e_g3) [], .o, .o, .o, .o, .o, .o, .o, .o, .o, .b (z_eqlF hq3), .o, .o, .o, .o, .o] [] (fun b => by kernel_rfl)
          · try dsimp only at e
            replace e := bindO_eq e
            obtain ⟨r4, e_r4, e⟩ := e
            try dsimp only at e
            injection e with e; subst e; exact fn_conG hU (P := Try.prog) Try.func4 (fun xs w => by kernel_rfl) _ _ [.o, .cg (ok_barbicanlaw1_known hU  ), .o, .o, .o, .b (z_gtrF hq0), .o, .o, .o, .cg (ok_insn_Check hU a0 p0 q0 n0 k0 A0 hR0 r0 e_r0), .o, .o, .o, .o, .o, .o, .cg (ok_barbicanref1_Check hU a0 p0 q0 n0 k0 A0 hR0 r1 e_r1), .o, .o, .o, .o, .o, .o, .o, .b (z_neqT hq1), .o, .o, .o, .b (z_neqT hq2), .o, .o, .xg (ok1_insn_Subs hU a0 p0 q0 n0 k0 A0 hR0 g2_0 g2_1 e_g2) [], .o, .o, .o, .o, .o, .o, .o, .o, .xg (ok1_barbicanref1_Subs hU a0 p0 q0 n0 k0 A0 hR0 g3_0 g3_1 e_g3) [], .o, .o, .o, .o, .o, .o, .o, .o, .o, .o, .o, .o, .o, .o, .o, .o, .o, .o, .xg (SpcG.own hU (f := c_Part) c_Part_len g2_0 g2_1 49 (fun l => padL l g2_0 2) (fun l => (padL l g2_0 2).length / 2) _ 0 .normal (by intros; rfl) (by intros; rfl) (by intros; rfl) (fun M0 B0 S0 x0 u0 v0 z0 hU0 hs0 hr0 => SpcG.own hU0 (f := c_Part) c_Part_len g3_0 g3_1 49 (fun l => padL l g3_0 2) (fun l => (padL l g3_0 2).length / 2) _ 0 .normal (by intros; rfl) (by intros; rfl) (by intros; rfl) (fun M1 B1 S1 x1 u1 v1 z1 hU1 hs1 hr1 => ConG.sp (ok_barbicanhelp_Parts hU1 x0 u0 v0 g2_0 z0 g2_1 (Ro.mono hr0 hs1) x1 u1 v1 g3_0 z1 g3_1 hr1 r4 e_r4)))) [0, 1], .o, .o] [] (fun b => by kernel_rfl)
      · injection e with e; subst e; exact fn_conG hU (P := Try.prog) Try.func4 (fun xs w => by kernel_rfl) _ _ [.o, .cg (ok_barbicanlaw1_known hU  ), .o, .o, .o, .b (z_gtrF hq0), .o, .o, .o, .cg (ok_insn_Check hU a0 p0 q0 n0 k0 A0 hR0 r0 e_r0), .o, .o, .o, .o, .o, .o, .cg (ok_barbicanref1_Check hU a0 p0 q0 n0 k0 A0 hR0 r1 e_r1), .o, .o, .o, .o, .o, .o, .o, .b (z_neqT hq1), .o, .o, .o, .b (z_neqF hq2), .o, .o] [] (fun b => by kernel_rfl)
    · injection e with e; subst e; exact fn_conG hU (P := Try.prog) Try.func4 (fun xs w => by kernel_rfl) _ _ [.o, .cg (ok_barbicanlaw1_known hU  ), .o, .o, .o, .b (z_gtrF hq0), .o, .o, .o, .cg (ok_insn_Check hU a0 p0 q0 n0 k0 A0 hR0 r0 e_r0), .o, .o, .o, .o, .o, .o, .cg (ok_barbicanref1_Check hU a0 p0 q0 n0 k0 A0 hR0 r1 e_r1), .o, .o, .o, .o, .o, .o, .o, .b (z_neqF hq1), .o, .o, .o] [] (fun b => by kernel_rfl)
end

end Go.Proofs.Ytmlkiamemkfdlaa
