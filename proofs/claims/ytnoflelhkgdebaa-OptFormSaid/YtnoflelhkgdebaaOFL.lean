/-
  The law on the form of shorter programs, by the program's text.
-/
import Derived.Test.YtnoflelhkgdebaaOFT
namespace Go.Proofs.Ytnoflelhkgdebaa
open Go.RowKit
set_option linter.unusedVariables false
set_option linter.unusedSimpArgs false
set_option linter.unusedSectionVars false
set_option maxRecDepth 100000
set_option maxHeartbeats 4000000
inductive Sh_barbicanhelp_Ints_L0 where
  | c0 (s0_0 : Int)
inductive Ex_barbicanhelp_Ints_L0 where
  | e0 
  | e1 
noncomputable def st_barbicanhelp_Ints_L0 (n0 : Nat) (A0 : Nat → Int) (n1 : Nat) (A1 : Nat → Int) : Sh_barbicanhelp_Ints_L0 → Option (Sh_barbicanhelp_Ints_L0 ⊕ Ex_barbicanhelp_Ints_L0)
  | .c0 s0_0 =>
    bif decide (s0_0 < (n0 : Int)) then
      (bif inR s0_0 n0 then
        (bif inR s0_0 n1 then
          (bif (A0 (s0_0).toNat) == (A1 (s0_0).toNat) then
            (some (.inl (.c0 (IntKind.i64.wrap (s0_0 + 1)))))
          else (some (.inr (.e1 ))))
        else (none))
      else (none))
    else (some (.inr (.e0 )))
noncomputable def bd_barbicanhelp_Ints_L0 : Code := codeOf Try.f13 [1, 1, 0, 1, 0, 0]
def fl_barbicanhelp_Ints_L0 (a0 : Option Addr) (p0 : Nat) (q0 : Nat) (n0 : Nat) (k0 : Nat) (A0 : Nat → Int) (a1 : Option Addr) (p1 : Nat) (q1 : Nat) (n1 : Nat) (k1 : Nat) (A1 : Nat → Int) : Sh_barbicanhelp_Ints_L0 → List L1 → List Value
  | .c0 s0_0, ls => [.slice a0 n0 (n0 + k0), .slice a1 n1 (n1 + k1), .bool false, .int .i64 (s0_0)]
def mf_barbicanhelp_Ints_L0 : Sh_barbicanhelp_Ints_L0 → List (Nat × Nat)
  | .c0 _ => [(2, 2), (2, 20)]
noncomputable def fr_barbicanhelp_Ints_L0 (a0 : Option Addr) (p0 : Nat) (q0 : Nat) (n0 : Nat) (k0 : Nat) (A0 : Nat → Int) (a1 : Option Addr) (p1 : Nat) (q1 : Nat) (n1 : Nat) (k1 : Nat) (A1 : Nat → Int) (s : Sh_barbicanhelp_Ints_L0) : List L1 → List Value := mrgF (mf_barbicanhelp_Ints_L0 s) (fl_barbicanhelp_Ints_L0 a0 p0 q0 n0 k0 A0 a1 p1 q1 n1 k1 A1 s) 0
def Hs_barbicanhelp_Ints_L0 (a0 : Option Addr) (p0 : Nat) (q0 : Nat) (n0 : Nat) (k0 : Nat) (A0 : Nat → Int) (a1 : Option Addr) (p1 : Nat) (q1 : Nat) (n1 : Nat) (k1 : Nat) (A1 : Nat → Int) : Sh_barbicanhelp_Ints_L0 → List L1 → List Obj
  | .c0 s0_0, ls => [unb]
def vl_barbicanhelp_Ints_L0 (a0 : Option Addr) (p0 : Nat) (q0 : Nat) (n0 : Nat) (k0 : Nat) (A0 : Nat → Int) (a1 : Option Addr) (p1 : Nat) (q1 : Nat) (n1 : Nat) (k1 : Nat) (A1 : Nat → Int) : Ex_barbicanhelp_Ints_L0 → List L1 → List Value
  | .e0 , ls => [.slice a0 n0 (n0 + k0), .slice a1 n1 (n1 + k1), .bool false]
  | .e1 , ls => [.slice a0 n0 (n0 + k0), .slice a1 n1 (n1 + k1), .bool false]
def mk_barbicanhelp_Ints_L0 : Ex_barbicanhelp_Ints_L0 → List (Nat × Nat)
  | .e0  => [(2, 2), (1, 21)]
  | .e1  => [(2, 2), (1, 21)]
noncomputable def vf_barbicanhelp_Ints_L0 (a0 : Option Addr) (p0 : Nat) (q0 : Nat) (n0 : Nat) (k0 : Nat) (A0 : Nat → Int) (a1 : Option Addr) (p1 : Nat) (q1 : Nat) (n1 : Nat) (k1 : Nat) (A1 : Nat → Int) (r : Ex_barbicanhelp_Ints_L0) : List L1 → List Value := mrgF (mk_barbicanhelp_Ints_L0 r) (vl_barbicanhelp_Ints_L0 a0 p0 q0 n0 k0 A0 a1 p1 q1 n1 k1 A1 r) 0
def Hf_barbicanhelp_Ints_L0 (a0 : Option Addr) (p0 : Nat) (q0 : Nat) (n0 : Nat) (k0 : Nat) (A0 : Nat → Int) (a1 : Option Addr) (p1 : Nat) (q1 : Nat) (n1 : Nat) (k1 : Nat) (A1 : Nat → Int) : Ex_barbicanhelp_Ints_L0 → List L1 → List Obj
  | .e0 , ls => [unb]
  | .e1 , ls => [unb]
def ex_barbicanhelp_Ints_L0 : Ex_barbicanhelp_Ints_L0 → Ex
  | .e0  => (.exit 0)
  | .e1  => .ret
section
variable {M : Nat → Prop} {B0 : Nat} {S : World → Prop} (hU : Up M B0 S) (a0 : Option Addr) (p0 : Nat) (q0 : Nat) (n0 : Nat) (k0 : Nat) (A0 : Nat → Int) (hR0 : Ro S cZ 1 a0 p0 q0 n0 A0) (a1 : Option Addr) (p1 : Nat) (q1 : Nat) (n1 : Nat) (k1 : Nat) (A1 : Nat → Int) (hR1 : Ro S cZ 1 a1 p1 q1 n1 A1)
include hU a0 p0 q0 n0 k0 A0 hR0 a1 p1 q1 n1 k1 A1 hR1
theorem go_barbicanhelp_Ints_L0 (s : Sh_barbicanhelp_Ints_L0) (r : Ex_barbicanhelp_Ints_L0) (h : lpO (st_barbicanhelp_Ints_L0 n0 A0 n1 A1) s = some r) : GoesG Try.prog M B0 S (.loop bd_barbicanhelp_Ints_L0) 1 (fr_barbicanhelp_Ints_L0 a0 p0 q0 n0 k0 A0 a1 p1 q1 n1 k1 A1 s) (Hs_barbicanhelp_Ints_L0 a0 p0 q0 n0 k0 A0 a1 p1 q1 n1 k1 A1 s) (ex_barbicanhelp_Ints_L0 r) 0 (vf_barbicanhelp_Ints_L0 a0 p0 q0 n0 k0 A0 a1 p1 q1 n1 k1 A1 r) (Hf_barbicanhelp_Ints_L0 a0 p0 q0 n0 k0 A0 a1 p1 q1 n1 k1 A1 r) 1 :=
  goes_lpO (fun s q e => by
    cases s with
    | c0 s0_0 =>
      unfold st_barbicanhelp_Ints_L0 at e
      dsimp only at e
      replace e := cond_eq_or e
      rcases e with ⟨hq0, e⟩ | ⟨hq0, e⟩
      · replace e := cond_eq_or e
        rcases e with ⟨hq1, e⟩ | ⟨hq1, e⟩
        · replace e := cond_eq_or e
          let P1 : List (PG Try.prog M B0 S) := [.o, .o, .o, .b (z_lssT hq0), .r [0, 1, 2, 3, 4, 5, 6, 7, 8] [] [], .o, .o, .q (ixRo_ok (kd := .i64) (T := 26) (x := s0_0) (sz := 1) rfl (fun w => by kernel_rfl) hR0 hq1), .l (accRo hR0 cZ_len (inR_nat hq1) 0 [.int .i64 ((A0 (s0_0).toNat))] rfl), .o, .o]
          rcases e with ⟨hq2, e⟩ | ⟨hq2, e⟩
          · replace e := cond_eq_or e
            let P2 : List (PG Try.prog M B0 S) := P1 ++ [.q (ixRo_ok (kd := .i64) (T := 26) (x := s0_0) (sz := 1) rfl (fun w => by kernel_rfl) hR1 hq2), .l (accRo hR1 cZ_len (inR_nat hq2) 0 [.int .i64 ((A1 (s0_0).toNat))] rfl)]
            rcases e with ⟨hq3, e⟩ | ⟨hq3, e⟩
            · cases e; exact goes_runM hU (P2 ++ [.b (z_neqT hq3), .o, .o, .o]) [] (fun b => rfl) (by decide) rfl rfl (fun b => by kernel_rfl)
            · cases e; exact ⟨ne_ret, goes_runM hU (P2 ++ [.b (z_neqF hq3), .o]) [] (fun b => rfl) (by decide) rfl rfl (fun b => by kernel_rfl)⟩
          · exact none_some e
        · exact none_some e
      · cases e; exact ⟨ne_exit 0, goes_runM hU [.o, .o, .o, .b (z_lssF hq0)] [] (fun b => rfl) (by decide) rfl rfl (fun b => by kernel_rfl)⟩) s r h
noncomputable def t0_barbicanhelp_Ints_L0_0 (a0 : Option Addr) (p0 : Nat) (q0 : Nat) (n0 : Nat) (k0 : Nat) (A0 : Nat → Int) (a1 : Option Addr) (p1 : Nat) (q1 : Nat) (n1 : Nat) (k1 : Nat) (A1 : Nat → Int) (s0_0 : Int) (ls : List L1) : List Value := List.append [.slice a0 n0 (n0 + k0), .slice a1 n1 (n1 + k1), undef, undef, .bool false, .int .i64 (s0_0), .slice a0 n0 (n0 + k0), .int .i64 ((n0 : Int)), .slice a1 n1 (n1 + k1), .int .i64 ((n1 : Int)), .bool false] (und 15)
def pre_barbicanhelp_Ints_L0_0 (a0 : Option Addr) (p0 : Nat) (q0 : Nat) (n0 : Nat) (k0 : Nat) (A0 : Nat → Int) (a1 : Option Addr) (p1 : Nat) (q1 : Nat) (n1 : Nat) (k1 : Nat) (A1 : Nat → Int) (s0_0 : Int) (ls : List L1) : List Obj := []
theorem sp0_barbicanhelp_Ints_L0_0_ok (s0_0 : Int) (h : lpO (st_barbicanhelp_Ints_L0 n0 A0 n1 A1) (.c0 s0_0) = some (.e0 )) : SpcG Try.prog M B0 S ⟨fun ls => .code (.loop bd_barbicanhelp_Ints_L0) (t0_barbicanhelp_Ints_L0_0 a0 p0 q0 n0 k0 A0 a1 p1 q1 n1 k1 A1 s0_0 ls), pre_barbicanhelp_Ints_L0_0 a0 p0 q0 n0 k0 A0 a1 p1 q1 n1 k1 A1 s0_0, 1, (.exit 0), fun ls => vf_barbicanhelp_Ints_L0 a0 p0 q0 n0 k0 A0 a1 p1 q1 n1 k1 A1 (.e0 ) (ls.take 0 ++ ls.drop 0), fun ls => (Hf_barbicanhelp_Ints_L0 a0 p0 q0 n0 k0 A0 a1 p1 q1 n1 k1 A1 (.e0 ) (ls.take 0 ++ ls.drop 0)).take 0 ++ List.replicate 0 unb, fun ls => (Hf_barbicanhelp_Ints_L0 a0 p0 q0 n0 k0 A0 a1 p1 q1 n1 k1 A1 (.e0 ) (ls.take 0 ++ ls.drop 0)).drop 0⟩ :=
  spc_of_goesM hU 0 (k0 := 0) (go_barbicanhelp_Ints_L0 hU a0 p0 q0 n0 k0 A0 hR0 a1 p1 q1 n1 k1 A1 hR1 _ _ h) (t0_barbicanhelp_Ints_L0_0 a0 p0 q0 n0 k0 A0 a1 p1 q1 n1 k1 A1 s0_0) (pre_barbicanhelp_Ints_L0_0 a0 p0 q0 n0 k0 A0 a1 p1 q1 n1 k1 A1 s0_0) (fun _ => rfl) (fun ls h => by match ls, h with | [], _ => exact ⟨by kernel_rfl, by kernel_rfl⟩) (fun ls h => by match ls, h with | [], _ => rfl) (by decide) (by decide) (fun ls => rfl)
theorem sp1_barbicanhelp_Ints_L0_0_ok (s0_0 : Int) (h : lpO (st_barbicanhelp_Ints_L0 n0 A0 n1 A1) (.c0 s0_0) = some (.e1 )) : SpcG Try.prog M B0 S ⟨fun ls => .code (.loop bd_barbicanhelp_Ints_L0) (t0_barbicanhelp_Ints_L0_0 a0 p0 q0 n0 k0 A0 a1 p1 q1 n1 k1 A1 s0_0 ls), pre_barbicanhelp_Ints_L0_0 a0 p0 q0 n0 k0 A0 a1 p1 q1 n1 k1 A1 s0_0, 1, .ret, fun ls => vf_barbicanhelp_Ints_L0 a0 p0 q0 n0 k0 A0 a1 p1 q1 n1 k1 A1 (.e1 ) (ls.take 0 ++ ls.drop 0), fun ls => (Hf_barbicanhelp_Ints_L0 a0 p0 q0 n0 k0 A0 a1 p1 q1 n1 k1 A1 (.e1 ) (ls.take 0 ++ ls.drop 0)).take 0 ++ List.replicate 0 unb, fun ls => (Hf_barbicanhelp_Ints_L0 a0 p0 q0 n0 k0 A0 a1 p1 q1 n1 k1 A1 (.e1 ) (ls.take 0 ++ ls.drop 0)).drop 0⟩ :=
  spc_of_goesM hU 0 (k0 := 0) (go_barbicanhelp_Ints_L0 hU a0 p0 q0 n0 k0 A0 hR0 a1 p1 q1 n1 k1 A1 hR1 _ _ h) (t0_barbicanhelp_Ints_L0_0 a0 p0 q0 n0 k0 A0 a1 p1 q1 n1 k1 A1 s0_0) (pre_barbicanhelp_Ints_L0_0 a0 p0 q0 n0 k0 A0 a1 p1 q1 n1 k1 A1 s0_0) (fun _ => rfl) (fun ls h => by match ls, h with | [], _ => exact ⟨by kernel_rfl, by kernel_rfl⟩) (fun ls h => by match ls, h with | [], _ => rfl) (by decide) (by decide) (fun ls => rfl)
noncomputable def m_barbicanhelp_Ints (n0 : Nat) (A0 : Nat → Int) (n1 : Nat) (A1 : Nat → Int) : Option (Bool) :=
  bif (n0 : Int) == (n1 : Int) then
    ((lpO (st_barbicanhelp_Ints_L0 n0 A0 n1 A1) (.c0 0)).bind fun g0 => match g0 with
    | .e0  => (some true)
    | .e1  => (some false))
  else (some false)
theorem ok_barbicanhelp_Ints (r : Bool) (e : m_barbicanhelp_Ints n0 A0 n1 A1 = some r) : ConG Try.prog S 13 #[.slice a0 n0 (n0 + k0), .slice a1 n1 (n1 + k1)] (.bool (r)) := by
  unfold m_barbicanhelp_Ints at e
  replace e := cond_eq_or e
  rcases e with ⟨hq0, e⟩ | ⟨hq0, e⟩
  · replace e := bindO_eq e
    obtain ⟨g0, e_g0, e⟩ := e
    rcases g0 with _ | _
    · try dsimp only at e
      injection e with e; subst e; exact fn_conG hU (P := Try.prog) Try.func13 (fun xs w => by kernel_rfl) _ _ [.o, .o, .o, .o, .o, .b (z_neqT hq0), .o, .cp, .cx (sp0_barbicanhelp_Ints_L0_0_ok hU a0 p0 q0 n0 k0 A0 hR0 a1 p1 q1 n1 k1 A1 hR1 0  e_g0) [], .o] [] (fun b => by kernel_rfl)
    · try dsimp only at e
      injection e with e; subst e; exact fn_conG hU (P := Try.prog) Try.func13 (fun xs w => by kernel_rfl) _ _ [.o, .o, .o, .o, .o, .b (z_neqT hq0), .o, .cp, .cx (sp1_barbicanhelp_Ints_L0_0_ok hU a0 p0 q0 n0 k0 A0 hR0 a1 p1 q1 n1 k1 A1 hR1 0  e_g0) []] [] (fun b => by kernel_rfl)
  · injection e with e; subst e; exact fn_conG hU (P := Try.prog) Try.func13 (fun xs w => by kernel_rfl) _ _ [.o, .o, .o, .o, .o, .b (z_neqF hq0), .o] [] (fun b => by kernel_rfl)
noncomputable def m_barbicanlaw20_known  : Option (Bool) :=
  (m_opt_Trim 3 (fun k => if k = 0 then (⟨5#8, 0#8, 0#8, 0#16, 0#32⟩ : Insn) else if k = 1 then (⟨183#8, 0#8, 0#8, 0#16, 0#32⟩ : Insn) else (⟨149#8, 0#8, 0#8, 0#16, 0#32⟩ : Insn))).bind fun g0 => match g0 with
  | .e0 g0_0 g0_1 g0_2 g0_3 => (bif (g0_0 : Int) == 2 then
      (bif inR 0 g0_0 then
        (bif ((g0_1 0)).fOp == 183#8 then
          ((m_barbicanhelp_Ints g0_2 g0_3 2 (fun k => if k = 0 then 1 else 2)).bind fun r1 =>
          some r1)
        else (some false))
      else (none))
    else (some false))
  | .e1 g0_0 => (bif g0_0 == 0 then
      (some false)
    else (some false))
end
section
variable {M : Nat → Prop} {B0 : Nat} {S : World → Prop} (hU : Up M B0 S)
include hU
theorem ok_barbicanlaw20_known (r : Bool) (e : m_barbicanlaw20_known  = some r) : ConG Try.prog S 4 #[] (.bool (r)) := by
  unfold m_barbicanlaw20_known at e
  replace e := bindO_eq e
  obtain ⟨g0, e_g0, e⟩ := e
  rcases g0 with ⟨g0_0, g0_1, g0_2, g0_3⟩ | ⟨g0_0⟩
  · try dsimp only at e
    replace e := cond_eq_or e
    let P1 : List (PG Try.prog M B0 S) := [.o, .o, .o, .o, .o, .xg (SpcG.own hU (f := c_Insn) c_Insn_len 3 (fun k => if k = 0 then (⟨5#8, 0#8, 0#8, 0#16, 0#32⟩ : Insn) else if k = 1 then (⟨183#8, 0#8, 0#8, 0#16, 0#32⟩ : Insn) else (⟨149#8, 0#8, 0#8, 0#16, 0#32⟩ : Insn)) 37 (fun _ => []) (fun _ => 0) _ 2 .normal (by intros; rfl) (by intros; rfl) (by intros; rfl) (fun M0 B0 S0 x0 u0 v0 z0 hU0 hs0 hr0 => ok0_opt_Trim hU0 x0 u0 v0 3 z0 (fun k => if k = 0 then (⟨5#8, 0#8, 0#8, 0#16, 0#32⟩ : Insn) else if k = 1 then (⟨183#8, 0#8, 0#8, 0#16, 0#32⟩ : Insn) else (⟨149#8, 0#8, 0#8, 0#16, 0#32⟩ : Insn)) hr0 g0_0 g0_1 g0_2 g0_3 e_g0)) [0], .o, .o, .o, .o, .o, .o, .o, .o, .o, .o, .o, .o]
    rcases e with ⟨hq0, e⟩ | ⟨hq0, e⟩
    · replace e := cond_eq_or e
      rcases e with ⟨hq1, e⟩ | ⟨hq1, e⟩
      · replace e := cond_eq_or e
        let P2 : List (PG Try.prog M B0 S) := P1 ++ [.b (z_eqlT hq0), .o, .o, .o, .q (ixM_ok (kd := .i64) (T := 22) (x := 0) (N := g0_0) (sz := 5) rfl (fun w => by kernel_rfl) hq1), .o, .l (accG (i := 1) (f := c_Insn) (A := g0_1) (k := 0) 0 [.int .u8 (nn ((g0_1 0)).fOp)] c_Insn_len (inR_nat hq1) rfl)]
        rcases e with ⟨hq2, e⟩ | ⟨hq2, e⟩
        · replace e := bindO_eq e
          obtain ⟨r1, e_r1, e⟩ := e
          try dsimp only at e
          injection e with e; subst e; exact fn_conG hU (P := Try.prog) Try.func4 (fun xs w => by kernel_rfl) _ _ (P2 ++ [.t (u_eq ((g0_1 0)).fOp (183#8)) hq2, .o, .o, .o, .o, .xg (SpcG.own hU (f := cZ) cZ_len g0_2 g0_3 3 (fun l => padL l g0_2 1) (fun _ => 0) _ 0 .normal (by intros; rfl) (by intros; rfl) (by intros; rfl) (fun M0 B0 S0 x0 u0 v0 z0 hU0 hs0 hr0 => SpcG.own hU0 (f := cZ) cZ_len 2 (fun k => if k = 0 then 1 else 2) 3 (fun _ => []) (fun _ => 0) _ 0 .normal (by intros; rfl) (by intros; rfl) (by intros; rfl) (fun M1 B1 S1 x1 u1 v1 z1 hU1 hs1 hr1 => ConG.sp (ok_barbicanhelp_Ints hU1 x0 u0 v0 g0_2 z0 g0_3 (Ro.mono hr0 hs1) x1 u1 v1 2 z1 (fun k => if k = 0 then 1 else 2) hr1 r1 e_r1)))) [2, 3], .o, .o]) [] (fun b => by kernel_rfl)
        · injection e with e; subst e; exact fn_conG hU (P := Try.prog) Try.func4 (fun xs w => by kernel_rfl) _ _ (P2 ++ [.t (u_eq ((g0_1 0)).fOp (183#8)) hq2, .o, .o, .o, .o]) [] (fun b => by kernel_rfl)
      · exact none_some e
    · injection e with e; subst e; exact fn_conG hU (P := Try.prog) Try.func4 (fun xs w => by kernel_rfl) _ _ (P1 ++ [.b (z_eqlF hq0), .o, .o, .o, .o, .o, .o]) [] (fun b => by kernel_rfl)
  · try dsimp only at e
    replace e := cond_eq_or e
    let P3 : List (PG Try.prog M B0 S) := [.o, .o, .o, .o, .o, .xg (SpcG.own hU (f := c_Insn) c_Insn_len 3 (fun k => if k = 0 then (⟨5#8, 0#8, 0#8, 0#16, 0#32⟩ : Insn) else if k = 1 then (⟨183#8, 0#8, 0#8, 0#16, 0#32⟩ : Insn) else (⟨149#8, 0#8, 0#8, 0#16, 0#32⟩ : Insn)) 37 (fun _ => []) (fun _ => 0) _ 0 .normal (by intros; rfl) (by intros; rfl) (by intros; rfl) (fun M0 B0 S0 x0 u0 v0 z0 hU0 hs0 hr0 => ok1_opt_Trim hU0 x0 u0 v0 3 z0 (fun k => if k = 0 then (⟨5#8, 0#8, 0#8, 0#16, 0#32⟩ : Insn) else if k = 1 then (⟨183#8, 0#8, 0#8, 0#16, 0#32⟩ : Insn) else (⟨149#8, 0#8, 0#8, 0#16, 0#32⟩ : Insn)) hr0 g0_0 e_g0)) [0], .o, .o, .o, .o, .o, .o, .o, .o]
    rcases e with ⟨hq0, e⟩ | ⟨hq0, e⟩
    · injection e with e; subst e; exact fn_conG hU (P := Try.prog) Try.func4 (fun xs w => by kernel_rfl) _ _ (P3 ++ [.b (z_eqlT hq0), .o, .o, .o, .o, .o, .o, .o, .o, .o, .o]) [] (fun b => by kernel_rfl)
    · injection e with e; subst e; exact fn_conG hU (P := Try.prog) Try.func4 (fun xs w => by kernel_rfl) _ _ (P3 ++ [.b (z_eqlF hq0), .o, .o, .o, .o, .o, .o, .o]) [] (fun b => by kernel_rfl)
inductive Sh_barbicanhelp_Insns_L0 where
  | c0 (s0_0 : Int)
inductive Ex_barbicanhelp_Insns_L0 where
  | e0 
  | e1 
noncomputable def st_barbicanhelp_Insns_L0 (n0 : Nat) (A0 : Nat → Insn) (n1 : Nat) (A1 : Nat → Insn) : Sh_barbicanhelp_Insns_L0 → Option (Sh_barbicanhelp_Insns_L0 ⊕ Ex_barbicanhelp_Insns_L0)
  | .c0 s0_0 =>
    bif decide (s0_0 < (n0 : Int)) then
      (bif inR s0_0 n0 then
        (bif inR s0_0 n1 then
          (bif ((((A0 (s0_0).toNat)).fOp == ((A1 (s0_0).toNat)).fOp) && ((((A0 (s0_0).toNat)).fDst == ((A1 (s0_0).toNat)).fDst) && ((((A0 (s0_0).toNat)).fSrc == ((A1 (s0_0).toNat)).fSrc) && ((((A0 (s0_0).toNat)).fOff == ((A1 (s0_0).toNat)).fOff) && (((A0 (s0_0).toNat)).fImm == ((A1 (s0_0).toNat)).fImm))))) then
            (some (.inl (.c0 (IntKind.i64.wrap (s0_0 + 1)))))
          else (some (.inr (.e1 ))))
        else (none))
      else (none))
    else (some (.inr (.e0 )))
noncomputable def bd_barbicanhelp_Insns_L0 : Code := codeOf Try.f12 [1, 1, 0, 1, 0, 0]
def fl_barbicanhelp_Insns_L0 (a0 : Option Addr) (p0 : Nat) (q0 : Nat) (n0 : Nat) (k0 : Nat) (A0 : Nat → Insn) (a1 : Option Addr) (p1 : Nat) (q1 : Nat) (n1 : Nat) (k1 : Nat) (A1 : Nat → Insn) : Sh_barbicanhelp_Insns_L0 → List L1 → List Value
  | .c0 s0_0, ls => [.slice a0 n0 (n0 + k0), .slice a1 n1 (n1 + k1), .bool false, .int .i64 (s0_0)]
def mf_barbicanhelp_Insns_L0 : Sh_barbicanhelp_Insns_L0 → List (Nat × Nat)
  | .c0 _ => [(2, 2), (2, 20)]
noncomputable def fr_barbicanhelp_Insns_L0 (a0 : Option Addr) (p0 : Nat) (q0 : Nat) (n0 : Nat) (k0 : Nat) (A0 : Nat → Insn) (a1 : Option Addr) (p1 : Nat) (q1 : Nat) (n1 : Nat) (k1 : Nat) (A1 : Nat → Insn) (s : Sh_barbicanhelp_Insns_L0) : List L1 → List Value := mrgF (mf_barbicanhelp_Insns_L0 s) (fl_barbicanhelp_Insns_L0 a0 p0 q0 n0 k0 A0 a1 p1 q1 n1 k1 A1 s) 0
def Hs_barbicanhelp_Insns_L0 (a0 : Option Addr) (p0 : Nat) (q0 : Nat) (n0 : Nat) (k0 : Nat) (A0 : Nat → Insn) (a1 : Option Addr) (p1 : Nat) (q1 : Nat) (n1 : Nat) (k1 : Nat) (A1 : Nat → Insn) : Sh_barbicanhelp_Insns_L0 → List L1 → List Obj
  | .c0 s0_0, ls => [unb]
def vl_barbicanhelp_Insns_L0 (a0 : Option Addr) (p0 : Nat) (q0 : Nat) (n0 : Nat) (k0 : Nat) (A0 : Nat → Insn) (a1 : Option Addr) (p1 : Nat) (q1 : Nat) (n1 : Nat) (k1 : Nat) (A1 : Nat → Insn) : Ex_barbicanhelp_Insns_L0 → List L1 → List Value
  | .e0 , ls => [.slice a0 n0 (n0 + k0), .slice a1 n1 (n1 + k1), .bool false]
  | .e1 , ls => [.slice a0 n0 (n0 + k0), .slice a1 n1 (n1 + k1), .bool false]
def mk_barbicanhelp_Insns_L0 : Ex_barbicanhelp_Insns_L0 → List (Nat × Nat)
  | .e0  => [(2, 2), (1, 21)]
  | .e1  => [(2, 2), (1, 21)]
noncomputable def vf_barbicanhelp_Insns_L0 (a0 : Option Addr) (p0 : Nat) (q0 : Nat) (n0 : Nat) (k0 : Nat) (A0 : Nat → Insn) (a1 : Option Addr) (p1 : Nat) (q1 : Nat) (n1 : Nat) (k1 : Nat) (A1 : Nat → Insn) (r : Ex_barbicanhelp_Insns_L0) : List L1 → List Value := mrgF (mk_barbicanhelp_Insns_L0 r) (vl_barbicanhelp_Insns_L0 a0 p0 q0 n0 k0 A0 a1 p1 q1 n1 k1 A1 r) 0
def Hf_barbicanhelp_Insns_L0 (a0 : Option Addr) (p0 : Nat) (q0 : Nat) (n0 : Nat) (k0 : Nat) (A0 : Nat → Insn) (a1 : Option Addr) (p1 : Nat) (q1 : Nat) (n1 : Nat) (k1 : Nat) (A1 : Nat → Insn) : Ex_barbicanhelp_Insns_L0 → List L1 → List Obj
  | .e0 , ls => [unb]
  | .e1 , ls => [unb]
def ex_barbicanhelp_Insns_L0 : Ex_barbicanhelp_Insns_L0 → Ex
  | .e0  => (.exit 0)
  | .e1  => .ret
end
section
variable {M : Nat → Prop} {B0 : Nat} {S : World → Prop} (hU : Up M B0 S) (a0 : Option Addr) (p0 : Nat) (q0 : Nat) (n0 : Nat) (k0 : Nat) (A0 : Nat → Insn) (hR0 : Ro S c_Insn 5 a0 p0 q0 n0 A0) (a1 : Option Addr) (p1 : Nat) (q1 : Nat) (n1 : Nat) (k1 : Nat) (A1 : Nat → Insn) (hR1 : Ro S c_Insn 5 a1 p1 q1 n1 A1)
include hU a0 p0 q0 n0 k0 A0 hR0 a1 p1 q1 n1 k1 A1 hR1
theorem go_barbicanhelp_Insns_L0 (s : Sh_barbicanhelp_Insns_L0) (r : Ex_barbicanhelp_Insns_L0) (h : lpO (st_barbicanhelp_Insns_L0 n0 A0 n1 A1) s = some r) : GoesG Try.prog M B0 S (.loop bd_barbicanhelp_Insns_L0) 1 (fr_barbicanhelp_Insns_L0 a0 p0 q0 n0 k0 A0 a1 p1 q1 n1 k1 A1 s) (Hs_barbicanhelp_Insns_L0 a0 p0 q0 n0 k0 A0 a1 p1 q1 n1 k1 A1 s) (ex_barbicanhelp_Insns_L0 r) 0 (vf_barbicanhelp_Insns_L0 a0 p0 q0 n0 k0 A0 a1 p1 q1 n1 k1 A1 r) (Hf_barbicanhelp_Insns_L0 a0 p0 q0 n0 k0 A0 a1 p1 q1 n1 k1 A1 r) 1 :=
  goes_lpO (fun s q e => by
    cases s with
    | c0 s0_0 =>
      unfold st_barbicanhelp_Insns_L0 at e
      dsimp only at e
      replace e := cond_eq_or e
      rcases e with ⟨hq0, e⟩ | ⟨hq0, e⟩
      · replace e := cond_eq_or e
        rcases e with ⟨hq1, e⟩ | ⟨hq1, e⟩
        · replace e := cond_eq_or e
          let P1 : List (PG Try.prog M B0 S) := [.o, .o, .o, .b (z_lssT hq0), .r [0, 1, 2, 3, 4, 5, 6, 7, 8] [] [], .o, .o, .q (ixRo_ok (kd := .i64) (T := 22) (x := s0_0) (sz := 5) rfl (fun w => by kernel_rfl) hR0 hq1), .l (accRo hR0 c_Insn_len (inR_nat hq1) 0 [.int .u8 (nn ((A0 (s0_0).toNat)).fOp), .int .u8 (nn ((A0 (s0_0).toNat)).fDst), .int .u8 (nn ((A0 (s0_0).toNat)).fSrc), .int .i16 (ii ((A0 (s0_0).toNat)).fOff), .int .i32 (ii ((A0 (s0_0).toNat)).fImm)] rfl), .o, .o]
          rcases e with ⟨hq2, e⟩ | ⟨hq2, e⟩
          · replace e := cond_eq_or e
            let P2 : List (PG Try.prog M B0 S) := P1 ++ [.q (ixRo_ok (kd := .i64) (T := 22) (x := s0_0) (sz := 5) rfl (fun w => by kernel_rfl) hR1 hq2), .l (accRo hR1 c_Insn_len (inR_nat hq2) 0 [.int .u8 (nn ((A1 (s0_0).toNat)).fOp), .int .u8 (nn ((A1 (s0_0).toNat)).fDst), .int .u8 (nn ((A1 (s0_0).toNat)).fSrc), .int .i16 (ii ((A1 (s0_0).toNat)).fOff), .int .i32 (ii ((A1 (s0_0).toNat)).fImm)] rfl)]
            rcases e with ⟨hq3, e⟩ | ⟨hq3, e⟩
            · cases e; exact goes_runM hU (P2 ++ [.ov (fun w => (run_aggeq 37 #[.int .u8 (nn ((A0 (s0_0).toNat)).fOp), .int .u8 (nn ((A0 (s0_0).toNat)).fDst), .int .u8 (nn ((A0 (s0_0).toNat)).fSrc), .int .i16 (ii ((A0 (s0_0).toNat)).fOff), .int .i32 (ii ((A0 (s0_0).toNat)).fImm)] #[.int .u8 (nn ((A1 (s0_0).toNat)).fOp), .int .u8 (nn ((A1 (s0_0).toNat)).fDst), .int .u8 (nn ((A1 (s0_0).toNat)).fSrc), .int .i16 (ii ((A1 (s0_0).toNat)).fOff), .int .i32 (ii ((A1 (s0_0).toNat)).fImm)] true (by kernel_rfl) (fun w => (eqi37 9998 ((A0 (s0_0).toNat)).fOp ((A1 (s0_0).toNat)).fOp ((A0 (s0_0).toNat)).fDst ((A1 (s0_0).toNat)).fDst ((A0 (s0_0).toNat)).fSrc ((A1 (s0_0).toNat)).fSrc ((A0 (s0_0).toNat)).fOff ((A1 (s0_0).toNat)).fOff ((A0 (s0_0).toNat)).fImm ((A1 (s0_0).toNat)).fImm w).trans (congrArg (fun b => Result.ok b w) hq3)) (.tmp 20) (.tmp 24) w).2), .o, .o, .o]) [] (fun b => rfl) (by decide) rfl rfl (fun b => by kernel_rfl)
            · cases e; exact ⟨ne_ret, goes_runM hU (P2 ++ [.ov (fun w => (run_aggeq 37 #[.int .u8 (nn ((A0 (s0_0).toNat)).fOp), .int .u8 (nn ((A0 (s0_0).toNat)).fDst), .int .u8 (nn ((A0 (s0_0).toNat)).fSrc), .int .i16 (ii ((A0 (s0_0).toNat)).fOff), .int .i32 (ii ((A0 (s0_0).toNat)).fImm)] #[.int .u8 (nn ((A1 (s0_0).toNat)).fOp), .int .u8 (nn ((A1 (s0_0).toNat)).fDst), .int .u8 (nn ((A1 (s0_0).toNat)).fSrc), .int .i16 (ii ((A1 (s0_0).toNat)).fOff), .int .i32 (ii ((A1 (s0_0).toNat)).fImm)] false (by kernel_rfl) (fun w => (eqi37 9998 ((A0 (s0_0).toNat)).fOp ((A1 (s0_0).toNat)).fOp ((A0 (s0_0).toNat)).fDst ((A1 (s0_0).toNat)).fDst ((A0 (s0_0).toNat)).fSrc ((A1 (s0_0).toNat)).fSrc ((A0 (s0_0).toNat)).fOff ((A1 (s0_0).toNat)).fOff ((A0 (s0_0).toNat)).fImm ((A1 (s0_0).toNat)).fImm w).trans (congrArg (fun b => Result.ok b w) hq3)) (.tmp 20) (.tmp 24) w).2), .o]) [] (fun b => rfl) (by decide) rfl rfl (fun b => by kernel_rfl)⟩
          · exact none_some e
        · exact none_some e
      · cases e; exact ⟨ne_exit 0, goes_runM hU [.o, .o, .o, .b (z_lssF hq0)] [] (fun b => rfl) (by decide) rfl rfl (fun b => by kernel_rfl)⟩) s r h
noncomputable def t0_barbicanhelp_Insns_L0_0 (a0 : Option Addr) (p0 : Nat) (q0 : Nat) (n0 : Nat) (k0 : Nat) (A0 : Nat → Insn) (a1 : Option Addr) (p1 : Nat) (q1 : Nat) (n1 : Nat) (k1 : Nat) (A1 : Nat → Insn) (s0_0 : Int) (ls : List L1) : List Value := List.append [.slice a0 n0 (n0 + k0), .slice a1 n1 (n1 + k1), undef, undef, .bool false, .int .i64 (s0_0), .slice a0 n0 (n0 + k0), .int .i64 ((n0 : Int)), .slice a1 n1 (n1 + k1), .int .i64 ((n1 : Int)), .bool false] (und 15)
def pre_barbicanhelp_Insns_L0_0 (a0 : Option Addr) (p0 : Nat) (q0 : Nat) (n0 : Nat) (k0 : Nat) (A0 : Nat → Insn) (a1 : Option Addr) (p1 : Nat) (q1 : Nat) (n1 : Nat) (k1 : Nat) (A1 : Nat → Insn) (s0_0 : Int) (ls : List L1) : List Obj := []
theorem sp0_barbicanhelp_Insns_L0_0_ok (s0_0 : Int) (h : lpO (st_barbicanhelp_Insns_L0 n0 A0 n1 A1) (.c0 s0_0) = some (.e0 )) : SpcG Try.prog M B0 S ⟨fun ls => .code (.loop bd_barbicanhelp_Insns_L0) (t0_barbicanhelp_Insns_L0_0 a0 p0 q0 n0 k0 A0 a1 p1 q1 n1 k1 A1 s0_0 ls), pre_barbicanhelp_Insns_L0_0 a0 p0 q0 n0 k0 A0 a1 p1 q1 n1 k1 A1 s0_0, 1, (.exit 0), fun ls => vf_barbicanhelp_Insns_L0 a0 p0 q0 n0 k0 A0 a1 p1 q1 n1 k1 A1 (.e0 ) (ls.take 0 ++ ls.drop 0), fun ls => (Hf_barbicanhelp_Insns_L0 a0 p0 q0 n0 k0 A0 a1 p1 q1 n1 k1 A1 (.e0 ) (ls.take 0 ++ ls.drop 0)).take 0 ++ List.replicate 0 unb, fun ls => (Hf_barbicanhelp_Insns_L0 a0 p0 q0 n0 k0 A0 a1 p1 q1 n1 k1 A1 (.e0 ) (ls.take 0 ++ ls.drop 0)).drop 0⟩ :=
  spc_of_goesM hU 0 (k0 := 0) (go_barbicanhelp_Insns_L0 hU a0 p0 q0 n0 k0 A0 hR0 a1 p1 q1 n1 k1 A1 hR1 _ _ h) (t0_barbicanhelp_Insns_L0_0 a0 p0 q0 n0 k0 A0 a1 p1 q1 n1 k1 A1 s0_0) (pre_barbicanhelp_Insns_L0_0 a0 p0 q0 n0 k0 A0 a1 p1 q1 n1 k1 A1 s0_0) (fun _ => rfl) (fun ls h => by match ls, h with | [], _ => exact ⟨by kernel_rfl, by kernel_rfl⟩) (fun ls h => by match ls, h with | [], _ => rfl) (by decide) (by decide) (fun ls => rfl)
theorem sp1_barbicanhelp_Insns_L0_0_ok (s0_0 : Int) (h : lpO (st_barbicanhelp_Insns_L0 n0 A0 n1 A1) (.c0 s0_0) = some (.e1 )) : SpcG Try.prog M B0 S ⟨fun ls => .code (.loop bd_barbicanhelp_Insns_L0) (t0_barbicanhelp_Insns_L0_0 a0 p0 q0 n0 k0 A0 a1 p1 q1 n1 k1 A1 s0_0 ls), pre_barbicanhelp_Insns_L0_0 a0 p0 q0 n0 k0 A0 a1 p1 q1 n1 k1 A1 s0_0, 1, .ret, fun ls => vf_barbicanhelp_Insns_L0 a0 p0 q0 n0 k0 A0 a1 p1 q1 n1 k1 A1 (.e1 ) (ls.take 0 ++ ls.drop 0), fun ls => (Hf_barbicanhelp_Insns_L0 a0 p0 q0 n0 k0 A0 a1 p1 q1 n1 k1 A1 (.e1 ) (ls.take 0 ++ ls.drop 0)).take 0 ++ List.replicate 0 unb, fun ls => (Hf_barbicanhelp_Insns_L0 a0 p0 q0 n0 k0 A0 a1 p1 q1 n1 k1 A1 (.e1 ) (ls.take 0 ++ ls.drop 0)).drop 0⟩ :=
  spc_of_goesM hU 0 (k0 := 0) (go_barbicanhelp_Insns_L0 hU a0 p0 q0 n0 k0 A0 hR0 a1 p1 q1 n1 k1 A1 hR1 _ _ h) (t0_barbicanhelp_Insns_L0_0 a0 p0 q0 n0 k0 A0 a1 p1 q1 n1 k1 A1 s0_0) (pre_barbicanhelp_Insns_L0_0 a0 p0 q0 n0 k0 A0 a1 p1 q1 n1 k1 A1 s0_0) (fun _ => rfl) (fun ls h => by match ls, h with | [], _ => exact ⟨by kernel_rfl, by kernel_rfl⟩) (fun ls h => by match ls, h with | [], _ => rfl) (by decide) (by decide) (fun ls => rfl)
noncomputable def m_barbicanhelp_Insns (n0 : Nat) (A0 : Nat → Insn) (n1 : Nat) (A1 : Nat → Insn) : Option (Bool) :=
  bif (n0 : Int) == (n1 : Int) then
    ((lpO (st_barbicanhelp_Insns_L0 n0 A0 n1 A1) (.c0 0)).bind fun g0 => match g0 with
    | .e0  => (some true)
    | .e1  => (some false))
  else (some false)
theorem ok_barbicanhelp_Insns (r : Bool) (e : m_barbicanhelp_Insns n0 A0 n1 A1 = some r) : ConG Try.prog S 12 #[.slice a0 n0 (n0 + k0), .slice a1 n1 (n1 + k1)] (.bool (r)) := by
  unfold m_barbicanhelp_Insns at e
  replace e := cond_eq_or e
  rcases e with ⟨hq0, e⟩ | ⟨hq0, e⟩
  · replace e := bindO_eq e
    obtain ⟨g0, e_g0, e⟩ := e
    rcases g0 with _ | _
    · try dsimp only at e
      injection e with e; subst e; exact fn_conG hU (P := Try.prog) Try.func12 (fun xs w => by kernel_rfl) _ _ [.o, .o, .o, .o, .o, .b (z_neqT hq0), .o, .cp, .cx (sp0_barbicanhelp_Insns_L0_0_ok hU a0 p0 q0 n0 k0 A0 hR0 a1 p1 q1 n1 k1 A1 hR1 0  e_g0) [], .o] [] (fun b => by kernel_rfl)
    · try dsimp only at e
      injection e with e; subst e; exact fn_conG hU (P := Try.prog) Try.func12 (fun xs w => by kernel_rfl) _ _ [.o, .o, .o, .o, .o, .b (z_neqT hq0), .o, .cp, .cx (sp1_barbicanhelp_Insns_L0_0_ok hU a0 p0 q0 n0 k0 A0 hR0 a1 p1 q1 n1 k1 A1 hR1 0  e_g0) []] [] (fun b => by kernel_rfl)
  · injection e with e; subst e; exact fn_conG hU (P := Try.prog) Try.func12 (fun xs w => by kernel_rfl) _ _ [.o, .o, .o, .o, .o, .b (z_neqF hq0), .o] [] (fun b => by kernel_rfl)
inductive Sh_barbicanlaw20_OptForm_L0 where
  | c0 (s0_0 : Int)
inductive Ex_barbicanlaw20_OptForm_L0 where
  | e0 
noncomputable def st_barbicanlaw20_OptForm_L0 (n0 : Nat) (A0 : Nat → Insn) (g2_0 : Nat) (g2_1 : Nat → Insn) (g2_2 : Nat) (g2_3 : Nat → Int) (g4_0 : Nat → Bool) (g5_0 : Nat → Bool) (g6_0 : Nat) (g6_1 : Nat → Part) : Sh_barbicanlaw20_OptForm_L0 → Option (Sh_barbicanlaw20_OptForm_L0 ⊕ Ex_barbicanlaw20_OptForm_L0)
  | .c0 s0_0 =>
    bif decide (s0_0 < (g2_0 : Int)) then
      (bif inR s0_0 g2_2 then
        (bif decide ((g2_3 (s0_0).toNat) < 0) then
          (none)
        else (bif decide ((n0 : Int) ≤ (g2_3 (s0_0).toNat)) then
          (none)
        else (bif decide (0 < s0_0) then
          (bif inR (IntKind.i64.wrap (s0_0 - 1)) g2_2 then
            (bif decide ((g2_3 (s0_0).toNat) ≤ (g2_3 ((IntKind.i64.wrap (s0_0 - 1))).toNat)) then
              (none)
            else (bif inR (g2_3 (s0_0).toNat) n0 then
              (bif inR s0_0 g2_0 then
                (bif ((A0 ((g2_3 (s0_0).toNat)).toNat)).fOp == ((g2_1 (s0_0).toNat)).fOp then
                  (bif ((A0 ((g2_3 (s0_0).toNat)).toNat)).fDst == ((g2_1 (s0_0).toNat)).fDst then
                    (bif ((A0 ((g2_3 (s0_0).toNat)).toNat)).fSrc == ((g2_1 (s0_0).toNat)).fSrc then
                      (bif inR s0_0 ((g2_0 : Int)).toNat then
                        (bif (g5_0 (s0_0).toNat) then
                          ((m_barbicanref1_Of g6_0 g6_1 s0_0).bind fun rb0 =>
                          bif m_barbicanref1_Is ((g2_1 (s0_0).toNat)) 0 then
                            (bif ((g2_1 (s0_0).toNat)).fOff == 0#16 then
                              (none)
                            else (some (.inl (.c0 (IntKind.i64.wrap (s0_0 + 1))))))
                          else (some (.inl (.c0 (IntKind.i64.wrap (s0_0 + 1))))))
                        else (bif (g4_0 (s0_0).toNat) then
                          ((m_barbicanref1_Of g6_0 g6_1 s0_0).bind fun rb0 =>
                          bif m_barbicanref1_Is ((g2_1 (s0_0).toNat)) 0 then
                            (bif ((g2_1 (s0_0).toNat)).fOff == 0#16 then
                              (none)
                            else (some (.inl (.c0 (IntKind.i64.wrap (s0_0 + 1))))))
                          else (some (.inl (.c0 (IntKind.i64.wrap (s0_0 + 1))))))
                        else (none)))
                      else (none))
                    else (none))
                  else (none))
                else (none))
              else (none))
            else (none)))
          else (none))
        else (bif inR (g2_3 (s0_0).toNat) n0 then
          (bif inR s0_0 g2_0 then
            (bif ((A0 ((g2_3 (s0_0).toNat)).toNat)).fOp == ((g2_1 (s0_0).toNat)).fOp then
              (bif ((A0 ((g2_3 (s0_0).toNat)).toNat)).fDst == ((g2_1 (s0_0).toNat)).fDst then
                (bif ((A0 ((g2_3 (s0_0).toNat)).toNat)).fSrc == ((g2_1 (s0_0).toNat)).fSrc then
                  (bif inR s0_0 ((g2_0 : Int)).toNat then
                    (bif (g5_0 (s0_0).toNat) then
                      ((m_barbicanref1_Of g6_0 g6_1 s0_0).bind fun rb0 =>
                      bif m_barbicanref1_Is ((g2_1 (s0_0).toNat)) 0 then
                        (bif ((g2_1 (s0_0).toNat)).fOff == 0#16 then
                          (none)
                        else (some (.inl (.c0 (IntKind.i64.wrap (s0_0 + 1))))))
                      else (some (.inl (.c0 (IntKind.i64.wrap (s0_0 + 1))))))
                    else (bif (g4_0 (s0_0).toNat) then
                      ((m_barbicanref1_Of g6_0 g6_1 s0_0).bind fun rb0 =>
                      bif m_barbicanref1_Is ((g2_1 (s0_0).toNat)) 0 then
                        (bif ((g2_1 (s0_0).toNat)).fOff == 0#16 then
                          (none)
                        else (some (.inl (.c0 (IntKind.i64.wrap (s0_0 + 1))))))
                      else (some (.inl (.c0 (IntKind.i64.wrap (s0_0 + 1))))))
                    else (none)))
                  else (none))
                else (none))
              else (none))
            else (none))
          else (none))
        else (none)))))
      else (none))
    else (some (.inr (.e0 )))
noncomputable def bd_barbicanlaw20_OptForm_L0 : Code := codeOf Try.f3 [1, 1, 1, 1, 1, 1, 1, 1, 1, 1, 1, 0, 1, 0, 0]
def fl_barbicanlaw20_OptForm_L0 (a0 : Option Addr) (p0 : Nat) (q0 : Nat) (n0 : Nat) (k0 : Nat) (A0 : Nat → Insn) (r1 : (Int) × (Int)) (g2_0 : Nat) (g2_1 : Nat → Insn) (g2_2 : Nat) (g2_3 : Nat → Int) (r3 : (Int) × (Int)) (g4_0 : Nat → Bool) (g5_0 : Nat → Bool) (g6_0 : Nat) (g6_1 : Nat → Part) : Sh_barbicanlaw20_OptForm_L0 → List L1 → List Value
  | .c0 s0_0, ls => [.slice a0 n0 (n0 + k0), .bool false, (rowCV .cap (lget ls 0) g2_0 5), (rowCV .cap (lget ls 1) g2_2 1), (rowV (lget ls 2) ((g2_0 : Int)).toNat 1), (rowV (lget ls 3) ((g2_0 : Int)).toNat 1), (rowV (lget ls 4) g6_0 2), .int .i64 (s0_0)]
def mf_barbicanlaw20_OptForm_L0 : Sh_barbicanlaw20_OptForm_L0 → List (Nat × Nat)
  | .c0 _ => [(1, 1), (1, 2), (2, 1), (3, 2), (1, 204)]
noncomputable def fr_barbicanlaw20_OptForm_L0 (a0 : Option Addr) (p0 : Nat) (q0 : Nat) (n0 : Nat) (k0 : Nat) (A0 : Nat → Insn) (r1 : (Int) × (Int)) (g2_0 : Nat) (g2_1 : Nat → Insn) (g2_2 : Nat) (g2_3 : Nat → Int) (r3 : (Int) × (Int)) (g4_0 : Nat → Bool) (g5_0 : Nat → Bool) (g6_0 : Nat) (g6_1 : Nat → Part) (s : Sh_barbicanlaw20_OptForm_L0) : List L1 → List Value := mrgF (mf_barbicanlaw20_OptForm_L0 s) (fl_barbicanlaw20_OptForm_L0 a0 p0 q0 n0 k0 A0 r1 g2_0 g2_1 g2_2 g2_3 r3 g4_0 g5_0 g6_0 g6_1 s) 5
def Hs_barbicanlaw20_OptForm_L0 (a0 : Option Addr) (p0 : Nat) (q0 : Nat) (n0 : Nat) (k0 : Nat) (A0 : Nat → Insn) (r1 : (Int) × (Int)) (g2_0 : Nat) (g2_1 : Nat → Insn) (g2_2 : Nat) (g2_3 : Nat → Int) (r3 : (Int) × (Int)) (g4_0 : Nat → Bool) (g5_0 : Nat → Bool) (g6_0 : Nat) (g6_1 : Nat → Part) : Sh_barbicanlaw20_OptForm_L0 → List L1 → List Obj
  | .c0 s0_0, ls => [rowO (lget ls 0) (esG c_Insn g2_0 g2_1) 37 g2_0 5, rowO (lget ls 1) (esG cZ g2_2 g2_3) 3 g2_2 1, rowO (lget ls 2) (esG cB ((g2_0 : Int)).toNat g4_0) 4 ((g2_0 : Int)).toNat 1, rowO (lget ls 3) (esG cB ((g2_0 : Int)).toNat g5_0) 4 ((g2_0 : Int)).toNat 1, rowO (lget ls 4) (esG c_Part g6_0 g6_1) 41 g6_0 2, unb]
def vl_barbicanlaw20_OptForm_L0 (a0 : Option Addr) (p0 : Nat) (q0 : Nat) (n0 : Nat) (k0 : Nat) (A0 : Nat → Insn) (r1 : (Int) × (Int)) (g2_0 : Nat) (g2_1 : Nat → Insn) (g2_2 : Nat) (g2_3 : Nat → Int) (r3 : (Int) × (Int)) (g4_0 : Nat → Bool) (g5_0 : Nat → Bool) (g6_0 : Nat) (g6_1 : Nat → Part) : Ex_barbicanlaw20_OptForm_L0 → List L1 → List Value
  | .e0 , ls => [.slice a0 n0 (n0 + k0), .bool false, (rowCV .cap (lget ls 0) g2_0 5), (rowCV .cap (lget ls 1) g2_2 1), (rowV (lget ls 2) ((g2_0 : Int)).toNat 1), (rowV (lget ls 3) ((g2_0 : Int)).toNat 1), (rowV (lget ls 4) g6_0 2)]
def mk_barbicanlaw20_OptForm_L0 : Ex_barbicanlaw20_OptForm_L0 → List (Nat × Nat)
  | .e0  => [(1, 1), (1, 2), (2, 1), (3, 207)]
noncomputable def vf_barbicanlaw20_OptForm_L0 (a0 : Option Addr) (p0 : Nat) (q0 : Nat) (n0 : Nat) (k0 : Nat) (A0 : Nat → Insn) (r1 : (Int) × (Int)) (g2_0 : Nat) (g2_1 : Nat → Insn) (g2_2 : Nat) (g2_3 : Nat → Int) (r3 : (Int) × (Int)) (g4_0 : Nat → Bool) (g5_0 : Nat → Bool) (g6_0 : Nat) (g6_1 : Nat → Part) (r : Ex_barbicanlaw20_OptForm_L0) : List L1 → List Value := mrgF (mk_barbicanlaw20_OptForm_L0 r) (vl_barbicanlaw20_OptForm_L0 a0 p0 q0 n0 k0 A0 r1 g2_0 g2_1 g2_2 g2_3 r3 g4_0 g5_0 g6_0 g6_1 r) 5
def Hf_barbicanlaw20_OptForm_L0 (a0 : Option Addr) (p0 : Nat) (q0 : Nat) (n0 : Nat) (k0 : Nat) (A0 : Nat → Insn) (r1 : (Int) × (Int)) (g2_0 : Nat) (g2_1 : Nat → Insn) (g2_2 : Nat) (g2_3 : Nat → Int) (r3 : (Int) × (Int)) (g4_0 : Nat → Bool) (g5_0 : Nat → Bool) (g6_0 : Nat) (g6_1 : Nat → Part) : Ex_barbicanlaw20_OptForm_L0 → List L1 → List Obj
  | .e0 , ls => [rowO (lget ls 0) (esG c_Insn g2_0 g2_1) 37 g2_0 5, rowO (lget ls 1) (esG cZ g2_2 g2_3) 3 g2_2 1, rowO (lget ls 2) (esG cB ((g2_0 : Int)).toNat g4_0) 4 ((g2_0 : Int)).toNat 1, rowO (lget ls 3) (esG cB ((g2_0 : Int)).toNat g5_0) 4 ((g2_0 : Int)).toNat 1, rowO (lget ls 4) (esG c_Part g6_0 g6_1) 41 g6_0 2, unb]
def ex_barbicanlaw20_OptForm_L0 : Ex_barbicanlaw20_OptForm_L0 → Ex
  | .e0  => (.exit 0)
end
section
variable {M : Nat → Prop} {B0 : Nat} {S : World → Prop} (hU : Up M B0 S) (a0 : Option Addr) (p0 : Nat) (q0 : Nat) (n0 : Nat) (k0 : Nat) (A0 : Nat → Insn) (hR0 : Ro S c_Insn 5 a0 p0 q0 n0 A0) (r1 : (Int) × (Int)) (g2_0 : Nat) (g2_1 : Nat → Insn) (g2_2 : Nat) (g2_3 : Nat → Int) (r3 : (Int) × (Int)) (g4_0 : Nat → Bool) (g5_0 : Nat → Bool) (g6_0 : Nat) (g6_1 : Nat → Part)
include hU a0 p0 q0 n0 k0 A0 hR0 r1 g2_0 g2_1 g2_2 g2_3 r3 g4_0 g5_0 g6_0 g6_1
theorem go_barbicanlaw20_OptForm_L0 (s : Sh_barbicanlaw20_OptForm_L0) (r : Ex_barbicanlaw20_OptForm_L0) (h : lpO (st_barbicanlaw20_OptForm_L0 n0 A0 g2_0 g2_1 g2_2 g2_3 g4_0 g5_0 g6_0 g6_1) s = some r) : GoesG Try.prog M B0 S (.loop bd_barbicanlaw20_OptForm_L0) 6 (fr_barbicanlaw20_OptForm_L0 a0 p0 q0 n0 k0 A0 r1 g2_0 g2_1 g2_2 g2_3 r3 g4_0 g5_0 g6_0 g6_1 s) (Hs_barbicanlaw20_OptForm_L0 a0 p0 q0 n0 k0 A0 r1 g2_0 g2_1 g2_2 g2_3 r3 g4_0 g5_0 g6_0 g6_1 s) (ex_barbicanlaw20_OptForm_L0 r) 5 (vf_barbicanlaw20_OptForm_L0 a0 p0 q0 n0 k0 A0 r1 g2_0 g2_1 g2_2 g2_3 r3 g4_0 g5_0 g6_0 g6_1 r) (Hf_barbicanlaw20_OptForm_L0 a0 p0 q0 n0 k0 A0 r1 g2_0 g2_1 g2_2 g2_3 r3 g4_0 g5_0 g6_0 g6_1 r) 6 :=
  goes_lpO (fun s q e => by
    cases s with
    | c0 s0_0 =>
      unfold st_barbicanlaw20_OptForm_L0 at e
      dsimp only at e
      replace e := cond_eq_or e
      let P1 : List (PG Try.prog M B0 S) := [.o, .o, .o]
      rcases e with ⟨hq0, e⟩ | ⟨hq0, e⟩
      · replace e := cond_eq_or e
        let P2 : List (PG Try.prog M B0 S) := P1 ++ [.b (z_lssT hq0), .r [0, 1, 2, 3, 4, 5, 6, 7, 8, 9, 10, 11, 12, 13, 14, 15, 16, 17, 18, 19, 20, 21, 22, 23, 24, 25, 26, 27, 28, 29, 30, 31, 32, 33, 34, 35, 36, 37, 38, 39, 40, 41, 42, 43, 44, 45, 46, 47, 48, 49, 50, 51, 52, 53, 54, 55, 56, 57, 58, 59, 60, 61, 62, 63, 64, 65, 66, 67, 68, 69, 70, 71, 72, 73, 74, 75, 76, 77] [] [], .o, .o]
        rcases e with ⟨hq1, e⟩ | ⟨hq1, e⟩
        · replace e := cond_eq_or e
          let P3 : List (PG Try.prog M B0 S) := P2 ++ [.q (ixM_ok (kd := .i64) (T := 26) (x := s0_0) (N := g2_2) (sz := 1) rfl (fun w => by kernel_rfl) hq1), .l (accG (i := 1) (f := cZ) (A := g2_3) (k := (s0_0).toNat) 0 [.int .i64 ((g2_3 (s0_0).toNat))] cZ_len (inR_nat hq1) rfl)]
          rcases e with ⟨hq2, e⟩ | ⟨hq2, e⟩
          · exact none_some e
          · replace e := cond_eq_or e
            let P4 : List (PG Try.prog M B0 S) := P3 ++ [.b (z_lssF hq2), .o, .o, .o, .q (ixM_ok (kd := .i64) (T := 26) (x := s0_0) (N := g2_2) (sz := 1) rfl (fun w => by kernel_rfl) hq1), .l (accG (i := 1) (f := cZ) (A := g2_3) (k := (s0_0).toNat) 0 [.int .i64 ((g2_3 (s0_0).toNat))] cZ_len (inR_nat hq1) rfl), .o, .o]
            rcases e with ⟨hq3, e⟩ | ⟨hq3, e⟩
            · exact none_some e
            · replace e := cond_eq_or e
              let P5 : List (PG Try.prog M B0 S) := P4 ++ [.b (z_geqF hq3), .o, .o, .o]
              rcases e with ⟨hq4, e⟩ | ⟨hq4, e⟩
              · replace e := cond_eq_or e
                let P6 : List (PG Try.prog M B0 S) := P5 ++ [.b (z_gtrT hq4), .o, .o, .o, .o]
                rcases e with ⟨hq5, e⟩ | ⟨hq5, e⟩
                · replace e := cond_eq_or e
                  let P7 : List (PG Try.prog M B0 S) := P6 ++ [.q (ixM_ok (kd := .i64) (T := 26) (x := (IntKind.i64.wrap (s0_0 - 1))) (N := g2_2) (sz := 1) rfl (fun w => by kernel_rfl) hq5), .l (accG (i := 1) (f := cZ) (A := g2_3) (k := ((IntKind.i64.wrap (s0_0 - 1))).toNat) 0 [.int .i64 ((g2_3 ((IntKind.i64.wrap (s0_0 - 1))).toNat))] cZ_len (inR_nat hq5) rfl), .o, .o, .q (ixM_ok (kd := .i64) (T := 26) (x := s0_0) (N := g2_2) (sz := 1) rfl (fun w => by kernel_rfl) hq1), .l (accG (i := 1) (f := cZ) (A := g2_3) (k := (s0_0).toNat) 0 [.int .i64 ((g2_3 (s0_0).toNat))] cZ_len (inR_nat hq1) rfl)]
                  rcases e with ⟨hq6, e⟩ | ⟨hq6, e⟩
                  · exact none_some e
                  · replace e := cond_eq_or e
                    let P8 : List (PG Try.prog M B0 S) := P7 ++ [.b (z_geqF hq6), .o, .o, .o, .o, .o, .o, .q (ixM_ok (kd := .i64) (T := 26) (x := s0_0) (N := g2_2) (sz := 1) rfl (fun w => by kernel_rfl) hq1), .l (accG (i := 1) (f := cZ) (A := g2_3) (k := (s0_0).toNat) 0 [.int .i64 ((g2_3 (s0_0).toNat))] cZ_len (inR_nat hq1) rfl)]
                    rcases e with ⟨hq7, e⟩ | ⟨hq7, e⟩
                    · replace e := cond_eq_or e
                      let P9 : List (PG Try.prog M B0 S) := P8 ++ [.q (ixRo_ok (kd := .i64) (T := 22) (x := (g2_3 (s0_0).toNat)) (sz := 5) rfl (fun w => by kernel_rfl) hR0 hq7), .o, .l (accRo hR0 c_Insn_len (inR_nat hq7) 0 [.int .u8 (nn ((A0 ((g2_3 (s0_0).toNat)).toNat)).fOp)] rfl), .o, .o]
                      rcases e with ⟨hq8, e⟩ | ⟨hq8, e⟩
                      · replace e := cond_eq_or e
                        let P10 : List (PG Try.prog M B0 S) := P9 ++ [.q (ixM_ok (kd := .i64) (T := 22) (x := s0_0) (N := g2_0) (sz := 5) rfl (fun w => by kernel_rfl) hq8), .o, .l (accG (i := 0) (f := c_Insn) (A := g2_1) (k := (s0_0).toNat) 0 [.int .u8 (nn ((g2_1 (s0_0).toNat)).fOp)] c_Insn_len (inR_nat hq8) rfl)]
                        rcases e with ⟨hq9, e⟩ | ⟨hq9, e⟩
                        · replace e := cond_eq_or e
                          let P11 : List (PG Try.prog M B0 S) := P10 ++ [.tn (u_ne ((A0 ((g2_3 (s0_0).toNat)).toNat)).fOp ((g2_1 (s0_0).toNat)).fOp) hq9, .o, .o, .o, .o, .o, .q (ixM_ok (kd := .i64) (T := 26) (x := s0_0) (N := g2_2) (sz := 1) rfl (fun w => by kernel_rfl) hq1), .l (accG (i := 1) (f := cZ) (A := g2_3) (k := (s0_0).toNat) 0 [.int .i64 ((g2_3 (s0_0).toNat))] cZ_len (inR_nat hq1) rfl), .q (ixRo_ok (kd := .i64) (T := 22) (x := (g2_3 (s0_0).toNat)) (sz := 5) rfl (fun w => by kernel_rfl) hR0 hq7), .o, .l (accRo hR0 c_Insn_len (inR_nat hq7) 1 [.int .u8 (nn ((A0 ((g2_3 (s0_0).toNat)).toNat)).fDst)] rfl), .o, .o, .q (ixM_ok (kd := .i64) (T := 22) (x := s0_0) (N := g2_0) (sz := 5) rfl (fun w => by kernel_rfl) hq8), .o, .l (accG (i := 0) (f := c_Insn) (A := g2_1) (k := (s0_0).toNat) 1 [.int .u8 (nn ((g2_1 (s0_0).toNat)).fDst)] c_Insn_len (inR_nat hq8) rfl)]
                          rcases e with ⟨hq10, e⟩ | ⟨hq10, e⟩
                          · replace e := cond_eq_or e
                            let P12 : List (PG Try.prog M B0 S) := P11 ++ [.tn (u_ne ((A0 ((g2_3 (s0_0).toNat)).toNat)).fDst ((g2_1 (s0_0).toNat)).fDst) hq10, .o, .o, .o, .o, .o, .q (ixM_ok (kd := .i64) (T := 26) (x := s0_0) (N := g2_2) (sz := 1) rfl (fun w => by kernel_rfl) hq1), .l (accG (i := 1) (f := cZ) (A := g2_3) (k := (s0_0).toNat) 0 [.int .i64 ((g2_3 (s0_0).toNat))] cZ_len (inR_nat hq1) rfl), .q (ixRo_ok (kd := .i64) (T := 22) (x := (g2_3 (s0_0).toNat)) (sz := 5) rfl (fun w => by kernel_rfl) hR0 hq7), .o, .l (accRo hR0 c_Insn_len (inR_nat hq7) 2 [.int .u8 (nn ((A0 ((g2_3 (s0_0).toNat)).toNat)).fSrc)] rfl), .o, .o, .q (ixM_ok (kd := .i64) (T := 22) (x := s0_0) (N := g2_0) (sz := 5) rfl (fun w => by kernel_rfl) hq8), .o, .l (accG (i := 0) (f := c_Insn) (A := g2_1) (k := (s0_0).toNat) 2 [.int .u8 (nn ((g2_1 (s0_0).toNat)).fSrc)] c_Insn_len (inR_nat hq8) rfl)]
                            rcases e with ⟨hq11, e⟩ | ⟨hq11, e⟩
                            · replace e := cond_eq_or e
                              let P13 : List (PG Try.prog M B0 S) := P12 ++ [.tn (u_ne ((A0 ((g2_3 (s0_0).toNat)).toNat)).fSrc ((g2_1 (s0_0).toNat)).fSrc) hq11, .o, .o, .o]
                              rcases e with ⟨hq12, e⟩ | ⟨hq12, e⟩
                              · replace e := cond_eq_or e
                                let P14 : List (PG Try.prog M B0 S) := P13 ++ [.q (ixM_ok (kd := .i64) (T := 30) (x := s0_0) (N := ((g2_0 : Int)).toNat) (sz := 1) rfl (fun w => by kernel_rfl) hq12)]
                                rcases e with ⟨hq13, e⟩ | ⟨hq13, e⟩
                                · replace e := bindO_eq e
                                  obtain ⟨rb0, e_rb0, e⟩ := e
                                  try dsimp only at e
                                  replace e := cond_eq_or e
                                  let P15 : List (PG Try.prog M B0 S) := P14 ++ [.l (accG (i := 3) (f := cB) (A := g5_0) (k := (s0_0).toNat) 0 [.bool true] cB_len (inR_nat hq12) (congrArg (fun b => [Value.bool b]) hq13)), .o, .o, .o, .o, .o, .xg (SpcG.ownC hU c_Part_len g6_0 g6_1 41 fun hU x u v z hr => ok_barbicanref1_Of hU x u v g6_0 z g6_1 hr s0_0 rb0 e_rb0) [4], .o, .o, .o, .q (ixM_ok (kd := .i64) (T := 22) (x := s0_0) (N := g2_0) (sz := 5) rfl (fun w => by kernel_rfl) hq8), .l (accG (i := 0) (f := c_Insn) (A := g2_1) (k := (s0_0).toNat) 0 [.int .u8 (nn ((g2_1 (s0_0).toNat)).fOp), .int .u8 (nn ((g2_1 (s0_0).toNat)).fDst), .int .u8 (nn ((g2_1 (s0_0).toNat)).fSrc), .int .i16 (ii ((g2_1 (s0_0).toNat)).fOff), .int .i32 (ii ((g2_1 (s0_0).toNat)).fImm)] c_Insn_len (inR_nat hq8) rfl)]
                                  rcases e with ⟨hq14, e⟩ | ⟨hq14, e⟩
                                  · replace e := cond_eq_or e
                                    rcases e with ⟨hq15, e⟩ | ⟨hq15, e⟩
                                    · exact none_some e
                                    · cases e; exact goes_runM hU (P15 ++ [.cg (ok_barbicanref1_Is hU ((g2_1 (s0_0).toNat)) 0 true hq14), .o, .o, .o, .q (ixM_ok (kd := .i64) (T := 22) (x := s0_0) (N := g2_0) (sz := 5) rfl (fun w => by kernel_rfl) hq8), .o, .l (accG (i := 0) (f := c_Insn) (A := g2_1) (k := (s0_0).toNat) 3 [.int .i16 (ii ((g2_1 (s0_0).toNat)).fOff)] c_Insn_len (inR_nat hq8) rfl), .t (i_eq ((g2_1 (s0_0).toNat)).fOff (0#16)) hq15, .o, .o, .o, .o, .o, .o]) [0, 1, 2, 3, 4] (fun b => rfl) (by decide) rfl rfl (fun b => by kernel_rfl)
                                  · cases e; exact goes_runM hU (P15 ++ [.cg (ok_barbicanref1_Is hU ((g2_1 (s0_0).toNat)) 0 false hq14), .o, .o, .o, .o, .o, .o, .o]) [0, 1, 2, 3, 4] (fun b => rfl) (by decide) rfl rfl (fun b => by kernel_rfl)
                                · replace e := cond_eq_or e
                                  let P16 : List (PG Try.prog M B0 S) := P14 ++ [.l (accG (i := 3) (f := cB) (A := g5_0) (k := (s0_0).toNat) 0 [.bool false] cB_len (inR_nat hq12) (congrArg (fun b => [Value.bool b]) hq13)), .o, .o, .o, .o, .q (ixM_ok (kd := .i64) (T := 30) (x := s0_0) (N := ((g2_0 : Int)).toNat) (sz := 1) rfl (fun w => by kernel_rfl) hq12)]
                                  rcases e with ⟨hq14, e⟩ | ⟨hq14, e⟩
                                  · replace e := bindO_eq e
                                    obtain ⟨rb0, e_rb0, e⟩ := e
                                    try dsimp only at e
                                    replace e := cond_eq_or e
                                    let P17 : List (PG Try.prog M B0 S) := P16 ++ [.l (accG (i := 2) (f := cB) (A := g4_0) (k := (s0_0).toNat) 0 [.bool true] cB_len (inR_nat hq12) (congrArg (fun b => [Value.bool b]) hq14)), .o, .o, .o, .o, .xg (SpcG.ownC hU c_Part_len g6_0 g6_1 41 fun hU x u v z hr => ok_barbicanref1_Of hU x u v g6_0 z g6_1 hr s0_0 rb0 e_rb0) [4], .o, .o, .o, .q (ixM_ok (kd := .i64) (T := 22) (x := s0_0) (N := g2_0) (sz := 5) rfl (fun w => by kernel_rfl) hq8), .l (accG (i := 0) (f := c_Insn) (A := g2_1) (k := (s0_0).toNat) 0 [.int .u8 (nn ((g2_1 (s0_0).toNat)).fOp), .int .u8 (nn ((g2_1 (s0_0).toNat)).fDst), .int .u8 (nn ((g2_1 (s0_0).toNat)).fSrc), .int .i16 (ii ((g2_1 (s0_0).toNat)).fOff), .int .i32 (ii ((g2_1 (s0_0).toNat)).fImm)] c_Insn_len (inR_nat hq8) rfl)]
                                    rcases e with ⟨hq15, e⟩ | ⟨hq15, e⟩
                                    · replace e := cond_eq_or e
                                      rcases e with ⟨hq16, e⟩ | ⟨hq16, e⟩
                                      · exact none_some e
                                      · cases e; exact goes_runM hU (P17 ++ [.cg (ok_barbicanref1_Is hU ((g2_1 (s0_0).toNat)) 0 true hq15), .o, .o, .o, .q (ixM_ok (kd := .i64) (T := 22) (x := s0_0) (N := g2_0) (sz := 5) rfl (fun w => by kernel_rfl) hq8), .o, .l (accG (i := 0) (f := c_Insn) (A := g2_1) (k := (s0_0).toNat) 3 [.int .i16 (ii ((g2_1 (s0_0).toNat)).fOff)] c_Insn_len (inR_nat hq8) rfl), .t (i_eq ((g2_1 (s0_0).toNat)).fOff (0#16)) hq16, .o, .o, .o, .o, .o, .o]) [0, 1, 2, 3, 4] (fun b => rfl) (by decide) rfl rfl (fun b => by kernel_rfl)
                                    · cases e; exact goes_runM hU (P17 ++ [.cg (ok_barbicanref1_Is hU ((g2_1 (s0_0).toNat)) 0 false hq15), .o, .o, .o, .o, .o, .o, .o]) [0, 1, 2, 3, 4] (fun b => rfl) (by decide) rfl rfl (fun b => by kernel_rfl)
                                  · exact none_some e
                              · exact none_some e
                            · exact none_some e
                          · exact none_some e
                        · exact none_some e
                      · exact none_some e
                    · exact none_some e
                · exact none_some e
              · replace e := cond_eq_or e
                let P18 : List (PG Try.prog M B0 S) := P5 ++ [.b (z_gtrF hq4), .o, .o, .o, .o, .o, .o, .o, .q (ixM_ok (kd := .i64) (T := 26) (x := s0_0) (N := g2_2) (sz := 1) rfl (fun w => by kernel_rfl) hq1), .l (accG (i := 1) (f := cZ) (A := g2_3) (k := (s0_0).toNat) 0 [.int .i64 ((g2_3 (s0_0).toNat))] cZ_len (inR_nat hq1) rfl)]
                rcases e with ⟨hq5, e⟩ | ⟨hq5, e⟩
                · replace e := cond_eq_or e
                  let P19 : List (PG Try.prog M B0 S) := P18 ++ [.q (ixRo_ok (kd := .i64) (T := 22) (x := (g2_3 (s0_0).toNat)) (sz := 5) rfl (fun w => by kernel_rfl) hR0 hq5), .o, .l (accRo hR0 c_Insn_len (inR_nat hq5) 0 [.int .u8 (nn ((A0 ((g2_3 (s0_0).toNat)).toNat)).fOp)] rfl), .o, .o]
                  rcases e with ⟨hq6, e⟩ | ⟨hq6, e⟩
                  · replace e := cond_eq_or e
                    let P20 : List (PG Try.prog M B0 S) := P19 ++ [.q (ixM_ok (kd := .i64) (T := 22) (x := s0_0) (N := g2_0) (sz := 5) rfl (fun w => by kernel_rfl) hq6), .o, .l (accG (i := 0) (f := c_Insn) (A := g2_1) (k := (s0_0).toNat) 0 [.int .u8 (nn ((g2_1 (s0_0).toNat)).fOp)] c_Insn_len (inR_nat hq6) rfl)]
                    rcases e with ⟨hq7, e⟩ | ⟨hq7, e⟩
                    · replace e := cond_eq_or e
                      let P21 : List (PG Try.prog M B0 S) := P20 ++ [.tn (u_ne ((A0 ((g2_3 (s0_0).toNat)).toNat)).fOp ((g2_1 (s0_0).toNat)).fOp) hq7, .o, .o, .o, .o, .o, .q (ixM_ok (kd := .i64) (T := 26) (x := s0_0) (N := g2_2) (sz := 1) rfl (fun w => by kernel_rfl) hq1), .l (accG (i := 1) (f := cZ) (A := g2_3) (k := (s0_0).toNat) 0 [.int .i64 ((g2_3 (s0_0).toNat))] cZ_len (inR_nat hq1) rfl), .q (ixRo_ok (kd := .i64) (T := 22) (x := (g2_3 (s0_0).toNat)) (sz := 5) rfl (fun w => by kernel_rfl) hR0 hq5), .o, .l (accRo hR0 c_Insn_len (inR_nat hq5) 1 [.int .u8 (nn ((A0 ((g2_3 (s0_0).toNat)).toNat)).fDst)] rfl), .o, .o, .q (ixM_ok (kd := .i64) (T := 22) (x := s0_0) (N := g2_0) (sz := 5) rfl (fun w => by kernel_rfl) hq6), .o, .l (accG (i := 0) (f := c_Insn) (A := g2_1) (k := (s0_0).toNat) 1 [.int .u8 (nn ((g2_1 (s0_0).toNat)).fDst)] c_Insn_len (inR_nat hq6) rfl)]
                      rcases e with ⟨hq8, e⟩ | ⟨hq8, e⟩
                      · replace e := cond_eq_or e
                        let P22 : List (PG Try.prog M B0 S) := P21 ++ [.tn (u_ne ((A0 ((g2_3 (s0_0).toNat)).toNat)).fDst ((g2_1 (s0_0).toNat)).fDst) hq8, .o, .o, .o, .o, .o, .q (ixM_ok (kd := .i64) (T := 26) (x := s0_0) (N := g2_2) (sz := 1) rfl (fun w => by kernel_rfl) hq1), .l (accG (i := 1) (f := cZ) (A := g2_3) (k := (s0_0).toNat) 0 [.int .i64 ((g2_3 (s0_0).toNat))] cZ_len (inR_nat hq1) rfl), .q (ixRo_ok (kd := .i64) (T := 22) (x := (g2_3 (s0_0).toNat)) (sz := 5) rfl (fun w => by kernel_rfl) hR0 hq5), .o, .l (accRo hR0 c_Insn_len (inR_nat hq5) 2 [.int .u8 (nn ((A0 ((g2_3 (s0_0).toNat)).toNat)).fSrc)] rfl), .o, .o, .q (ixM_ok (kd := .i64) (T := 22) (x := s0_0) (N := g2_0) (sz := 5) rfl (fun w => by kernel_rfl) hq6), .o, .l (accG (i := 0) (f := c_Insn) (A := g2_1) (k := (s0_0).toNat) 2 [.int .u8 (nn ((g2_1 (s0_0).toNat)).fSrc)] c_Insn_len (inR_nat hq6) rfl)]
                        rcases e with ⟨hq9, e⟩ | ⟨hq9, e⟩
                        · replace e := cond_eq_or e
                          let P23 : List (PG Try.prog M B0 S) := P22 ++ [.tn (u_ne ((A0 ((g2_3 (s0_0).toNat)).toNat)).fSrc ((g2_1 (s0_0).toNat)).fSrc) hq9, .o, .o, .o]
                          rcases e with ⟨hq10, e⟩ | ⟨hq10, e⟩
                          · replace e := cond_eq_or e
                            let P24 : List (PG Try.prog M B0 S) := P23 ++ [.q (ixM_ok (kd := .i64) (T := 30) (x := s0_0) (N := ((g2_0 : Int)).toNat) (sz := 1) rfl (fun w => by kernel_rfl) hq10)]
                            rcases e with ⟨hq11, e⟩ | ⟨hq11, e⟩
                            · replace e := bindO_eq e
                              obtain ⟨rb0, e_rb0, e⟩ := e
                              try dsimp only at e
                              replace e := cond_eq_or e
                              let P25 : List (PG Try.prog M B0 S) := P24 ++ [.l (accG (i := 3) (f := cB) (A := g5_0) (k := (s0_0).toNat) 0 [.bool true] cB_len (inR_nat hq10) (congrArg (fun b => [Value.bool b]) hq11)), .o, .o, .o, .o, .o, .xg (SpcG.ownC hU c_Part_len g6_0 g6_1 41 fun hU x u v z hr => ok_barbicanref1_Of hU x u v g6_0 z g6_1 hr s0_0 rb0 e_rb0) [4], .o, .o, .o, .q (ixM_ok (kd := .i64) (T := 22) (x := s0_0) (N := g2_0) (sz := 5) rfl (fun w => by kernel_rfl) hq6), .l (accG (i := 0) (f := c_Insn) (A := g2_1) (k := (s0_0).toNat) 0 [.int .u8 (nn ((g2_1 (s0_0).toNat)).fOp), .int .u8 (nn ((g2_1 (s0_0).toNat)).fDst), .int .u8 (nn ((g2_1 (s0_0).toNat)).fSrc), .int .i16 (ii ((g2_1 (s0_0).toNat)).fOff), .int .i32 (ii ((g2_1 (s0_0).toNat)).fImm)] c_Insn_len (inR_nat hq6) rfl)]
                              rcases e with ⟨hq12, e⟩ | ⟨hq12, e⟩
                              · replace e := cond_eq_or e
                                rcases e with ⟨hq13, e⟩ | ⟨hq13, e⟩
                                · exact none_some e
                                · cases e; exact goes_runM hU (P25 ++ [.cg (ok_barbicanref1_Is hU ((g2_1 (s0_0).toNat)) 0 true hq12), .o, .o, .o, .q (ixM_ok (kd := .i64) (T := 22) (x := s0_0) (N := g2_0) (sz := 5) rfl (fun w => by kernel_rfl) hq6), .o, .l (accG (i := 0) (f := c_Insn) (A := g2_1) (k := (s0_0).toNat) 3 [.int .i16 (ii ((g2_1 (s0_0).toNat)).fOff)] c_Insn_len (inR_nat hq6) rfl), .t (i_eq ((g2_1 (s0_0).toNat)).fOff (0#16)) hq13, .o, .o, .o, .o, .o, .o]) [0, 1, 2, 3, 4] (fun b => rfl) (by decide) rfl rfl (fun b => by kernel_rfl)
                              · cases e; exact goes_runM hU (P25 ++ [.cg (ok_barbicanref1_Is hU ((g2_1 (s0_0).toNat)) 0 false hq12), .o, .o, .o, .o, .o, .o, .o]) [0, 1, 2, 3, 4] (fun b => rfl) (by decide) rfl rfl (fun b => by kernel_rfl)
                            · replace e := cond_eq_or e
                              let P26 : List (PG Try.prog M B0 S) := P24 ++ [.l (accG (i := 3) (f := cB) (A := g5_0) (k := (s0_0).toNat) 0 [.bool false] cB_len (inR_nat hq10) (congrArg (fun b => [Value.bool b]) hq11)), .o, .o, .o, .o, .q (ixM_ok (kd := .i64) (T := 30) (x := s0_0) (N := ((g2_0 : Int)).toNat) (sz := 1) rfl (fun w => by kernel_rfl) hq10)]
                              rcases e with ⟨hq12, e⟩ | ⟨hq12, e⟩
                              · replace e := bindO_eq e
                                obtain ⟨rb0, e_rb0, e⟩ := e
                                try dsimp only at e
                                replace e := cond_eq_or e
                                let P27 : List (PG Try.prog M B0 S) := P26 ++ [.l (accG (i := 2) (f := cB) (A := g4_0) (k := (s0_0).toNat) 0 [.bool true] cB_len (inR_nat hq10) (congrArg (fun b => [Value.bool b]) hq12)), .o, .o, .o, .o, .xg (SpcG.ownC hU c_Part_len g6_0 g6_1 41 fun hU x u v z hr => ok_barbicanref1_Of hU x u v g6_0 z g6_1 hr s0_0 rb0 e_rb0) [4], .o, .o, .o, .q (ixM_ok (kd := .i64) (T := 22) (x := s0_0) (N := g2_0) (sz := 5) rfl (fun w => by kernel_rfl) hq6), .l (accG (i := 0) (f := c_Insn) (A := g2_1) (k := (s0_0).toNat) 0 [.int .u8 (nn ((g2_1 (s0_0).toNat)).fOp), .int .u8 (nn ((g2_1 (s0_0).toNat)).fDst), .int .u8 (nn ((g2_1 (s0_0).toNat)).fSrc), .int .i16 (ii ((g2_1 (s0_0).toNat)).fOff), .int .i32 (ii ((g2_1 (s0_0).toNat)).fImm)] c_Insn_len (inR_nat hq6) rfl)]
                                rcases e with ⟨hq13, e⟩ | ⟨hq13, e⟩
                                · replace e := cond_eq_or e
                                  rcases e with ⟨hq14, e⟩ | ⟨hq14, e⟩
                                  · exact none_some e
                                  · cases e; exact goes_runM hU (P27 ++ [.cg (ok_barbicanref1_Is hU ((g2_1 (s0_0).toNat)) 0 true hq13), .o, .o, .o, .q (ixM_ok (kd := .i64) (T := 22) (x := s0_0) (N := g2_0) (sz := 5) rfl (fun w => by kernel_rfl) hq6), .o, .l (accG (i := 0) (f := c_Insn) (A := g2_1) (k := (s0_0).toNat) 3 [.int .i16 (ii ((g2_1 (s0_0).toNat)).fOff)] c_Insn_len (inR_nat hq6) rfl), .t (i_eq ((g2_1 (s0_0).toNat)).fOff (0#16)) hq14, .o, .o, .o, .o, .o, .o]) [0, 1, 2, 3, 4] (fun b => rfl) (by decide) rfl rfl (fun b => by kernel_rfl)
                                · cases e; exact goes_runM hU (P27 ++ [.cg (ok_barbicanref1_Is hU ((g2_1 (s0_0).toNat)) 0 false hq13), .o, .o, .o, .o, .o, .o, .o]) [0, 1, 2, 3, 4] (fun b => rfl) (by decide) rfl rfl (fun b => by kernel_rfl)
                              · exact none_some e
                          · exact none_some e
                        · exact none_some e
                      · exact none_some e
                    · exact none_some e
                  · exact none_some e
                · exact none_some e
        · exact none_some e
      · cases e; exact ⟨ne_exit 0, goes_runM hU (P1 ++ [.b (z_lssF hq0)]) [0, 1, 2, 3, 4] (fun b => rfl) (by decide) rfl rfl (fun b => by kernel_rfl)⟩) s r h
noncomputable def t0_barbicanlaw20_OptForm_L0_0 (a0 : Option Addr) (p0 : Nat) (q0 : Nat) (n0 : Nat) (k0 : Nat) (A0 : Nat → Insn) (r1 : (Int) × (Int)) (g2_0 : Nat) (g2_1 : Nat → Insn) (g2_2 : Nat) (g2_3 : Nat → Int) (r3 : (Int) × (Int)) (g4_0 : Nat → Bool) (g5_0 : Nat → Bool) (g6_0 : Nat) (g6_1 : Nat → Part) (s0_0 : Int) (ls : List L1) : List Value := List.append [.slice a0 n0 (n0 + k0), undef, .bool false, .int .i64 (r1.1), .int .i64 (r3.2), (rowCV .cap (lget ls 0) g2_0 5), (rowCV .cap (lget ls 1) g2_2 1), .int .i64 (0), (rowV (lget ls 2) ((g2_0 : Int)).toNat 1), (rowV (lget ls 3) ((g2_0 : Int)).toNat 1), (rowV (lget ls 4) g6_0 2), .int .i64 (0), .int .i64 (0), .int .i64 (s0_0), undef, undef, undef, .bool true, .bool false, .slice a0 n0 (n0 + k0), .int .i64 ((n0 : Int)), .bool false, .tuple #[.int .i64 (r1.1), .int .i64 (r1.2)], .slice a0 n0 (n0 + k0), .tuple #[.int .i64 (r1.1), .int .i64 (r1.2)], .int .i64 (r1.1), .int .i64 (r1.2), .tuple #[(rowCV .cap (lget ls 0) g2_0 5), (rowCV .cap (lget ls 1) g2_2 1), .int .i64 (0)], .slice a0 n0 (n0 + k0), .tuple #[(rowCV .cap (lget ls 0) g2_0 5), (rowCV .cap (lget ls 1) g2_2 1), .int .i64 (0)], (rowCV .cap (lget ls 0) g2_0 5), (rowCV .cap (lget ls 1) g2_2 1), .int .i64 (0), .int .i64 (r1.2), .bool false] (List.append (und 13) (List.append [.tuple #[.int .i64 (r3.1), .int .i64 (r3.2)], (rowCV .cap (lget ls 0) g2_0 5), .tuple #[.int .i64 (r3.1), .int .i64 (r3.2)], .int .i64 (r3.1), .int .i64 (r3.2), .int .i64 (0), .bool false, .bool false, .int .i64 (r3.2), .bool false, .bool false, .bool false, (rowCV .cap (lget ls 0) g2_0 5), .int .i64 ((g2_0 : Int)), .slice a0 n0 (n0 + k0), .int .i64 ((n0 : Int)), .bool false, .bool false, .bool false, (rowCV .cap (lget ls 1) g2_2 1), .int .i64 ((g2_2 : Int)), (rowCV .cap (lget ls 0) g2_0 5), .int .i64 ((g2_0 : Int)), .bool false, .bool false, (rowCV .cap (lget ls 0) g2_0 5), (rowV (lget ls 2) ((g2_0 : Int)).toNat 1), (rowCV .cap (lget ls 0) g2_0 5), (rowV (lget ls 3) ((g2_0 : Int)).toNat 1), .tuple #[(rowV (lget ls 4) g6_0 2), .int .i64 (0), .int .i64 (0)], (rowCV .cap (lget ls 0) g2_0 5), .tuple #[(rowV (lget ls 4) g6_0 2), .int .i64 (0), .int .i64 (0)], (rowV (lget ls 4) g6_0 2), .int .i64 (0), .int .i64 (0)] (und 135)))
def pre_barbicanlaw20_OptForm_L0_0 (a0 : Option Addr) (p0 : Nat) (q0 : Nat) (n0 : Nat) (k0 : Nat) (A0 : Nat → Insn) (r1 : (Int) × (Int)) (g2_0 : Nat) (g2_1 : Nat → Insn) (g2_2 : Nat) (g2_3 : Nat → Int) (r3 : (Int) × (Int)) (g4_0 : Nat → Bool) (g5_0 : Nat → Bool) (g6_0 : Nat) (g6_1 : Nat → Part) (s0_0 : Int) (ls : List L1) : List Obj := [rowO (lget ls 0) (esG c_Insn g2_0 g2_1) 37 g2_0 5, rowO (lget ls 1) (esG cZ g2_2 g2_3) 3 g2_2 1, rowO (lget ls 2) (esG cB ((g2_0 : Int)).toNat g4_0) 4 ((g2_0 : Int)).toNat 1, rowO (lget ls 3) (esG cB ((g2_0 : Int)).toNat g5_0) 4 ((g2_0 : Int)).toNat 1, rowO (lget ls 4) (esG c_Part g6_0 g6_1) 41 g6_0 2]
theorem sp0_barbicanlaw20_OptForm_L0_0_ok (s0_0 : Int) (h : lpO (st_barbicanlaw20_OptForm_L0 n0 A0 g2_0 g2_1 g2_2 g2_3 g4_0 g5_0 g6_0 g6_1) (.c0 s0_0) = some (.e0 )) : SpcG Try.prog M B0 S ⟨fun ls => .code (.loop bd_barbicanlaw20_OptForm_L0) (t0_barbicanlaw20_OptForm_L0_0 a0 p0 q0 n0 k0 A0 r1 g2_0 g2_1 g2_2 g2_3 r3 g4_0 g5_0 g6_0 g6_1 s0_0 ls), pre_barbicanlaw20_OptForm_L0_0 a0 p0 q0 n0 k0 A0 r1 g2_0 g2_1 g2_2 g2_3 r3 g4_0 g5_0 g6_0 g6_1 s0_0, 1, (.exit 0), fun ls => vf_barbicanlaw20_OptForm_L0 a0 p0 q0 n0 k0 A0 r1 g2_0 g2_1 g2_2 g2_3 r3 g4_0 g5_0 g6_0 g6_1 (.e0 ) (ls.take 5 ++ ls.drop 5), fun ls => (Hf_barbicanlaw20_OptForm_L0 a0 p0 q0 n0 k0 A0 r1 g2_0 g2_1 g2_2 g2_3 r3 g4_0 g5_0 g6_0 g6_1 (.e0 ) (ls.take 5 ++ ls.drop 5)).take 5 ++ List.replicate 0 unb, fun ls => (Hf_barbicanlaw20_OptForm_L0 a0 p0 q0 n0 k0 A0 r1 g2_0 g2_1 g2_2 g2_3 r3 g4_0 g5_0 g6_0 g6_1 (.e0 ) (ls.take 5 ++ ls.drop 5)).drop 5⟩ :=
  spc_of_goesM hU 0 (k0 := 5) (go_barbicanlaw20_OptForm_L0 hU a0 p0 q0 n0 k0 A0 hR0 r1 g2_0 g2_1 g2_2 g2_3 r3 g4_0 g5_0 g6_0 g6_1 _ _ h) (t0_barbicanlaw20_OptForm_L0_0 a0 p0 q0 n0 k0 A0 r1 g2_0 g2_1 g2_2 g2_3 r3 g4_0 g5_0 g6_0 g6_1 s0_0) (pre_barbicanlaw20_OptForm_L0_0 a0 p0 q0 n0 k0 A0 r1 g2_0 g2_1 g2_2 g2_3 r3 g4_0 g5_0 g6_0 g6_1 s0_0) (fun _ => rfl) (fun ls h => by match ls, h with | [l0, l1, l2, l3, l4], _ => exact ⟨by kernel_rfl, by kernel_rfl⟩) (fun ls h => by match ls, h with | [l0, l1, l2, l3, l4], _ => rfl) (by decide) (by decide) (fun ls => rfl)
noncomputable def m_barbicanlaw20_OptForm (n0 : Nat) (A0 : Nat → Insn) : Option (Bool) :=
  (m_barbicanlaw20_known).bind fun r0 =>
  bif r0 then
    (bif decide (150 < (n0 : Int)) then
      (some true)
    else ((m_barbicanref1_Check n0 A0).bind fun r1 =>
    (m_opt_Trim n0 A0).bind fun g2 => match g2 with
    | .e0 g2_0 g2_1 g2_2 g2_3 => (bif r1.2 == 0 then
        ((m_barbicanref1_Check g2_0 g2_1).bind fun r3 =>
        bif r3.2 == 0 then
          (bif decide ((n0 : Int) < (g2_0 : Int)) then
            (none)
          else (bif (g2_2 : Int) == (g2_0 : Int) then
            ((m_barbicanref15_Of g2_0 g2_1).bind fun g4 => match g4 with
            | .e0 g4_0 =>
            (m_barbicanref1_Seconds g2_0 g2_1).bind fun g5 => match g5 with
            | .e0 g5_0 =>
            (m_barbicanref1_Subs g2_0 g2_1).bind fun g6 => match g6 with
            | .e0 g6_0 g6_1 => (none)
            | .e1 g6_0 g6_1 => ((lpO (st_barbicanlaw20_OptForm_L0 n0 A0 g2_0 g2_1 g2_2 g2_3 g4_0 g5_0 g6_0 g6_1) (.c0 0)).bind fun g7 => match g7 with
              | .e0 =>
              (m_opt_Trim g2_0 g2_1).bind fun g8 => match g8 with
              | .e0 g8_0 g8_1 g8_2 g8_3 => ((m_barbicanhelp_Insns g8_0 g8_1 g2_0 g2_1).bind fun r9 =>
                some r9)
              | .e1 g8_0 => (none)))
          else (none)))
        else (none))
      else (bif (0 : Int) == r1.2 then
        (bif (g2_0 : Int) == 0 then
          (some ((g2_2 : Int) == 0))
        else (some false))
      else (some false)))
    | .e1 g2_0 => (bif r1.2 == 0 then
        ((m_barbicanref1_Check 0 (fun _ => (⟨0#8, 0#8, 0#8, 0#16, 0#32⟩ : Insn))).bind fun r3 =>
        bif g2_0 == 0 then
          (none)
        else (some false))
      else (bif g2_0 == r1.2 then
        (some true)
      else (some false)))))
  else (some false)
end
section
variable {M : Nat → Prop} {B0 : Nat} {S : World → Prop} (hU : Up M B0 S)
include hU
theorem ok_barbicanlaw20_OptForm (a0 : Option Addr) (p0 : Nat) (q0 : Nat) (n0 : Nat) (k0 : Nat) (A0 : Nat → Insn) (hR0 : Ro S c_Insn 5 a0 p0 q0 n0 A0) (r : Bool) (e : m_barbicanlaw20_OptForm n0 A0 = some r) : ConG Try.prog S 3 #[.slice a0 n0 (n0 + k0)] (.bool (r)) := by
  unfold m_barbicanlaw20_OptForm at e
  replace e := bindO_eq e
  obtain ⟨r0, e_r0, e⟩ := e
  try dsimp only at e
  replace e := cond_eq_or e
  rcases e with ⟨hq0, e⟩ | ⟨hq0, e⟩
  · subst hq0
    replace e := cond_eq_or e
    let P1 : List (PG Try.prog M B0 S) := [.o, .cg (ok_barbicanlaw20_known hU  true e_r0), .o, .o, .o]
    rcases e with ⟨hq1, e⟩ | ⟨hq1, e⟩
    · injection e with e; subst e; exact fn_conG hU (P := Try.prog) Try.func3 (fun xs w => by kernel_rfl) _ _ (P1 ++ [.b (z_gtrT hq1), .o]) [] (fun b => by kernel_rfl)
    · replace e := bindO_eq e
      obtain ⟨r1, e_r1, e⟩ := e
      try dsimp only at e
      replace e := bindO_eq e
      obtain ⟨g2, e_g2, e⟩ := e
      let P2 : List (PG Try.prog M B0 S) := P1 ++ [.b (z_gtrF hq1), .o, .cg (ok_barbicanref1_Check hU a0 p0 q0 n0 k0 A0 hR0 r1 e_r1), .o, .o, .o, .o, .o, .o]
      rcases g2 with ⟨g2_0, g2_1, g2_2, g2_3⟩ | ⟨g2_0⟩
      · try dsimp only at e
        replace e := cond_eq_or e
        let P3 : List (PG Try.prog M B0 S) := P2 ++ [.xg (ok0_opt_Trim hU a0 p0 q0 n0 k0 A0 hR0 g2_0 g2_1 g2_2 g2_3 e_g2) [], .o, .o, .o, .o, .o, .o, .o, .o]
        rcases e with ⟨hq2, e⟩ | ⟨hq2, e⟩
        · replace e := bindO_eq e
          obtain ⟨r3, e_r3, e⟩ := e
          try dsimp only at e
          replace e := cond_eq_or e
          rcases e with ⟨hq3, e⟩ | ⟨hq3, e⟩
          · replace e := cond_eq_or e
            rcases e with ⟨hq4, e⟩ | ⟨hq4, e⟩
            · exact none_some e
            · replace e := cond_eq_or e
              rcases e with ⟨hq5, e⟩ | ⟨hq5, e⟩
              · replace e := bindO_eq e
                obtain ⟨g4, e_g4, e⟩ := e
                obtain ⟨g4_0⟩ := g4
                try dsimp only at e
                replace e := bindO_eq e
                obtain ⟨g5, e_g5, e⟩ := e
                obtain ⟨g5_0⟩ := g5
                try dsimp only at e
                replace e := bindO_eq e
                obtain ⟨g6, e_g6, e⟩ := e
                rcases g6 with ⟨g6_0, g6_1⟩ | ⟨g6_0, g6_1⟩
                · try dsimp only at e
                  exact none_some e
                · try dsimp only at e
                  replace e := bindO_eq e
                  obtain ⟨g7, e_g7, e⟩ := e
                  cases g7
                  try dsimp only at e
                  replace e := bindO_eq e
                  obtain ⟨g8, e_g8, e⟩ := e
                  rcases g8 with ⟨g8_0, g8_1, g8_2, g8_3⟩ | ⟨g8_0⟩
                  · try dsimp only at e
                    replace e := bindO_eq e
                    obtain ⟨r9, e_r9, e⟩ := e
                    try dsimp only at e
                    injection e with e; subst e; exact fn_conG hU (P := Try.prog) Try.func3 (fun xs w => by kernel_rfl) _ _ (P3 ++ (List.append (α := PG Try.prog M B0 S) [.b (z_neqT hq2), .o, .xg (SpcG.own hU (f := c_Insn) c_Insn_len g2_0 g2_1 37 (fun l => padL l g2_0 5) (fun _ => 0) _ 0 .normal (by intros; rfl) (by intros; rfl) (by intros; rfl) (fun M0 B0 S0 x0 u0 v0 z0 hU0 hs0 hr0 => ConG.sp (ok_barbicanref1_Check hU0 x0 u0 v0 g2_0 z0 g2_1 hr0 r3 e_r3))) [0], .o, .o, .o, .o, .o, .o, .o, .o, .b (z_neqT hq3), .o, .o, .o, .o, .o, .o, .b (z_gtrF hq4), .o, .o, .o, .o, .o, .o, .b (z_neqT hq5), .o, .o, .xg (SpcG.own hU (f := c_Insn) c_Insn_len g2_0 g2_1 37 (fun l => padL l g2_0 5) (fun _ => 0) _ 1 .normal (by intros; rfl) (by intros; rfl) (by intros; rfl) (fun M0 B0 S0 x0 u0 v0 z0 hU0 hs0 hr0 => ok0_barbicanref15_Of hU0 x0 u0 v0 g2_0 z0 g2_1 hr0 g4_0 e_g4)) [0], .o, .o, .xg (SpcG.own hU (f := c_Insn) c_Insn_len g2_0 g2_1 37 (fun l => padL l g2_0 5) (fun _ => 0) _ 1 .normal (by intros; rfl) (by intros; rfl) (by intros; rfl) (fun M0 B0 S0 x0 u0 v0 z0 hU0 hs0 hr0 => ok0_barbicanref1_Seconds hU0 x0 u0 v0 g2_0 z0 g2_1 hr0 g5_0 e_g5)) [0], .o, .o, .xg (SpcG.own hU (f := c_Insn) c_Insn_len g2_0 g2_1 37 (fun l => padL l g2_0 5) (fun _ => 0) _ 1 .normal (by intros; rfl) (by intros; rfl) (by intros; rfl) (fun M0 B0 S0 x0 u0 v0 z0 hU0 hs0 hr0 => ok1_barbicanref1_Subs hU0 x0 u0 v0 g2_0 z0 g2_1 hr0 g6_0 g6_1 e_g6)) [0], .o, .o, .o, .o, .o, .o, .o, .o, .cp, .cx (sp0_barbicanlaw20_OptForm_L0_0_ok hU a0 p0 q0 n0 k0 A0 hR0 r1 g2_0 g2_1 g2_2 g2_3 r3 g4_0 g5_0 g6_0 g6_1 0  e_g7) [0, 1, 2, 3, 4], .o, .xg (SpcG.own hU (f := c_Insn) c_Insn_len g2_0 g2_1 37 (fun l => padL l g2_0 5) (fun _ => 0) _ 2 .normal (by intros; rfl) (by intros; rfl) (by intros; rfl) (fun M0 B0 S0 x0 u0 v0 z0 hU0 hs0 hr0 => ok0_opt_Trim hU0 x0 u0 v0 g2_0 z0 g2_1 hr0 g8_0 g8_1 g8_2 g8_3 e_g8)) [0], .o, .o, .o, .o, .o, .o, .o, .o, .o, .o, .o, .o, .xg (SpcG.own hU (f := c_Insn) c_Insn_len g8_0 g8_1 37 (fun l => padL l g8_0 5) (fun _ => 0) _ 0 .normal (by intros; rfl) (by intros; rfl) (by intros; rfl) (fun M0 B0 S0 x0 u0 v0 z0 hU0 hs0 hr0 => SpcG.own hU0 (f := c_Insn) c_Insn_len g2_0 g2_1 37 (fun l => padL l g2_0 5) (fun _ => 0) _ 0 .normal (by intros; rfl) (by intros; rfl) (by intros; rfl) (fun M1 B1 S1 x1 u1 v1 z1 hU1 hs1 hr1 => ConG.sp (ok_barbicanhelp_Insns hU1 x0 u0 v0 g8_0 z0 g8_1 (Ro.mono hr0 hs1) x1 u1 v1 g2_0 z1 g2_1 hr1 r9 e_r9)))) [6, 0]] [.o, .o])) [] (fun b => by kernel_rfl)
                  · try dsimp only at e
                    exact none_some e
              · exact none_some e
          · exact none_some e
        · replace e := cond_eq_or e
          rcases e with ⟨hq3, e⟩ | ⟨hq3, e⟩
          · replace e := cond_eq_or e
            rcases e with ⟨hq4, e⟩ | ⟨hq4, e⟩
            · injection e with e; subst e; exact fn_conG hU (P := Try.prog) Try.func3 (fun xs w => by kernel_rfl) _ _ (P3 ++ [.b (z_neqF hq2), .o, .o, .b (z_eqlT hq3), .o, .o, .o, .b (z_eqlT hq4), .o, .o, .o, .o, .o, .o, .o]) [] (fun b => by kernel_rfl)
            · injection e with e; subst e; exact fn_conG hU (P := Try.prog) Try.func3 (fun xs w => by kernel_rfl) _ _ (P3 ++ [.b (z_neqF hq2), .o, .o, .b (z_eqlT hq3), .o, .o, .o, .b (z_eqlF hq4), .o, .o, .o, .o]) [] (fun b => by kernel_rfl)
          · injection e with e; subst e; exact fn_conG hU (P := Try.prog) Try.func3 (fun xs w => by kernel_rfl) _ _ (P3 ++ [.b (z_neqF hq2), .o, .o, .b (z_eqlF hq3), .o, .o, .o, .o, .o]) [] (fun b => by kernel_rfl)
      · try dsimp only at e
        replace e := cond_eq_or e
        let P4 : List (PG Try.prog M B0 S) := P2 ++ [.xg (ok1_opt_Trim hU a0 p0 q0 n0 k0 A0 hR0 g2_0 e_g2) [], .o, .o, .o, .o, .o, .o, .o, .o]
        rcases e with ⟨hq2, e⟩ | ⟨hq2, e⟩
        · replace e := bindO_eq e
          obtain ⟨r3, e_r3, e⟩ := e
          try dsimp only at e
          replace e := cond_eq_or e
          rcases e with ⟨hq3, e⟩ | ⟨hq3, e⟩
          · exact none_some e
          · injection e with e; subst e; exact fn_conG hU (P := Try.prog) Try.func3 (fun xs w => by kernel_rfl) _ _ (P4 ++ [.b (z_neqT hq2), .o, .cg (ok_barbicanref1_Check hU none 0 0 0 0 (fun _ => (⟨0#8, 0#8, 0#8, 0#16, 0#32⟩ : Insn)) Ro.nil r3 e_r3), .o, .o, .o, .o, .o, .b (z_neqF hq3), .o, .o, .o, .o, .o, .o, .o]) [] (fun b => by kernel_rfl)
        · replace e := cond_eq_or e
          rcases e with ⟨hq3, e⟩ | ⟨hq3, e⟩
          · injection e with e; subst e; exact fn_conG hU (P := Try.prog) Try.func3 (fun xs w => by kernel_rfl) _ _ (P4 ++ [.b (z_neqF hq2), .o, .o, .b (z_eqlT hq3), .o, .o, .o, .o, .o, .o, .o, .o, .o, .o, .o]) [] (fun b => by kernel_rfl)
          · injection e with e; subst e; exact fn_conG hU (P := Try.prog) Try.func3 (fun xs w => by kernel_rfl) _ _ (P4 ++ [.b (z_neqF hq2), .o, .o, .b (z_eqlF hq3), .o, .o, .o, .o, .o]) [] (fun b => by kernel_rfl)
  · subst hq0
    injection e with e; subst e; exact fn_conG hU (P := Try.prog) Try.func3 (fun xs w => by kernel_rfl) _ _ [.o, .cg (ok_barbicanlaw20_known hU  false e_r0), .o, .o] [] (fun b => by kernel_rfl)
end

end Go.Proofs.Ytnoflelhkgdebaa


