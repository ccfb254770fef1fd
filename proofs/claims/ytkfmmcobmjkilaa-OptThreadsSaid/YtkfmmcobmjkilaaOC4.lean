/-
  The law on threaded programs, by the program's text.
-/
import Derived.Test.YtkfmmcobmjkilaaS1CF
namespace Go.Proofs.Ytkfmmcobmjkilaa
open Go.RowKit
set_option linter.unusedVariables false
set_option linter.unusedSimpArgs false
set_option linter.unusedSectionVars false
set_option maxRecDepth 100000
set_option maxHeartbeats 4000000
inductive Sh_barbicanhelp_Ints_L0 where
  | c0 (s0_0 : Int)
inductive Ex_barbicanhelp_Ints_L0 where
  | e0 
  | e1 
noncomputable def st_barbicanhelp_Ints_L0 (n0 : Nat) (A0 : Nat → Int) (n1 : Nat) (A1 : Nat → Int) : Sh_barbicanhelp_Ints_L0 → Option (Sh_barbicanhelp_Ints_L0 ⊕ Ex_barbicanhelp_Ints_L0)
  | .c0 s0_0 =>
    bif decide (s0_0 < (n0 : Int)) then
      (bif inR s0_0 n0 then
        (bif inR s0_0 n1 then
          (bif (A0 (s0_0).toNat) == (A1 (s0_0).toNat) then
            (some (.inl (.c0 (IntKind.i64.wrap (s0_0 + 1)))))
          else (some (.inr (.e1 ))))
        else (none))
      else (none))
    else (some (.inr (.e0 )))
noncomputable def bd_barbicanhelp_Ints_L0 : Code := codeOf Try.f16 [1, 1, 0, 1, 0, 0]
def fl_barbicanhelp_Ints_L0 (a0 : Option Addr) (p0 : Nat) (q0 : Nat) (n0 : Nat) (k0 : Nat) (A0 : Nat → Int) (a1 : Option Addr) (p1 : Nat) (q1 : Nat) (n1 : Nat) (k1 : Nat) (A1 : Nat → Int) : Sh_barbicanhelp_Ints_L0 → List L1 → List Value
  | .c0 s0_0, ls => [.slice a0 n0 (n0 + k0), .slice a1 n1 (n1 + k1), .bool false, .int .i64 (s0_0)]
def mf_barbicanhelp_Ints_L0 : Sh_barbicanhelp_Ints_L0 → List (Nat × Nat)
  | .c0 _ => [(2, 2), (2, 20)]
noncomputable def fr_barbicanhelp_Ints_L0 (a0 : Option Addr) (p0 : Nat) (q0 : Nat) (n0 : Nat) (k0 : Nat) (A0 : Nat → Int) (a1 : Option Addr) (p1 : Nat) (q1 : Nat) (n1 : Nat) (k1 : Nat) (A1 : Nat → Int) (s : Sh_barbicanhelp_Ints_L0) : List L1 → List Value := mrgF (mf_barbicanhelp_Ints_L0 s) (fl_barbicanhelp_Ints_L0 a0 p0 q0 n0 k0 A0 a1 p1 q1 n1 k1 A1 s) 0
def Hs_barbicanhelp_Ints_L0 (a0 : Option Addr) (p0 : Nat) (q0 : Nat) (n0 : Nat) (k0 : Nat) (A0 : Nat → Int) (a1 : Option Addr) (p1 : Nat) (q1 : Nat) (n1 : Nat) (k1 : Nat) (A1 : Nat → Int) : Sh_barbicanhelp_Ints_L0 → List L1 → List Obj
  | .c0 s0_0, ls => [unb]
def vl_barbicanhelp_Ints_L0 (a0 : Option Addr) (p0 : Nat) (q0 : Nat) (n0 : Nat) (k0 : Nat) (A0 : Nat → Int) (a1 : Option Addr) (p1 : Nat) (q1 : Nat) (n1 : Nat) (k1 : Nat) (A1 : Nat → Int) : Ex_barbicanhelp_Ints_L0 → List L1 → List Value
  | .e0 , ls => [.slice a0 n0 (n0 + k0), .slice a1 n1 (n1 + k1), .bool false]
  | .e1 , ls => [.slice a0 n0 (n0 + k0), .slice a1 n1 (n1 + k1), .bool false]
def mk_barbicanhelp_Ints_L0 : Ex_barbicanhelp_Ints_L0 → List (Nat × Nat)
  | .e0  => [(2, 2), (1, 21)]
  | .e1  => [(2, 2), (1, 21)]
noncomputable def vf_barbicanhelp_Ints_L0 (a0 : Option Addr) (p0 : Nat) (q0 : Nat) (n0 : Nat) (k0 : Nat) (A0 : Nat → Int) (a1 : Option Addr) (p1 : Nat) (q1 : Nat) (n1 : Nat) (k1 : Nat) (A1 : Nat → Int) (r : Ex_barbicanhelp_Ints_L0) : List L1 → List Value := mrgF (mk_barbicanhelp_Ints_L0 r) (vl_barbicanhelp_Ints_L0 a0 p0 q0 n0 k0 A0 a1 p1 q1 n1 k1 A1 r) 0
def Hf_barbicanhelp_Ints_L0 (a0 : Option Addr) (p0 : Nat) (q0 : Nat) (n0 : Nat) (k0 : Nat) (A0 : Nat → Int) (a1 : Option Addr) (p1 : Nat) (q1 : Nat) (n1 : Nat) (k1 : Nat) (A1 : Nat → Int) : Ex_barbicanhelp_Ints_L0 → List L1 → List Obj
  | .e0 , ls => [unb]
  | .e1 , ls => [unb]
def ex_barbicanhelp_Ints_L0 : Ex_barbicanhelp_Ints_L0 → Ex
  | .e0  => (.exit 0)
  | .e1  => .ret
section
variable {M : Nat → Prop} {B0 : Nat} {S : World → Prop} (hU : Up M B0 S) (a0 : Option Addr) (p0 : Nat) (q0 : Nat) (n0 : Nat) (k0 : Nat) (A0 : Nat → Int) (hR0 : Ro S cZ 1 a0 p0 q0 n0 A0) (a1 : Option Addr) (p1 : Nat) (q1 : Nat) (n1 : Nat) (k1 : Nat) (A1 : Nat → Int) (hR1 : Ro S cZ 1 a1 p1 q1 n1 A1)
include hU a0 p0 q0 n0 k0 A0 hR0 a1 p1 q1 n1 k1 A1 hR1
theorem go_barbicanhelp_Ints_L0 (s : Sh_barbicanhelp_Ints_L0) (r : Ex_barbicanhelp_Ints_L0) (h : lpO (st_barbicanhelp_Ints_L0 n0 A0 n1 A1) s = some r) : GoesG Try.prog M B0 S (.loop bd_barbicanhelp_Ints_L0) 1 (fr_barbicanhelp_Ints_L0 a0 p0 q0 n0 k0 A0 a1 p1 q1 n1 k1 A1 s) (Hs_barbicanhelp_Ints_L0 a0 p0 q0 n0 k0 A0 a1 p1 q1 n1 k1 A1 s) (ex_barbicanhelp_Ints_L0 r) 0 (vf_barbicanhelp_Ints_L0 a0 p0 q0 n0 k0 A0 a1 p1 q1 n1 k1 A1 r) (Hf_barbicanhelp_Ints_L0 a0 p0 q0 n0 k0 A0 a1 p1 q1 n1 k1 A1 r) 1 :=
  goes_lpO (fun s q e => by
    cases s with
    | c0 s0_0 =>
      unfold st_barbicanhelp_Ints_L0 at e
      dsimp only at e
      replace e := cond_eq_or e
      rcases e with ⟨hq0, e⟩ | ⟨hq0, e⟩
      · replace e := cond_eq_or e
        rcases e with ⟨hq1, e⟩ | ⟨hq1, e⟩
        · replace e := cond_eq_or e
          let P1 : List (PG Try.prog M B0 S) := [.o, .o, .o, .b (z_lssT hq0), .r [0, 1, 2, 3, 4, 5, 6, 7, 8] [] [], .o, .o, .q (ixRo_ok (kd := .i64) (T := 33) (x := s0_0) (sz := 1) rfl (fun w => by kernel_rfl) hR0 hq1), .l (accRo hR0 cZ_len (inR_nat hq1) 0 [.int .i64 ((A0 (s0_0).toNat))] rfl), .o, .o]
          rcases e with ⟨hq2, e⟩ | ⟨hq2, e⟩
          · replace e := cond_eq_or e
            let P2 : List (PG Try.prog M B0 S) := P1 ++ [.q (ixRo_ok (kd := .i64) (T := 33) (x := s0_0) (sz := 1) rfl (fun w => by kernel_rfl) hR1 hq2), .l (accRo hR1 cZ_len (inR_nat hq2) 0 [.int .i64 ((A1 (s0_0).toNat))] rfl)]
            rcases e with ⟨hq3, e⟩ | ⟨hq3, e⟩
            · cases e; exact goes_runM hU (P2 ++ [.b (z_neqT hq3), .o, .o, .o]) [] (fun b => rfl) (by decide) rfl rfl (fun b => by kernel_rfl)
            · cases e; exact ⟨ne_ret, goes_runM hU (P2 ++ [.b (z_neqF hq3), .o]) [] (fun b => rfl) (by decide) rfl rfl (fun b => by kernel_rfl)⟩
          · exact none_some e
        · exact none_some e
      · cases e; exact ⟨ne_exit 0, goes_runM hU [.o, .o, .o, .b (z_lssF hq0)] [] (fun b => rfl) (by decide) rfl rfl (fun b => by kernel_rfl)⟩) s r h
noncomputable def t0_barbicanhelp_Ints_L0_0 (a0 : Option Addr) (p0 : Nat) (q0 : Nat) (n0 : Nat) (k0 : Nat) (A0 : Nat → Int) (a1 : Option Addr) (p1 : Nat) (q1 : Nat) (n1 : Nat) (k1 : Nat) (A1 : Nat → Int) (s0_0 : Int) (ls : List L1) : List Value := List.append [.slice a0 n0 (n0 + k0), .slice a1 n1 (n1 + k1), undef, undef, .bool false, .int .i64 (s0_0), .slice a0 n0 (n0 + k0), .int .i64 ((n0 : Int)), .slice a1 n1 (n1 + k1), .int .i64 ((n1 : Int)), .bool false] (und 15)
def pre_barbicanhelp_Ints_L0_0 (a0 : Option Addr) (p0 : Nat) (q0 : Nat) (n0 : Nat) (k0 : Nat) (A0 : Nat → Int) (a1 : Option Addr) (p1 : Nat) (q1 : Nat) (n1 : Nat) (k1 : Nat) (A1 : Nat → Int) (s0_0 : Int) (ls : List L1) : List Obj := []
theorem sp0_barbicanhelp_Ints_L0_0_ok (s0_0 : Int) (h : lpO (st_barbicanhelp_Ints_L0 n0 A0 n1 A1) (.c0 s0_0) = some (.e0 )) : SpcG Try.prog M B0 S ⟨fun ls => .code (.loop bd_barbicanhelp_Ints_L0) (t0_barbicanhelp_Ints_L0_0 a0 p0 q0 n0 k0 A0 a1 p1 q1 n1 k1 A1 s0_0 ls), pre_barbicanhelp_Ints_L0_0 a0 p0 q0 n0 k0 A0 a1 p1 q1 n1 k1 A1 s0_0, 1, (.exit 0), fun ls => vf_barbicanhelp_Ints_L0 a0 p0 q0 n0 k0 A0 a1 p1 q1 n1 k1 A1 (.e0 ) (ls.take 0 ++ ls.drop 0), fun ls => (Hf_barbicanhelp_Ints_L0 a0 p0 q0 n0 k0 A0 a1 p1 q1 n1 k1 A1 (.e0 ) (ls.take 0 ++ ls.drop 0)).take 0 ++ List.replicate 0 unb, fun ls => (Hf_barbicanhelp_Ints_L0 a0 p0 q0 n0 k0 A0 a1 p1 q1 n1 k1 A1 (.e0 ) (ls.take 0 ++ ls.drop 0)).drop 0⟩ :=
  spc_of_goesM hU 0 (k0 := 0) (go_barbicanhelp_Ints_L0 hU a0 p0 q0 n0 k0 A0 hR0 a1 p1 q1 n1 k1 A1 hR1 _ _ h) (t0_barbicanhelp_Ints_L0_0 a0 p0 q0 n0 k0 A0 a1 p1 q1 n1 k1 A1 s0_0) (pre_barbicanhelp_Ints_L0_0 a0 p0 q0 n0 k0 A0 a1 p1 q1 n1 k1 A1 s0_0) (fun _ => rfl) (fun ls h => by match ls, h with | [], _ => exact ⟨by kernel_rfl, by kernel_rfl⟩) (fun ls h => by match ls, h with | [], _ => rfl) (by decide) (by decide) (fun ls => rfl)
theorem sp1_barbicanhelp_Ints_L0_0_ok (s0_0 : Int) (h : lpO (st_barbicanhelp_Ints_L0 n0 A0 n1 A1) (.c0 s0_0) = some (.e1 )) : SpcG Try.prog M B0 S ⟨fun ls => .code (.loop bd_barbicanhelp_Ints_L0) (t0_barbicanhelp_Ints_L0_0 a0 p0 q0 n0 k0 A0 a1 p1 q1 n1 k1 A1 s0_0 ls), pre_barbicanhelp_Ints_L0_0 a0 p0 q0 n0 k0 A0 a1 p1 q1 n1 k1 A1 s0_0, 1, .ret, fun ls => vf_barbicanhelp_Ints_L0 a0 p0 q0 n0 k0 A0 a1 p1 q1 n1 k1 A1 (.e1 ) (ls.take 0 ++ ls.drop 0), fun ls => (Hf_barbicanhelp_Ints_L0 a0 p0 q0 n0 k0 A0 a1 p1 q1 n1 k1 A1 (.e1 ) (ls.take 0 ++ ls.drop 0)).take 0 ++ List.replicate 0 unb, fun ls => (Hf_barbicanhelp_Ints_L0 a0 p0 q0 n0 k0 A0 a1 p1 q1 n1 k1 A1 (.e1 ) (ls.take 0 ++ ls.drop 0)).drop 0⟩ :=
  spc_of_goesM hU 0 (k0 := 0) (go_barbicanhelp_Ints_L0 hU a0 p0 q0 n0 k0 A0 hR0 a1 p1 q1 n1 k1 A1 hR1 _ _ h) (t0_barbicanhelp_Ints_L0_0 a0 p0 q0 n0 k0 A0 a1 p1 q1 n1 k1 A1 s0_0) (pre_barbicanhelp_Ints_L0_0 a0 p0 q0 n0 k0 A0 a1 p1 q1 n1 k1 A1 s0_0) (fun _ => rfl) (fun ls h => by match ls, h with | [], _ => exact ⟨by kernel_rfl, by kernel_rfl⟩) (fun ls h => by match ls, h with | [], _ => rfl) (by decide) (by decide) (fun ls => rfl)
noncomputable def m_barbicanhelp_Ints (n0 : Nat) (A0 : Nat → Int) (n1 : Nat) (A1 : Nat → Int) : Option (Bool) :=
  bif (n0 : Int) == (n1 : Int) then
    ((lpO (st_barbicanhelp_Ints_L0 n0 A0 n1 A1) (.c0 0)).bind fun g0 => match g0 with
    | .e0  => (some true)
    | .e1  => (some false))
  else (some false)
theorem ok_barbicanhelp_Ints (r : Bool) (e : m_barbicanhelp_Ints n0 A0 n1 A1 = some r) : ConG Try.prog S 16 #[.slice a0 n0 (n0 + k0), .slice a1 n1 (n1 + k1)] (.bool (r)) := by
  unfold m_barbicanhelp_Ints at e
  replace e := cond_eq_or e
  rcases e with ⟨hq0, e⟩ | ⟨hq0, e⟩
  · replace e := bindO_eq e
    obtain ⟨g0, e_g0, e⟩ := e
    rcases g0 with _ | _
    · try dsimp only at e
      injection e with e; subst e; exact fn_conG hU (P := Try.prog) Try.func16 (fun xs w => by kernel_rfl) _ _ [.o, .o, .o, .o, .o, .b (z_neqT hq0), .o, .cp, .cx (sp0_barbicanhelp_Ints_L0_0_ok hU a0 p0 q0 n0 k0 A0 hR0 a1 p1 q1 n1 k1 A1 hR1 0  e_g0) [], .o] [] (fun b => by kernel_rfl)
    · try dsimp only at e
      injection e with e; subst e; exact fn_conG hU (P := Try.prog) Try.func16 (fun xs w => by kernel_rfl) _ _ [.o, .o, .o, .o, .o, .b (z_neqT hq0), .o, .cp, .cx (sp1_barbicanhelp_Ints_L0_0_ok hU a0 p0 q0 n0 k0 A0 hR0 a1 p1 q1 n1 k1 A1 hR1 0  e_g0) []] [] (fun b => by kernel_rfl)
  · injection e with e; subst e; exact fn_conG hU (P := Try.prog) Try.func16 (fun xs w => by kernel_rfl) _ _ [.o, .o, .o, .o, .o, .b (z_neqF hq0), .o] [] (fun b => by kernel_rfl)
noncomputable def m_barbicanlaw20_known  : Option (Bool) :=
  (m_opt_Trim 3 (fun k => if k = 0 then (⟨5#8, 0#8, 0#8, 0#16, 0#32⟩ : Insn) else if k = 1 then (⟨183#8, 0#8, 0#8, 0#16, 0#32⟩ : Insn) else (⟨149#8, 0#8, 0#8, 0#16, 0#32⟩ : Insn))).bind fun g0 => match g0 with
  | .e0 g0_0 g0_1 g0_2 g0_3 => (bif (g0_0 : Int) == 2 then
      (bif inR 0 g0_0 then
        (bif ((g0_1 0)).fOp == 183#8 then
          ((m_barbicanhelp_Ints g0_2 g0_3 2 (fun k => if k = 0 then 1 else 2)).bind fun r1 =>
          some r1)
        else (some false))
      else (none))
    else (some false))
  | .e1 g0_0 => (bif g0_0 == 0 then
      (some false)
    else (some false))
end
section
variable {M : Nat → Prop} {B0 : Nat} {S : World → Prop} (hU : Up M B0 S)
include hU
theorem ok_barbicanlaw20_known (r : Bool) (e : m_barbicanlaw20_known  = some r) : ConG Try.prog S 12 #[] (.bool (r)) := by
  unfold m_barbicanlaw20_known at e
  replace e := bindO_eq e
  obtain ⟨g0, e_g0, e⟩ := e
  rcases g0 with ⟨g0_0, g0_1, g0_2, g0_3⟩ | ⟨g0_0⟩
  · try dsimp only at e
    replace e := cond_eq_or e
    let P1 : List (PG Try.prog M B0 S) := [.o, .o, .o, .o, .o, .xg (SpcG.own hU (f := c_Insn) c_Insn_len 3 (fun k => if k = 0 then (⟨5#8, 0#8, 0#8, 0#16, 0#32⟩ : Insn) else if k = 1 then (⟨183#8, 0#8, 0#8, 0#16, 0#32⟩ : Insn) else (⟨149#8, 0#8, 0#8, 0#16, 0#32⟩ : Insn)) 40 (fun _ => []) (fun _ => 0) _ 2 .normal (by intros; rfl) (by intros; rfl) (by intros; rfl) (fun M0 B0 S0 x0 u0 v0 z0 hU0 hs0 hr0 => ok0_opt_Trim hU0 x0 u0 v0 3 z0 (fun k => if k = 0 then (⟨5#8, 0#8, 0#8, 0#16, 0#32⟩ : Insn) else if k = 1 then (⟨183#8, 0#8, 0#8, 0#16, 0#32⟩ : Insn) else (⟨149#8, 0#8, 0#8, 0#16, 0#32⟩ : Insn)) hr0 g0_0 g0_1 g0_2 g0_3 e_g0)) [0], .o, .o, .o, .o, .o, .o, .o, .o, .o, .o, .o, .o]
    rcases e with ⟨hq0, e⟩ | ⟨hq0, e⟩
    · replace e := cond_eq_or e
      rcases e with ⟨hq1, e⟩ | ⟨hq1, e⟩
      · replace e := cond_eq_or e
        let P2 : List (PG Try.prog M B0 S) := P1 ++ [.b (z_eqlT hq0), .o, .o, .o, .q (ixM_ok (kd := .i64) (T := 22) (x := 0) (N := g0_0) (sz := 5) rfl (fun w => by kernel_rfl) hq1), .o, .l (accG (i := 1) (f := c_Insn) (A := g0_1) (k := 0) 0 [.int .u8 (nn ((g0_1 0)).fOp)] c_Insn_len (inR_nat hq1) rfl)]
        rcases e with ⟨hq2, e⟩ | ⟨hq2, e⟩
        · replace e := bindO_eq e
          obtain ⟨r1, e_r1, e⟩ := e
          try dsimp only at e
          injection e with e; subst e; exact fn_conG hU (P := Try.prog) Try.func12 (fun xs w => by kernel_rfl) _ _ (P2 ++ [.t (u_eq ((g0_1 0)).fOp (183#8)) hq2, .o, .o, .o, .o, .xg (SpcG.own hU (f := cZ) cZ_len g0_2 g0_3 3 (fun l => padL l g0_2 1) (fun _ => 0) _ 0 .normal (by intros; rfl) (by intros; rfl) (by intros; rfl) (fun M0 B0 S0 x0 u0 v0 z0 hU0 hs0 hr0 => SpcG.own hU0 (f := cZ) cZ_len 2 (fun k => if k = 0 then 1 else 2) 3 (fun _ => []) (fun _ => 0) _ 0 .normal (by intros; rfl) (by intros; rfl) (by intros; rfl) (fun M1 B1 S1 x1 u1 v1 z1 hU1 hs1 hr1 => ConG.sp (ok_barbicanhelp_Ints hU1 x0 u0 v0 g0_2 z0 g0_3 (Ro.mono hr0 hs1) x1 u1 v1 2 z1 (fun k => if k = 0 then 1 else 2) hr1 r1 e_r1)))) [2, 3], .o, .o]) [] (fun b => by kernel_rfl)
        · injection e with e; subst e; exact fn_conG hU (P := Try.prog) Try.func12 (fun xs w => by kernel_rfl) _ _ (P2 ++ [.t (u_eq ((g0_1 0)).fOp (183#8)) hq2, .o, .o, .o, .o]) [] (fun b => by kernel_rfl)
      · exact none_some e
    · injection e with e; subst e; exact fn_conG hU (P := Try.prog) Try.func12 (fun xs w => by kernel_rfl) _ _ (P1 ++ [.b (z_eqlF hq0), .o, .o, .o, .o, .o, .o]) [] (fun b => by kernel_rfl)
  · try dsimp only at e
    replace e := cond_eq_or e
    let P3 : List (PG Try.prog M B0 S) := [.o, .o, .o, .o, .o, .xg (SpcG.own hU (f := c_Insn) c_Insn_len 3 (fun k => if k = 0 then (⟨5#8, 0#8, 0#8, 0#16, 0#32⟩ : Insn) else if k = 1 then (⟨183#8, 0#8, 0#8, 0#16, 0#32⟩ : Insn) else (⟨149#8, 0#8, 0#8, 0#16, 0#32⟩ : Insn)) 40 (fun _ => []) (fun _ => 0) _ 0 .normal (by intros; rfl) (by intros; rfl) (by intros; rfl) (fun M0 B0 S0 x0 u0 v0 z0 hU0 hs0 hr0 => ok1_opt_Trim hU0 x0 u0 v0 3 z0 (fun k => if k = 0 then (⟨5#8, 0#8, 0#8, 0#16, 0#32⟩ : Insn) else if k = 1 then (⟨183#8, 0#8, 0#8, 0#16, 0#32⟩ : Insn) else (⟨149#8, 0#8, 0#8, 0#16, 0#32⟩ : Insn)) hr0 g0_0 e_g0)) [0], .o, .o, .o, .o, .o, .o, .o, .o]
    rcases e with ⟨hq0, e⟩ | ⟨hq0, e⟩
    · injection e with e; subst e; exact fn_conG hU (P := Try.prog) Try.func12 (fun xs w => by kernel_rfl) _ _ (P3 ++ [.b (z_eqlT hq0), .o, .o, .o, .o, .o, .o, .o, .o, .o, .o]) [] (fun b => by kernel_rfl)
    · injection e with e; subst e; exact fn_conG hU (P := Try.prog) Try.func12 (fun xs w => by kernel_rfl) _ _ (P3 ++ [.b (z_eqlF hq0), .o, .o, .o, .o, .o, .o, .o]) [] (fun b => by kernel_rfl)
inductive Sh_barbicanlaw20_OptThreads_L0_L1v4 where
  | c0 (sb0_0 : Int) (sb0_1 : Int)
inductive Ex_barbicanlaw20_OptThreads_L0_L1v4 where
  | e0 (c0_0 : BitVec 8) (c0_1 : BitVec 8) (c0_2 : BitVec 8) (c0_3 : BitVec 16) (c0_4 : BitVec 32) (c0_5 : Int) (c0_6 : Int) (c0_7 : Int) (c0_8 : Int) (c0_9 : Bool) (c0_10 : Bool)
noncomputable def st_barbicanlaw20_OptThreads_L0_L1v4 (n0 : Nat) (A0 : Nat → Insn) (g2_0 : Nat → Insn) (s0_0 : Int) : Sh_barbicanlaw20_OptThreads_L0_L1v4 → Option (Sh_barbicanlaw20_OptThreads_L0_L1v4 ⊕ Ex_barbicanlaw20_OptThreads_L0_L1v4)
  | .c0 sb0_0 sb0_1 =>
    bif decide (sb0_1 < (n0 : Int)) then
      (bif inR sb0_0 n0 then
        (bif m_barbicanref1_Is ((A0 (sb0_0).toNat)) 0 then
          (some (.inl (.c0 (IntKind.i64.wrap ((IntKind.i64.wrap (sb0_0 + 1)) + (ii ((A0 (sb0_0).toNat)).fOff))) (IntKind.i64.wrap (sb0_1 + 1)))))
        else (some (.inr (.e0 ((A0 (s0_0).toNat)).fOp ((A0 (s0_0).toNat)).fDst ((A0 (s0_0).toNat)).fSrc ((g2_0 (s0_0).toNat)).fOff ((A0 (s0_0).toNat)).fImm sb0_0 sb0_1 sb0_1 (n0 : Int) true true))))
      else (none))
    else (some (.inr (.e0 ((A0 (s0_0).toNat)).fOp ((A0 (s0_0).toNat)).fDst ((A0 (s0_0).toNat)).fSrc ((g2_0 (s0_0).toNat)).fOff ((A0 (s0_0).toNat)).fImm sb0_0 sb0_1 sb0_1 (n0 : Int) false false)))
noncomputable def bd_barbicanlaw20_OptThreads_L0_L1v4 : Code := codeOf Try.f5 [1, 1, 1, 1, 1, 1, 1, 1, 1, 0, 1, 0, 0, 1, 0, 0, 1, 1, 1, 1, 1, 0, 1, 0, 0]
def fl_barbicanlaw20_OptThreads_L0_L1v4 (a0 : Option Addr) (p0 : Nat) (q0 : Nat) (n0 : Nat) (k0 : Nat) (A0 : Nat → Insn) (r1 : (Int) × (Int)) (g2_0 : Nat → Insn) (r3 : (Int) × (Int)) (g4_0 : Nat → Bool) (s0_0 : Int) : Sh_barbicanlaw20_OptThreads_L0_L1v4 → List L1 → List Value
  | .c0 sb0_0 sb0_1, ls => [.slice a0 n0 (n0 + k0), .bool false, (rowV (lget ls 0) n0 5), (rowV (lget ls 1) ((n0 : Int)).toNat 1), .int .i64 (s0_0), .pointer (some ⟨(lget ls 3).n, 0, none⟩), .int .i64 (sb0_0), .int .i64 (sb0_1), .int .i64 (s0_0), .slice a0 n0 (n0 + k0), .int .i64 ((n0 : Int)), .bool true, ((lget ls 2).u 61), ((lget ls 2).u 62), .slice a0 n0 (n0 + k0), .int .i64 (s0_0), .pointer (some ⟨p0, q0 + (s0_0).toNat * 5, none⟩), .agg #[.int .u8 (nn ((A0 (s0_0).toNat)).fOp), .int .u8 (nn ((A0 (s0_0).toNat)).fDst), .int .u8 (nn ((A0 (s0_0).toNat)).fSrc), .int .i16 (ii ((A0 (s0_0).toNat)).fOff), .int .i32 (ii ((A0 (s0_0).toNat)).fImm)], (rowV (lget ls 0) n0 5), .int .i64 (s0_0), .pointer (some ⟨(lget ls 0).n, 0 + (s0_0).toNat * 5, none⟩), .pointer (some ⟨(lget ls 0).n, 0 + (s0_0).toNat * 5 + 3, none⟩), .int .i16 (ii ((g2_0 (s0_0).toNat)).fOff), .pointer (some ⟨(lget ls 3).n, 3, none⟩), .agg #[.int .u8 (nn ((A0 (s0_0).toNat)).fOp), .int .u8 (nn ((A0 (s0_0).toNat)).fDst), .int .u8 (nn ((A0 (s0_0).toNat)).fSrc), .int .i16 (ii ((g2_0 (s0_0).toNat)).fOff), .int .i32 (ii ((A0 (s0_0).toNat)).fImm)], (rowV (lget ls 0) n0 5), .int .i64 (s0_0), .pointer (some ⟨(lget ls 0).n, 0 + (s0_0).toNat * 5, none⟩), .agg #[.int .u8 (nn ((g2_0 (s0_0).toNat)).fOp), .int .u8 (nn ((g2_0 (s0_0).toNat)).fDst), .int .u8 (nn ((g2_0 (s0_0).toNat)).fSrc), .int .i16 (ii ((g2_0 (s0_0).toNat)).fOff), .int .i32 (ii ((g2_0 (s0_0).toNat)).fImm)], .bool false, .bool false, (rowV (lget ls 1) ((n0 : Int)).toNat 1), .int .i64 (s0_0), .pointer (some ⟨(lget ls 1).n, 0 + (s0_0).toNat * 1, none⟩), .bool false, .bool false, .bool false, .bool false, (rowV (lget ls 1) ((n0 : Int)).toNat 1), .int .i64 (s0_0), .pointer (some ⟨(lget ls 1).n, 0 + (s0_0).toNat * 1, none⟩), .bool false, .bool false, .agg #[.int .u8 (nn ((A0 (s0_0).toNat)).fOp), .int .u8 (nn ((A0 (s0_0).toNat)).fDst), .int .u8 (nn ((A0 (s0_0).toNat)).fSrc), .int .i16 (ii ((g2_0 (s0_0).toNat)).fOff), .int .i32 (ii ((A0 (s0_0).toNat)).fImm)], .bool true, .bool false, .bool false, .bool false, .bool false, ((lget ls 2).u 110), ((lget ls 2).u 111), ((lget ls 2).u 112), ((lget ls 2).u 113), ((lget ls 2).u 114), ((lget ls 2).u 115), ((lget ls 2).u 116), ((lget ls 2).u 117), ((lget ls 2).u 118), ((lget ls 2).u 119), ((lget ls 2).u 120), .int .i64 (s0_0), .int .i64 ((IntKind.i64.wrap (s0_0 + 1))), .slice a0 n0 (n0 + k0), .int .i64 (s0_0), .pointer (some ⟨p0, q0 + (s0_0).toNat * 5, none⟩), .pointer (some ⟨p0, q0 + (s0_0).toNat * 5 + 3, none⟩), .int .i16 (ii ((A0 (s0_0).toNat)).fOff), .int .i64 ((ii ((A0 (s0_0).toNat)).fOff)), .int .i64 ((IntKind.i64.wrap ((IntKind.i64.wrap (s0_0 + 1)) + (ii ((A0 (s0_0).toNat)).fOff)))), ((lget ls 2).u 152), ((lget ls 2).u 153), ((lget ls 2).u 154), ((lget ls 2).u 155), ((lget ls 2).u 156), ((lget ls 2).u 157), ((lget ls 2).u 158), ((lget ls 2).u 159), ((lget ls 2).u 160), ((lget ls 2).u 161), ((lget ls 2).u 162), ((lget ls 2).u 163), ((lget ls 2).u 164), ((lget ls 2).u 165), ((lget ls 2).u 166), ((lget ls 2).u 167), ((lget ls 2).u 168), ((lget ls 2).u 169), ((lget ls 2).u 170)]
def mf_barbicanlaw20_OptThreads_L0_L1v4 : Sh_barbicanlaw20_OptThreads_L0_L1v4 → List (Nat × Nat)
  | .c0 _ _ => [(1, 1), (1, 2), (1, 1), (5, 45), (28, 9), (11, 3), (22, 22), (19, 0)]
noncomputable def fr_barbicanlaw20_OptThreads_L0_L1v4 (a0 : Option Addr) (p0 : Nat) (q0 : Nat) (n0 : Nat) (k0 : Nat) (A0 : Nat → Insn) (r1 : (Int) × (Int)) (g2_0 : Nat → Insn) (r3 : (Int) × (Int)) (g4_0 : Nat → Bool) (s0_0 : Int) (s : Sh_barbicanlaw20_OptThreads_L0_L1v4) : List L1 → List Value := mrgF (mf_barbicanlaw20_OptThreads_L0_L1v4 s) (fl_barbicanlaw20_OptThreads_L0_L1v4 a0 p0 q0 n0 k0 A0 r1 g2_0 r3 g4_0 s0_0 s) 4
def Hs_barbicanlaw20_OptThreads_L0_L1v4 (a0 : Option Addr) (p0 : Nat) (q0 : Nat) (n0 : Nat) (k0 : Nat) (A0 : Nat → Insn) (r1 : (Int) × (Int)) (g2_0 : Nat → Insn) (r3 : (Int) × (Int)) (g4_0 : Nat → Bool) (s0_0 : Int) : Sh_barbicanlaw20_OptThreads_L0_L1v4 → List L1 → List Obj
  | .c0 sb0_0 sb0_1, ls => [rowO (lget ls 0) (esG c_Insn n0 g2_0) 40 n0 5, rowO (lget ls 1) (esG cB ((n0 : Int)).toNat g4_0) 4 ((n0 : Int)).toNat 1, unb, .cells #[.int .u8 (nn ((A0 (s0_0).toNat)).fOp), .int .u8 (nn ((A0 (s0_0).toNat)).fDst), .int .u8 (nn ((A0 (s0_0).toNat)).fSrc), .int .i16 (ii ((g2_0 (s0_0).toNat)).fOff), .int .i32 (ii ((A0 (s0_0).toNat)).fImm)] 40, unb]
def vl_barbicanlaw20_OptThreads_L0_L1v4 (a0 : Option Addr) (p0 : Nat) (q0 : Nat) (n0 : Nat) (k0 : Nat) (A0 : Nat → Insn) (r1 : (Int) × (Int)) (g2_0 : Nat → Insn) (r3 : (Int) × (Int)) (g4_0 : Nat → Bool) (s0_0 : Int) : Ex_barbicanlaw20_OptThreads_L0_L1v4 → List L1 → List Value
  | .e0 c0_0 c0_1 c0_2 c0_3 c0_4 c0_5 c0_6 c0_7 c0_8 c0_9 c0_10, ls => [.slice a0 n0 (n0 + k0), .bool false, (rowV (lget ls 0) n0 5), (rowV (lget ls 1) ((n0 : Int)).toNat 1), .int .i64 (s0_0), .pointer (some ⟨(lget ls 3).n, 0, none⟩), .int .i64 (c0_5), .int .i64 (c0_6), .int .i64 (s0_0), .slice a0 n0 (n0 + k0), .int .i64 ((n0 : Int)), .bool true, ((lget ls 2).u 61), ((lget ls 2).u 62), .slice a0 n0 (n0 + k0), .int .i64 (s0_0), .pointer (some ⟨p0, q0 + (s0_0).toNat * 5, none⟩), .agg #[.int .u8 (nn ((A0 (s0_0).toNat)).fOp), .int .u8 (nn ((A0 (s0_0).toNat)).fDst), .int .u8 (nn ((A0 (s0_0).toNat)).fSrc), .int .i16 (ii ((A0 (s0_0).toNat)).fOff), .int .i32 (ii ((A0 (s0_0).toNat)).fImm)], (rowV (lget ls 0) n0 5), .int .i64 (s0_0), .pointer (some ⟨(lget ls 0).n, 0 + (s0_0).toNat * 5, none⟩), .pointer (some ⟨(lget ls 0).n, 0 + (s0_0).toNat * 5 + 3, none⟩), .int .i16 (ii ((g2_0 (s0_0).toNat)).fOff), .pointer (some ⟨(lget ls 3).n, 3, none⟩), .agg #[.int .u8 (nn ((A0 (s0_0).toNat)).fOp), .int .u8 (nn ((A0 (s0_0).toNat)).fDst), .int .u8 (nn ((A0 (s0_0).toNat)).fSrc), .int .i16 (ii ((g2_0 (s0_0).toNat)).fOff), .int .i32 (ii ((A0 (s0_0).toNat)).fImm)], (rowV (lget ls 0) n0 5), .int .i64 (s0_0), .pointer (some ⟨(lget ls 0).n, 0 + (s0_0).toNat * 5, none⟩), .agg #[.int .u8 (nn ((g2_0 (s0_0).toNat)).fOp), .int .u8 (nn ((g2_0 (s0_0).toNat)).fDst), .int .u8 (nn ((g2_0 (s0_0).toNat)).fSrc), .int .i16 (ii ((g2_0 (s0_0).toNat)).fOff), .int .i32 (ii ((g2_0 (s0_0).toNat)).fImm)], .bool false, .bool false, (rowV (lget ls 1) ((n0 : Int)).toNat 1), .int .i64 (s0_0), .pointer (some ⟨(lget ls 1).n, 0 + (s0_0).toNat * 1, none⟩), .bool false, .bool false, .bool false, .bool false, (rowV (lget ls 1) ((n0 : Int)).toNat 1), .int .i64 (s0_0), .pointer (some ⟨(lget ls 1).n, 0 + (s0_0).toNat * 1, none⟩), .bool false, .bool false, .agg #[.int .u8 (nn ((A0 (s0_0).toNat)).fOp), .int .u8 (nn ((A0 (s0_0).toNat)).fDst), .int .u8 (nn ((A0 (s0_0).toNat)).fSrc), .int .i16 (ii ((g2_0 (s0_0).toNat)).fOff), .int .i32 (ii ((A0 (s0_0).toNat)).fImm)], .bool true, .bool false, .bool false, .bool false, .bool false, ((lget ls 2).u 110), ((lget ls 2).u 111), ((lget ls 2).u 112), ((lget ls 2).u 113), ((lget ls 2).u 114), ((lget ls 2).u 115), ((lget ls 2).u 116), ((lget ls 2).u 117), ((lget ls 2).u 118), ((lget ls 2).u 119), ((lget ls 2).u 120), .int .i64 (s0_0), .int .i64 ((IntKind.i64.wrap (s0_0 + 1))), .slice a0 n0 (n0 + k0), .int .i64 (s0_0), .pointer (some ⟨p0, q0 + (s0_0).toNat * 5, none⟩), .pointer (some ⟨p0, q0 + (s0_0).toNat * 5 + 3, none⟩), .int .i16 (ii ((A0 (s0_0).toNat)).fOff), .int .i64 ((ii ((A0 (s0_0).toNat)).fOff)), .int .i64 ((IntKind.i64.wrap ((IntKind.i64.wrap (s0_0 + 1)) + (ii ((A0 (s0_0).toNat)).fOff)))), .int .i64 (c0_7), .slice a0 n0 (n0 + k0), .int .i64 (c0_8), .bool (c0_9), .bool (c0_10), .bool false, ((lget ls 2).u 152), ((lget ls 2).u 153), ((lget ls 2).u 154), ((lget ls 2).u 155), ((lget ls 2).u 156), ((lget ls 2).u 157), ((lget ls 2).u 158), ((lget ls 2).u 159), ((lget ls 2).u 160), ((lget ls 2).u 161), ((lget ls 2).u 162), ((lget ls 2).u 163), ((lget ls 2).u 164), ((lget ls 2).u 165), ((lget ls 2).u 166), ((lget ls 2).u 167), ((lget ls 2).u 168), ((lget ls 2).u 169), ((lget ls 2).u 170)]
def mk_barbicanlaw20_OptThreads_L0_L1v4 : Ex_barbicanlaw20_OptThreads_L0_L1v4 → List (Nat × Nat)
  | .e0 _ _ _ _ _ _ _ _ _ _ _ => [(1, 1), (1, 2), (1, 1), (5, 45), (28, 9), (11, 3), (27, 5), (1, 11), (19, 0)]
noncomputable def vf_barbicanlaw20_OptThreads_L0_L1v4 (a0 : Option Addr) (p0 : Nat) (q0 : Nat) (n0 : Nat) (k0 : Nat) (A0 : Nat → Insn) (r1 : (Int) × (Int)) (g2_0 : Nat → Insn) (r3 : (Int) × (Int)) (g4_0 : Nat → Bool) (s0_0 : Int) (r : Ex_barbicanlaw20_OptThreads_L0_L1v4) : List L1 → List Value := mrgF (mk_barbicanlaw20_OptThreads_L0_L1v4 r) (vl_barbicanlaw20_OptThreads_L0_L1v4 a0 p0 q0 n0 k0 A0 r1 g2_0 r3 g4_0 s0_0 r) 4
def Hf_barbicanlaw20_OptThreads_L0_L1v4 (a0 : Option Addr) (p0 : Nat) (q0 : Nat) (n0 : Nat) (k0 : Nat) (A0 : Nat → Insn) (r1 : (Int) × (Int)) (g2_0 : Nat → Insn) (r3 : (Int) × (Int)) (g4_0 : Nat → Bool) (s0_0 : Int) : Ex_barbicanlaw20_OptThreads_L0_L1v4 → List L1 → List Obj
  | .e0 c0_0 c0_1 c0_2 c0_3 c0_4 c0_5 c0_6 c0_7 c0_8 c0_9 c0_10, ls => [rowO (lget ls 0) (esG c_Insn n0 g2_0) 40 n0 5, rowO (lget ls 1) (esG cB ((n0 : Int)).toNat g4_0) 4 ((n0 : Int)).toNat 1, unb, .cells #[.int .u8 (nn c0_0), .int .u8 (nn c0_1), .int .u8 (nn c0_2), .int .i16 (ii c0_3), .int .i32 (ii c0_4)] 40, unb]
def ex_barbicanlaw20_OptThreads_L0_L1v4 : Ex_barbicanlaw20_OptThreads_L0_L1v4 → Ex
  | .e0 _ _ _ _ _ _ _ _ _ _ _ => (.exit 2)
end
section
variable {M : Nat → Prop} {B0 : Nat} {S : World → Prop} (hU : Up M B0 S) (a0 : Option Addr) (p0 : Nat) (q0 : Nat) (n0 : Nat) (k0 : Nat) (A0 : Nat → Insn) (hR0 : Ro S c_Insn 5 a0 p0 q0 n0 A0) (r1 : (Int) × (Int)) (g2_0 : Nat → Insn) (r3 : (Int) × (Int)) (g4_0 : Nat → Bool) (s0_0 : Int)
include hU a0 p0 q0 n0 k0 A0 hR0 r1 g2_0 r3 g4_0 s0_0
theorem go_barbicanlaw20_OptThreads_L0_L1v4 (s : Sh_barbicanlaw20_OptThreads_L0_L1v4) (r : Ex_barbicanlaw20_OptThreads_L0_L1v4) (h : lpO (st_barbicanlaw20_OptThreads_L0_L1v4 n0 A0 g2_0 s0_0) s = some r) : GoesG Try.prog M B0 S (.loop bd_barbicanlaw20_OptThreads_L0_L1v4) 5 (fr_barbicanlaw20_OptThreads_L0_L1v4 a0 p0 q0 n0 k0 A0 r1 g2_0 r3 g4_0 s0_0 s) (Hs_barbicanlaw20_OptThreads_L0_L1v4 a0 p0 q0 n0 k0 A0 r1 g2_0 r3 g4_0 s0_0 s) (ex_barbicanlaw20_OptThreads_L0_L1v4 r) 4 (vf_barbicanlaw20_OptThreads_L0_L1v4 a0 p0 q0 n0 k0 A0 r1 g2_0 r3 g4_0 s0_0 r) (Hf_barbicanlaw20_OptThreads_L0_L1v4 a0 p0 q0 n0 k0 A0 r1 g2_0 r3 g4_0 s0_0 r) 5 :=
  goes_lpO (fun s q e => by
    cases s with
    | c0 sb0_0 sb0_1 =>
      unfold st_barbicanlaw20_OptThreads_L0_L1v4 at e
      dsimp only at e
      replace e := cond_eq_or e
      rcases e with ⟨hq0, e⟩ | ⟨hq0, e⟩
      · replace e := cond_eq_or e
        rcases e with ⟨hq1, e⟩ | ⟨hq1, e⟩
        · replace e := cond_eq_or e
          let P1 : List (PG Try.prog M B0 S) := [.o, .o, .o, .b (z_lssT hq0), .o, .o, .o, .q (ixRo_ok (kd := .i64) (T := 22) (x := sb0_0) (sz := 5) rfl (fun w => by kernel_rfl) hR0 hq1), .l (accRo hR0 c_Insn_len (inR_nat hq1) 0 [.int .u8 (nn ((A0 (sb0_0).toNat)).fOp), .int .u8 (nn ((A0 (sb0_0).toNat)).fDst), .int .u8 (nn ((A0 (sb0_0).toNat)).fSrc), .int .i16 (ii ((A0 (sb0_0).toNat)).fOff), .int .i32 (ii ((A0 (sb0_0).toNat)).fImm)] rfl)]
          rcases e with ⟨hq2, e⟩ | ⟨hq2, e⟩
          · cases e; exact goes_runM hU (P1 ++ [.cg (ok_barbicanref1_Is hU ((A0 (sb0_0).toNat)) 0 true hq2), .o, .o, .o, .o, .o, .q (ixRo_ok (kd := .i64) (T := 22) (x := sb0_0) (sz := 5) rfl (fun w => by kernel_rfl) hR0 hq1), .o, .l (accRo hR0 c_Insn_len (inR_nat hq1) 3 [.int .i16 (ii ((A0 (sb0_0).toNat)).fOff)] rfl), .v .i64 (z_of_ii (by decide) ((A0 (sb0_0).toNat)).fOff), .o, .o, .o, .o, .o]) [0, 1, 2, 3] (fun b => rfl) (by decide) rfl rfl (fun b => by kernel_rfl)
          · cases e; exact ⟨ne_exit 2, goes_runM hU (P1 ++ [.cg (ok_barbicanref1_Is hU ((A0 (sb0_0).toNat)) 0 false hq2), .o]) [0, 1, 2, 3] (fun b => rfl) (by decide) rfl rfl (fun b => by kernel_rfl)⟩
        · exact none_some e
      · cases e; exact ⟨ne_exit 2, goes_runM hU [.o, .o, .o, .b (z_lssF hq0), .o, .o] [0, 1, 2, 3] (fun b => rfl) (by decide) rfl rfl (fun b => by kernel_rfl)⟩) s r h
noncomputable def t0_barbicanlaw20_OptThreads_L0_L1v4_0 (a0 : Option Addr) (p0 : Nat) (q0 : Nat) (n0 : Nat) (k0 : Nat) (A0 : Nat → Insn) (r1 : (Int) × (Int)) (g2_0 : Nat → Insn) (r3 : (Int) × (Int)) (g4_0 : Nat → Bool) (s0_0 : Int) (sb0_0 : Int) (sb0_1 : Int) (ls : List L1) : List Value := List.append [.slice a0 n0 (n0 + k0), ((lget ls 2).u 1), .bool false, ((lget ls 2).u 3), ((lget ls 2).u 4), (rowV (lget ls 0) n0 5), ((lget ls 2).u 6), (rowV (lget ls 1) ((n0 : Int)).toNat 1), .int .i64 (s0_0), .pointer (some ⟨(lget ls 3).n, 0, none⟩), .int .i64 (sb0_0), .int .i64 (sb0_1)] (List.append (jks (lget ls 2).u 12 45) (List.append [.int .i64 (s0_0), .slice a0 n0 (n0 + k0), .int .i64 ((n0 : Int)), .bool true, ((lget ls 2).u 61), ((lget ls 2).u 62), .slice a0 n0 (n0 + k0), .int .i64 (s0_0), .pointer (some ⟨p0, q0 + (s0_0).toNat * 5, none⟩), .agg #[.int .u8 (nn ((A0 (s0_0).toNat)).fOp), .int .u8 (nn ((A0 (s0_0).toNat)).fDst), .int .u8 (nn ((A0 (s0_0).toNat)).fSrc), .int .i16 (ii ((A0 (s0_0).toNat)).fOff), .int .i32 (ii ((A0 (s0_0).toNat)).fImm)], (rowV (lget ls 0) n0 5), .int .i64 (s0_0), .pointer (some ⟨(lget ls 0).n, 0 + (s0_0).toNat * 5, none⟩), .pointer (some ⟨(lget ls 0).n, 0 + (s0_0).toNat * 5 + 3, none⟩), .int .i16 (ii ((g2_0 (s0_0).toNat)).fOff), .pointer (some ⟨(lget ls 3).n, 3, none⟩), .agg #[.int .u8 (nn ((A0 (s0_0).toNat)).fOp), .int .u8 (nn ((A0 (s0_0).toNat)).fDst), .int .u8 (nn ((A0 (s0_0).toNat)).fSrc), .int .i16 (ii ((g2_0 (s0_0).toNat)).fOff), .int .i32 (ii ((A0 (s0_0).toNat)).fImm)], (rowV (lget ls 0) n0 5), .int .i64 (s0_0), .pointer (some ⟨(lget ls 0).n, 0 + (s0_0).toNat * 5, none⟩), .agg #[.int .u8 (nn ((g2_0 (s0_0).toNat)).fOp), .int .u8 (nn ((g2_0 (s0_0).toNat)).fDst), .int .u8 (nn ((g2_0 (s0_0).toNat)).fSrc), .int .i16 (ii ((g2_0 (s0_0).toNat)).fOff), .int .i32 (ii ((g2_0 (s0_0).toNat)).fImm)], .bool false, .bool false, (rowV (lget ls 1) ((n0 : Int)).toNat 1), .int .i64 (s0_0), .pointer (some ⟨(lget ls 1).n, 0 + (s0_0).toNat * 1, none⟩), .bool false, .bool false] (List.append (und 9) (List.append [.bool false, .bool false, (rowV (lget ls 1) ((n0 : Int)).toNat 1), .int .i64 (s0_0), .pointer (some ⟨(lget ls 1).n, 0 + (s0_0).toNat * 1, none⟩), .bool false, .bool false, .agg #[.int .u8 (nn ((A0 (s0_0).toNat)).fOp), .int .u8 (nn ((A0 (s0_0).toNat)).fDst), .int .u8 (nn ((A0 (s0_0).toNat)).fSrc), .int .i16 (ii ((g2_0 (s0_0).toNat)).fOff), .int .i32 (ii ((A0 (s0_0).toNat)).fImm)], .bool true, .bool false, .bool false, undef, undef, undef, .bool false, .bool false] (List.append (jks (lget ls 2).u 110 11) (List.append [.int .i64 (s0_0), .int .i64 ((IntKind.i64.wrap (s0_0 + 1))), .slice a0 n0 (n0 + k0), .int .i64 (s0_0), .pointer (some ⟨p0, q0 + (s0_0).toNat * 5, none⟩), .pointer (some ⟨p0, q0 + (s0_0).toNat * 5 + 3, none⟩), .int .i16 (ii ((A0 (s0_0).toNat)).fOff), .int .i64 ((ii ((A0 (s0_0).toNat)).fOff)), .int .i64 ((IntKind.i64.wrap ((IntKind.i64.wrap (s0_0 + 1)) + (ii ((A0 (s0_0).toNat)).fOff))))] (jks (lget ls 2).u 130 41)))))))
def pre_barbicanlaw20_OptThreads_L0_L1v4_0 (a0 : Option Addr) (p0 : Nat) (q0 : Nat) (n0 : Nat) (k0 : Nat) (A0 : Nat → Insn) (r1 : (Int) × (Int)) (g2_0 : Nat → Insn) (r3 : (Int) × (Int)) (g4_0 : Nat → Bool) (s0_0 : Int) (sb0_0 : Int) (sb0_1 : Int) (ls : List L1) : List Obj := [rowO (lget ls 0) (esG c_Insn n0 g2_0) 40 n0 5, rowO (lget ls 1) (esG cB ((n0 : Int)).toNat g4_0) 4 ((n0 : Int)).toNat 1, unb, .cells #[.int .u8 (nn ((A0 (s0_0).toNat)).fOp), .int .u8 (nn ((A0 (s0_0).toNat)).fDst), .int .u8 (nn ((A0 (s0_0).toNat)).fSrc), .int .i16 (ii ((g2_0 (s0_0).toNat)).fOff), .int .i32 (ii ((A0 (s0_0).toNat)).fImm)] 40]
theorem sp0_barbicanlaw20_OptThreads_L0_L1v4_0_ok (sb0_0 : Int) (sb0_1 : Int) (c0_0 : BitVec 8) (c0_1 : BitVec 8) (c0_2 : BitVec 8) (c0_3 : BitVec 16) (c0_4 : BitVec 32) (c0_5 : Int) (c0_6 : Int) (c0_7 : Int) (c0_8 : Int) (c0_9 : Bool) (c0_10 : Bool) (h : lpO (st_barbicanlaw20_OptThreads_L0_L1v4 n0 A0 g2_0 s0_0) (.c0 sb0_0 sb0_1) = some (.e0 c0_0 c0_1 c0_2 c0_3 c0_4 c0_5 c0_6 c0_7 c0_8 c0_9 c0_10)) : SpcG Try.prog M B0 S ⟨fun ls => .code (.loop bd_barbicanlaw20_OptThreads_L0_L1v4) (t0_barbicanlaw20_OptThreads_L0_L1v4_0 a0 p0 q0 n0 k0 A0 r1 g2_0 r3 g4_0 s0_0 sb0_0 sb0_1 ls), pre_barbicanlaw20_OptThreads_L0_L1v4_0 a0 p0 q0 n0 k0 A0 r1 g2_0 r3 g4_0 s0_0 sb0_0 sb0_1, 1, (.exit 2), fun ls => vf_barbicanlaw20_OptThreads_L0_L1v4 a0 p0 q0 n0 k0 A0 r1 g2_0 r3 g4_0 s0_0 (.e0 c0_0 c0_1 c0_2 c0_3 c0_4 c0_5 c0_6 c0_7 c0_8 c0_9 c0_10) (ls.take 4 ++ ls.drop 4), fun ls => (Hf_barbicanlaw20_OptThreads_L0_L1v4 a0 p0 q0 n0 k0 A0 r1 g2_0 r3 g4_0 s0_0 (.e0 c0_0 c0_1 c0_2 c0_3 c0_4 c0_5 c0_6 c0_7 c0_8 c0_9 c0_10) (ls.take 4 ++ ls.drop 4)).take 4 ++ List.replicate 0 unb, fun ls => (Hf_barbicanlaw20_OptThreads_L0_L1v4 a0 p0 q0 n0 k0 A0 r1 g2_0 r3 g4_0 s0_0 (.e0 c0_0 c0_1 c0_2 c0_3 c0_4 c0_5 c0_6 c0_7 c0_8 c0_9 c0_10) (ls.take 4 ++ ls.drop 4)).drop 4⟩ :=
  spc_of_goesM hU 0 (k0 := 4) (go_barbicanlaw20_OptThreads_L0_L1v4 hU a0 p0 q0 n0 k0 A0 hR0 r1 g2_0 r3 g4_0 s0_0 _ _ h) (t0_barbicanlaw20_OptThreads_L0_L1v4_0 a0 p0 q0 n0 k0 A0 r1 g2_0 r3 g4_0 s0_0 sb0_0 sb0_1) (pre_barbicanlaw20_OptThreads_L0_L1v4_0 a0 p0 q0 n0 k0 A0 r1 g2_0 r3 g4_0 s0_0 sb0_0 sb0_1) (fun _ => rfl) (fun ls h => by match ls, h with | [l0, l1, l2, l3], _ => exact ⟨by kernel_rfl, by kernel_rfl⟩) (fun ls h => by match ls, h with | [l0, l1, l2, l3], _ => rfl) (by decide) (by decide) (fun ls => rfl)
inductive Sh_barbicanlaw20_OptThreads_L0_L1v5 where
  | c0 (sb0_0 : Int) (sb0_1 : Int)
inductive Ex_barbicanlaw20_OptThreads_L0_L1v5 where
  | e0 (c0_0 : BitVec 8) (c0_1 : BitVec 8) (c0_2 : BitVec 8) (c0_3 : BitVec 16) (c0_4 : BitVec 32) (c0_5 : Int) (c0_6 : Int) (c0_7 : Int) (c0_8 : Int) (c0_9 : Bool) (c0_10 : Bool)
noncomputable def st_barbicanlaw20_OptThreads_L0_L1v5 (n0 : Nat) (A0 : Nat → Insn) (g2_0 : Nat → Insn) (s0_0 : Int) : Sh_barbicanlaw20_OptThreads_L0_L1v5 → Option (Sh_barbicanlaw20_OptThreads_L0_L1v5 ⊕ Ex_barbicanlaw20_OptThreads_L0_L1v5)
  | .c0 sb0_0 sb0_1 =>
    bif decide (sb0_1 < (n0 : Int)) then
      (bif inR sb0_0 n0 then
        (bif m_barbicanref1_Is ((A0 (sb0_0).toNat)) 0 then
          (some (.inl (.c0 (IntKind.i64.wrap ((IntKind.i64.wrap (sb0_0 + 1)) + (ii ((A0 (sb0_0).toNat)).fOff))) (IntKind.i64.wrap (sb0_1 + 1)))))
        else (some (.inr (.e0 ((A0 (s0_0).toNat)).fOp ((A0 (s0_0).toNat)).fDst ((A0 (s0_0).toNat)).fSrc ((g2_0 (s0_0).toNat)).fOff ((A0 (s0_0).toNat)).fImm sb0_0 sb0_1 sb0_1 (n0 : Int) true true))))
      else (none))
    else (some (.inr (.e0 ((A0 (s0_0).toNat)).fOp ((A0 (s0_0).toNat)).fDst ((A0 (s0_0).toNat)).fSrc ((g2_0 (s0_0).toNat)).fOff ((A0 (s0_0).toNat)).fImm sb0_0 sb0_1 sb0_1 (n0 : Int) false false)))
noncomputable def bd_barbicanlaw20_OptThreads_L0_L1v5 : Code := codeOf Try.f5 [1, 1, 1, 1, 1, 1, 1, 1, 1, 0, 1, 0, 0, 1, 0, 0, 1, 1, 1, 1, 1, 0, 1, 0, 0]
def fl_barbicanlaw20_OptThreads_L0_L1v5 (a0 : Option Addr) (p0 : Nat) (q0 : Nat) (n0 : Nat) (k0 : Nat) (A0 : Nat → Insn) (r1 : (Int) × (Int)) (g2_0 : Nat → Insn) (r3 : (Int) × (Int)) (g4_0 : Nat → Bool) (s0_0 : Int) : Sh_barbicanlaw20_OptThreads_L0_L1v5 → List L1 → List Value
  | .c0 sb0_0 sb0_1, ls => [.slice a0 n0 (n0 + k0), .bool false, (rowV (lget ls 0) n0 5), (rowV (lget ls 1) ((n0 : Int)).toNat 1), .int .i64 (s0_0), .pointer (some ⟨(lget ls 3).n, 0, none⟩), .int .i64 (sb0_0), .int .i64 (sb0_1), .int .i64 (s0_0), .slice a0 n0 (n0 + k0), .int .i64 ((n0 : Int)), .bool true, ((lget ls 2).u 61), ((lget ls 2).u 62), .slice a0 n0 (n0 + k0), .int .i64 (s0_0), .pointer (some ⟨p0, q0 + (s0_0).toNat * 5, none⟩), .agg #[.int .u8 (nn ((A0 (s0_0).toNat)).fOp), .int .u8 (nn ((A0 (s0_0).toNat)).fDst), .int .u8 (nn ((A0 (s0_0).toNat)).fSrc), .int .i16 (ii ((A0 (s0_0).toNat)).fOff), .int .i32 (ii ((A0 (s0_0).toNat)).fImm)], (rowV (lget ls 0) n0 5), .int .i64 (s0_0), .pointer (some ⟨(lget ls 0).n, 0 + (s0_0).toNat * 5, none⟩), .pointer (some ⟨(lget ls 0).n, 0 + (s0_0).toNat * 5 + 3, none⟩), .int .i16 (ii ((g2_0 (s0_0).toNat)).fOff), .pointer (some ⟨(lget ls 3).n, 3, none⟩), .agg #[.int .u8 (nn ((A0 (s0_0).toNat)).fOp), .int .u8 (nn ((A0 (s0_0).toNat)).fDst), .int .u8 (nn ((A0 (s0_0).toNat)).fSrc), .int .i16 (ii ((g2_0 (s0_0).toNat)).fOff), .int .i32 (ii ((A0 (s0_0).toNat)).fImm)], (rowV (lget ls 0) n0 5), .int .i64 (s0_0), .pointer (some ⟨(lget ls 0).n, 0 + (s0_0).toNat * 5, none⟩), .agg #[.int .u8 (nn ((g2_0 (s0_0).toNat)).fOp), .int .u8 (nn ((g2_0 (s0_0).toNat)).fDst), .int .u8 (nn ((g2_0 (s0_0).toNat)).fSrc), .int .i16 (ii ((g2_0 (s0_0).toNat)).fOff), .int .i32 (ii ((g2_0 (s0_0).toNat)).fImm)], .bool false, .bool false, (rowV (lget ls 1) ((n0 : Int)).toNat 1), .int .i64 (s0_0), .pointer (some ⟨(lget ls 1).n, 0 + (s0_0).toNat * 1, none⟩), .bool false, .bool false, .bool false, .bool false, (rowV (lget ls 1) ((n0 : Int)).toNat 1), .int .i64 (s0_0), .pointer (some ⟨(lget ls 1).n, 0 + (s0_0).toNat * 1, none⟩), .bool false, .bool false, .agg #[.int .u8 (nn ((A0 (s0_0).toNat)).fOp), .int .u8 (nn ((A0 (s0_0).toNat)).fDst), .int .u8 (nn ((A0 (s0_0).toNat)).fSrc), .int .i16 (ii ((g2_0 (s0_0).toNat)).fOff), .int .i32 (ii ((A0 (s0_0).toNat)).fImm)], .bool false, .bool true, .bool true, .agg #[.int .u8 (nn ((A0 (s0_0).toNat)).fOp), .int .u8 (nn ((A0 (s0_0).toNat)).fDst), .int .u8 (nn ((A0 (s0_0).toNat)).fSrc), .int .i16 (ii ((g2_0 (s0_0).toNat)).fOff), .int .i32 (ii ((A0 (s0_0).toNat)).fImm)], .bool true, .bool false, .bool false, .bool false, ((lget ls 2).u 110), ((lget ls 2).u 111), ((lget ls 2).u 112), ((lget ls 2).u 113), ((lget ls 2).u 114), ((lget ls 2).u 115), ((lget ls 2).u 116), ((lget ls 2).u 117), ((lget ls 2).u 118), ((lget ls 2).u 119), ((lget ls 2).u 120), .int .i64 (s0_0), .int .i64 ((IntKind.i64.wrap (s0_0 + 1))), .slice a0 n0 (n0 + k0), .int .i64 (s0_0), .pointer (some ⟨p0, q0 + (s0_0).toNat * 5, none⟩), .pointer (some ⟨p0, q0 + (s0_0).toNat * 5 + 3, none⟩), .int .i16 (ii ((A0 (s0_0).toNat)).fOff), .int .i64 ((ii ((A0 (s0_0).toNat)).fOff)), .int .i64 ((IntKind.i64.wrap ((IntKind.i64.wrap (s0_0 + 1)) + (ii ((A0 (s0_0).toNat)).fOff)))), ((lget ls 2).u 152), ((lget ls 2).u 153), ((lget ls 2).u 154), ((lget ls 2).u 155), ((lget ls 2).u 156), ((lget ls 2).u 157), ((lget ls 2).u 158), ((lget ls 2).u 159), ((lget ls 2).u 160), ((lget ls 2).u 161), ((lget ls 2).u 162), ((lget ls 2).u 163), ((lget ls 2).u 164), ((lget ls 2).u 165), ((lget ls 2).u 166), ((lget ls 2).u 167), ((lget ls 2).u 168), ((lget ls 2).u 169), ((lget ls 2).u 170)]
def mf_barbicanlaw20_OptThreads_L0_L1v5 : Sh_barbicanlaw20_OptThreads_L0_L1v5 → List (Nat × Nat)
  | .c0 _ _ => [(1, 1), (1, 2), (1, 1), (5, 45), (28, 9), (36, 22), (19, 0)]
noncomputable def fr_barbicanlaw20_OptThreads_L0_L1v5 (a0 : Option Addr) (p0 : Nat) (q0 : Nat) (n0 : Nat) (k0 : Nat) (A0 : Nat → Insn) (r1 : (Int) × (Int)) (g2_0 : Nat → Insn) (r3 : (Int) × (Int)) (g4_0 : Nat → Bool) (s0_0 : Int) (s : Sh_barbicanlaw20_OptThreads_L0_L1v5) : List L1 → List Value := mrgF (mf_barbicanlaw20_OptThreads_L0_L1v5 s) (fl_barbicanlaw20_OptThreads_L0_L1v5 a0 p0 q0 n0 k0 A0 r1 g2_0 r3 g4_0 s0_0 s) 4
def Hs_barbicanlaw20_OptThreads_L0_L1v5 (a0 : Option Addr) (p0 : Nat) (q0 : Nat) (n0 : Nat) (k0 : Nat) (A0 : Nat → Insn) (r1 : (Int) × (Int)) (g2_0 : Nat → Insn) (r3 : (Int) × (Int)) (g4_0 : Nat → Bool) (s0_0 : Int) : Sh_barbicanlaw20_OptThreads_L0_L1v5 → List L1 → List Obj
  | .c0 sb0_0 sb0_1, ls => [rowO (lget ls 0) (esG c_Insn n0 g2_0) 40 n0 5, rowO (lget ls 1) (esG cB ((n0 : Int)).toNat g4_0) 4 ((n0 : Int)).toNat 1, unb, .cells #[.int .u8 (nn ((A0 (s0_0).toNat)).fOp), .int .u8 (nn ((A0 (s0_0).toNat)).fDst), .int .u8 (nn ((A0 (s0_0).toNat)).fSrc), .int .i16 (ii ((g2_0 (s0_0).toNat)).fOff), .int .i32 (ii ((A0 (s0_0).toNat)).fImm)] 40, unb]
def vl_barbicanlaw20_OptThreads_L0_L1v5 (a0 : Option Addr) (p0 : Nat) (q0 : Nat) (n0 : Nat) (k0 : Nat) (A0 : Nat → Insn) (r1 : (Int) × (Int)) (g2_0 : Nat → Insn) (r3 : (Int) × (Int)) (g4_0 : Nat → Bool) (s0_0 : Int) : Ex_barbicanlaw20_OptThreads_L0_L1v5 → List L1 → List Value
  | .e0 c0_0 c0_1 c0_2 c0_3 c0_4 c0_5 c0_6 c0_7 c0_8 c0_9 c0_10, ls => [.slice a0 n0 (n0 + k0), .bool false, (rowV (lget ls 0) n0 5), (rowV (lget ls 1) ((n0 : Int)).toNat 1), .int .i64 (s0_0), .pointer (some ⟨(lget ls 3).n, 0, none⟩), .int .i64 (c0_5), .int .i64 (c0_6), .int .i64 (s0_0), .slice a0 n0 (n0 + k0), .int .i64 ((n0 : Int)), .bool true, ((lget ls 2).u 61), ((lget ls 2).u 62), .slice a0 n0 (n0 + k0), .int .i64 (s0_0), .pointer (some ⟨p0, q0 + (s0_0).toNat * 5, none⟩), .agg #[.int .u8 (nn ((A0 (s0_0).toNat)).fOp), .int .u8 (nn ((A0 (s0_0).toNat)).fDst), .int .u8 (nn ((A0 (s0_0).toNat)).fSrc), .int .i16 (ii ((A0 (s0_0).toNat)).fOff), .int .i32 (ii ((A0 (s0_0).toNat)).fImm)], (rowV (lget ls 0) n0 5), .int .i64 (s0_0), .pointer (some ⟨(lget ls 0).n, 0 + (s0_0).toNat * 5, none⟩), .pointer (some ⟨(lget ls 0).n, 0 + (s0_0).toNat * 5 + 3, none⟩), .int .i16 (ii ((g2_0 (s0_0).toNat)).fOff), .pointer (some ⟨(lget ls 3).n, 3, none⟩), .agg #[.int .u8 (nn ((A0 (s0_0).toNat)).fOp), .int .u8 (nn ((A0 (s0_0).toNat)).fDst), .int .u8 (nn ((A0 (s0_0).toNat)).fSrc), .int .i16 (ii ((g2_0 (s0_0).toNat)).fOff), .int .i32 (ii ((A0 (s0_0).toNat)).fImm)], (rowV (lget ls 0) n0 5), .int .i64 (s0_0), .pointer (some ⟨(lget ls 0).n, 0 + (s0_0).toNat * 5, none⟩), .agg #[.int .u8 (nn ((g2_0 (s0_0).toNat)).fOp), .int .u8 (nn ((g2_0 (s0_0).toNat)).fDst), .int .u8 (nn ((g2_0 (s0_0).toNat)).fSrc), .int .i16 (ii ((g2_0 (s0_0).toNat)).fOff), .int .i32 (ii ((g2_0 (s0_0).toNat)).fImm)], .bool false, .bool false, (rowV (lget ls 1) ((n0 : Int)).toNat 1), .int .i64 (s0_0), .pointer (some ⟨(lget ls 1).n, 0 + (s0_0).toNat * 1, none⟩), .bool false, .bool false, .bool false, .bool false, (rowV (lget ls 1) ((n0 : Int)).toNat 1), .int .i64 (s0_0), .pointer (some ⟨(lget ls 1).n, 0 + (s0_0).toNat * 1, none⟩), .bool false, .bool false, .agg #[.int .u8 (nn ((A0 (s0_0).toNat)).fOp), .int .u8 (nn ((A0 (s0_0).toNat)).fDst), .int .u8 (nn ((A0 (s0_0).toNat)).fSrc), .int .i16 (ii ((g2_0 (s0_0).toNat)).fOff), .int .i32 (ii ((A0 (s0_0).toNat)).fImm)], .bool false, .bool true, .bool true, .agg #[.int .u8 (nn ((A0 (s0_0).toNat)).fOp), .int .u8 (nn ((A0 (s0_0).toNat)).fDst), .int .u8 (nn ((A0 (s0_0).toNat)).fSrc), .int .i16 (ii ((g2_0 (s0_0).toNat)).fOff), .int .i32 (ii ((A0 (s0_0).toNat)).fImm)], .bool true, .bool false, .bool false, .bool false, ((lget ls 2).u 110), ((lget ls 2).u 111), ((lget ls 2).u 112), ((lget ls 2).u 113), ((lget ls 2).u 114), ((lget ls 2).u 115), ((lget ls 2).u 116), ((lget ls 2).u 117), ((lget ls 2).u 118), ((lget ls 2).u 119), ((lget ls 2).u 120), .int .i64 (s0_0), .int .i64 ((IntKind.i64.wrap (s0_0 + 1))), .slice a0 n0 (n0 + k0), .int .i64 (s0_0), .pointer (some ⟨p0, q0 + (s0_0).toNat * 5, none⟩), .pointer (some ⟨p0, q0 + (s0_0).toNat * 5 + 3, none⟩), .int .i16 (ii ((A0 (s0_0).toNat)).fOff), .int .i64 ((ii ((A0 (s0_0).toNat)).fOff)), .int .i64 ((IntKind.i64.wrap ((IntKind.i64.wrap (s0_0 + 1)) + (ii ((A0 (s0_0).toNat)).fOff)))), .int .i64 (c0_7), .slice a0 n0 (n0 + k0), .int .i64 (c0_8), .bool (c0_9), .bool (c0_10), .bool false, ((lget ls 2).u 152), ((lget ls 2).u 153), ((lget ls 2).u 154), ((lget ls 2).u 155), ((lget ls 2).u 156), ((lget ls 2).u 157), ((lget ls 2).u 158), ((lget ls 2).u 159), ((lget ls 2).u 160), ((lget ls 2).u 161), ((lget ls 2).u 162), ((lget ls 2).u 163), ((lget ls 2).u 164), ((lget ls 2).u 165), ((lget ls 2).u 166), ((lget ls 2).u 167), ((lget ls 2).u 168), ((lget ls 2).u 169), ((lget ls 2).u 170)]
def mk_barbicanlaw20_OptThreads_L0_L1v5 : Ex_barbicanlaw20_OptThreads_L0_L1v5 → List (Nat × Nat)
  | .e0 _ _ _ _ _ _ _ _ _ _ _ => [(1, 1), (1, 2), (1, 1), (5, 45), (28, 9), (41, 5), (1, 11), (19, 0)]
noncomputable def vf_barbicanlaw20_OptThreads_L0_L1v5 (a0 : Option Addr) (p0 : Nat) (q0 : Nat) (n0 : Nat) (k0 : Nat) (A0 : Nat → Insn) (r1 : (Int) × (Int)) (g2_0 : Nat → Insn) (r3 : (Int) × (Int)) (g4_0 : Nat → Bool) (s0_0 : Int) (r : Ex_barbicanlaw20_OptThreads_L0_L1v5) : List L1 → List Value := mrgF (mk_barbicanlaw20_OptThreads_L0_L1v5 r) (vl_barbicanlaw20_OptThreads_L0_L1v5 a0 p0 q0 n0 k0 A0 r1 g2_0 r3 g4_0 s0_0 r) 4
def Hf_barbicanlaw20_OptThreads_L0_L1v5 (a0 : Option Addr) (p0 : Nat) (q0 : Nat) (n0 : Nat) (k0 : Nat) (A0 : Nat → Insn) (r1 : (Int) × (Int)) (g2_0 : Nat → Insn) (r3 : (Int) × (Int)) (g4_0 : Nat → Bool) (s0_0 : Int) : Ex_barbicanlaw20_OptThreads_L0_L1v5 → List L1 → List Obj
  | .e0 c0_0 c0_1 c0_2 c0_3 c0_4 c0_5 c0_6 c0_7 c0_8 c0_9 c0_10, ls => [rowO (lget ls 0) (esG c_Insn n0 g2_0) 40 n0 5, rowO (lget ls 1) (esG cB ((n0 : Int)).toNat g4_0) 4 ((n0 : Int)).toNat 1, unb, .cells #[.int .u8 (nn c0_0), .int .u8 (nn c0_1), .int .u8 (nn c0_2), .int .i16 (ii c0_3), .int .i32 (ii c0_4)] 40, unb]
def ex_barbicanlaw20_OptThreads_L0_L1v5 : Ex_barbicanlaw20_OptThreads_L0_L1v5 → Ex
  | .e0 _ _ _ _ _ _ _ _ _ _ _ => (.exit 2)
theorem go_barbicanlaw20_OptThreads_L0_L1v5 (s : Sh_barbicanlaw20_OptThreads_L0_L1v5) (r : Ex_barbicanlaw20_OptThreads_L0_L1v5) (h : lpO (st_barbicanlaw20_OptThreads_L0_L1v5 n0 A0 g2_0 s0_0) s = some r) : GoesG Try.prog M B0 S (.loop bd_barbicanlaw20_OptThreads_L0_L1v5) 5 (fr_barbicanlaw20_OptThreads_L0_L1v5 a0 p0 q0 n0 k0 A0 r1 g2_0 r3 g4_0 s0_0 s) (Hs_barbicanlaw20_OptThreads_L0_L1v5 a0 p0 q0 n0 k0 A0 r1 g2_0 r3 g4_0 s0_0 s) (ex_barbicanlaw20_OptThreads_L0_L1v5 r) 4 (vf_barbicanlaw20_OptThreads_L0_L1v5 a0 p0 q0 n0 k0 A0 r1 g2_0 r3 g4_0 s0_0 r) (Hf_barbicanlaw20_OptThreads_L0_L1v5 a0 p0 q0 n0 k0 A0 r1 g2_0 r3 g4_0 s0_0 r) 5 :=
  goes_lpO (fun s q e => by
    cases s with
    | c0 sb0_0 sb0_1 =>
      unfold st_barbicanlaw20_OptThreads_L0_L1v5 at e
      dsimp only at e
      replace e := cond_eq_or e
      rcases e with ⟨hq0, e⟩ | ⟨hq0, e⟩
      · replace e := cond_eq_or e
        rcases e with ⟨hq1, e⟩ | ⟨hq1, e⟩
        · replace e := cond_eq_or e
          let P1 : List (PG Try.prog M B0 S) := [.o, .o, .o, .b (z_lssT hq0), .o, .o, .o, .q (ixRo_ok (kd := .i64) (T := 22) (x := sb0_0) (sz := 5) rfl (fun w => by kernel_rfl) hR0 hq1), .l (accRo hR0 c_Insn_len (inR_nat hq1) 0 [.int .u8 (nn ((A0 (sb0_0).toNat)).fOp), .int .u8 (nn ((A0 (sb0_0).toNat)).fDst), .int .u8 (nn ((A0 (sb0_0).toNat)).fSrc), .int .i16 (ii ((A0 (sb0_0).toNat)).fOff), .int .i32 (ii ((A0 (sb0_0).toNat)).fImm)] rfl)]
          rcases e with ⟨hq2, e⟩ | ⟨hq2, e⟩
          · cases e; exact goes_runM hU (P1 ++ [.cg (ok_barbicanref1_Is hU ((A0 (sb0_0).toNat)) 0 true hq2), .o, .o, .o, .o, .o, .q (ixRo_ok (kd := .i64) (T := 22) (x := sb0_0) (sz := 5) rfl (fun w => by kernel_rfl) hR0 hq1), .o, .l (accRo hR0 c_Insn_len (inR_nat hq1) 3 [.int .i16 (ii ((A0 (sb0_0).toNat)).fOff)] rfl), .v .i64 (z_of_ii (by decide) ((A0 (sb0_0).toNat)).fOff), .o, .o, .o, .o, .o]) [0, 1, 2, 3] (fun b => rfl) (by decide) rfl rfl (fun b => by kernel_rfl)
          · cases e; exact ⟨ne_exit 2, goes_runM hU (P1 ++ [.cg (ok_barbicanref1_Is hU ((A0 (sb0_0).toNat)) 0 false hq2), .o]) [0, 1, 2, 3] (fun b => rfl) (by decide) rfl rfl (fun b => by kernel_rfl)⟩
        · exact none_some e
      · cases e; exact ⟨ne_exit 2, goes_runM hU [.o, .o, .o, .b (z_lssF hq0), .o, .o] [0, 1, 2, 3] (fun b => rfl) (by decide) rfl rfl (fun b => by kernel_rfl)⟩) s r h
noncomputable def t0_barbicanlaw20_OptThreads_L0_L1v5_0 (a0 : Option Addr) (p0 : Nat) (q0 : Nat) (n0 : Nat) (k0 : Nat) (A0 : Nat → Insn) (r1 : (Int) × (Int)) (g2_0 : Nat → Insn) (r3 : (Int) × (Int)) (g4_0 : Nat → Bool) (s0_0 : Int) (sb0_0 : Int) (sb0_1 : Int) (ls : List L1) : List Value := List.append [.slice a0 n0 (n0 + k0), ((lget ls 2).u 1), .bool false, ((lget ls 2).u 3), ((lget ls 2).u 4), (rowV (lget ls 0) n0 5), ((lget ls 2).u 6), (rowV (lget ls 1) ((n0 : Int)).toNat 1), .int .i64 (s0_0), .pointer (some ⟨(lget ls 3).n, 0, none⟩), .int .i64 (sb0_0), .int .i64 (sb0_1)] (List.append (jks (lget ls 2).u 12 45) (List.append [.int .i64 (s0_0), .slice a0 n0 (n0 + k0), .int .i64 ((n0 : Int)), .bool true, ((lget ls 2).u 61), ((lget ls 2).u 62), .slice a0 n0 (n0 + k0), .int .i64 (s0_0), .pointer (some ⟨p0, q0 + (s0_0).toNat * 5, none⟩), .agg #[.int .u8 (nn ((A0 (s0_0).toNat)).fOp), .int .u8 (nn ((A0 (s0_0).toNat)).fDst), .int .u8 (nn ((A0 (s0_0).toNat)).fSrc), .int .i16 (ii ((A0 (s0_0).toNat)).fOff), .int .i32 (ii ((A0 (s0_0).toNat)).fImm)], (rowV (lget ls 0) n0 5), .int .i64 (s0_0), .pointer (some ⟨(lget ls 0).n, 0 + (s0_0).toNat * 5, none⟩), .pointer (some ⟨(lget ls 0).n, 0 + (s0_0).toNat * 5 + 3, none⟩), .int .i16 (ii ((g2_0 (s0_0).toNat)).fOff), .pointer (some ⟨(lget ls 3).n, 3, none⟩), .agg #[.int .u8 (nn ((A0 (s0_0).toNat)).fOp), .int .u8 (nn ((A0 (s0_0).toNat)).fDst), .int .u8 (nn ((A0 (s0_0).toNat)).fSrc), .int .i16 (ii ((g2_0 (s0_0).toNat)).fOff), .int .i32 (ii ((A0 (s0_0).toNat)).fImm)], (rowV (lget ls 0) n0 5), .int .i64 (s0_0), .pointer (some ⟨(lget ls 0).n, 0 + (s0_0).toNat * 5, none⟩), .agg #[.int .u8 (nn ((g2_0 (s0_0).toNat)).fOp), .int .u8 (nn ((g2_0 (s0_0).toNat)).fDst), .int .u8 (nn ((g2_0 (s0_0).toNat)).fSrc), .int .i16 (ii ((g2_0 (s0_0).toNat)).fOff), .int .i32 (ii ((g2_0 (s0_0).toNat)).fImm)], .bool false, .bool false, (rowV (lget ls 1) ((n0 : Int)).toNat 1), .int .i64 (s0_0), .pointer (some ⟨(lget ls 1).n, 0 + (s0_0).toNat * 1, none⟩), .bool false, .bool false] (List.append (und 9) (List.append [.bool false, .bool false, (rowV (lget ls 1) ((n0 : Int)).toNat 1), .int .i64 (s0_0), .pointer (some ⟨(lget ls 1).n, 0 + (s0_0).toNat * 1, none⟩), .bool false, .bool false, .agg #[.int .u8 (nn ((A0 (s0_0).toNat)).fOp), .int .u8 (nn ((A0 (s0_0).toNat)).fDst), .int .u8 (nn ((A0 (s0_0).toNat)).fSrc), .int .i16 (ii ((g2_0 (s0_0).toNat)).fOff), .int .i32 (ii ((A0 (s0_0).toNat)).fImm)], .bool false, .bool true, .bool true, .agg #[.int .u8 (nn ((A0 (s0_0).toNat)).fOp), .int .u8 (nn ((A0 (s0_0).toNat)).fDst), .int .u8 (nn ((A0 (s0_0).toNat)).fSrc), .int .i16 (ii ((g2_0 (s0_0).toNat)).fOff), .int .i32 (ii ((A0 (s0_0).toNat)).fImm)], .bool true, .bool false, .bool false, .bool false] (List.append (jks (lget ls 2).u 110 11) (List.append [.int .i64 (s0_0), .int .i64 ((IntKind.i64.wrap (s0_0 + 1))), .slice a0 n0 (n0 + k0), .int .i64 (s0_0), .pointer (some ⟨p0, q0 + (s0_0).toNat * 5, none⟩), .pointer (some ⟨p0, q0 + (s0_0).toNat * 5 + 3, none⟩), .int .i16 (ii ((A0 (s0_0).toNat)).fOff), .int .i64 ((ii ((A0 (s0_0).toNat)).fOff)), .int .i64 ((IntKind.i64.wrap ((IntKind.i64.wrap (s0_0 + 1)) + (ii ((A0 (s0_0).toNat)).fOff))))] (jks (lget ls 2).u 130 41)))))))
def pre_barbicanlaw20_OptThreads_L0_L1v5_0 (a0 : Option Addr) (p0 : Nat) (q0 : Nat) (n0 : Nat) (k0 : Nat) (A0 : Nat → Insn) (r1 : (Int) × (Int)) (g2_0 : Nat → Insn) (r3 : (Int) × (Int)) (g4_0 : Nat → Bool) (s0_0 : Int) (sb0_0 : Int) (sb0_1 : Int) (ls : List L1) : List Obj := [rowO (lget ls 0) (esG c_Insn n0 g2_0) 40 n0 5, rowO (lget ls 1) (esG cB ((n0 : Int)).toNat g4_0) 4 ((n0 : Int)).toNat 1, unb, .cells #[.int .u8 (nn ((A0 (s0_0).toNat)).fOp), .int .u8 (nn ((A0 (s0_0).toNat)).fDst), .int .u8 (nn ((A0 (s0_0).toNat)).fSrc), .int .i16 (ii ((g2_0 (s0_0).toNat)).fOff), .int .i32 (ii ((A0 (s0_0).toNat)).fImm)] 40]
theorem sp0_barbicanlaw20_OptThreads_L0_L1v5_0_ok (sb0_0 : Int) (sb0_1 : Int) (c0_0 : BitVec 8) (c0_1 : BitVec 8) (c0_2 : BitVec 8) (c0_3 : BitVec 16) (c0_4 : BitVec 32) (c0_5 : Int) (c0_6 : Int) (c0_7 : Int) (c0_8 : Int) (c0_9 : Bool) (c0_10 : Bool) (h : lpO (st_barbicanlaw20_OptThreads_L0_L1v5 n0 A0 g2_0 s0_0) (.c0 sb0_0 sb0_1) = some (.e0 c0_0 c0_1 c0_2 c0_3 c0_4 c0_5 c0_6 c0_7 c0_8 c0_9 c0_10)) : SpcG Try.prog M B0 S ⟨fun ls => .code (.loop bd_barbicanlaw20_OptThreads_L0_L1v5) (t0_barbicanlaw20_OptThreads_L0_L1v5_0 a0 p0 q0 n0 k0 A0 r1 g2_0 r3 g4_0 s0_0 sb0_0 sb0_1 ls), pre_barbicanlaw20_OptThreads_L0_L1v5_0 a0 p0 q0 n0 k0 A0 r1 g2_0 r3 g4_0 s0_0 sb0_0 sb0_1, 1, (.exit 2), fun ls => vf_barbicanlaw20_OptThreads_L0_L1v5 a0 p0 q0 n0 k0 A0 r1 g2_0 r3 g4_0 s0_0 (.e0 c0_0 c0_1 c0_2 c0_3 c0_4 c0_5 c0_6 c0_7 c0_8 c0_9 c0_10) (ls.take 4 ++ ls.drop 4), fun ls => (Hf_barbicanlaw20_OptThreads_L0_L1v5 a0 p0 q0 n0 k0 A0 r1 g2_0 r3 g4_0 s0_0 (.e0 c0_0 c0_1 c0_2 c0_3 c0_4 c0_5 c0_6 c0_7 c0_8 c0_9 c0_10) (ls.take 4 ++ ls.drop 4)).take 4 ++ List.replicate 0 unb, fun ls => (Hf_barbicanlaw20_OptThreads_L0_L1v5 a0 p0 q0 n0 k0 A0 r1 g2_0 r3 g4_0 s0_0 (.e0 c0_0 c0_1 c0_2 c0_3 c0_4 c0_5 c0_6 c0_7 c0_8 c0_9 c0_10) (ls.take 4 ++ ls.drop 4)).drop 4⟩ :=
  spc_of_goesM hU 0 (k0 := 4) (go_barbicanlaw20_OptThreads_L0_L1v5 hU a0 p0 q0 n0 k0 A0 hR0 r1 g2_0 r3 g4_0 s0_0 _ _ h) (t0_barbicanlaw20_OptThreads_L0_L1v5_0 a0 p0 q0 n0 k0 A0 r1 g2_0 r3 g4_0 s0_0 sb0_0 sb0_1) (pre_barbicanlaw20_OptThreads_L0_L1v5_0 a0 p0 q0 n0 k0 A0 r1 g2_0 r3 g4_0 s0_0 sb0_0 sb0_1) (fun _ => rfl) (fun ls h => by match ls, h with | [l0, l1, l2, l3], _ => exact ⟨by kernel_rfl, by kernel_rfl⟩) (fun ls h => by match ls, h with | [l0, l1, l2, l3], _ => rfl) (by decide) (by decide) (fun ls => rfl)
inductive Sh_barbicanlaw20_OptThreads_L0 where
  | c0 (s0_0 : Int)
inductive Ex_barbicanlaw20_OptThreads_L0 where
  | e0 
  | e1 
noncomputable def st_barbicanlaw20_OptThreads_L0 (n0 : Nat) (A0 : Nat → Insn) (g2_0 : Nat → Insn) (g4_0 : Nat → Bool) : Sh_barbicanlaw20_OptThreads_L0 → Option (Sh_barbicanlaw20_OptThreads_L0 ⊕ Ex_barbicanlaw20_OptThreads_L0)
  | .c0 s0_0 =>
    bif decide (s0_0 < (n0 : Int)) then
      (bif inR s0_0 n0 then
        (bif ((((A0 (s0_0).toNat)).fOp == ((g2_0 (s0_0).toNat)).fOp) && ((((A0 (s0_0).toNat)).fDst == ((g2_0 (s0_0).toNat)).fDst) && ((((A0 (s0_0).toNat)).fSrc == ((g2_0 (s0_0).toNat)).fSrc) && ((((g2_0 (s0_0).toNat)).fOff == ((g2_0 (s0_0).toNat)).fOff) && (((A0 (s0_0).toNat)).fImm == ((g2_0 (s0_0).toNat)).fImm))))) then
          (bif inR s0_0 ((n0 : Int)).toNat then
            (bif (g4_0 (s0_0).toNat) then
              (bif ((((A0 (s0_0).toNat)).fOp == ((g2_0 (s0_0).toNat)).fOp) && ((((A0 (s0_0).toNat)).fDst == ((g2_0 (s0_0).toNat)).fDst) && ((((A0 (s0_0).toNat)).fSrc == ((g2_0 (s0_0).toNat)).fSrc) && ((((A0 (s0_0).toNat)).fOff == ((g2_0 (s0_0).toNat)).fOff) && (((A0 (s0_0).toNat)).fImm == ((g2_0 (s0_0).toNat)).fImm))))) then
                (bif ((A0 (s0_0).toNat)).fOff == ((g2_0 (s0_0).toNat)).fOff then
                  (some (.inl (.c0 (IntKind.i64.wrap (s0_0 + 1)))))
                else (some (.inr (.e1 ))))
              else (some (.inr (.e1 ))))
            else (bif m_barbicanref1_Is (⟨((A0 (s0_0).toNat)).fOp, ((A0 (s0_0).toNat)).fDst, ((A0 (s0_0).toNat)).fSrc, ((g2_0 (s0_0).toNat)).fOff, ((A0 (s0_0).toNat)).fImm⟩ : Insn) 0 then
              ((lpO (st_barbicanlaw20_OptThreads_L0_L1v4 n0 A0 g2_0 s0_0) (.c0 (IntKind.i64.wrap ((IntKind.i64.wrap (s0_0 + 1)) + (ii ((A0 (s0_0).toNat)).fOff))) 0)).bind fun gb0 => match gb0 with
              | .e0 gb0_0 gb0_1 gb0_2 gb0_3 gb0_4 gb0_5 gb0_6 gb0_7 gb0_8 gb0_9 gb0_10 =>
              bif inR gb0_5 n0 then
                (bif m_barbicanref1_Is ((A0 (gb0_5).toNat)) 0 then
                  (some (.inl (.c0 (IntKind.i64.wrap (s0_0 + 1)))))
                else (bif (IntKind.i64.wrap ((IntKind.i64.wrap (s0_0 + 1)) + (ii ((g2_0 (s0_0).toNat)).fOff))) == gb0_5 then
                  (some (.inl (.c0 (IntKind.i64.wrap (s0_0 + 1)))))
                else (some (.inr (.e1 )))))
              else (none))
            else (bif m_barbicanref1_Compares (⟨((A0 (s0_0).toNat)).fOp, ((A0 (s0_0).toNat)).fDst, ((A0 (s0_0).toNat)).fSrc, ((g2_0 (s0_0).toNat)).fOff, ((A0 (s0_0).toNat)).fImm⟩ : Insn) then
              ((lpO (st_barbicanlaw20_OptThreads_L0_L1v5 n0 A0 g2_0 s0_0) (.c0 (IntKind.i64.wrap ((IntKind.i64.wrap (s0_0 + 1)) + (ii ((A0 (s0_0).toNat)).fOff))) 0)).bind fun gb0 => match gb0 with
              | .e0 gb0_0 gb0_1 gb0_2 gb0_3 gb0_4 gb0_5 gb0_6 gb0_7 gb0_8 gb0_9 gb0_10 =>
              bif inR gb0_5 n0 then
                (bif m_barbicanref1_Is ((A0 (gb0_5).toNat)) 0 then
                  (some (.inl (.c0 (IntKind.i64.wrap (s0_0 + 1)))))
                else (bif (IntKind.i64.wrap ((IntKind.i64.wrap (s0_0 + 1)) + (ii ((g2_0 (s0_0).toNat)).fOff))) == gb0_5 then
                  (some (.inl (.c0 (IntKind.i64.wrap (s0_0 + 1)))))
                else (some (.inr (.e1 )))))
              else (none))
            else (bif ((A0 (s0_0).toNat)).fOff == ((g2_0 (s0_0).toNat)).fOff then
              (some (.inl (.c0 (IntKind.i64.wrap (s0_0 + 1)))))
            else (some (.inr (.e1 )))))))
          else (none))
        else (some (.inr (.e1 ))))
      else (none))
    else (some (.inr (.e0 )))
noncomputable def bd_barbicanlaw20_OptThreads_L0 : Code := codeOf Try.f5 [1, 1, 1, 1, 1, 1, 1, 1, 1, 0, 1, 0, 0]
def fl_barbicanlaw20_OptThreads_L0 (a0 : Option Addr) (p0 : Nat) (q0 : Nat) (n0 : Nat) (k0 : Nat) (A0 : Nat → Insn) (r1 : (Int) × (Int)) (g2_0 : Nat → Insn) (r3 : (Int) × (Int)) (g4_0 : Nat → Bool) : Sh_barbicanlaw20_OptThreads_L0 → List L1 → List Value
  | .c0 s0_0, ls => [.slice a0 n0 (n0 + k0), .bool false, (rowV (lget ls 0) n0 5), (rowV (lget ls 1) ((n0 : Int)).toNat 1), .int .i64 (s0_0)]
def mf_barbicanlaw20_OptThreads_L0 : Sh_barbicanlaw20_OptThreads_L0 → List (Nat × Nat)
  | .c0 _ => [(1, 1), (1, 2), (1, 1), (2, 162)]
noncomputable def fr_barbicanlaw20_OptThreads_L0 (a0 : Option Addr) (p0 : Nat) (q0 : Nat) (n0 : Nat) (k0 : Nat) (A0 : Nat → Insn) (r1 : (Int) × (Int)) (g2_0 : Nat → Insn) (r3 : (Int) × (Int)) (g4_0 : Nat → Bool) (s : Sh_barbicanlaw20_OptThreads_L0) : List L1 → List Value := mrgF (mf_barbicanlaw20_OptThreads_L0 s) (fl_barbicanlaw20_OptThreads_L0 a0 p0 q0 n0 k0 A0 r1 g2_0 r3 g4_0 s) 2
def Hs_barbicanlaw20_OptThreads_L0 (a0 : Option Addr) (p0 : Nat) (q0 : Nat) (n0 : Nat) (k0 : Nat) (A0 : Nat → Insn) (r1 : (Int) × (Int)) (g2_0 : Nat → Insn) (r3 : (Int) × (Int)) (g4_0 : Nat → Bool) : Sh_barbicanlaw20_OptThreads_L0 → List L1 → List Obj
  | .c0 s0_0, ls => [rowO (lget ls 0) (esG c_Insn n0 g2_0) 40 n0 5, rowO (lget ls 1) (esG cB ((n0 : Int)).toNat g4_0) 4 ((n0 : Int)).toNat 1, unb]
def vl_barbicanlaw20_OptThreads_L0 (a0 : Option Addr) (p0 : Nat) (q0 : Nat) (n0 : Nat) (k0 : Nat) (A0 : Nat → Insn) (r1 : (Int) × (Int)) (g2_0 : Nat → Insn) (r3 : (Int) × (Int)) (g4_0 : Nat → Bool) : Ex_barbicanlaw20_OptThreads_L0 → List L1 → List Value
  | .e0 , ls => [.slice a0 n0 (n0 + k0), .bool false, (rowV (lget ls 0) n0 5), (rowV (lget ls 1) ((n0 : Int)).toNat 1)]
  | .e1 , ls => [.slice a0 n0 (n0 + k0), .bool false, (rowV (lget ls 0) n0 5), (rowV (lget ls 1) ((n0 : Int)).toNat 1)]
def mk_barbicanlaw20_OptThreads_L0 : Ex_barbicanlaw20_OptThreads_L0 → List (Nat × Nat)
  | .e0  => [(1, 1), (1, 2), (1, 1), (1, 163)]
  | .e1  => [(1, 1), (1, 2), (1, 1), (1, 163)]
noncomputable def vf_barbicanlaw20_OptThreads_L0 (a0 : Option Addr) (p0 : Nat) (q0 : Nat) (n0 : Nat) (k0 : Nat) (A0 : Nat → Insn) (r1 : (Int) × (Int)) (g2_0 : Nat → Insn) (r3 : (Int) × (Int)) (g4_0 : Nat → Bool) (r : Ex_barbicanlaw20_OptThreads_L0) : List L1 → List Value := mrgF (mk_barbicanlaw20_OptThreads_L0 r) (vl_barbicanlaw20_OptThreads_L0 a0 p0 q0 n0 k0 A0 r1 g2_0 r3 g4_0 r) 2
def Hf_barbicanlaw20_OptThreads_L0 (a0 : Option Addr) (p0 : Nat) (q0 : Nat) (n0 : Nat) (k0 : Nat) (A0 : Nat → Insn) (r1 : (Int) × (Int)) (g2_0 : Nat → Insn) (r3 : (Int) × (Int)) (g4_0 : Nat → Bool) : Ex_barbicanlaw20_OptThreads_L0 → List L1 → List Obj
  | .e0 , ls => [rowO (lget ls 0) (esG c_Insn n0 g2_0) 40 n0 5, rowO (lget ls 1) (esG cB ((n0 : Int)).toNat g4_0) 4 ((n0 : Int)).toNat 1, unb]
  | .e1 , ls => [rowO (lget ls 0) (esG c_Insn n0 g2_0) 40 n0 5, rowO (lget ls 1) (esG cB ((n0 : Int)).toNat g4_0) 4 ((n0 : Int)).toNat 1, unb]
def ex_barbicanlaw20_OptThreads_L0 : Ex_barbicanlaw20_OptThreads_L0 → Ex
  | .e0  => (.exit 0)
  | .e1  => .ret
end
section
variable {M : Nat → Prop} {B0 : Nat} {S : World → Prop} (hU : Up M B0 S) (a0 : Option Addr) (p0 : Nat) (q0 : Nat) (n0 : Nat) (k0 : Nat) (A0 : Nat → Insn) (hR0 : Ro S c_Insn 5 a0 p0 q0 n0 A0) (r1 : (Int) × (Int)) (g2_0 : Nat → Insn) (r3 : (Int) × (Int)) (g4_0 : Nat → Bool)
include hU a0 p0 q0 n0 k0 A0 hR0 r1 g2_0 r3 g4_0
theorem go_barbicanlaw20_OptThreads_L0 (s : Sh_barbicanlaw20_OptThreads_L0) (r : Ex_barbicanlaw20_OptThreads_L0) (h : lpO (st_barbicanlaw20_OptThreads_L0 n0 A0 g2_0 g4_0) s = some r) : GoesG Try.prog M B0 S (.loop bd_barbicanlaw20_OptThreads_L0) 3 (fr_barbicanlaw20_OptThreads_L0 a0 p0 q0 n0 k0 A0 r1 g2_0 r3 g4_0 s) (Hs_barbicanlaw20_OptThreads_L0 a0 p0 q0 n0 k0 A0 r1 g2_0 r3 g4_0 s) (ex_barbicanlaw20_OptThreads_L0 r) 2 (vf_barbicanlaw20_OptThreads_L0 a0 p0 q0 n0 k0 A0 r1 g2_0 r3 g4_0 r) (Hf_barbicanlaw20_OptThreads_L0 a0 p0 q0 n0 k0 A0 r1 g2_0 r3 g4_0 r) 3 :=
  goes_lpO (fun s q e => by
    cases s with
    | c0 s0_0 =>
      unfold st_barbicanlaw20_OptThreads_L0 at e
      dsimp only at e
      replace e := cond_eq_or e
      let P1 : List (PG Try.prog M B0 S) := [.o, .o, .o]
      rcases e with ⟨hq0, e⟩ | ⟨hq0, e⟩
      · replace e := cond_eq_or e
        let P2 : List (PG Try.prog M B0 S) := P1 ++ [.b (z_lssT hq0), .o, .o]
        rcases e with ⟨hq1, e⟩ | ⟨hq1, e⟩
        · replace e := cond_eq_or e
          let P3 : List (PG Try.prog M B0 S) := P2 ++ [.q (ixRo_ok (kd := .i64) (T := 22) (x := s0_0) (sz := 5) rfl (fun w => by kernel_rfl) hR0 hq1), .l (accRo hR0 c_Insn_len (inR_nat hq1) 0 [.int .u8 (nn ((A0 (s0_0).toNat)).fOp), .int .u8 (nn ((A0 (s0_0).toNat)).fDst), .int .u8 (nn ((A0 (s0_0).toNat)).fSrc), .int .i16 (ii ((A0 (s0_0).toNat)).fOff), .int .i32 (ii ((A0 (s0_0).toNat)).fImm)] rfl), .o, .a 3, .o, .o, .q (ixM_ok (kd := .i64) (T := 22) (x := s0_0) (N := n0) (sz := 5) rfl (fun w => by kernel_rfl) hq1), .o, .l (accG (i := 0) (f := c_Insn) (A := g2_0) (k := (s0_0).toNat) 3 [.int .i16 (ii ((g2_0 (s0_0).toNat)).fOff)] c_Insn_len (inR_nat hq1) rfl), .o, .a 3, .r [0, 1, 2, 3, 4, 5, 6, 7, 8, 9, 10, 11, 12, 13, 14, 15, 16, 17, 18, 19, 20, 21, 22] [] [], .a 3, .o, .o, .q (ixM_ok (kd := .i64) (T := 22) (x := s0_0) (N := n0) (sz := 5) rfl (fun w => by kernel_rfl) hq1), .l (accG (i := 0) (f := c_Insn) (A := g2_0) (k := (s0_0).toNat) 0 [.int .u8 (nn ((g2_0 (s0_0).toNat)).fOp), .int .u8 (nn ((g2_0 (s0_0).toNat)).fDst), .int .u8 (nn ((g2_0 (s0_0).toNat)).fSrc), .int .i16 (ii ((g2_0 (s0_0).toNat)).fOff), .int .i32 (ii ((g2_0 (s0_0).toNat)).fImm)] c_Insn_len (inR_nat hq1) rfl)]
          rcases e with ⟨hq2, e⟩ | ⟨hq2, e⟩
          · replace e := cond_eq_or e
            let P4 : List (PG Try.prog M B0 S) := P3 ++ [.ov (fun w => (run_aggeq 40 #[.int .u8 (nn ((A0 (s0_0).toNat)).fOp), .int .u8 (nn ((A0 (s0_0).toNat)).fDst), .int .u8 (nn ((A0 (s0_0).toNat)).fSrc), .int .i16 (ii ((g2_0 (s0_0).toNat)).fOff), .int .i32 (ii ((A0 (s0_0).toNat)).fImm)] #[.int .u8 (nn ((g2_0 (s0_0).toNat)).fOp), .int .u8 (nn ((g2_0 (s0_0).toNat)).fDst), .int .u8 (nn ((g2_0 (s0_0).toNat)).fSrc), .int .i16 (ii ((g2_0 (s0_0).toNat)).fOff), .int .i32 (ii ((g2_0 (s0_0).toNat)).fImm)] true (by kernel_rfl) (fun w => (eqi40 9998 ((A0 (s0_0).toNat)).fOp ((g2_0 (s0_0).toNat)).fOp ((A0 (s0_0).toNat)).fDst ((g2_0 (s0_0).toNat)).fDst ((A0 (s0_0).toNat)).fSrc ((g2_0 (s0_0).toNat)).fSrc ((g2_0 (s0_0).toNat)).fOff ((g2_0 (s0_0).toNat)).fOff ((A0 (s0_0).toNat)).fImm ((g2_0 (s0_0).toNat)).fImm w).trans (congrArg (fun b => Result.ok b w) hq2)) (.tmp 73) (.tmp 77) w).2), .o, .o, .o]
            rcases e with ⟨hq3, e⟩ | ⟨hq3, e⟩
            · replace e := cond_eq_or e
              let P5 : List (PG Try.prog M B0 S) := P4 ++ [.q (ixM_ok (kd := .i64) (T := 24) (x := s0_0) (N := ((n0 : Int)).toNat) (sz := 1) rfl (fun w => by kernel_rfl) hq3)]
              rcases e with ⟨hq4, e⟩ | ⟨hq4, e⟩
              · replace e := cond_eq_or e
                let P6 : List (PG Try.prog M B0 S) := P5 ++ [.l (accG (i := 1) (f := cB) (A := g4_0) (k := (s0_0).toNat) 0 [.bool true] cB_len (inR_nat hq3) (congrArg (fun b => [Value.bool b]) hq4)), .o, .o, .o, .q (ixRo_ok (kd := .i64) (T := 22) (x := s0_0) (sz := 5) rfl (fun w => by kernel_rfl) hR0 hq1), .l (accRo hR0 c_Insn_len (inR_nat hq1) 0 [.int .u8 (nn ((A0 (s0_0).toNat)).fOp), .int .u8 (nn ((A0 (s0_0).toNat)).fDst), .int .u8 (nn ((A0 (s0_0).toNat)).fSrc), .int .i16 (ii ((A0 (s0_0).toNat)).fOff), .int .i32 (ii ((A0 (s0_0).toNat)).fImm)] rfl), .o, .o, .q (ixM_ok (kd := .i64) (T := 22) (x := s0_0) (N := n0) (sz := 5) rfl (fun w => by kernel_rfl) hq1), .l (accG (i := 0) (f := c_Insn) (A := g2_0) (k := (s0_0).toNat) 0 [.int .u8 (nn ((g2_0 (s0_0).toNat)).fOp), .int .u8 (nn ((g2_0 (s0_0).toNat)).fDst), .int .u8 (nn ((g2_0 (s0_0).toNat)).fSrc), .int .i16 (ii ((g2_0 (s0_0).toNat)).fOff), .int .i32 (ii ((g2_0 (s0_0).toNat)).fImm)] c_Insn_len (inR_nat hq1) rfl)]
                rcases e with ⟨hq5, e⟩ | ⟨hq5, e⟩
                · replace e := cond_eq_or e
                  let P7 : List (PG Try.prog M B0 S) := P6 ++ [.ov (fun w => (run_aggeq 40 #[.int .u8 (nn ((A0 (s0_0).toNat)).fOp), .int .u8 (nn ((A0 (s0_0).toNat)).fDst), .int .u8 (nn ((A0 (s0_0).toNat)).fSrc), .int .i16 (ii ((A0 (s0_0).toNat)).fOff), .int .i32 (ii ((A0 (s0_0).toNat)).fImm)] #[.int .u8 (nn ((g2_0 (s0_0).toNat)).fOp), .int .u8 (nn ((g2_0 (s0_0).toNat)).fDst), .int .u8 (nn ((g2_0 (s0_0).toNat)).fSrc), .int .i16 (ii ((g2_0 (s0_0).toNat)).fOff), .int .i32 (ii ((g2_0 (s0_0).toNat)).fImm)] true (by kernel_rfl) (fun w => (eqi40 9998 ((A0 (s0_0).toNat)).fOp ((g2_0 (s0_0).toNat)).fOp ((A0 (s0_0).toNat)).fDst ((g2_0 (s0_0).toNat)).fDst ((A0 (s0_0).toNat)).fSrc ((g2_0 (s0_0).toNat)).fSrc ((A0 (s0_0).toNat)).fOff ((g2_0 (s0_0).toNat)).fOff ((A0 (s0_0).toNat)).fImm ((g2_0 (s0_0).toNat)).fImm w).trans (congrArg (fun b => Result.ok b w) hq5)) (.tmp 88) (.tmp 92) w).2), .o, .o, .o, .o, .q (ixM_ok (kd := .i64) (T := 24) (x := s0_0) (N := ((n0 : Int)).toNat) (sz := 1) rfl (fun w => by kernel_rfl) hq3), .l (accG (i := 1) (f := cB) (A := g4_0) (k := (s0_0).toNat) 0 [.bool true] cB_len (inR_nat hq3) (congrArg (fun b => [Value.bool b]) hq4)), .o, .o, .r [0, 1, 2, 3, 4, 5, 6, 7, 8, 9, 10] [] [], .o, .o, .q (ixRo_ok (kd := .i64) (T := 22) (x := s0_0) (sz := 5) rfl (fun w => by kernel_rfl) hR0 hq1), .o, .l (accRo hR0 c_Insn_len (inR_nat hq1) 3 [.int .i16 (ii ((A0 (s0_0).toNat)).fOff)] rfl), .o, .o, .q (ixM_ok (kd := .i64) (T := 22) (x := s0_0) (N := n0) (sz := 5) rfl (fun w => by kernel_rfl) hq1), .o, .l (accG (i := 0) (f := c_Insn) (A := g2_0) (k := (s0_0).toNat) 3 [.int .i16 (ii ((g2_0 (s0_0).toNat)).fOff)] c_Insn_len (inR_nat hq1) rfl)]
                  rcases e with ⟨hq6, e⟩ | ⟨hq6, e⟩
                  · cases e; exact goes_runM hU (P7 ++ [.tn (i_ne ((A0 (s0_0).toNat)).fOff ((g2_0 (s0_0).toNat)).fOff) hq6, .o, .o, .o]) [0, 1] (fun b => rfl) (by decide) rfl rfl (fun b => by kernel_rfl)
                  · cases e; exact ⟨ne_ret, goes_runM hU (P7 ++ [.tn (i_ne ((A0 (s0_0).toNat)).fOff ((g2_0 (s0_0).toNat)).fOff) hq6, .o]) [0, 1] (fun b => rfl) (by decide) rfl rfl (fun b => by kernel_rfl)⟩
                · cases e; exact ⟨ne_ret, goes_runM hU (P6 ++ [.ov (fun w => (run_aggeq 40 #[.int .u8 (nn ((A0 (s0_0).toNat)).fOp), .int .u8 (nn ((A0 (s0_0).toNat)).fDst), .int .u8 (nn ((A0 (s0_0).toNat)).fSrc), .int .i16 (ii ((A0 (s0_0).toNat)).fOff), .int .i32 (ii ((A0 (s0_0).toNat)).fImm)] #[.int .u8 (nn ((g2_0 (s0_0).toNat)).fOp), .int .u8 (nn ((g2_0 (s0_0).toNat)).fDst), .int .u8 (nn ((g2_0 (s0_0).toNat)).fSrc), .int .i16 (ii ((g2_0 (s0_0).toNat)).fOff), .int .i32 (ii ((g2_0 (s0_0).toNat)).fImm)] false (by kernel_rfl) (fun w => (eqi40 9998 ((A0 (s0_0).toNat)).fOp ((g2_0 (s0_0).toNat)).fOp ((A0 (s0_0).toNat)).fDst ((g2_0 (s0_0).toNat)).fDst ((A0 (s0_0).toNat)).fSrc ((g2_0 (s0_0).toNat)).fSrc ((A0 (s0_0).toNat)).fOff ((g2_0 (s0_0).toNat)).fOff ((A0 (s0_0).toNat)).fImm ((g2_0 (s0_0).toNat)).fImm w).trans (congrArg (fun b => Result.ok b w) hq5)) (.tmp 88) (.tmp 92) w).2), .o, .o, .o]) [0, 1] (fun b => rfl) (by decide) rfl rfl (fun b => by kernel_rfl)⟩
              · replace e := cond_eq_or e
                let P8 : List (PG Try.prog M B0 S) := P5 ++ [.l (accG (i := 1) (f := cB) (A := g4_0) (k := (s0_0).toNat) 0 [.bool false] cB_len (inR_nat hq3) (congrArg (fun b => [Value.bool b]) hq4)), .o, .o, .o, .o, .o, .q (ixM_ok (kd := .i64) (T := 24) (x := s0_0) (N := ((n0 : Int)).toNat) (sz := 1) rfl (fun w => by kernel_rfl) hq3), .l (accG (i := 1) (f := cB) (A := g4_0) (k := (s0_0).toNat) 0 [.bool false] cB_len (inR_nat hq3) (congrArg (fun b => [Value.bool b]) hq4)), .o, .a 3]
                rcases e with ⟨hq5, e⟩ | ⟨hq5, e⟩
                · replace e := bindO_eq e
                  obtain ⟨gb0, e_gb0, e⟩ := e
                  obtain ⟨gb0_0, gb0_1, gb0_2, gb0_3, gb0_4, gb0_5, gb0_6, gb0_7, gb0_8, gb0_9, gb0_10⟩ := gb0
                  try dsimp only at e
                  replace e := cond_eq_or e
                  let P9 : List (PG Try.prog M B0 S) := P8 ++ [.cg (ok_barbicanref1_Is hU (⟨((A0 (s0_0).toNat)).fOp, ((A0 (s0_0).toNat)).fDst, ((A0 (s0_0).toNat)).fSrc, ((g2_0 (s0_0).toNat)).fOff, ((A0 (s0_0).toNat)).fImm⟩ : Insn) 0 true hq5), .o, .o, .o, .o, .o, .o, .o, .o, .q (ixRo_ok (kd := .i64) (T := 22) (x := s0_0) (sz := 5) rfl (fun w => by kernel_rfl) hR0 hq1), .o, .l (accRo hR0 c_Insn_len (inR_nat hq1) 3 [.int .i16 (ii ((A0 (s0_0).toNat)).fOff)] rfl), .v .i64 (z_of_ii (by decide) ((A0 (s0_0).toNat)).fOff), .o, .o, .o, .cp, .cx (sp0_barbicanlaw20_OptThreads_L0_L1v4_0_ok hU a0 p0 q0 n0 k0 A0 hR0 r1 g2_0 r3 g4_0 s0_0 (IntKind.i64.wrap ((IntKind.i64.wrap (s0_0 + 1)) + (ii ((A0 (s0_0).toNat)).fOff))) 0 gb0_0 gb0_1 gb0_2 gb0_3 gb0_4 gb0_5 gb0_6 gb0_7 gb0_8 gb0_9 gb0_10 e_gb0) [0, 1, 2, 3], .o, .o]
                  rcases e with ⟨hq6, e⟩ | ⟨hq6, e⟩
                  · replace e := cond_eq_or e
                    let P10 : List (PG Try.prog M B0 S) := P9 ++ [.q (ixRo_ok (kd := .i64) (T := 22) (x := gb0_5) (sz := 5) rfl (fun w => by kernel_rfl) hR0 hq6), .l (accRo hR0 c_Insn_len (inR_nat hq6) 0 [.int .u8 (nn ((A0 (gb0_5).toNat)).fOp), .int .u8 (nn ((A0 (gb0_5).toNat)).fDst), .int .u8 (nn ((A0 (gb0_5).toNat)).fSrc), .int .i16 (ii ((A0 (gb0_5).toNat)).fOff), .int .i32 (ii ((A0 (gb0_5).toNat)).fImm)] rfl)]
                    rcases e with ⟨hq7, e⟩ | ⟨hq7, e⟩
                    · cases e; exact goes_runM hU (P10 ++ [.cg (ok_barbicanref1_Is hU ((A0 (gb0_5).toNat)) 0 true hq7), .o, .o, .o, .o, .o, .o]) [0, 1] (fun b => rfl) (by decide) rfl rfl (fun b => by kernel_rfl)
                    · replace e := cond_eq_or e
                      let P11 : List (PG Try.prog M B0 S) := P10 ++ [.cg (ok_barbicanref1_Is hU ((A0 (gb0_5).toNat)) 0 false hq7), .o, .o, .o, .o, .o, .o, .q (ixM_ok (kd := .i64) (T := 22) (x := s0_0) (N := n0) (sz := 5) rfl (fun w => by kernel_rfl) hq1), .o, .l (accG (i := 0) (f := c_Insn) (A := g2_0) (k := (s0_0).toNat) 3 [.int .i16 (ii ((g2_0 (s0_0).toNat)).fOff)] c_Insn_len (inR_nat hq1) rfl), .v .i64 (z_of_ii (by decide) ((g2_0 (s0_0).toNat)).fOff), .o, .o]
                      rcases e with ⟨hq8, e⟩ | ⟨hq8, e⟩
                      · cases e; exact goes_runM hU (P11 ++ [.b (z_neqT hq8), .o, .o, .o, .o]) [0, 1] (fun b => rfl) (by decide) rfl rfl (fun b => by kernel_rfl)
                      · cases e; exact ⟨ne_ret, goes_runM hU (P11 ++ [.b (z_neqF hq8), .o, .o]) [0, 1] (fun b => rfl) (by decide) rfl rfl (fun b => by kernel_rfl)⟩
                  · exact none_some e
                · replace e := cond_eq_or e
                  let P12 : List (PG Try.prog M B0 S) := P8 ++ [.cg (ok_barbicanref1_Is hU (⟨((A0 (s0_0).toNat)).fOp, ((A0 (s0_0).toNat)).fDst, ((A0 (s0_0).toNat)).fSrc, ((g2_0 (s0_0).toNat)).fOff, ((A0 (s0_0).toNat)).fImm⟩ : Insn) 0 false hq5), .o, .o, .a 3]
                  rcases e with ⟨hq6, e⟩ | ⟨hq6, e⟩
                  · replace e := bindO_eq e
                    obtain ⟨gb0, e_gb0, e⟩ := e
                    obtain ⟨gb0_0, gb0_1, gb0_2, gb0_3, gb0_4, gb0_5, gb0_6, gb0_7, gb0_8, gb0_9, gb0_10⟩ := gb0
                    try dsimp only at e
                    replace e := cond_eq_or e
                    let P13 : List (PG Try.prog M B0 S) := P12 ++ [.cg (ok_barbicanref1_Compares hU (⟨((A0 (s0_0).toNat)).fOp, ((A0 (s0_0).toNat)).fDst, ((A0 (s0_0).toNat)).fSrc, ((g2_0 (s0_0).toNat)).fOff, ((A0 (s0_0).toNat)).fImm⟩ : Insn) true hq6), .o, .o, .o, .o, .o, .o, .o, .q (ixRo_ok (kd := .i64) (T := 22) (x := s0_0) (sz := 5) rfl (fun w => by kernel_rfl) hR0 hq1), .o, .l (accRo hR0 c_Insn_len (inR_nat hq1) 3 [.int .i16 (ii ((A0 (s0_0).toNat)).fOff)] rfl), .v .i64 (z_of_ii (by decide) ((A0 (s0_0).toNat)).fOff), .o, .o, .o, .cp, .cx (sp0_barbicanlaw20_OptThreads_L0_L1v5_0_ok hU a0 p0 q0 n0 k0 A0 hR0 r1 g2_0 r3 g4_0 s0_0 (IntKind.i64.wrap ((IntKind.i64.wrap (s0_0 + 1)) + (ii ((A0 (s0_0).toNat)).fOff))) 0 gb0_0 gb0_1 gb0_2 gb0_3 gb0_4 gb0_5 gb0_6 gb0_7 gb0_8 gb0_9 gb0_10 e_gb0) [0, 1, 2, 3], .o, .o]
                    rcases e with ⟨hq7, e⟩ | ⟨hq7, e⟩
                    · replace e := cond_eq_or e
                      let P14 : List (PG Try.prog M B0 S) := P13 ++ [.q (ixRo_ok (kd := .i64) (T := 22) (x := gb0_5) (sz := 5) rfl (fun w => by kernel_rfl) hR0 hq7), .l (accRo hR0 c_Insn_len (inR_nat hq7) 0 [.int .u8 (nn ((A0 (gb0_5).toNat)).fOp), .int .u8 (nn ((A0 (gb0_5).toNat)).fDst), .int .u8 (nn ((A0 (gb0_5).toNat)).fSrc), .int .i16 (ii ((A0 (gb0_5).toNat)).fOff), .int .i32 (ii ((A0 (gb0_5).toNat)).fImm)] rfl)]
                      rcases e with ⟨hq8, e⟩ | ⟨hq8, e⟩
                      · cases e; exact goes_runM hU (P14 ++ [.cg (ok_barbicanref1_Is hU ((A0 (gb0_5).toNat)) 0 true hq8), .o, .o, .o, .o, .o, .o]) [0, 1] (fun b => rfl) (by decide) rfl rfl (fun b => by kernel_rfl)
                      · replace e := cond_eq_or e
                        let P15 : List (PG Try.prog M B0 S) := P14 ++ [.cg (ok_barbicanref1_Is hU ((A0 (gb0_5).toNat)) 0 false hq8), .o, .o, .o, .o, .o, .o, .q (ixM_ok (kd := .i64) (T := 22) (x := s0_0) (N := n0) (sz := 5) rfl (fun w => by kernel_rfl) hq1), .o, .l (accG (i := 0) (f := c_Insn) (A := g2_0) (k := (s0_0).toNat) 3 [.int .i16 (ii ((g2_0 (s0_0).toNat)).fOff)] c_Insn_len (inR_nat hq1) rfl), .v .i64 (z_of_ii (by decide) ((g2_0 (s0_0).toNat)).fOff), .o, .o]
                        rcases e with ⟨hq9, e⟩ | ⟨hq9, e⟩
                        · cases e; exact goes_runM hU (P15 ++ [.b (z_neqT hq9), .o, .o, .o, .o]) [0, 1] (fun b => rfl) (by decide) rfl rfl (fun b => by kernel_rfl)
                        · cases e; exact ⟨ne_ret, goes_runM hU (P15 ++ [.b (z_neqF hq9), .o, .o]) [0, 1] (fun b => rfl) (by decide) rfl rfl (fun b => by kernel_rfl)⟩
                    · exact none_some e
                  · replace e := cond_eq_or e
                    let P16 : List (PG Try.prog M B0 S) := P12 ++ [.cg (ok_barbicanref1_Compares hU (⟨((A0 (s0_0).toNat)).fOp, ((A0 (s0_0).toNat)).fDst, ((A0 (s0_0).toNat)).fSrc, ((g2_0 (s0_0).toNat)).fOff, ((A0 (s0_0).toNat)).fImm⟩ : Insn) false hq6), .o, .o, .o, .r [0, 1, 2, 3, 4, 5, 6, 7, 8, 9, 10] [] [], .o, .o, .q (ixRo_ok (kd := .i64) (T := 22) (x := s0_0) (sz := 5) rfl (fun w => by kernel_rfl) hR0 hq1), .o, .l (accRo hR0 c_Insn_len (inR_nat hq1) 3 [.int .i16 (ii ((A0 (s0_0).toNat)).fOff)] rfl), .o, .o, .q (ixM_ok (kd := .i64) (T := 22) (x := s0_0) (N := n0) (sz := 5) rfl (fun w => by kernel_rfl) hq1), .o, .l (accG (i := 0) (f := c_Insn) (A := g2_0) (k := (s0_0).toNat) 3 [.int .i16 (ii ((g2_0 (s0_0).toNat)).fOff)] c_Insn_len (inR_nat hq1) rfl)]
                    rcases e with ⟨hq7, e⟩ | ⟨hq7, e⟩
                    · cases e; exact goes_runM hU (P16 ++ [.tn (i_ne ((A0 (s0_0).toNat)).fOff ((g2_0 (s0_0).toNat)).fOff) hq7, .o, .o, .o]) [0, 1] (fun b => rfl) (by decide) rfl rfl (fun b => by kernel_rfl)
                    · cases e; exact ⟨ne_ret, goes_runM hU (P16 ++ [.tn (i_ne ((A0 (s0_0).toNat)).fOff ((g2_0 (s0_0).toNat)).fOff) hq7, .o]) [0, 1] (fun b => rfl) (by decide) rfl rfl (fun b => by kernel_rfl)⟩
            · exact none_some e
          · cases e; exact ⟨ne_ret, goes_runM hU (P3 ++ [.ov (fun w => (run_aggeq 40 #[.int .u8 (nn ((A0 (s0_0).toNat)).fOp), .int .u8 (nn ((A0 (s0_0).toNat)).fDst), .int .u8 (nn ((A0 (s0_0).toNat)).fSrc), .int .i16 (ii ((g2_0 (s0_0).toNat)).fOff), .int .i32 (ii ((A0 (s0_0).toNat)).fImm)] #[.int .u8 (nn ((g2_0 (s0_0).toNat)).fOp), .int .u8 (nn ((g2_0 (s0_0).toNat)).fDst), .int .u8 (nn ((g2_0 (s0_0).toNat)).fSrc), .int .i16 (ii ((g2_0 (s0_0).toNat)).fOff), .int .i32 (ii ((g2_0 (s0_0).toNat)).fImm)] false (by kernel_rfl) (fun w => (eqi40 9998 ((A0 (s0_0).toNat)).fOp ((g2_0 (s0_0).toNat)).fOp ((A0 (s0_0).toNat)).fDst ((g2_0 (s0_0).toNat)).fDst ((A0 (s0_0).toNat)).fSrc ((g2_0 (s0_0).toNat)).fSrc ((g2_0 (s0_0).toNat)).fOff ((g2_0 (s0_0).toNat)).fOff ((A0 (s0_0).toNat)).fImm ((g2_0 (s0_0).toNat)).fImm w).trans (congrArg (fun b => Result.ok b w) hq2)) (.tmp 73) (.tmp 77) w).2), .o, .o, .o]) [0, 1] (fun b => rfl) (by decide) rfl rfl (fun b => by kernel_rfl)⟩
        · exact none_some e
      · cases e; exact ⟨ne_exit 0, goes_runM hU (P1 ++ [.b (z_lssF hq0)]) [0, 1] (fun b => rfl) (by decide) rfl rfl (fun b => by kernel_rfl)⟩) s r h
noncomputable def t0_barbicanlaw20_OptThreads_L0_0 (a0 : Option Addr) (p0 : Nat) (q0 : Nat) (n0 : Nat) (k0 : Nat) (A0 : Nat → Insn) (r1 : (Int) × (Int)) (g2_0 : Nat → Insn) (r3 : (Int) × (Int)) (g4_0 : Nat → Bool) (s0_0 : Int) (ls : List L1) : List Value := List.append [.slice a0 n0 (n0 + k0), undef, .bool false, .int .i64 (r1.1), .int .i64 (r3.2), (rowV (lget ls 0) n0 5), .int .i64 (0), (rowV (lget ls 1) ((n0 : Int)).toNat 1), .int .i64 (s0_0), undef, undef, undef, .bool true, .bool false, .slice a0 n0 (n0 + k0), .int .i64 ((n0 : Int)), .bool false, .tuple #[.int .i64 (r1.1), .int .i64 (r1.2)], .slice a0 n0 (n0 + k0), .tuple #[.int .i64 (r1.1), .int .i64 (r1.2)], .int .i64 (r1.1), .int .i64 (r1.2), .tuple #[(rowV (lget ls 0) n0 5), .int .i64 (0)], .slice a0 n0 (n0 + k0), .tuple #[(rowV (lget ls 0) n0 5), .int .i64 (0)], (rowV (lget ls 0) n0 5), .int .i64 (0), .int .i64 (r1.2), .bool false] (List.append (und 8) (List.append [.tuple #[.int .i64 (r3.1), .int .i64 (r3.2)], (rowV (lget ls 0) n0 5), .tuple #[.int .i64 (r3.1), .int .i64 (r3.2)], .int .i64 (r3.1), .int .i64 (r3.2), .int .i64 (0), .bool false, .bool false, .int .i64 (r3.2), .bool false, .bool false, .bool false, (rowV (lget ls 0) n0 5), .int .i64 ((n0 : Int)), .slice a0 n0 (n0 + k0), .int .i64 ((n0 : Int)), .bool false, .bool false, .slice a0 n0 (n0 + k0), (rowV (lget ls 1) ((n0 : Int)).toNat 1)] (und 114)))
def pre_barbicanlaw20_OptThreads_L0_0 (a0 : Option Addr) (p0 : Nat) (q0 : Nat) (n0 : Nat) (k0 : Nat) (A0 : Nat → Insn) (r1 : (Int) × (Int)) (g2_0 : Nat → Insn) (r3 : (Int) × (Int)) (g4_0 : Nat → Bool) (s0_0 : Int) (ls : List L1) : List Obj := [rowO (lget ls 0) (esG c_Insn n0 g2_0) 40 n0 5, rowO (lget ls 1) (esG cB ((n0 : Int)).toNat g4_0) 4 ((n0 : Int)).toNat 1]
theorem sp0_barbicanlaw20_OptThreads_L0_0_ok (s0_0 : Int) (h : lpO (st_barbicanlaw20_OptThreads_L0 n0 A0 g2_0 g4_0) (.c0 s0_0) = some (.e0 )) : SpcG Try.prog M B0 S ⟨fun ls => .code (.loop bd_barbicanlaw20_OptThreads_L0) (t0_barbicanlaw20_OptThreads_L0_0 a0 p0 q0 n0 k0 A0 r1 g2_0 r3 g4_0 s0_0 ls), pre_barbicanlaw20_OptThreads_L0_0 a0 p0 q0 n0 k0 A0 r1 g2_0 r3 g4_0 s0_0, 1, (.exit 0), fun ls => vf_barbicanlaw20_OptThreads_L0 a0 p0 q0 n0 k0 A0 r1 g2_0 r3 g4_0 (.e0 ) (ls.take 2 ++ ls.drop 2), fun ls => (Hf_barbicanlaw20_OptThreads_L0 a0 p0 q0 n0 k0 A0 r1 g2_0 r3 g4_0 (.e0 ) (ls.take 2 ++ ls.drop 2)).take 2 ++ List.replicate 0 unb, fun ls => (Hf_barbicanlaw20_OptThreads_L0 a0 p0 q0 n0 k0 A0 r1 g2_0 r3 g4_0 (.e0 ) (ls.take 2 ++ ls.drop 2)).drop 2⟩ :=
  spc_of_goesM hU 0 (k0 := 2) (go_barbicanlaw20_OptThreads_L0 hU a0 p0 q0 n0 k0 A0 hR0 r1 g2_0 r3 g4_0 _ _ h) (t0_barbicanlaw20_OptThreads_L0_0 a0 p0 q0 n0 k0 A0 r1 g2_0 r3 g4_0 s0_0) (pre_barbicanlaw20_OptThreads_L0_0 a0 p0 q0 n0 k0 A0 r1 g2_0 r3 g4_0 s0_0) (fun _ => rfl) (fun ls h => by match ls, h with | [l0, l1], _ => exact ⟨by kernel_rfl, by kernel_rfl⟩) (fun ls h => by match ls, h with | [l0, l1], _ => rfl) (by decide) (by decide) (fun ls => rfl)
theorem sp1_barbicanlaw20_OptThreads_L0_0_ok (s0_0 : Int) (h : lpO (st_barbicanlaw20_OptThreads_L0 n0 A0 g2_0 g4_0) (.c0 s0_0) = some (.e1 )) : SpcG Try.prog M B0 S ⟨fun ls => .code (.loop bd_barbicanlaw20_OptThreads_L0) (t0_barbicanlaw20_OptThreads_L0_0 a0 p0 q0 n0 k0 A0 r1 g2_0 r3 g4_0 s0_0 ls), pre_barbicanlaw20_OptThreads_L0_0 a0 p0 q0 n0 k0 A0 r1 g2_0 r3 g4_0 s0_0, 1, .ret, fun ls => vf_barbicanlaw20_OptThreads_L0 a0 p0 q0 n0 k0 A0 r1 g2_0 r3 g4_0 (.e1 ) (ls.take 2 ++ ls.drop 2), fun ls => (Hf_barbicanlaw20_OptThreads_L0 a0 p0 q0 n0 k0 A0 r1 g2_0 r3 g4_0 (.e1 ) (ls.take 2 ++ ls.drop 2)).take 2 ++ List.replicate 0 unb, fun ls => (Hf_barbicanlaw20_OptThreads_L0 a0 p0 q0 n0 k0 A0 r1 g2_0 r3 g4_0 (.e1 ) (ls.take 2 ++ ls.drop 2)).drop 2⟩ :=
  spc_of_goesM hU 0 (k0 := 2) (go_barbicanlaw20_OptThreads_L0 hU a0 p0 q0 n0 k0 A0 hR0 r1 g2_0 r3 g4_0 _ _ h) (t0_barbicanlaw20_OptThreads_L0_0 a0 p0 q0 n0 k0 A0 r1 g2_0 r3 g4_0 s0_0) (pre_barbicanlaw20_OptThreads_L0_0 a0 p0 q0 n0 k0 A0 r1 g2_0 r3 g4_0 s0_0) (fun _ => rfl) (fun ls h => by match ls, h with | [l0, l1], _ => exact ⟨by kernel_rfl, by kernel_rfl⟩) (fun ls h => by match ls, h with | [l0, l1], _ => rfl) (by decide) (by decide) (fun ls => rfl)
inductive Sh_barbicanlaw20_OptThreads_L0v1 where
  | c0 
inductive Ex_barbicanlaw20_OptThreads_L0v1 where
  | e0 
noncomputable def st_barbicanlaw20_OptThreads_L0v1 (n0 : Nat) : Sh_barbicanlaw20_OptThreads_L0v1 → Option (Sh_barbicanlaw20_OptThreads_L0v1 ⊕ Ex_barbicanlaw20_OptThreads_L0v1)
  | .c0  =>
    bif decide (0 < (n0 : Int)) then
      (bif inR 0 n0 then
        (none)
      else (none))
    else (some (.inr (.e0 )))
noncomputable def bd_barbicanlaw20_OptThreads_L0v1 : Code := codeOf Try.f5 [1, 1, 1, 1, 1, 1, 1, 1, 1, 0, 1, 0, 0]
def fl_barbicanlaw20_OptThreads_L0v1 (a0 : Option Addr) (p0 : Nat) (q0 : Nat) (n0 : Nat) (k0 : Nat) (A0 : Nat → Insn) (r1 : (Int) × (Int)) (g2_0 : Int) (r3 : (Int) × (Int)) (g4_0 : Nat → Bool) : Sh_barbicanlaw20_OptThreads_L0v1 → List L1 → List Value
  | .c0 , ls => [.slice a0 n0 (n0 + k0), .bool false, .slice none 0 0, (rowV (lget ls 0) ((n0 : Int)).toNat 1), .int .i64 (0)]
def mf_barbicanlaw20_OptThreads_L0v1 : Sh_barbicanlaw20_OptThreads_L0v1 → List (Nat × Nat)
  | .c0  => [(1, 1), (1, 2), (1, 1), (2, 162)]
noncomputable def fr_barbicanlaw20_OptThreads_L0v1 (a0 : Option Addr) (p0 : Nat) (q0 : Nat) (n0 : Nat) (k0 : Nat) (A0 : Nat → Insn) (r1 : (Int) × (Int)) (g2_0 : Int) (r3 : (Int) × (Int)) (g4_0 : Nat → Bool) (s : Sh_barbicanlaw20_OptThreads_L0v1) : List L1 → List Value := mrgF (mf_barbicanlaw20_OptThreads_L0v1 s) (fl_barbicanlaw20_OptThreads_L0v1 a0 p0 q0 n0 k0 A0 r1 g2_0 r3 g4_0 s) 1
def Hs_barbicanlaw20_OptThreads_L0v1 (a0 : Option Addr) (p0 : Nat) (q0 : Nat) (n0 : Nat) (k0 : Nat) (A0 : Nat → Insn) (r1 : (Int) × (Int)) (g2_0 : Int) (r3 : (Int) × (Int)) (g4_0 : Nat → Bool) : Sh_barbicanlaw20_OptThreads_L0v1 → List L1 → List Obj
  | .c0 , ls => [rowO (lget ls 0) (esG cB ((n0 : Int)).toNat g4_0) 4 ((n0 : Int)).toNat 1, unb]
def vl_barbicanlaw20_OptThreads_L0v1 (a0 : Option Addr) (p0 : Nat) (q0 : Nat) (n0 : Nat) (k0 : Nat) (A0 : Nat → Insn) (r1 : (Int) × (Int)) (g2_0 : Int) (r3 : (Int) × (Int)) (g4_0 : Nat → Bool) : Ex_barbicanlaw20_OptThreads_L0v1 → List L1 → List Value
  | .e0 , ls => [.slice a0 n0 (n0 + k0), .bool false, .slice none 0 0, (rowV (lget ls 0) ((n0 : Int)).toNat 1)]
def mk_barbicanlaw20_OptThreads_L0v1 : Ex_barbicanlaw20_OptThreads_L0v1 → List (Nat × Nat)
  | .e0  => [(1, 1), (1, 2), (1, 1), (1, 163)]
noncomputable def vf_barbicanlaw20_OptThreads_L0v1 (a0 : Option Addr) (p0 : Nat) (q0 : Nat) (n0 : Nat) (k0 : Nat) (A0 : Nat → Insn) (r1 : (Int) × (Int)) (g2_0 : Int) (r3 : (Int) × (Int)) (g4_0 : Nat → Bool) (r : Ex_barbicanlaw20_OptThreads_L0v1) : List L1 → List Value := mrgF (mk_barbicanlaw20_OptThreads_L0v1 r) (vl_barbicanlaw20_OptThreads_L0v1 a0 p0 q0 n0 k0 A0 r1 g2_0 r3 g4_0 r) 1
def Hf_barbicanlaw20_OptThreads_L0v1 (a0 : Option Addr) (p0 : Nat) (q0 : Nat) (n0 : Nat) (k0 : Nat) (A0 : Nat → Insn) (r1 : (Int) × (Int)) (g2_0 : Int) (r3 : (Int) × (Int)) (g4_0 : Nat → Bool) : Ex_barbicanlaw20_OptThreads_L0v1 → List L1 → List Obj
  | .e0 , ls => [rowO (lget ls 0) (esG cB ((n0 : Int)).toNat g4_0) 4 ((n0 : Int)).toNat 1, unb]
def ex_barbicanlaw20_OptThreads_L0v1 : Ex_barbicanlaw20_OptThreads_L0v1 → Ex
  | .e0  => (.exit 0)
end
section
variable {M : Nat → Prop} {B0 : Nat} {S : World → Prop} (hU : Up M B0 S) (a0 : Option Addr) (p0 : Nat) (q0 : Nat) (n0 : Nat) (k0 : Nat) (A0 : Nat → Insn) (hR0 : Ro S c_Insn 5 a0 p0 q0 n0 A0) (r1 : (Int) × (Int)) (g2_0 : Int) (r3 : (Int) × (Int)) (g4_0 : Nat → Bool)
include hU a0 p0 q0 n0 k0 A0 hR0 r1 g2_0 r3 g4_0
theorem go_barbicanlaw20_OptThreads_L0v1 (s : Sh_barbicanlaw20_OptThreads_L0v1) (r : Ex_barbicanlaw20_OptThreads_L0v1) (h : lpO (st_barbicanlaw20_OptThreads_L0v1 n0) s = some r) : GoesG Try.prog M B0 S (.loop bd_barbicanlaw20_OptThreads_L0v1) 2 (fr_barbicanlaw20_OptThreads_L0v1 a0 p0 q0 n0 k0 A0 r1 g2_0 r3 g4_0 s) (Hs_barbicanlaw20_OptThreads_L0v1 a0 p0 q0 n0 k0 A0 r1 g2_0 r3 g4_0 s) (ex_barbicanlaw20_OptThreads_L0v1 r) 1 (vf_barbicanlaw20_OptThreads_L0v1 a0 p0 q0 n0 k0 A0 r1 g2_0 r3 g4_0 r) (Hf_barbicanlaw20_OptThreads_L0v1 a0 p0 q0 n0 k0 A0 r1 g2_0 r3 g4_0 r) 2 :=
  goes_lpO (fun s q e => by
    cases s with
    | c0  =>
      unfold st_barbicanlaw20_OptThreads_L0v1 at e
      dsimp only at e
      replace e := cond_eq_or e
      rcases e with ⟨hq0, e⟩ | ⟨hq0, e⟩
      · replace e := cond_eq_or e
        rcases e with ⟨hq1, e⟩ | ⟨hq1, e⟩
        · exact none_some e
        · exact none_some e
      · cases e; exact ⟨ne_exit 0, goes_runM hU [.o, .o, .o, .b (z_lssF hq0)] [0] (fun b => rfl) (by decide) rfl rfl (fun b => by kernel_rfl)⟩) s r h
noncomputable def t0_barbicanlaw20_OptThreads_L0v1_0 (a0 : Option Addr) (p0 : Nat) (q0 : Nat) (n0 : Nat) (k0 : Nat) (A0 : Nat → Insn) (r1 : (Int) × (Int)) (g2_0 : Int) (r3 : (Int) × (Int)) (g4_0 : Nat → Bool)  (ls : List L1) : List Value := List.append [.slice a0 n0 (n0 + k0), undef, .bool false, .int .i64 (r1.1), .int .i64 (r3.2), .slice none 0 0, .int .i64 (g2_0), (rowV (lget ls 0) ((n0 : Int)).toNat 1), .int .i64 (0), undef, undef, undef, .bool true, .bool false, .slice a0 n0 (n0 + k0), .int .i64 ((n0 : Int)), .bool false, .tuple #[.int .i64 (r1.1), .int .i64 (r1.2)], .slice a0 n0 (n0 + k0), .tuple #[.int .i64 (r1.1), .int .i64 (r1.2)], .int .i64 (r1.1), .int .i64 (r1.2), .tuple #[.slice none 0 0, .int .i64 (g2_0)], .slice a0 n0 (n0 + k0), .tuple #[.slice none 0 0, .int .i64 (g2_0)], .slice none 0 0, .int .i64 (g2_0), .int .i64 (r1.2), .bool false] (List.append (und 8) (List.append [.tuple #[.int .i64 (r3.1), .int .i64 (r3.2)], .slice none 0 0, .tuple #[.int .i64 (r3.1), .int .i64 (r3.2)], .int .i64 (r3.1), .int .i64 (r3.2), .int .i64 (g2_0), .bool false, .bool false, .int .i64 (r3.2), .bool false, .bool false, .bool false, .slice none 0 0, .int .i64 (0), .slice a0 n0 (n0 + k0), .int .i64 ((n0 : Int)), .bool false, .bool false, .slice a0 n0 (n0 + k0), (rowV (lget ls 0) ((n0 : Int)).toNat 1)] (und 114)))
def pre_barbicanlaw20_OptThreads_L0v1_0 (a0 : Option Addr) (p0 : Nat) (q0 : Nat) (n0 : Nat) (k0 : Nat) (A0 : Nat → Insn) (r1 : (Int) × (Int)) (g2_0 : Int) (r3 : (Int) × (Int)) (g4_0 : Nat → Bool)  (ls : List L1) : List Obj := [rowO (lget ls 0) (esG cB ((n0 : Int)).toNat g4_0) 4 ((n0 : Int)).toNat 1]
theorem sp0_barbicanlaw20_OptThreads_L0v1_0_ok (h : lpO (st_barbicanlaw20_OptThreads_L0v1 n0) (.c0) = some (.e0 )) : SpcG Try.prog M B0 S ⟨fun ls => .code (.loop bd_barbicanlaw20_OptThreads_L0v1) (t0_barbicanlaw20_OptThreads_L0v1_0 a0 p0 q0 n0 k0 A0 r1 g2_0 r3 g4_0  ls), pre_barbicanlaw20_OptThreads_L0v1_0 a0 p0 q0 n0 k0 A0 r1 g2_0 r3 g4_0 , 1, (.exit 0), fun ls => vf_barbicanlaw20_OptThreads_L0v1 a0 p0 q0 n0 k0 A0 r1 g2_0 r3 g4_0 (.e0 ) (ls.take 1 ++ ls.drop 1), fun ls => (Hf_barbicanlaw20_OptThreads_L0v1 a0 p0 q0 n0 k0 A0 r1 g2_0 r3 g4_0 (.e0 ) (ls.take 1 ++ ls.drop 1)).take 1 ++ List.replicate 0 unb, fun ls => (Hf_barbicanlaw20_OptThreads_L0v1 a0 p0 q0 n0 k0 A0 r1 g2_0 r3 g4_0 (.e0 ) (ls.take 1 ++ ls.drop 1)).drop 1⟩ :=
  spc_of_goesM hU 0 (k0 := 1) (go_barbicanlaw20_OptThreads_L0v1 hU a0 p0 q0 n0 k0 A0 hR0 r1 g2_0 r3 g4_0 _ _ h) (t0_barbicanlaw20_OptThreads_L0v1_0 a0 p0 q0 n0 k0 A0 r1 g2_0 r3 g4_0 ) (pre_barbicanlaw20_OptThreads_L0v1_0 a0 p0 q0 n0 k0 A0 r1 g2_0 r3 g4_0 ) (fun _ => rfl) (fun ls h => by match ls, h with | [l0], _ => exact ⟨by kernel_rfl, by kernel_rfl⟩) (fun ls h => by match ls, h with | [l0], _ => rfl) (by decide) (by decide) (fun ls => rfl)
noncomputable def m_barbicanlaw20_OptThreads (n0 : Nat) (A0 : Nat → Insn) : Option (Bool) :=
  (m_barbicanlaw20_known).bind fun r0 =>
  bif r0 then
    (bif decide (150 < (n0 : Int)) then
      (some true)
    else ((m_barbicanref1_Check n0 A0).bind fun r1 =>
    (m_opt_Thread n0 A0).bind fun g2 => match g2 with
    | .e0 g2_0 => (bif r1.2 == 0 then
        ((m_barbicanref1_Check n0 g2_0).bind fun r3 =>
        bif r3.2 == 0 then
          (bif (n0 : Int) == (n0 : Int) then
            ((m_barbicanref1_Seconds n0 A0).bind fun g4 => match g4 with
            | .e0 g4_0 =>
            (lpO (st_barbicanlaw20_OptThreads_L0 n0 A0 g2_0 g4_0) (.c0 0)).bind fun g5 => match g5 with
            | .e0  => (some true)
            | .e1  => (some false))
          else (some false))
        else (some false))
      else (bif (0 : Int) == r1.2 then
        (some ((n0 : Int) == 0))
      else (some false)))
    | .e1 g2_0 => (bif r1.2 == 0 then
        ((m_barbicanref1_Check 0 (fun _ => (⟨0#8, 0#8, 0#8, 0#16, 0#32⟩ : Insn))).bind fun r3 =>
        bif g2_0 == 0 then
          (bif r3.2 == 0 then
            (bif (0 : Int) == (n0 : Int) then
              ((m_barbicanref1_Seconds n0 A0).bind fun g4 => match g4 with
              | .e0 g4_0 =>
              (lpO (st_barbicanlaw20_OptThreads_L0v1 n0) (.c0)).bind fun g5 => match g5 with
              | .e0 =>
              some true)
            else (some false))
          else (some false))
        else (some false))
      else (bif g2_0 == r1.2 then
        (some true)
      else (some false)))))
  else (some false)
end
section
variable {M : Nat → Prop} {B0 : Nat} {S : World → Prop} (hU : Up M B0 S)
include hU
theorem ok_barbicanlaw20_OptThreads (a0 : Option Addr) (p0 : Nat) (q0 : Nat) (n0 : Nat) (k0 : Nat) (A0 : Nat → Insn) (hR0 : Ro S c_Insn 5 a0 p0 q0 n0 A0) (r : Bool) (e : m_barbicanlaw20_OptThreads n0 A0 = some r) : ConG Try.prog S 5 #[.slice a0 n0 (n0 + k0)] (.bool (r)) := by
  unfold m_barbicanlaw20_OptThreads at e
  replace e := bindO_eq e
  obtain ⟨r0, e_r0, e⟩ := e
  try dsimp only at e
  replace e := cond_eq_or e
  rcases e with ⟨hq0, e⟩ | ⟨hq0, e⟩
  · subst hq0
    replace e := cond_eq_or e
    let P1 : List (PG Try.prog M B0 S) := [.o, .cg (ok_barbicanlaw20_known hU  true e_r0), .o, .o, .o]
    rcases e with ⟨hq1, e⟩ | ⟨hq1, e⟩
    · injection e with e; subst e; exact fn_conG hU (P := Try.prog) Try.func5 (fun xs w => by kernel_rfl) _ _ (P1 ++ [.b (z_gtrT hq1), .o]) [] (fun b => by kernel_rfl)
    · replace e := bindO_eq e
      obtain ⟨r1, e_r1, e⟩ := e
      try dsimp only at e
      replace e := bindO_eq e
      obtain ⟨g2, e_g2, e⟩ := e
      let P2 : List (PG Try.prog M B0 S) := P1 ++ [.b (z_gtrF hq1), .o, .cg (ok_barbicanref1_Check hU a0 p0 q0 n0 k0 A0 hR0 r1 e_r1), .o, .o, .o, .o, .o, .o]
      rcases g2 with ⟨g2_0⟩ | ⟨g2_0⟩
      · try dsimp only at e
        replace e := cond_eq_or e
        let P3 : List (PG Try.prog M B0 S) := P2 ++ [.xg (ok0_opt_Thread hU a0 p0 q0 n0 k0 A0 hR0 g2_0 e_g2) [], .o, .o, .o, .o, .o, .o]
        rcases e with ⟨hq2, e⟩ | ⟨hq2, e⟩
        · replace e := bindO_eq e
          obtain ⟨r3, e_r3, e⟩ := e
          try dsimp only at e
          replace e := cond_eq_or e
          let P4 : List (PG Try.prog M B0 S) := P3 ++ [.b (z_neqT hq2), .o, .xg (SpcG.ownC hU c_Insn_len n0 g2_0 40 fun hU x u v z hr => ok_barbicanref1_Check hU x u v n0 z g2_0 hr r3 e_r3) [0], .o, .o, .o, .o, .o, .o, .o, .o]
          rcases e with ⟨hq3, e⟩ | ⟨hq3, e⟩
          · replace e := cond_eq_or e
            rcases e with ⟨hq4, e⟩ | ⟨hq4, e⟩
            · replace e := bindO_eq e
              obtain ⟨g4, e_g4, e⟩ := e
              obtain ⟨g4_0⟩ := g4
              try dsimp only at e
              replace e := bindO_eq e
              obtain ⟨g5, e_g5, e⟩ := e
              let P5 : List (PG Try.prog M B0 S) := P4 ++ [.b (z_neqT hq3), .o, .o, .o, .o, .o, .o, .b (z_neqT hq4), .o, .o, .xg (ok0_barbicanref1_Seconds hU a0 p0 q0 n0 k0 A0 hR0 g4_0 e_g4) [], .o, .o, .cp]
              rcases g5 with _ | _
              · try dsimp only at e
                injection e with e; subst e; exact fn_conG hU (P := Try.prog) Try.func5 (fun xs w => by kernel_rfl) _ _ (P5 ++ [.cx (sp0_barbicanlaw20_OptThreads_L0_0_ok hU a0 p0 q0 n0 k0 A0 hR0 r1 g2_0 r3 g4_0 0  e_g5) [0, 1], .o]) [] (fun b => by kernel_rfl)
              · try dsimp only at e
                injection e with e; subst e; exact fn_conG hU (P := Try.prog) Try.func5 (fun xs w => by kernel_rfl) _ _ (P5 ++ [.cx (sp1_barbicanlaw20_OptThreads_L0_0_ok hU a0 p0 q0 n0 k0 A0 hR0 r1 g2_0 r3 g4_0 0  e_g5) [0, 1]]) [] (fun b => by kernel_rfl)
            · injection e with e; subst e; exact fn_conG hU (P := Try.prog) Try.func5 (fun xs w => by kernel_rfl) _ _ (P4 ++ [.b (z_neqT hq3), .o, .o, .o, .o, .o, .o, .b (z_neqF hq4), .o, .o]) [] (fun b => by kernel_rfl)
          · injection e with e; subst e; exact fn_conG hU (P := Try.prog) Try.func5 (fun xs w => by kernel_rfl) _ _ (P4 ++ [.b (z_neqF hq3), .o, .o, .o, .o]) [] (fun b => by kernel_rfl)
        · replace e := cond_eq_or e
          rcases e with ⟨hq3, e⟩ | ⟨hq3, e⟩
          · injection e with e; subst e; exact fn_conG hU (P := Try.prog) Try.func5 (fun xs w => by kernel_rfl) _ _ (P3 ++ [.b (z_neqF hq2), .o, .o, .b (z_eqlT hq3), .o, .o, .o, .o, .o, .o]) [] (fun b => by kernel_rfl)
          · injection e with e; subst e; exact fn_conG hU (P := Try.prog) Try.func5 (fun xs w => by kernel_rfl) _ _ (P3 ++ [.b (z_neqF hq2), .o, .o, .b (z_eqlF hq3), .o, .o, .o]) [] (fun b => by kernel_rfl)
      · try dsimp only at e
        replace e := cond_eq_or e
        let P6 : List (PG Try.prog M B0 S) := P2 ++ [.xg (ok1_opt_Thread hU a0 p0 q0 n0 k0 A0 hR0 g2_0 e_g2) [], .o, .o, .o, .o, .o, .o]
        rcases e with ⟨hq2, e⟩ | ⟨hq2, e⟩
        · replace e := bindO_eq e
          obtain ⟨r3, e_r3, e⟩ := e
          try dsimp only at e
          replace e := cond_eq_or e
          let P7 : List (PG Try.prog M B0 S) := P6 ++ [.b (z_neqT hq2), .o, .cg (ok_barbicanref1_Check hU none 0 0 0 0 (fun _ => (⟨0#8, 0#8, 0#8, 0#16, 0#32⟩ : Insn)) Ro.nil r3 e_r3), .o, .o, .o, .o, .o]
          rcases e with ⟨hq3, e⟩ | ⟨hq3, e⟩
          · replace e := cond_eq_or e
            rcases e with ⟨hq4, e⟩ | ⟨hq4, e⟩
            · replace e := cond_eq_or e
              rcases e with ⟨hq5, e⟩ | ⟨hq5, e⟩
              · replace e := bindO_eq e
                obtain ⟨g4, e_g4, e⟩ := e
                obtain ⟨g4_0⟩ := g4
                try dsimp only at e
                replace e := bindO_eq e
                obtain ⟨g5, e_g5, e⟩ := e
                cases g5
                try dsimp only at e
                injection e with e; subst e; exact fn_conG hU (P := Try.prog) Try.func5 (fun xs w => by kernel_rfl) _ _ (P7 ++ [.b (z_neqT hq3), .o, .o, .b (z_neqT hq4), .o, .o, .o, .o, .o, .o, .b (z_neqT hq5), .o, .o, .xg (ok0_barbicanref1_Seconds hU a0 p0 q0 n0 k0 A0 hR0 g4_0 e_g4) [], .o, .o, .cp, .cx (sp0_barbicanlaw20_OptThreads_L0v1_0_ok hU a0 p0 q0 n0 k0 A0 hR0 r1 g2_0 r3 g4_0   e_g5) [0], .o]) [] (fun b => by kernel_rfl)
              · injection e with e; subst e; exact fn_conG hU (P := Try.prog) Try.func5 (fun xs w => by kernel_rfl) _ _ (P7 ++ [.b (z_neqT hq3), .o, .o, .b (z_neqT hq4), .o, .o, .o, .o, .o, .o, .b (z_neqF hq5), .o, .o]) [] (fun b => by kernel_rfl)
            · injection e with e; subst e; exact fn_conG hU (P := Try.prog) Try.func5 (fun xs w => by kernel_rfl) _ _ (P7 ++ [.b (z_neqT hq3), .o, .o, .b (z_neqF hq4), .o, .o, .o, .o]) [] (fun b => by kernel_rfl)
          · injection e with e; subst e; exact fn_conG hU (P := Try.prog) Try.func5 (fun xs w => by kernel_rfl) _ _ (P7 ++ [.b (z_neqF hq3), .o, .o, .o, .o, .o]) [] (fun b => by kernel_rfl)
        · replace e := cond_eq_or e
          rcases e with ⟨hq3, e⟩ | ⟨hq3, e⟩
          · injection e with e; subst e; exact fn_conG hU (P := Try.prog) Try.func5 (fun xs w => by kernel_rfl) _ _ (P6 ++ [.b (z_neqF hq2), .o, .o, .b (z_eqlT hq3), .o, .o, .o, .o, .o, .o]) [] (fun b => by kernel_rfl)
          · injection e with e; subst e; exact fn_conG hU (P := Try.prog) Try.func5 (fun xs w => by kernel_rfl) _ _ (P6 ++ [.b (z_neqF hq2), .o, .o, .b (z_eqlF hq3), .o, .o, .o]) [] (fun b => by kernel_rfl)
  · subst hq0
    injection e with e; subst e; exact fn_conG hU (P := Try.prog) Try.func5 (fun xs w => by kernel_rfl) _ _ [.o, .cg (ok_barbicanlaw20_known hU  false e_r0), .o, .o] [] (fun b => by kernel_rfl)
end

end Go.Proofs.Ytkfmmcobmjkilaa


