/-
  The law on chains of jumps, by the program's text.
-/
import Derived.Test.YtkfmmcobmjkilaaOC2
namespace Go.Proofs.Ytkfmmcobmjkilaa
open Go.RowKit
set_option linter.unusedVariables false
set_option linter.unusedSimpArgs false
set_option linter.unusedSectionVars false
set_option maxRecDepth 100000
set_option maxHeartbeats 4000000
inductive Sh_barbicanhelp_Ints_L0 where
  | c0 (s0_0 : Int)
inductive Ex_barbicanhelp_Ints_L0 where
  | e0 
  | e1 
noncomputable def st_barbicanhelp_Ints_L0 (n0 : Nat) (A0 : Nat → Int) (n1 : Nat) (A1 : Nat → Int) : Sh_barbicanhelp_Ints_L0 → Option (Sh_barbicanhelp_Ints_L0 ⊕ Ex_barbicanhelp_Ints_L0)
  | .c0 s0_0 =>
    bif decide (s0_0 < (n0 : Int)) then
      (bif inR s0_0 n0 then
        (bif inR s0_0 n1 then
          (bif (A0 (s0_0).toNat) == (A1 (s0_0).toNat) then
            (some (.inl (.c0 (IntKind.i64.wrap (s0_0 + 1)))))
          else (some (.inr (.e1 ))))
        else (none))
      else (none))
    else (some (.inr (.e0 )))
noncomputable def bd_barbicanhelp_Ints_L0 : Code := codeOf Try.f16 [1, 1, 0, 1, 0, 0]
def fl_barbicanhelp_Ints_L0 (a0 : Option Addr) (p0 : Nat) (q0 : Nat) (n0 : Nat) (k0 : Nat) (A0 : Nat → Int) (a1 : Option Addr) (p1 : Nat) (q1 : Nat) (n1 : Nat) (k1 : Nat) (A1 : Nat → Int) : Sh_barbicanhelp_Ints_L0 → List L1 → List Value
  | .c0 s0_0, ls => [.slice a0 n0 (n0 + k0), .slice a1 n1 (n1 + k1), .bool false, .int .i64 (s0_0)]
def mf_barbicanhelp_Ints_L0 : Sh_barbicanhelp_Ints_L0 → List (Nat × Nat)
  | .c0 _ => [(2, 2), (2, 20)]
noncomputable def fr_barbicanhelp_Ints_L0 (a0 : Option Addr) (p0 : Nat) (q0 : Nat) (n0 : Nat) (k0 : Nat) (A0 : Nat → Int) (a1 : Option Addr) (p1 : Nat) (q1 : Nat) (n1 : Nat) (k1 : Nat) (A1 : Nat → Int) (s : Sh_barbicanhelp_Ints_L0) : List L1 → List Value := mrgF (mf_barbicanhelp_Ints_L0 s) (fl_barbicanhelp_Ints_L0 a0 p0 q0 n0 k0 A0 a1 p1 q1 n1 k1 A1 s) 0
def Hs_barbicanhelp_Ints_L0 (a0 : Option Addr) (p0 : Nat) (q0 : Nat) (n0 : Nat) (k0 : Nat) (A0 : Nat → Int) (a1 : Option Addr) (p1 : Nat) (q1 : Nat) (n1 : Nat) (k1 : Nat) (A1 : Nat → Int) : Sh_barbicanhelp_Ints_L0 → List L1 → List Obj
  | .c0 s0_0, ls => [unb]
def vl_barbicanhelp_Ints_L0 (a0 : Option Addr) (p0 : Nat) (q0 : Nat) (n0 : Nat) (k0 : Nat) (A0 : Nat → Int) (a1 : Option Addr) (p1 : Nat) (q1 : Nat) (n1 : Nat) (k1 : Nat) (A1 : Nat → Int) : Ex_barbicanhelp_Ints_L0 → List L1 → List Value
  | .e0 , ls => [.slice a0 n0 (n0 + k0), .slice a1 n1 (n1 + k1), .bool false]
  | .e1 , ls => [.slice a0 n0 (n0 + k0), .slice a1 n1 (n1 + k1), .bool false]
def mk_barbicanhelp_Ints_L0 : Ex_barbicanhelp_Ints_L0 → List (Nat × Nat)
  | .e0  => [(2, 2), (1, 21)]
  | .e1  => [(2, 2), (1, 21)]
noncomputable def vf_barbicanhelp_Ints_L0 (a0 : Option Addr) (p0 : Nat) (q0 : Nat) (n0 : Nat) (k0 : Nat) (A0 : Nat → Int) (a1 : Option Addr) (p1 : Nat) (q1 : Nat) (n1 : Nat) (k1 : Nat) (A1 : Nat → Int) (r : Ex_barbicanhelp_Ints_L0) : List L1 → List Value := mrgF (mk_barbicanhelp_Ints_L0 r) (vl_barbicanhelp_Ints_L0 a0 p0 q0 n0 k0 A0 a1 p1 q1 n1 k1 A1 r) 0
def Hf_barbicanhelp_Ints_L0 (a0 : Option Addr) (p0 : Nat) (q0 : Nat) (n0 : Nat) (k0 : Nat) (A0 : Nat → Int) (a1 : Option Addr) (p1 : Nat) (q1 : Nat) (n1 : Nat) (k1 : Nat) (A1 : Nat → Int) : Ex_barbicanhelp_Ints_L0 → List L1 → List Obj
  | .e0 , ls => [unb]
  | .e1 , ls => [unb]
def ex_barbicanhelp_Ints_L0 : Ex_barbicanhelp_Ints_L0 → Ex
  | .e0  => (.exit 0)
  | .e1  => .ret
section
variable {M : Nat → Prop} {B0 : Nat} {S : World → Prop} (hU : Up M B0 S) (a0 : Option Addr) (p0 : Nat) (q0 : Nat) (n0 : Nat) (k0 : Nat) (A0 : Nat → Int) (hR0 : Ro S cZ 1 a0 p0 q0 n0 A0) (a1 : Option Addr) (p1 : Nat) (q1 : Nat) (n1 : Nat) (k1 : Nat) (A1 : Nat → Int) (hR1 : Ro S cZ 1 a1 p1 q1 n1 A1)
include hU a0 p0 q0 n0 k0 A0 hR0 a1 p1 q1 n1 k1 A1 hR1
theorem go_barbicanhelp_Ints_L0 (s : Sh_barbicanhelp_Ints_L0) (r : Ex_barbicanhelp_Ints_L0) (h : lpO (st_barbicanhelp_Ints_L0 n0 A0 n1 A1) s = some r) : GoesG Try.prog M B0 S (.loop bd_barbicanhelp_Ints_L0) 1 (fr_barbicanhelp_Ints_L0 a0 p0 q0 n0 k0 A0 a1 p1 q1 n1 k1 A1 s) (Hs_barbicanhelp_Ints_L0 a0 p0 q0 n0 k0 A0 a1 p1 q1 n1 k1 A1 s) (ex_barbicanhelp_Ints_L0 r) 0 (vf_barbicanhelp_Ints_L0 a0 p0 q0 n0 k0 A0 a1 p1 q1 n1 k1 A1 r) (Hf_barbicanhelp_Ints_L0 a0 p0 q0 n0 k0 A0 a1 p1 q1 n1 k1 A1 r) 1 :=
  goes_lpO (fun s q e => by
    cases s with
    | c0 s0_0 =>
      unfold st_barbicanhelp_Ints_L0 at e
      dsimp only at e
      replace e := cond_eq_or e
      rcases e with ⟨hq0, e⟩ | ⟨hq0, e⟩
      · replace e := cond_eq_or e
        rcases e with ⟨hq1, e⟩ | ⟨hq1, e⟩
        · replace e := cond_eq_or e
          rcases e with ⟨hq2, e⟩ | ⟨hq2, e⟩
          · replace e := cond_eq_or e
            rcases e with ⟨hq3, e⟩ | ⟨hq3, e⟩
            · cases e; exact goes_runM hU [.o, .o, .o, .b (z_lssT hq0), .r [0, 1, 2, 3, 4, 5, 6, 7, 8] [] [], .o, .o, .q (ixRo_ok (kd := .i64) (T := 33) (x := s0_0) (sz := 1) rfl (fun w => by kernel_rfl) hR0 hq1), .l (accRo hR0 cZ_len (inR_nat hq1) 0 [.int .i64 ((A0 (s0_0).toNat))] rfl), .o, .o, .q (ixRo_ok (kd := .i64) (T := 33) (x := s0_0) (sz := 1) rfl (fun w => by kernel_rfl) hR1 hq2), .l (accRo hR1 cZ_len (inR_nat hq2) 0 [.int .i64 ((A1 (s0_0).toNat))] rfl), .b (z_neqT hq3), .o, .o, .o] [] (fun b => rfl) (by decide) rfl rfl (fun b => by kernel_rfl)
            · cases e; exact ⟨ne_ret, goes_runM hU [.o, .o, .o, .b (z_lssT hq0), .r [0, 1, 2, 3, 4, 5, 6, 7, 8] [] [], .o, .o, .q (ixRo_ok (kd := .i64) (T := 33) (x := s0_0) (sz := 1) rfl (fun w => by kernel_rfl) hR0 hq1), .l (accRo hR0 cZ_len (inR_nat hq1) 0 [.int .i64 ((A0 (s0_0).toNat))] rfl), .o, .o, .q (ixRo_ok (kd := .i64) (T := 33) (x := s0_0) (sz := 1) rfl (fun w => by kernel_rfl) hR1 hq2), .l (accRo hR1 cZ_len (inR_nat hq2) 0 [.int .i64 ((A1 (s0_0).toNat))] rfl), .b (z_neqF hq3), .o] [] (fun b => rfl) (by decide) rfl rfl (fun b => by kernel_rfl)⟩
          · exact none_some e
        · exact none_some e
      · cases e; exact ⟨ne_exit 0, goes_runM hU [.o, .o, .o, .b (z_lssF hq0)] [] (fun b => rfl) (by decide) rfl rfl (fun b => by kernel_rfl)⟩) s r h
noncomputable def t0_barbicanhelp_Ints_L0_0 (a0 : Option Addr) (p0 : Nat) (q0 : Nat) (n0 : Nat) (k0 : Nat) (A0 : Nat → Int) (a1 : Option Addr) (p1 : Nat) (q1 : Nat) (n1 : Nat) (k1 : Nat) (A1 : Nat → Int) (s0_0 : Int) (ls : List L1) : List Value := List.append [.slice a0 n0 (n0 + k0), .slice a1 n1 (n1 + k1), undef, undef, .bool false, .int .i64 (s0_0), .slice a0 n0 (n0 + k0), .int .i64 ((n0 : Int)), .slice a1 n1 (n1 + k1), .int .i64 ((n1 : Int)), .bool false] (und 15)
def pre_barbicanhelp_Ints_L0_0 (a0 : Option Addr) (p0 : Nat) (q0 : Nat) (n0 : Nat) (k0 : Nat) (A0 : Nat → Int) (a1 : Option Addr) (p1 : Nat) (q1 : Nat) (n1 : Nat) (k1 : Nat) (A1 : Nat → Int) (s0_0 : Int) (ls : List L1) : List Obj := []
theorem sp0_barbicanhelp_Ints_L0_0_ok (s0_0 : Int) (h : lpO (st_barbicanhelp_Ints_L0 n0 A0 n1 A1) (.c0 s0_0) = some (.e0 )) : SpcG Try.prog M B0 S ⟨fun ls => .code (.loop bd_barbicanhelp_Ints_L0) (t0_barbicanhelp_Ints_L0_0 a0 p0 q0 n0 k0 A0 a1 p1 q1 n1 k1 A1 s0_0 ls), pre_barbicanhelp_Ints_L0_0 a0 p0 q0 n0 k0 A0 a1 p1 q1 n1 k1 A1 s0_0, 1, (.exit 0), fun ls => vf_barbicanhelp_Ints_L0 a0 p0 q0 n0 k0 A0 a1 p1 q1 n1 k1 A1 (.e0 ) (ls.take 0 ++ ls.drop 0), fun ls => (Hf_barbicanhelp_Ints_L0 a0 p0 q0 n0 k0 A0 a1 p1 q1 n1 k1 A1 (.e0 ) (ls.take 0 ++ ls.drop 0)).take 0 ++ List.replicate 0 unb, fun ls => (Hf_barbicanhelp_Ints_L0 a0 p0 q0 n0 k0 A0 a1 p1 q1 n1 k1 A1 (.e0 ) (ls.take 0 ++ ls.drop 0)).drop 0⟩ :=
  spc_of_goesM hU 0 (k0 := 0) (go_barbicanhelp_Ints_L0 hU a0 p0 q0 n0 k0 A0 hR0 a1 p1 q1 n1 k1 A1 hR1 _ _ h) (t0_barbicanhelp_Ints_L0_0 a0 p0 q0 n0 k0 A0 a1 p1 q1 n1 k1 A1 s0_0) (pre_barbicanhelp_Ints_L0_0 a0 p0 q0 n0 k0 A0 a1 p1 q1 n1 k1 A1 s0_0) (fun _ => rfl) (fun ls h => by match ls, h with | [], _ => exact ⟨by kernel_rfl, by kernel_rfl⟩) (fun ls h => by match ls, h with | [], _ => rfl) (by decide) (by decide) (fun ls => rfl)
theorem sp1_barbicanhelp_Ints_L0_0_ok (s0_0 : Int) (h : lpO (st_barbicanhelp_Ints_L0 n0 A0 n1 A1) (.c0 s0_0) = some (.e1 )) : SpcG Try.prog M B0 S ⟨fun ls => .code (.loop bd_barbicanhelp_Ints_L0) (t0_barbicanhelp_Ints_L0_0 a0 p0 q0 n0 k0 A0 a1 p1 q1 n1 k1 A1 s0_0 ls), pre_barbicanhelp_Ints_L0_0 a0 p0 q0 n0 k0 A0 a1 p1 q1 n1 k1 A1 s0_0, 1, .ret, fun ls => vf_barbicanhelp_Ints_L0 a0 p0 q0 n0 k0 A0 a1 p1 q1 n1 k1 A1 (.e1 ) (ls.take 0 ++ ls.drop 0), fun ls => (Hf_barbicanhelp_Ints_L0 a0 p0 q0 n0 k0 A0 a1 p1 q1 n1 k1 A1 (.e1 ) (ls.take 0 ++ ls.drop 0)).take 0 ++ List.replicate 0 unb, fun ls => (Hf_barbicanhelp_Ints_L0 a0 p0 q0 n0 k0 A0 a1 p1 q1 n1 k1 A1 (.e1 ) (ls.take 0 ++ ls.drop 0)).drop 0⟩ :=
  spc_of_goesM hU 0 (k0 := 0) (go_barbicanhelp_Ints_L0 hU a0 p0 q0 n0 k0 A0 hR0 a1 p1 q1 n1 k1 A1 hR1 _ _ h) (t0_barbicanhelp_Ints_L0_0 a0 p0 q0 n0 k0 A0 a1 p1 q1 n1 k1 A1 s0_0) (pre_barbicanhelp_Ints_L0_0 a0 p0 q0 n0 k0 A0 a1 p1 q1 n1 k1 A1 s0_0) (fun _ => rfl) (fun ls h => by match ls, h with | [], _ => exact ⟨by kernel_rfl, by kernel_rfl⟩) (fun ls h => by match ls, h with | [], _ => rfl) (by decide) (by decide) (fun ls => rfl)
noncomputable def m_barbicanhelp_Ints (n0 : Nat) (A0 : Nat → Int) (n1 : Nat) (A1 : Nat → Int) : Option (Bool) :=
  bif (n0 : Int) == (n1 : Int) then
    ((lpO (st_barbicanhelp_Ints_L0 n0 A0 n1 A1) (.c0 0)).bind fun g0 => match g0 with
    | .e0  => (some true)
    | .e1  => (some false))
  else (some false)
theorem ok_barbicanhelp_Ints (r : Bool) (e : m_barbicanhelp_Ints n0 A0 n1 A1 = some r) : ConG Try.prog S 16 #[.slice a0 n0 (n0 + k0), .slice a1 n1 (n1 + k1)] (.bool (r)) := by
  unfold m_barbicanhelp_Ints at e
  replace e := cond_eq_or e
  rcases e with ⟨hq0, e⟩ | ⟨hq0, e⟩
  · replace e := bindO_eq e
    obtain ⟨g0, e_g0, e⟩ := e
    rcases g0 with _ | _
    · try dsimp only at e
      injection e with e; subst e; exact fn_conG hU (P := Try.prog) Try.func16 (fun xs w => by kernel_rfl) _ _ [.o, .o, .o, .o, .o, .b (z_neqT hq0), .o, .cp, .cx (sp0_barbicanhelp_Ints_L0_0_ok hU a0 p0 q0 n0 k0 A0 hR0 a1 p1 q1 n1 k1 A1 hR1 0  e_g0) [], .o] [] (fun b => by kernel_rfl)
    · try dsimp only at e
      injection e with e; subst e; exact fn_conG hU (P := Try.prog) Try.func16 (fun xs w => by kernel_rfl) _ _ [.o, .o, .o, .o, .o, .b (z_neqT hq0), .o, .cp, .cx (sp1_barbicanhelp_Ints_L0_0_ok hU a0 p0 q0 n0 k0 A0 hR0 a1 p1 q1 n1 k1 A1 hR1 0  e_g0) []] [] (fun b => by kernel_rfl)
  · injection e with e; subst e; exact fn_conG hU (P := Try.prog) Try.func16 (fun xs w => by kernel_rfl) _ _ [.o, .o, .o, .o, .o, .b (z_neqF hq0), .o] [] (fun b => by kernel_rfl)
noncomputable def m_barbicanlaw20_known  : Option (Bool) :=
  (m_opt_Trim 3 (fun k => if k = 0 then (⟨5#8, 0#8, 0#8, 0#16, 0#32⟩ : Insn) else if k = 1 then (⟨183#8, 0#8, 0#8, 0#16, 0#32⟩ : Insn) else (⟨149#8, 0#8, 0#8, 0#16, 0#32⟩ : Insn))).bind fun g0 => match g0 with
  | .e0 g0_0 g0_1 g0_2 g0_3 => (bif (g0_0 : Int) == 2 then
      (bif inR 0 g0_0 then
        (bif ((g0_1 0)).fOp == 183#8 then
          ((m_barbicanhelp_Ints g0_2 g0_3 2 (fun k => if k = 0 then 1 else 2)).bind fun r1 =>
          some r1)
        else (some false))
      else (none))
    else (some false))
  | .e1 g0_0 => (bif g0_0 == 0 then
      (some false)
    else (some false))
end
section
variable {M : Nat → Prop} {B0 : Nat} {S : World → Prop} (hU : Up M B0 S)
include hU
theorem ok_barbicanlaw20_known (r : Bool) (e : m_barbicanlaw20_known  = some r) : ConG Try.prog S 12 #[] (.bool (r)) := by
  unfold m_barbicanlaw20_known at e
  replace e := bindO_eq e
  obtain ⟨g0, e_g0, e⟩ := e
  rcases g0 with ⟨g0_0, g0_1, g0_2, g0_3⟩ | ⟨g0_0⟩
  · try dsimp only at e
    replace e := cond_eq_or e
    rcases e with ⟨hq0, e⟩ | ⟨hq0, e⟩
    · replace e := cond_eq_or e
      rcases e with ⟨hq1, e⟩ | ⟨hq1, e⟩
      · replace e := cond_eq_or e
        rcases e with ⟨hq2, e⟩ | ⟨hq2, e⟩
        · replace e := bindO_eq e
          obtain ⟨r1, e_r1, e⟩ := e
          try dsimp only at e
          injection e with e; subst e; exact fn_conG hU (P := Try.prog) Try.func12 (fun xs w => by kernel_rfl) _ _ [.o, .o, .o, .o, .o, .xg (SpcG.own hU (f := c_Insn) c_Insn_len 3 (fun k => if k = 0 then (⟨5#8, 0#8, 0#8, 0#16, 0#32⟩ : Insn) else if k = 1 then (⟨183#8, 0#8, 0#8, 0#16, 0#32⟩ : Insn) else (⟨149#8, 0#8, 0#8, 0#16, 0#32⟩ : Insn)) 40 (fun _ => []) (fun _ => 0) _ 2 .normal (by intros; rfl) (by intros; rfl) (by intros; rfl) (fun M0 B0 S0 x0 u0 v0 z0 hU0 hs0 hr0 => ok0_opt_Trim hU0 x0 u0 v0 3 z0 (fun k => if k = 0 then (⟨5#8, 0#8, 0#8, 0#16, 0#32⟩ : Insn) else if k = 1 then (⟨183#8, 0#8, 0#8, 0#16, 0#32⟩ : Insn) else (⟨149#8, 0#8, 0#8, 0#16, 0#32⟩ : Insn)) hr0 g0_0 g0_1 g0_2 g0_3 e_g0)) [0], .o, .o, .o, .o, .o, .o, .o, .o, .o, .o, .o, .o, .b (z_eqlT hq0), .o, .o, .o, .q (ixM_ok (kd := .i64) (T := 22) (x := 0) (N := g0_0) (sz := 5) rfl (fun w => by kernel_rfl) hq1), .o, .l (accG (i := 1) (f := c_Insn) (A := g0_1) (k := 0) 0 [.int .u8 (nn ((g0_1 0)).fOp)] c_Insn_len (inR_nat hq1) rfl), .t (u_eq ((g0_1 0)).fOp (183#8)) hq2, .o, .o, .o, .o, .xg (SpcG.own hU (f := cZ) cZ_len g0_2 g0_3 3 (fun l => padL l g0_2 1) (fun _ => 0) _ 0 .normal (by intros; rfl) (by intros; rfl) (by intros; rfl) (fun M0 B0 S0 x0 u0 v0 z0 hU0 hs0 hr0 => SpcG.own hU0 (f := cZ) cZ_len 2 (fun k => if k = 0 then 1 else 2) 3 (fun _ => []) (fun _ => 0) _ 0 .normal (by intros; rfl) (by intros; rfl) (by intros; rfl) (fun M1 B1 S1 x1 u1 v1 z1 hU1 hs1 hr1 => ConG.sp (ok_barbicanhelp_Ints hU1 x0 u0 v0 g0_2 z0 g0_3 (Ro.mono hr0 hs1) x1 u1 v1 2 z1 (fun k => if k = 0 then 1 else 2) hr1 r1 e_r1)))) [2, 3], .o, .o] [] (fun b => by kernel_rfl)
        · injection e with e; subst e; exact fn_conG hU (P := Try.prog) Try.func12 (fun xs w => by kernel_rfl) _ _ [.o, .o, .o, .o, .o, .xg (SpcG.own hU (f := c_Insn) c_Insn_len 3 (fun k => if k = 0 then (⟨5#8, 0#8, 0#8, 0#16, 0#32⟩ : Insn) else if k = 1 then (⟨183#8, 0#8, 0#8, 0#16, 0#32⟩ : Insn) else (⟨149#8, 0#8, 0#8, 0#16, 0#32⟩ : Insn)) 40 (fun _ => []) (fun _ => 0) _ 2 .normal (by intros; rfl) (by intros; rfl) (by intros; rfl) (fun M0 B0 S0 x0 u0 v0 z0 hU0 hs0 hr0 => ok0_opt_Trim hU0 x0 u0 v0 3 z0 (fun k => if k = 0 then (⟨5#8, 0#8, 0#8, 0#16, 0#32⟩ : Insn) else if k = 1 then (⟨183#8, 0#8, 0#8, 0#16, 0#32⟩ : Insn) else (⟨149#8, 0#8, 0#8, 0#16, 0#32⟩ : Insn)) hr0 g0_0 g0_1 g0_2 g0_3 e_g0)) [0], .o, .o, .o, .o, .o, .o, .o, .o, .o, .o, .o, .o, .b (z_eqlT hq0), .o, .o, .o, .q (ixM_ok (kd := .i64) (T := 22) (x := 0) (N := g0_0) (sz := 5) rfl (fun w => by kernel_rfl) hq1), .o, .l (accG (i := 1) (f := c_Insn) (A := g0_1) (k := 0) 0 [.int .u8 (nn ((g0_1 0)).fOp)] c_Insn_len (inR_nat hq1) rfl), .t (u_eq ((g0_1 0)).fOp (183#8)) hq2, .o, .o, .o, .o] [] (fun b => by kernel_rfl)
      · exact none_some e
    · injection e with e; subst e; exact fn_conG hU (P := Try.prog) Try.func12 (fun xs w => by kernel_rfl) _ _ [.o, .o, .o, .o, .o, .xg (SpcG.own hU (f := c_Insn) c_Insn_len 3 (fun k => if k = 0 then (⟨5#8, 0#8, 0#8, 0#16, 0#32⟩ : Insn) else if k = 1 then (⟨183#8, 0#8, 0#8, 0#16, 0#32⟩ : Insn) else (⟨149#8, 0#8, 0#8, 0#16, 0#32⟩ : Insn)) 40 (fun _ => []) (fun _ => 0) _ 2 .normal (by intros; rfl) (by intros; rfl) (by intros; rfl) (fun M0 B0 S0 x0 u0 v0 z0 hU0 hs0 hr0 => ok0_opt_Trim hU0 x0 u0 v0 3 z0 (fun k => if k = 0 then (⟨5#8, 0#8, 0#8, 0#16, 0#32⟩ : Insn) else if k = 1 then (⟨183#8, 0#8, 0#8, 0#16, 0#32⟩ : Insn) else (⟨149#8, 0#8, 0#8, 0#16, 0#32⟩ : Insn)) hr0 g0_0 g0_1 g0_2 g0_3 e_g0)) [0], .o, .o, .o, .o, .o, .o, .o, .o, .o, .o, .o, .o, .b (z_eqlF hq0), .o, .o, .o, .o, .o, .o] [] (fun b => by kernel_rfl)
  · try dsimp only at e
    replace e := cond_eq_or e
    rcases e with ⟨hq0, e⟩ | ⟨hq0, e⟩
    · injection e with e; subst e; exact fn_conG hU (P := Try.prog) Try.func12 (fun xs w => by kernel_rfl) _ _ [.o, .o, .o, .o, .o, .xg (SpcG.own hU (f := c_Insn) c_Insn_len 3 (fun k => if k = 0 then (⟨5#8, 0#8, 0#8, 0#16, 0#32⟩ : Insn) else if k = 1 then (⟨183#8, 0#8, 0#8, 0#16, 0#32⟩ : Insn) else (⟨149#8, 0#8, 0#8, 0#16, 0#32⟩ : Insn)) 40 (fun _ => []) (fun _ => 0) _ 0 .normal (by intros; rfl) (by intros; rfl) (by intros; rfl) (fun M0 B0 S0 x0 u0 v0 z0 hU0 hs0 hr0 => ok1_opt_Trim hU0 x0 u0 v0 3 z0 (fun k => if k = 0 then (⟨5#8, 0#8, 0#8, 0#16, 0#32⟩ : Insn) else if k = 1 then (⟨183#8, 0#8, 0#8, 0#16, 0#32⟩ : Insn) else (⟨149#8, 0#8, 0#8, 0#16, 0#32⟩ : Insn)) hr0 g0_0 e_g0)) [0], .o, .o, .o, .o, .o, .o, .o, .o, .b (z_eqlT hq0), .o, .o, .o, .o, .o, .o, .o, .o, .o, .o] [] (fun b => by kernel_rfl)
    · injection e with e; subst e; exact fn_conG hU (P := Try.prog) Try.func12 (fun xs w => by kernel_rfl) _ _ [.o, .o, .o, .o, .o, .xg (SpcG.own hU (f := c_Insn) c_Insn_len 3 (fun k => if k = 0 then (⟨5#8, 0#8, 0#8, 0#16, 0#32⟩ : Insn) else if k = 1 then (⟨183#8, 0#8, 0#8, 0#16, 0#32⟩ : Insn) else (⟨149#8, 0#8, 0#8, 0#16, 0#32⟩ : Insn)) 40 (fun _ => []) (fun _ => 0) _ 0 .normal (by intros; rfl) (by intros; rfl) (by intros; rfl) (fun M0 B0 S0 x0 u0 v0 z0 hU0 hs0 hr0 => ok1_opt_Trim hU0 x0 u0 v0 3 z0 (fun k => if k = 0 then (⟨5#8, 0#8, 0#8, 0#16, 0#32⟩ : Insn) else if k = 1 then (⟨183#8, 0#8, 0#8, 0#16, 0#32⟩ : Insn) else (⟨149#8, 0#8, 0#8, 0#16, 0#32⟩ : Insn)) hr0 g0_0 e_g0)) [0], .o, .o, .o, .o, .o, .o, .o, .o, .b (z_eqlF hq0), .o, .o, .o, .o, .o, .o, .o] [] (fun b => by kernel_rfl)
inductive Sh_barbicanhelp_Insns_L0 where
  | c0 (s0_0 : Int)
inductive Ex_barbicanhelp_Insns_L0 where
  | e0 
  | e1 
noncomputable def st_barbicanhelp_Insns_L0 (n0 : Nat) (A0 : Nat → Insn) (n1 : Nat) (A1 : Nat → Insn) : Sh_barbicanhelp_Insns_L0 → Option (Sh_barbicanhelp_Insns_L0 ⊕ Ex_barbicanhelp_Insns_L0)
  | .c0 s0_0 =>
    bif decide (s0_0 < (n0 : Int)) then
      (bif inR s0_0 n0 then
        (bif inR s0_0 n1 then
          (bif ((((A0 (s0_0).toNat)).fOp == ((A1 (s0_0).toNat)).fOp) && ((((A0 (s0_0).toNat)).fDst == ((A1 (s0_0).toNat)).fDst) && ((((A0 (s0_0).toNat)).fSrc == ((A1 (s0_0).toNat)).fSrc) && ((((A0 (s0_0).toNat)).fOff == ((A1 (s0_0).toNat)).fOff) && (((A0 (s0_0).toNat)).fImm == ((A1 (s0_0).toNat)).fImm))))) then
            (some (.inl (.c0 (IntKind.i64.wrap (s0_0 + 1)))))
          else (some (.inr (.e1 ))))
        else (none))
      else (none))
    else (some (.inr (.e0 )))
noncomputable def bd_barbicanhelp_Insns_L0 : Code := codeOf Try.f15 [1, 1, 0, 1, 0, 0]
def fl_barbicanhelp_Insns_L0 (a0 : Option Addr) (p0 : Nat) (q0 : Nat) (n0 : Nat) (k0 : Nat) (A0 : Nat → Insn) (a1 : Option Addr) (p1 : Nat) (q1 : Nat) (n1 : Nat) (k1 : Nat) (A1 : Nat → Insn) : Sh_barbicanhelp_Insns_L0 → List L1 → List Value
  | .c0 s0_0, ls => [.slice a0 n0 (n0 + k0), .slice a1 n1 (n1 + k1), .bool false, .int .i64 (s0_0)]
def mf_barbicanhelp_Insns_L0 : Sh_barbicanhelp_Insns_L0 → List (Nat × Nat)
  | .c0 _ => [(2, 2), (2, 20)]
noncomputable def fr_barbicanhelp_Insns_L0 (a0 : Option Addr) (p0 : Nat) (q0 : Nat) (n0 : Nat) (k0 : Nat) (A0 : Nat → Insn) (a1 : Option Addr) (p1 : Nat) (q1 : Nat) (n1 : Nat) (k1 : Nat) (A1 : Nat → Insn) (s : Sh_barbicanhelp_Insns_L0) : List L1 → List Value := mrgF (mf_barbicanhelp_Insns_L0 s) (fl_barbicanhelp_Insns_L0 a0 p0 q0 n0 k0 A0 a1 p1 q1 n1 k1 A1 s) 0
def Hs_barbicanhelp_Insns_L0 (a0 : Option Addr) (p0 : Nat) (q0 : Nat) (n0 : Nat) (k0 : Nat) (A0 : Nat → Insn) (a1 : Option Addr) (p1 : Nat) (q1 : Nat) (n1 : Nat) (k1 : Nat) (A1 : Nat → Insn) : Sh_barbicanhelp_Insns_L0 → List L1 → List Obj
  | .c0 s0_0, ls => [unb]
def vl_barbicanhelp_Insns_L0 (a0 : Option Addr) (p0 : Nat) (q0 : Nat) (n0 : Nat) (k0 : Nat) (A0 : Nat → Insn) (a1 : Option Addr) (p1 : Nat) (q1 : Nat) (n1 : Nat) (k1 : Nat) (A1 : Nat → Insn) : Ex_barbicanhelp_Insns_L0 → List L1 → List Value
  | .e0 , ls => [.slice a0 n0 (n0 + k0), .slice a1 n1 (n1 + k1), .bool false]
  | .e1 , ls => [.slice a0 n0 (n0 + k0), .slice a1 n1 (n1 + k1), .bool false]
def mk_barbicanhelp_Insns_L0 : Ex_barbicanhelp_Insns_L0 → List (Nat × Nat)
  | .e0  => [(2, 2), (1, 21)]
  | .e1  => [(2, 2), (1, 21)]
noncomputable def vf_barbicanhelp_Insns_L0 (a0 : Option Addr) (p0 : Nat) (q0 : Nat) (n0 : Nat) (k0 : Nat) (A0 : Nat → Insn) (a1 : Option Addr) (p1 : Nat) (q1 : Nat) (n1 : Nat) (k1 : Nat) (A1 : Nat → Insn) (r : Ex_barbicanhelp_Insns_L0) : List L1 → List Value := mrgF (mk_barbicanhelp_Insns_L0 r) (vl_barbicanhelp_Insns_L0 a0 p0 q0 n0 k0 A0 a1 p1 q1 n1 k1 A1 r) 0
def Hf_barbicanhelp_Insns_L0 (a0 : Option Addr) (p0 : Nat) (q0 : Nat) (n0 : Nat) (k0 : Nat) (A0 : Nat → Insn) (a1 : Option Addr) (p1 : Nat) (q1 : Nat) (n1 : Nat) (k1 : Nat) (A1 : Nat → Insn) : Ex_barbicanhelp_Insns_L0 → List L1 → List Obj
  | .e0 , ls => [unb]
  | .e1 , ls => [unb]
def ex_barbicanhelp_Insns_L0 : Ex_barbicanhelp_Insns_L0 → Ex
  | .e0  => (.exit 0)
  | .e1  => .ret
end
section
variable {M : Nat → Prop} {B0 : Nat} {S : World → Prop} (hU : Up M B0 S) (a0 : Option Addr) (p0 : Nat) (q0 : Nat) (n0 : Nat) (k0 : Nat) (A0 : Nat → Insn) (hR0 : Ro S c_Insn 5 a0 p0 q0 n0 A0) (a1 : Option Addr) (p1 : Nat) (q1 : Nat) (n1 : Nat) (k1 : Nat) (A1 : Nat → Insn) (hR1 : Ro S c_Insn 5 a1 p1 q1 n1 A1)
include hU a0 p0 q0 n0 k0 A0 hR0 a1 p1 q1 n1 k1 A1 hR1
theorem go_barbicanhelp_Insns_L0 (s : Sh_barbicanhelp_Insns_L0) (r : Ex_barbicanhelp_Insns_L0) (h : lpO (st_barbicanhelp_Insns_L0 n0 A0 n1 A1) s = some r) : GoesG Try.prog M B0 S (.loop bd_barbicanhelp_Insns_L0) 1 (fr_barbicanhelp_Insns_L0 a0 p0 q0 n0 k0 A0 a1 p1 q1 n1 k1 A1 s) (Hs_barbicanhelp_Insns_L0 a0 p0 q0 n0 k0 A0 a1 p1 q1 n1 k1 A1 s) (ex_barbicanhelp_Insns_L0 r) 0 (vf_barbicanhelp_Insns_L0 a0 p0 q0 n0 k0 A0 a1 p1 q1 n1 k1 A1 r) (Hf_barbicanhelp_Insns_L0 a0 p0 q0 n0 k0 A0 a1 p1 q1 n1 k1 A1 r) 1 :=
  goes_lpO (fun s q e => by
    cases s with
    | c0 s0_0 =>
      unfold st_barbicanhelp_Insns_L0 at e
      dsimp only at e
      replace e := cond_eq_or e
      rcases e with ⟨hq0, e⟩ | ⟨hq0, e⟩
      · replace e := cond_eq_or e
        rcases e with ⟨hq1, e⟩ | ⟨hq1, e⟩
        · replace e := cond_eq_or e
          rcases e with ⟨hq2, e⟩ | ⟨hq2, e⟩
          · replace e := cond_eq_or e
            rcases e with ⟨hq3, e⟩ | ⟨hq3, e⟩
            · cases e; exact goes_runM hU [.o, .o, .o, .b (z_lssT hq0), .r [0, 1, 2, 3, 4, 5, 6, 7, 8] [] [], .o, .o, .q (ixRo_ok (kd := .i64) (T := 22) (x := s0_0) (sz := 5) rfl (fun w => by kernel_rfl) hR0 hq1), .l (accRo hR0 c_Insn_len (inR_nat hq1) 0 [.int .u8 (nn ((A0 (s0_0).toNat)).fOp), .int .u8 (nn ((A0 (s0_0).toNat)).fDst), .int .u8 (nn ((A0 (s0_0).toNat)).fSrc), .int .i16 (ii ((A0 (s0_0).toNat)).fOff), .int .i32 (ii ((A0 (s0_0).toNat)).fImm)] rfl), .o, .o, .q (ixRo_ok (kd := .i64) (T := 22) (x := s0_0) (sz := 5) rfl (fun w => by kernel_rfl) hR1 hq2), .l (accRo hR1 c_Insn_len (inR_nat hq2) 0 [.int .u8 (nn ((A1 (s0_0).toNat)).fOp), .int .u8 (nn ((A1 (s0_0).toNat)).fDst), .int .u8 (nn ((A1 (s0_0).toNat)).fSrc), .int .i16 (ii ((A1 (s0_0).toNat)).fOff), .int .i32 (ii ((A1 (s0_0).toNat)).fImm)] rfl), .ov (fun w => (run_aggeq 40 #[.int .u8 (nn ((A0 (s0_0).toNat)).fOp), .int .u8 (nn ((A0 (s0_0).toNat)).fDst), .int .u8 (nn ((A0 (s0_0).toNat)).fSrc), .int .i16 (ii ((A0 (s0_0).toNat)).fOff), .int .i32 (ii ((A0 (s0_0).toNat)).fImm)] #[.int .u8 (nn ((A1 (s0_0).toNat)).fOp), .int .u8 (nn ((A1 (s0_0).toNat)).fDst), .int .u8 (nn ((A1 (s0_0).toNat)).fSrc), .int .i16 (ii ((A1 (s0_0).toNat)).fOff), .int .i32 (ii ((A1 (s0_0).toNat)).fImm)] true (by kernel_rfl) (fun w => (eqi40 9998 ((A0 (s0_0).toNat)).fOp ((A1 (s0_0).toNat)).fOp ((A0 (s0_0).toNat)).fDst ((A1 (s0_0).toNat)).fDst ((A0 (s0_0).toNat)).fSrc ((A1 (s0_0).toNat)).fSrc ((A0 (s0_0).toNat)).fOff ((A1 (s0_0).toNat)).fOff ((A0 (s0_0).toNat)).fImm ((A1 (s0_0).toNat)).fImm w).trans (congrArg (fun b => Result.ok b w) hq3)) (.tmp 20) (.tmp 24) w).2), .o, .o, .o] [] (fun b => rfl) (by decide) rfl rfl (fun b => by kernel_rfl)
            · cases e; exact ⟨ne_ret, goes_runM hU [.o, .o, .o, .b (z_lssT hq0), .r [0, 1, 2, 3, 4, 5, 6, 7, 8] [] [], .o, .o, .q (ixRo_ok (kd := .i64) (T := 22) (x := s0_0) (sz := 5) rfl (fun w => by kernel_rfl) hR0 hq1), .l (accRo hR0 c_Insn_len (inR_nat hq1) 0 [.int .u8 (nn ((A0 (s0_0).toNat)).fOp), .int .u8 (nn ((A0 (s0_0).toNat)).fDst), .int .u8 (nn ((A0 (s0_0).toNat)).fSrc), .int .i16 (ii ((A0 (s0_0).toNat)).fOff), .int .i32 (ii ((A0 (s0_0).toNat)).fImm)] rfl), .o, .o, .q (ixRo_ok (kd := .i64) (T := 22) (x := s0_0) (sz := 5) rfl (fun w => by kernel_rfl) hR1 hq2), .l (accRo hR1 c_Insn_len (inR_nat hq2) 0 [.int .u8 (nn ((A1 (s0_0).toNat)).fOp), .int .u8 (nn ((A1 (s0_0).toNat)).fDst), .int .u8 (nn ((A1 (s0_0).toNat)).fSrc), .int .i16 (ii ((A1 (s0_0).toNat)).fOff), .int .i32 (ii ((A1 (s0_0).toNat)).fImm)] rfl), .ov (fun w => (run_aggeq 40 #[.int .u8 (nn ((A0 (s0_0).toNat)).fOp), .int .u8 (nn ((A0 (s0_0).toNat)).fDst), .int .u8 (nn ((A0 (s0_0).toNat)).fSrc), .int .i16 (ii ((A0 (s0_0).toNat)).fOff), .int .i32 (ii ((A0 (s0_0).toNat)).fImm)] #[.int .u8 (nn ((A1 (s0_0).toNat)).fOp), .int .u8 (nn ((A1 (s0_0).toNat)).fDst), .int .u8 (nn ((A1 (s0_0).toNat)).fSrc), .int .i16 (ii ((A1 (s0_0).toNat)).fOff), .int .i32 (ii ((A1 (s0_0).toNat)).fImm)] false (by kernel_rfl) (fun w => (eqi40 9998 ((A0 (s0_0).toNat)).fOp ((A1 (s0_0).toNat)).fOp ((A0 (s0_0).toNat)).fDst ((A1 (s0_0).toNat)).fDst ((A0 (s0_0).toNat)).fSrc ((A1 (s0_0).toNat)).fSrc ((A0 (s0_0).toNat)).fOff ((A1 (s0_0).toNat)).fOff ((A0 (s0_0).toNat)).fImm ((A1 (s0_0).toNat)).fImm w).trans (congrArg (fun b => Result.ok b w) hq3)) (.tmp 20) (.tmp 24) w).2), .o] [] (fun b => rfl) (by decide) rfl rfl (fun b => by kernel_rfl)⟩
          · exact none_some e
        · exact none_some e
      · cases e; exact ⟨ne_exit 0, goes_runM hU [.o, .o, .o, .b (z_lssF hq0)] [] (fun b => rfl) (by decide) rfl rfl (fun b => by kernel_rfl)⟩) s r h
noncomputable def t0_barbicanhelp_Insns_L0_0 (a0 : Option Addr) (p0 : Nat) (q0 : Nat) (n0 : Nat) (k0 : Nat) (A0 : Nat → Insn) (a1 : Option Addr) (p1 : Nat) (q1 : Nat) (n1 : Nat) (k1 : Nat) (A1 : Nat → Insn) (s0_0 : Int) (ls : List L1) : List Value := List.append [.slice a0 n0 (n0 + k0), .slice a1 n1 (n1 + k1), undef, undef, .bool false, .int .i64 (s0_0), .slice a0 n0 (n0 + k0), .int .i64 ((n0 : Int)), .slice a1 n1 (n1 + k1), .int .i64 ((n1 : Int)), .bool false] (und 15)
def pre_barbicanhelp_Insns_L0_0 (a0 : Option Addr) (p0 : Nat) (q0 : Nat) (n0 : Nat) (k0 : Nat) (A0 : Nat → Insn) (a1 : Option Addr) (p1 : Nat) (q1 : Nat) (n1 : Nat) (k1 : Nat) (A1 : Nat → Insn) (s0_0 : Int) (ls : List L1) : List Obj := []
theorem sp0_barbicanhelp_Insns_L0_0_ok (s0_0 : Int) (h : lpO (st_barbicanhelp_Insns_L0 n0 A0 n1 A1) (.c0 s0_0) = some (.e0 )) : SpcG Try.prog M B0 S ⟨fun ls => .code (.loop bd_barbicanhelp_Insns_L0) (t0_barbicanhelp_Insns_L0_0 a0 p0 q0 n0 k0 A0 a1 p1 q1 n1 k1 A1 s0_0 ls), pre_barbicanhelp_Insns_L0_0 a0 p0 q0 n0 k0 A0 a1 p1 q1 n1 k1 A1 s0_0, 1, (.exit 0), fun ls => vf_barbicanhelp_Insns_L0 a0 p0 q0 n0 k0 A0 a1 p1 q1 n1 k1 A1 (.e0 ) (ls.take 0 ++ ls.drop 0), fun ls => (Hf_barbicanhelp_Insns_L0 a0 p0 q0 n0 k0 A0 a1 p1 q1 n1 k1 A1 (.e0 ) (ls.take 0 ++ ls.drop 0)).take 0 ++ List.replicate 0 unb, fun ls => (Hf_barbicanhelp_Insns_L0 a0 p0 q0 n0 k0 A0 a1 p1 q1 n1 k1 A1 (.e0 ) (ls.take 0 ++ ls.drop 0)).drop 0⟩ :=
  spc_of_goesM hU 0 (k0 := 0) (go_barbicanhelp_Insns_L0 hU a0 p0 q0 n0 k0 A0 hR0 a1 p1 q1 n1 k1 A1 hR1 _ _ h) (t0_barbicanhelp_Insns_L0_0 a0 p0 q0 n0 k0 A0 a1 p1 q1 n1 k1 A1 s0_0) (pre_barbicanhelp_Insns_L0_0 a0 p0 q0 n0 k0 A0 a1 p1 q1 n1 k1 A1 s0_0) (fun _ => rfl) (fun ls h => by match ls, h with | [], _ => exact ⟨by kernel_rfl, by kernel_rfl⟩) (fun ls h => by match ls, h with | [], _ => rfl) (by decide) (by decide) (fun ls => rfl)
theorem sp1_barbicanhelp_Insns_L0_0_ok (s0_0 : Int) (h : lpO (st_barbicanhelp_Insns_L0 n0 A0 n1 A1) (.c0 s0_0) = some (.e1 )) : SpcG Try.prog M B0 S ⟨fun ls => .code (.loop bd_barbicanhelp_Insns_L0) (t0_barbicanhelp_Insns_L0_0 a0 p0 q0 n0 k0 A0 a1 p1 q1 n1 k1 A1 s0_0 ls), pre_barbicanhelp_Insns_L0_0 a0 p0 q0 n0 k0 A0 a1 p1 q1 n1 k1 A1 s0_0, 1, .ret, fun ls => vf_barbicanhelp_Insns_L0 a0 p0 q0 n0 k0 A0 a1 p1 q1 n1 k1 A1 (.e1 ) (ls.take 0 ++ ls.drop 0), fun ls => (Hf_barbicanhelp_Insns_L0 a0 p0 q0 n0 k0 A0 a1 p1 q1 n1 k1 A1 (.e1 ) (ls.take 0 ++ ls.drop 0)).take 0 ++ List.replicate 0 unb, fun ls => (Hf_barbicanhelp_Insns_L0 a0 p0 q0 n0 k0 A0 a1 p1 q1 n1 k1 A1 (.e1 ) (ls.take 0 ++ ls.drop 0)).drop 0⟩ :=
  spc_of_goesM hU 0 (k0 := 0) (go_barbicanhelp_Insns_L0 hU a0 p0 q0 n0 k0 A0 hR0 a1 p1 q1 n1 k1 A1 hR1 _ _ h) (t0_barbicanhelp_Insns_L0_0 a0 p0 q0 n0 k0 A0 a1 p1 q1 n1 k1 A1 s0_0) (pre_barbicanhelp_Insns_L0_0 a0 p0 q0 n0 k0 A0 a1 p1 q1 n1 k1 A1 s0_0) (fun _ => rfl) (fun ls h => by match ls, h with | [], _ => exact ⟨by kernel_rfl, by kernel_rfl⟩) (fun ls h => by match ls, h with | [], _ => rfl) (by decide) (by decide) (fun ls => rfl)
noncomputable def m_barbicanhelp_Insns (n0 : Nat) (A0 : Nat → Insn) (n1 : Nat) (A1 : Nat → Insn) : Option (Bool) :=
  bif (n0 : Int) == (n1 : Int) then
    ((lpO (st_barbicanhelp_Insns_L0 n0 A0 n1 A1) (.c0 0)).bind fun g0 => match g0 with
    | .e0  => (some true)
    | .e1  => (some false))
  else (some false)
theorem ok_barbicanhelp_Insns (r : Bool) (e : m_barbicanhelp_Insns n0 A0 n1 A1 = some r) : ConG Try.prog S 15 #[.slice a0 n0 (n0 + k0), .slice a1 n1 (n1 + k1)] (.bool (r)) := by
  unfold m_barbicanhelp_Insns at e
  replace e := cond_eq_or e
  rcases e with ⟨hq0, e⟩ | ⟨hq0, e⟩
  · replace e := bindO_eq e
    obtain ⟨g0, e_g0, e⟩ := e
    rcases g0 with _ | _
    · try dsimp only at e
      injection e with e; subst e; exact fn_conG hU (P := Try.prog) Try.func15 (fun xs w => by kernel_rfl) _ _ [.o, .o, .o, .o, .o, .b (z_neqT hq0), .o, .cp, .cx (sp0_barbicanhelp_Insns_L0_0_ok hU a0 p0 q0 n0 k0 A0 hR0 a1 p1 q1 n1 k1 A1 hR1 0  e_g0) [], .o] [] (fun b => by kernel_rfl)
    · try dsimp only at e
      injection e with e; subst e; exact fn_conG hU (P := Try.prog) Try.func15 (fun xs w => by kernel_rfl) _ _ [.o, .o, .o, .o, .o, .b (z_neqT hq0), .o, .cp, .cx (sp1_barbicanhelp_Insns_L0_0_ok hU a0 p0 q0 n0 k0 A0 hR0 a1 p1 q1 n1 k1 A1 hR1 0  e_g0) []] [] (fun b => by kernel_rfl)
  · injection e with e; subst e; exact fn_conG hU (P := Try.prog) Try.func15 (fun xs w => by kernel_rfl) _ _ [.o, .o, .o, .o, .o, .b (z_neqF hq0), .o] [] (fun b => by kernel_rfl)
inductive Sh_barbicanlaw20_OptChains_L0 where
  | c0 
  | c1 (s0_0 : Nat) (s0_1 : Nat → Insn) (s0_2 : Int)
inductive Ex_barbicanlaw20_OptChains_L0 where
  | e0 
  | e1 (c1_0 : Nat) (c1_1 : Nat → Insn)
noncomputable def st_barbicanlaw20_OptChains_L0 (y0 : Int) : Sh_barbicanlaw20_OptChains_L0 → Option (Sh_barbicanlaw20_OptChains_L0 ⊕ Ex_barbicanlaw20_OptChains_L0)
  | .c0  =>
    bif decide (0 < y0) then
      (some (.inl (.c1 1 (fun _ => (⟨5#8, 0#8, 0#8, 0#16, 0#32⟩ : Insn)) 1)))
    else (some (.inr (.e0 )))
  | .c1 s0_0 s0_1 s0_2 =>
    bif decide (s0_2 < y0) then
      (bif decide (s0_0 ≤ 1000000) then
        (some (.inl (.c1 (s0_0 + 1) (updF s0_1 s0_0 (⟨5#8, 0#8, 0#8, 0#16, 0#32⟩ : Insn)) (IntKind.i64.wrap (s0_2 + 1)))))
      else (none))
    else (some (.inr (.e1 s0_0 s0_1)))
noncomputable def bd_barbicanlaw20_OptChains_L0 : Code := codeOf Try.f4 [1, 1, 1, 1, 0, 1, 0, 0]
def fl_barbicanlaw20_OptChains_L0 (y0 : Int) : Sh_barbicanlaw20_OptChains_L0 → List L1 → List Value
  | .c0 , ls => [.int .i64 (y0), .bool false, .slice none 0 0, .int .i64 (0)]
  | .c1 s0_0 s0_1 s0_2, ls => [.int .i64 (y0), .bool false, (rowV (lget ls 0) s0_0 5), .int .i64 (s0_2)]
def mf_barbicanlaw20_OptChains_L0 : Sh_barbicanlaw20_OptChains_L0 → List (Nat × Nat)
  | .c0  => [(1, 1), (3, 85)]
  | .c1 _ _ _ => [(1, 1), (3, 85)]
noncomputable def fr_barbicanlaw20_OptChains_L0 (y0 : Int) (s : Sh_barbicanlaw20_OptChains_L0) : List L1 → List Value := mrgF (mf_barbicanlaw20_OptChains_L0 s) (fl_barbicanlaw20_OptChains_L0 y0 s) 1
def Hs_barbicanlaw20_OptChains_L0 (y0 : Int) : Sh_barbicanlaw20_OptChains_L0 → List L1 → List Obj
  | .c0 , ls => [unb, unb]
  | .c1 s0_0 s0_1 s0_2, ls => [rowO (lget ls 0) (esG c_Insn s0_0 s0_1) 40 s0_0 5, unb]
def vl_barbicanlaw20_OptChains_L0 (y0 : Int) : Ex_barbicanlaw20_OptChains_L0 → List L1 → List Value
  | .e0 , ls => [.int .i64 (y0), .bool false, .slice none 0 0]
  | .e1 c1_0 c1_1, ls => [.int .i64 (y0), .bool false, (rowV (lget ls 0) c1_0 5)]
def mk_barbicanlaw20_OptChains_L0 : Ex_barbicanlaw20_OptChains_L0 → List (Nat × Nat)
  | .e0  => [(1, 1), (2, 86)]
  | .e1 _ _ => [(1, 1), (2, 86)]
noncomputable def vf_barbicanlaw20_OptChains_L0 (y0 : Int) (r : Ex_barbicanlaw20_OptChains_L0) : List L1 → List Value := mrgF (mk_barbicanlaw20_OptChains_L0 r) (vl_barbicanlaw20_OptChains_L0 y0 r) 1
def Hf_barbicanlaw20_OptChains_L0 (y0 : Int) : Ex_barbicanlaw20_OptChains_L0 → List L1 → List Obj
  | .e0 , ls => [unb, unb]
  | .e1 c1_0 c1_1, ls => [rowO (lget ls 0) (esG c_Insn c1_0 c1_1) 40 c1_0 5, unb]
def ex_barbicanlaw20_OptChains_L0 : Ex_barbicanlaw20_OptChains_L0 → Ex
  | .e0  => (.exit 0)
  | .e1 _ _ => (.exit 0)
end
section
variable {M : Nat → Prop} {B0 : Nat} {S : World → Prop} (hU : Up M B0 S) (y0 : Int)
include hU y0
theorem go_barbicanlaw20_OptChains_L0 (s : Sh_barbicanlaw20_OptChains_L0) (r : Ex_barbicanlaw20_OptChains_L0) (h : lpO (st_barbicanlaw20_OptChains_L0 y0) s = some r) : GoesG Try.prog M B0 S (.loop bd_barbicanlaw20_OptChains_L0) 2 (fr_barbicanlaw20_OptChains_L0 y0 s) (Hs_barbicanlaw20_OptChains_L0 y0 s) (ex_barbicanlaw20_OptChains_L0 r) 0 (vf_barbicanlaw20_OptChains_L0 y0 r) (Hf_barbicanlaw20_OptChains_L0 y0 r) 2 :=
  goes_lpO (fun s q e => by
    cases s with
    | c0  =>
      unfold st_barbicanlaw20_OptChains_L0 at e
      dsimp only at e
      replace e := cond_eq_or e
      rcases e with ⟨hq0, e⟩ | ⟨hq0, e⟩
      · cases e; exact goes_runM hU [.o, .o, .b (z_lssT hq0), .o, .o, .o, .x (sqAppL1_ok (ty := 22) rt22 #[false, false] (f := c_Insn) (c := 1) (⟨5#8, 0#8, 0#8, 0#16, 0#32⟩ : Insn) (T' := 40) c_Insn_len c_Insn_one (by decide)) [2], .o, .o, .o, .o] [3] (fun b => rfl) (by decide) rfl rfl (fun b => by kernel_rfl)
      · cases e; exact ⟨ne_exit 0, goes_runM hU [.o, .o, .b (z_lssF hq0)] [0] (fun b => rfl) (by decide) rfl rfl (fun b => by kernel_rfl)⟩
    | c1 s0_0 s0_1 s0_2 =>
      unfold st_barbicanlaw20_OptChains_L0 at e
      dsimp only at e
      replace e := cond_eq_or e
      rcases e with ⟨hq0, e⟩ | ⟨hq0, e⟩
      · replace e := cond_eq_or e
        rcases e with ⟨hq1, e⟩ | ⟨hq1, e⟩
        · cases e; exact goes_runM hU [.o, .o, .b (z_lssT hq0), .o, .o, .o, .x (sqAppL_ok (ty := 22) rt22 #[false, false] (f := c_Insn) (N := s0_0) (A := s0_1) (c := 1) [(⟨5#8, 0#8, 0#8, 0#16, 0#32⟩ : Insn)] (T' := 40) .row c_Insn_len c_Insn_one hq1 rfl (by decide)) [0, 2], .o, .o, .o, .o] [3] (fun b => rfl) (by decide) rfl rfl (fun b => by kernel_rfl)
        · exact none_some e
      · cases e; exact ⟨ne_exit 0, goes_runM hU [.o, .o, .b (z_lssF hq0)] [0] (fun b => rfl) (by decide) rfl rfl (fun b => by kernel_rfl)⟩) s r h
noncomputable def t0_barbicanlaw20_OptChains_L0_0 (y0 : Int)  (ls : List L1) : List Value := List.append [.int .i64 (y0), undef, .bool false, .slice none 0 0, .int .i64 (0)] (List.append (und 6) (List.append [.bool true, .bool false, .int .i64 (y0), .bool false, .bool false, .int .i64 (y0), .bool false, .bool false] (und 71)))
def pre_barbicanlaw20_OptChains_L0_0 (y0 : Int)  (ls : List L1) : List Obj := []
theorem sp0_barbicanlaw20_OptChains_L0_0_ok (h : lpO (st_barbicanlaw20_OptChains_L0 y0) (.c0) = some (.e0 )) : SpcG Try.prog M B0 S ⟨fun ls => .code (.loop bd_barbicanlaw20_OptChains_L0) (t0_barbicanlaw20_OptChains_L0_0 y0  ls), pre_barbicanlaw20_OptChains_L0_0 y0 , 2, (.exit 0), fun ls => vf_barbicanlaw20_OptChains_L0 y0 (.e0 ) (ls.take 0 ++ ls.drop 0), fun ls => (Hf_barbicanlaw20_OptChains_L0 y0 (.e0 ) (ls.take 0 ++ ls.drop 0)).take 0 ++ List.replicate 0 unb, fun ls => (Hf_barbicanlaw20_OptChains_L0 y0 (.e0 ) (ls.take 0 ++ ls.drop 0)).drop 0⟩ :=
  spc_of_goesM hU 1 (k0 := 0) (go_barbicanlaw20_OptChains_L0 hU y0 _ _ h) (t0_barbicanlaw20_OptChains_L0_0 y0 ) (pre_barbicanlaw20_OptChains_L0_0 y0 ) (fun _ => rfl) (fun ls h => by match ls, h with | [], _ => exact ⟨by kernel_rfl, by kernel_rfl⟩) (fun ls h => by match ls, h with | [], _ => rfl) (by decide) (by decide) (fun ls => rfl)
theorem sp1_barbicanlaw20_OptChains_L0_0_ok (c1_0 : Nat) (c1_1 : Nat → Insn) (h : lpO (st_barbicanlaw20_OptChains_L0 y0) (.c0) = some (.e1 c1_0 c1_1)) : SpcG Try.prog M B0 S ⟨fun ls => .code (.loop bd_barbicanlaw20_OptChains_L0) (t0_barbicanlaw20_OptChains_L0_0 y0  ls), pre_barbicanlaw20_OptChains_L0_0 y0 , 2, (.exit 0), fun ls => vf_barbicanlaw20_OptChains_L0 y0 (.e1 c1_0 c1_1) (ls.take 0 ++ ls.drop 0), fun ls => (Hf_barbicanlaw20_OptChains_L0 y0 (.e1 c1_0 c1_1) (ls.take 0 ++ ls.drop 0)).take 0 ++ List.replicate 0 unb, fun ls => (Hf_barbicanlaw20_OptChains_L0 y0 (.e1 c1_0 c1_1) (ls.take 0 ++ ls.drop 0)).drop 0⟩ :=
  spc_of_goesM hU 1 (k0 := 0) (go_barbicanlaw20_OptChains_L0 hU y0 _ _ h) (t0_barbicanlaw20_OptChains_L0_0 y0 ) (pre_barbicanlaw20_OptChains_L0_0 y0 ) (fun _ => rfl) (fun ls h => by match ls, h with | [], _ => exact ⟨by kernel_rfl, by kernel_rfl⟩) (fun ls h => by match ls, h with | [], _ => rfl) (by decide) (by decide) (fun ls => rfl)
inductive Sh_barbicanlaw20_OptChains_L1 where
  | c0 (s0_0 : Int)
inductive Ex_barbicanlaw20_OptChains_L1 where
  | e0 (c0_0 : Int)
  | e1 (c1_0 : Int)
noncomputable def st_barbicanlaw20_OptChains_L1 (y0 : Int) (g4_0 : Nat → Insn) : Sh_barbicanlaw20_OptChains_L1 → Option (Sh_barbicanlaw20_OptChains_L1 ⊕ Ex_barbicanlaw20_OptChains_L1)
  | .c0 s0_0 =>
    bif decide (s0_0 < y0) then
      (bif inR s0_0 2 then
        (bif ((((g4_0 (s0_0).toNat)).fOp == 5#8) && ((((g4_0 (s0_0).toNat)).fDst == 0#8) && ((((g4_0 (s0_0).toNat)).fSrc == 0#8) && ((((g4_0 (s0_0).toNat)).fOff == (BitVec.ofInt 16 (IntKind.i64.wrap ((IntKind.i64.wrap (y0 - s0_0)) - 1)))) && (((g4_0 (s0_0).toNat)).fImm == 0#32))))) then
          (some (.inl (.c0 (IntKind.i64.wrap (s0_0 + 1)))))
        else (some (.inr (.e1 (IntKind.i64.wrap (y0 + 1))))))
      else (none))
    else (some (.inr (.e0 (IntKind.i64.wrap (y0 + 1)))))
noncomputable def bd_barbicanlaw20_OptChains_L1 : Code := codeOf Try.f4 [1, 1, 1, 1, 1, 1, 1, 1, 1, 0, 1, 0, 0]
def fl_barbicanlaw20_OptChains_L1 (y0 : Int) (r2 : Nat → Insn) (g3_0 : Nat) (g3_1 : Nat → Insn) (g3_2 : Nat) (g3_3 : Nat → Int) (g4_0 : Nat → Insn) : Sh_barbicanlaw20_OptChains_L1 → List L1 → List Value
  | .c0 s0_0, ls => [.int .i64 (y0), .bool false, (rowV (lget ls 6) 2 5), .int .i64 (s0_0)]
def mf_barbicanlaw20_OptChains_L1 : Sh_barbicanlaw20_OptChains_L1 → List (Nat × Nat)
  | .c0 _ => [(1, 1), (1, 5), (1, 1), (1, 79)]
noncomputable def fr_barbicanlaw20_OptChains_L1 (y0 : Int) (r2 : Nat → Insn) (g3_0 : Nat) (g3_1 : Nat → Insn) (g3_2 : Nat) (g3_3 : Nat → Int) (g4_0 : Nat → Insn) (s : Sh_barbicanlaw20_OptChains_L1) : List L1 → List Value := mrgF (mf_barbicanlaw20_OptChains_L1 s) (fl_barbicanlaw20_OptChains_L1 y0 r2 g3_0 g3_1 g3_2 g3_3 g4_0 s) 8
def Hs_barbicanlaw20_OptChains_L1 (y0 : Int) (r2 : Nat → Insn) (g3_0 : Nat) (g3_1 : Nat → Insn) (g3_2 : Nat) (g3_3 : Nat → Int) (g4_0 : Nat → Insn) : Sh_barbicanlaw20_OptChains_L1 → List L1 → List Obj
  | .c0 s0_0, ls => [unb, unb, .cells #[.int .u8 (183), .int .u8 (0), .int .u8 (0), .int .i16 (0), .int .i32 (3), .int .u8 (149), .int .u8 (0), .int .u8 (0), .int .i16 (0), .int .i32 (0)] 40, rowO (lget ls 3) (esG c_Insn 2 r2) 40 2 5, rowO (lget ls 4) (esG c_Insn g3_0 g3_1) 40 g3_0 5, rowO (lget ls 5) (esG cZ g3_2 g3_3) 3 g3_2 1, rowO (lget ls 6) (esG c_Insn 2 g4_0) 40 2 5, .cells #[.int .i64 (y0), .int .i64 ((IntKind.i64.wrap (y0 + 1)))] 3, unb]
def vl_barbicanlaw20_OptChains_L1 (y0 : Int) (r2 : Nat → Insn) (g3_0 : Nat) (g3_1 : Nat → Insn) (g3_2 : Nat) (g3_3 : Nat → Int) (g4_0 : Nat → Insn) : Ex_barbicanlaw20_OptChains_L1 → List L1 → List Value
  | .e0 c0_0, ls => [.int .i64 (y0), .bool false, (rowV (lget ls 6) 2 5)]
  | .e1 c1_0, ls => [.int .i64 (y0), .bool false, (rowV (lget ls 6) 2 5)]
def mk_barbicanlaw20_OptChains_L1 : Ex_barbicanlaw20_OptChains_L1 → List (Nat × Nat)
  | .e0 _ => [(1, 1), (1, 5), (1, 81)]
  | .e1 _ => [(1, 1), (1, 5), (1, 81)]
noncomputable def vf_barbicanlaw20_OptChains_L1 (y0 : Int) (r2 : Nat → Insn) (g3_0 : Nat) (g3_1 : Nat → Insn) (g3_2 : Nat) (g3_3 : Nat → Int) (g4_0 : Nat → Insn) (r : Ex_barbicanlaw20_OptChains_L1) : List L1 → List Value := mrgF (mk_barbicanlaw20_OptChains_L1 r) (vl_barbicanlaw20_OptChains_L1 y0 r2 g3_0 g3_1 g3_2 g3_3 g4_0 r) 8
def Hf_barbicanlaw20_OptChains_L1 (y0 : Int) (r2 : Nat → Insn) (g3_0 : Nat) (g3_1 : Nat → Insn) (g3_2 : Nat) (g3_3 : Nat → Int) (g4_0 : Nat → Insn) : Ex_barbicanlaw20_OptChains_L1 → List L1 → List Obj
  | .e0 c0_0, ls => [unb, unb, .cells #[.int .u8 (183), .int .u8 (0), .int .u8 (0), .int .i16 (0), .int .i32 (3), .int .u8 (149), .int .u8 (0), .int .u8 (0), .int .i16 (0), .int .i32 (0)] 40, rowO (lget ls 3) (esG c_Insn 2 r2) 40 2 5, rowO (lget ls 4) (esG c_Insn g3_0 g3_1) 40 g3_0 5, rowO (lget ls 5) (esG cZ g3_2 g3_3) 3 g3_2 1, rowO (lget ls 6) (esG c_Insn 2 g4_0) 40 2 5, .cells #[.int .i64 (y0), .int .i64 (c0_0)] 3, unb]
  | .e1 c1_0, ls => [unb, unb, .cells #[.int .u8 (183), .int .u8 (0), .int .u8 (0), .int .i16 (0), .int .i32 (3), .int .u8 (149), .int .u8 (0), .int .u8 (0), .int .i16 (0), .int .i32 (0)] 40, rowO (lget ls 3) (esG c_Insn 2 r2) 40 2 5, rowO (lget ls 4) (esG c_Insn g3_0 g3_1) 40 g3_0 5, rowO (lget ls 5) (esG cZ g3_2 g3_3) 3 g3_2 1, rowO (lget ls 6) (esG c_Insn 2 g4_0) 40 2 5, .cells #[.int .i64 (y0), .int .i64 (c1_0)] 3, unb]
def ex_barbicanlaw20_OptChains_L1 : Ex_barbicanlaw20_OptChains_L1 → Ex
  | .e0 _ => (.exit 2)
  | .e1 _ => .ret
end
section
variable {M : Nat → Prop} {B0 : Nat} {S : World → Prop} (hU : Up M B0 S) (y0 : Int) (r2 : Nat → Insn) (g3_0 : Nat) (g3_1 : Nat → Insn) (g3_2 : Nat) (g3_3 : Nat → Int) (g4_0 : Nat → Insn)
include hU y0 r2 g3_0 g3_1 g3_2 g3_3 g4_0
theorem go_barbicanlaw20_OptChains_L1 (s : Sh_barbicanlaw20_OptChains_L1) (r : Ex_barbicanlaw20_OptChains_L1) (h : lpO (st_barbicanlaw20_OptChains_L1 y0 g4_0) s = some r) : GoesG Try.prog M B0 S (.loop bd_barbicanlaw20_OptChains_L1) 9 (fr_barbicanlaw20_OptChains_L1 y0 r2 g3_0 g3_1 g3_2 g3_3 g4_0 s) (Hs_barbicanlaw20_OptChains_L1 y0 r2 g3_0 g3_1 g3_2 g3_3 g4_0 s) (ex_barbicanlaw20_OptChains_L1 r) 8 (vf_barbicanlaw20_OptChains_L1 y0 r2 g3_0 g3_1 g3_2 g3_3 g4_0 r) (Hf_barbicanlaw20_OptChains_L1 y0 r2 g3_0 g3_1 g3_2 g3_3 g4_0 r) 9 :=
  goes_lpO (fun s q e => by
    cases s with
    | c0 s0_0 =>
      unfold st_barbicanlaw20_OptChains_L1 at e
      dsimp only at e
      replace e := cond_eq_or e
      rcases e with ⟨hq0, e⟩ | ⟨hq0, e⟩
      · replace e := cond_eq_or e
        rcases e with ⟨hq1, e⟩ | ⟨hq1, e⟩
        · replace e := cond_eq_or e
          rcases e with ⟨hq2, e⟩ | ⟨hq2, e⟩
          · cases e; exact goes_runM hU [.o, .o, .b (z_lssT hq0), .o, .o, .q (ixM_ok (kd := .i64) (T := 22) (x := s0_0) (N := 2) (sz := 5) rfl (fun w => by kernel_rfl) hq1), .l (accG (i := 6) (f := c_Insn) (A := g4_0) (k := (s0_0).toNat) 0 [.int .u8 (nn ((g4_0 (s0_0).toNat)).fOp), .int .u8 (nn ((g4_0 (s0_0).toNat)).fDst), .int .u8 (nn ((g4_0 (s0_0).toNat)).fSrc), .int .i16 (ii ((g4_0 (s0_0).toNat)).fOff), .int .i32 (ii ((g4_0 (s0_0).toNat)).fImm)] c_Insn_len (inR_nat hq1) rfl), .o, .o, .o, .o, .v .i16 (i16_of_z (IntKind.i64.wrap ((IntKind.i64.wrap (y0 - s0_0)) - 1))), .o, .ov (fun w => (run_aggeq 40 #[.int .u8 (nn ((g4_0 (s0_0).toNat)).fOp), .int .u8 (nn ((g4_0 (s0_0).toNat)).fDst), .int .u8 (nn ((g4_0 (s0_0).toNat)).fSrc), .int .i16 (ii ((g4_0 (s0_0).toNat)).fOff), .int .i32 (ii ((g4_0 (s0_0).toNat)).fImm)] #[.int .u8 (5), .int .u8 (0), .int .u8 (0), .int .i16 (ii (BitVec.ofInt 16 (IntKind.i64.wrap ((IntKind.i64.wrap (y0 - s0_0)) - 1)))), .int .i32 (0)] true (by kernel_rfl) (fun w => (eqi40 9998 ((g4_0 (s0_0).toNat)).fOp (5#8) ((g4_0 (s0_0).toNat)).fDst (0#8) ((g4_0 (s0_0).toNat)).fSrc (0#8) ((g4_0 (s0_0).toNat)).fOff (BitVec.ofInt 16 (IntKind.i64.wrap ((IntKind.i64.wrap (y0 - s0_0)) - 1))) ((g4_0 (s0_0).toNat)).fImm (0#32) w).trans (congrArg (fun b => Result.ok b w) hq2)) (.tmp 82) (.tmp 88) w).2), .o, .o, .o] [0, 1, 2, 3, 4, 5, 6, 7] (fun b => rfl) (by decide) rfl rfl (fun b => by kernel_rfl)
          · cases e; exact ⟨ne_ret, goes_runM hU [.o, .o, .b (z_lssT hq0), .o, .o, .q (ixM_ok (kd := .i64) (T := 22) (x := s0_0) (N := 2) (sz := 5) rfl (fun w => by kernel_rfl) hq1), .l (accG (i := 6) (f := c_Insn) (A := g4_0) (k := (s0_0).toNat) 0 [.int .u8 (nn ((g4_0 (s0_0).toNat)).fOp), .int .u8 (nn ((g4_0 (s0_0).toNat)).fDst), .int .u8 (nn ((g4_0 (s0_0).toNat)).fSrc), .int .i16 (ii ((g4_0 (s0_0).toNat)).fOff), .int .i32 (ii ((g4_0 (s0_0).toNat)).fImm)] c_Insn_len (inR_nat hq1) rfl), .o, .o, .o, .o, .v .i16 (i16_of_z (IntKind.i64.wrap ((IntKind.i64.wrap (y0 - s0_0)) - 1))), .o, .ov (fun w => (run_aggeq 40 #[.int .u8 (nn ((g4_0 (s0_0).toNat)).fOp), .int .u8 (nn ((g4_0 (s0_0).toNat)).fDst), .int .u8 (nn ((g4_0 (s0_0).toNat)).fSrc), .int .i16 (ii ((g4_0 (s0_0).toNat)).fOff), .int .i32 (ii ((g4_0 (s0_0).toNat)).fImm)] #[.int .u8 (5), .int .u8 (0), .int .u8 (0), .int .i16 (ii (BitVec.ofInt 16 (IntKind.i64.wrap ((IntKind.i64.wrap (y0 - s0_0)) - 1)))), .int .i32 (0)] false (by kernel_rfl) (fun w => (eqi40 9998 ((g4_0 (s0_0).toNat)).fOp (5#8) ((g4_0 (s0_0).toNat)).fDst (0#8) ((g4_0 (s0_0).toNat)).fSrc (0#8) ((g4_0 (s0_0).toNat)).fOff (BitVec.ofInt 16 (IntKind.i64.wrap ((IntKind.i64.wrap (y0 - s0_0)) - 1))) ((g4_0 (s0_0).toNat)).fImm (0#32) w).trans (congrArg (fun b => Result.ok b w) hq2)) (.tmp 82) (.tmp 88) w).2), .o] [0, 1, 2, 3, 4, 5, 6, 7] (fun b => rfl) (by decide) rfl rfl (fun b => by kernel_rfl)⟩
        · exact none_some e
      · cases e; exact ⟨ne_exit 2, goes_runM hU [.o, .o, .b (z_lssF hq0)] [0, 1, 2, 3, 4, 5, 6, 7] (fun b => rfl) (by decide) rfl rfl (fun b => by kernel_rfl)⟩) s r h
noncomputable def t0_barbicanlaw20_OptChains_L1_0 (y0 : Int) (r2 : Nat → Insn) (g3_0 : Nat) (g3_1 : Nat → Insn) (g3_2 : Nat) (g3_3 : Nat → Int) (g4_0 : Nat → Insn) (s0_0 : Int) (ls : List L1) : List Value := List.append [.int .i64 (y0), ((lget ls 1).u 1), .bool false, (rowV (lget ls 3) 2 5), ((lget ls 1).u 4), (rowCV .cap (lget ls 4) g3_0 5), (rowCV .cap (lget ls 5) g3_2 1), .int .i64 (0), (rowV (lget ls 6) 2 5), .int .i64 (0), .int .i64 (s0_0)] (List.append (jks (lget ls 1).u 11 17) (List.append [.slice none 0 0, .agg #[.int .u8 (183), .int .u8 (0), .int .u8 (0), .int .i16 (0), .int .i32 (3)], .agg #[.int .u8 (149), .int .u8 (0), .int .u8 (0), .int .i16 (0), .int .i32 (0)], .slice (some ⟨(lget ls 2).n, 0, none⟩) 2 2, (rowV (lget ls 3) 2 5), .tuple #[(rowCV .cap (lget ls 4) g3_0 5), (rowCV .cap (lget ls 5) g3_2 1), .int .i64 (0)], (rowV (lget ls 3) 2 5), .tuple #[(rowCV .cap (lget ls 4) g3_0 5), (rowCV .cap (lget ls 5) g3_2 1), .int .i64 (0)], (rowCV .cap (lget ls 4) g3_0 5), (rowCV .cap (lget ls 5) g3_2 1), .int .i64 (0), .tuple #[(rowV (lget ls 6) 2 5), .int .i64 (0)], (rowV (lget ls 3) 2 5), .tuple #[(rowV (lget ls 6) 2 5), .int .i64 (0)], (rowV (lget ls 6) 2 5), .int .i64 (0), .int .i64 (0), .bool false, .bool false, .int .i64 (0), .bool false, .bool false, .bool false, (rowCV .cap (lget ls 4) g3_0 5), (rowV (lget ls 3) 2 5), .int .i64 (y0), .slice (some ⟨(lget ls 3).n, (y0).toNat * 5, none⟩) (2 - (y0).toNat) (2 - (y0).toNat + (capC .row (lget ls 3) 2 5 - 2)), .bool true, .bool false, .bool false, .bool false, (rowCV .cap (lget ls 5) g3_2 1), .int .i64 (y0), .int .i64 (y0), .int .i64 ((IntKind.i64.wrap (y0 + 1))), .slice (some ⟨(lget ls 7).n, 0, none⟩) 2 2, .bool true, .bool false, .bool false, .bool false, (rowV (lget ls 6) 2 5), .int .i64 (2), (rowV (lget ls 3) 2 5), .int .i64 (2), .bool false, .bool false] (jks (lget ls 1).u 74 16)))
def pre_barbicanlaw20_OptChains_L1_0 (y0 : Int) (r2 : Nat → Insn) (g3_0 : Nat) (g3_1 : Nat → Insn) (g3_2 : Nat) (g3_3 : Nat → Int) (g4_0 : Nat → Insn) (s0_0 : Int) (ls : List L1) : List Obj := [unb, unb, .cells #[.int .u8 (183), .int .u8 (0), .int .u8 (0), .int .i16 (0), .int .i32 (3), .int .u8 (149), .int .u8 (0), .int .u8 (0), .int .i16 (0), .int .i32 (0)] 40, rowO (lget ls 3) (esG c_Insn 2 r2) 40 2 5, rowO (lget ls 4) (esG c_Insn g3_0 g3_1) 40 g3_0 5, rowO (lget ls 5) (esG cZ g3_2 g3_3) 3 g3_2 1, rowO (lget ls 6) (esG c_Insn 2 g4_0) 40 2 5, .cells #[.int .i64 (y0), .int .i64 ((IntKind.i64.wrap (y0 + 1)))] 3]
theorem sp0_barbicanlaw20_OptChains_L1_0_ok (s0_0 : Int) (c0_0 : Int) (h : lpO (st_barbicanlaw20_OptChains_L1 y0 g4_0) (.c0 s0_0) = some (.e0 c0_0)) : SpcG Try.prog M B0 S ⟨fun ls => .code (.loop bd_barbicanlaw20_OptChains_L1) (t0_barbicanlaw20_OptChains_L1_0 y0 r2 g3_0 g3_1 g3_2 g3_3 g4_0 s0_0 ls), pre_barbicanlaw20_OptChains_L1_0 y0 r2 g3_0 g3_1 g3_2 g3_3 g4_0 s0_0, 1, (.exit 2), fun ls => vf_barbicanlaw20_OptChains_L1 y0 r2 g3_0 g3_1 g3_2 g3_3 g4_0 (.e0 c0_0) (ls.take 8 ++ ls.drop 8), fun ls => (Hf_barbicanlaw20_OptChains_L1 y0 r2 g3_0 g3_1 g3_2 g3_3 g4_0 (.e0 c0_0) (ls.take 8 ++ ls.drop 8)).take 8 ++ List.replicate 0 unb, fun ls => (Hf_barbicanlaw20_OptChains_L1 y0 r2 g3_0 g3_1 g3_2 g3_3 g4_0 (.e0 c0_0) (ls.take 8 ++ ls.drop 8)).drop 8⟩ :=
  spc_of_goesM hU 0 (k0 := 8) (go_barbicanlaw20_OptChains_L1 hU y0 r2 g3_0 g3_1 g3_2 g3_3 g4_0 _ _ h) (t0_barbicanlaw20_OptChains_L1_0 y0 r2 g3_0 g3_1 g3_2 g3_3 g4_0 s0_0) (pre_barbicanlaw20_OptChains_L1_0 y0 r2 g3_0 g3_1 g3_2 g3_3 g4_0 s0_0) (fun _ => rfl) (fun ls h => by match ls, h with | [l0, l1, l2, l3, l4, l5, l6, l7], _ => exact ⟨by kernel_rfl, by kernel_rfl⟩) (fun ls h => by match ls, h with | [l0, l1, l2, l3, l4, l5, l6, l7], _ => rfl) (by decide) (by decide) (fun ls => rfl)
theorem sp1_barbicanlaw20_OptChains_L1_0_ok (s0_0 : Int) (c1_0 : Int) (h : lpO (st_barbicanlaw20_OptChains_L1 y0 g4_0) (.c0 s0_0) = some (.e1 c1_0)) : SpcG Try.prog M B0 S ⟨fun ls => .code (.loop bd_barbicanlaw20_OptChains_L1) (t0_barbicanlaw20_OptChains_L1_0 y0 r2 g3_0 g3_1 g3_2 g3_3 g4_0 s0_0 ls), pre_barbicanlaw20_OptChains_L1_0 y0 r2 g3_0 g3_1 g3_2 g3_3 g4_0 s0_0, 1, .ret, fun ls => vf_barbicanlaw20_OptChains_L1 y0 r2 g3_0 g3_1 g3_2 g3_3 g4_0 (.e1 c1_0) (ls.take 8 ++ ls.drop 8), fun ls => (Hf_barbicanlaw20_OptChains_L1 y0 r2 g3_0 g3_1 g3_2 g3_3 g4_0 (.e1 c1_0) (ls.take 8 ++ ls.drop 8)).take 8 ++ List.replicate 0 unb, fun ls => (Hf_barbicanlaw20_OptChains_L1 y0 r2 g3_0 g3_1 g3_2 g3_3 g4_0 (.e1 c1_0) (ls.take 8 ++ ls.drop 8)).drop 8⟩ :=
  spc_of_goesM hU 0 (k0 := 8) (go_barbicanlaw20_OptChains_L1 hU y0 r2 g3_0 g3_1 g3_2 g3_3 g4_0 _ _ h) (t0_barbicanlaw20_OptChains_L1_0 y0 r2 g3_0 g3_1 g3_2 g3_3 g4_0 s0_0) (pre_barbicanlaw20_OptChains_L1_0 y0 r2 g3_0 g3_1 g3_2 g3_3 g4_0 s0_0) (fun _ => rfl) (fun ls h => by match ls, h with | [l0, l1, l2, l3, l4, l5, l6, l7], _ => exact ⟨by kernel_rfl, by kernel_rfl⟩) (fun ls h => by match ls, h with | [l0, l1, l2, l3, l4, l5, l6, l7], _ => rfl) (by decide) (by decide) (fun ls => rfl)
inductive Sh_barbicanlaw20_OptChains_L1v1 where
  | c0 (s0_0 : Int)
inductive Ex_barbicanlaw20_OptChains_L1v1 where
  | e0 (c0_0 : Int)
  | e1 (c1_0 : Int)
noncomputable def st_barbicanlaw20_OptChains_L1v1 (y0 : Int) (g4_0 : Nat → Insn) : Sh_barbicanlaw20_OptChains_L1v1 → Option (Sh_barbicanlaw20_OptChains_L1v1 ⊕ Ex_barbicanlaw20_OptChains_L1v1)
  | .c0 s0_0 =>
    bif decide (s0_0 < y0) then
      (bif inR s0_0 2 then
        (bif ((((g4_0 (s0_0).toNat)).fOp == 5#8) && ((((g4_0 (s0_0).toNat)).fDst == 0#8) && ((((g4_0 (s0_0).toNat)).fSrc == 0#8) && ((((g4_0 (s0_0).toNat)).fOff == (BitVec.ofInt 16 (IntKind.i64.wrap ((IntKind.i64.wrap (y0 - s0_0)) - 1)))) && (((g4_0 (s0_0).toNat)).fImm == 0#32))))) then
          (some (.inl (.c0 (IntKind.i64.wrap (s0_0 + 1)))))
        else (some (.inr (.e1 (IntKind.i64.wrap (y0 + 1))))))
      else (none))
    else (some (.inr (.e0 (IntKind.i64.wrap (y0 + 1)))))
noncomputable def bd_barbicanlaw20_OptChains_L1v1 : Code := codeOf Try.f4 [1, 1, 1, 1, 1, 1, 1, 1, 1, 0, 1, 0, 0]
def fl_barbicanlaw20_OptChains_L1v1 (y0 : Int) (r2 : Nat → Insn) (g3_0 : Int) (g4_0 : Nat → Insn) : Sh_barbicanlaw20_OptChains_L1v1 → List L1 → List Value
  | .c0 s0_0, ls => [.int .i64 (y0), .bool false, (rowV (lget ls 4) 2 5), .int .i64 (s0_0)]
def mf_barbicanlaw20_OptChains_L1v1 : Sh_barbicanlaw20_OptChains_L1v1 → List (Nat × Nat)
  | .c0 _ => [(1, 1), (1, 5), (1, 1), (1, 79)]
noncomputable def fr_barbicanlaw20_OptChains_L1v1 (y0 : Int) (r2 : Nat → Insn) (g3_0 : Int) (g4_0 : Nat → Insn) (s : Sh_barbicanlaw20_OptChains_L1v1) : List L1 → List Value := mrgF (mf_barbicanlaw20_OptChains_L1v1 s) (fl_barbicanlaw20_OptChains_L1v1 y0 r2 g3_0 g4_0 s) 6
def Hs_barbicanlaw20_OptChains_L1v1 (y0 : Int) (r2 : Nat → Insn) (g3_0 : Int) (g4_0 : Nat → Insn) : Sh_barbicanlaw20_OptChains_L1v1 → List L1 → List Obj
  | .c0 s0_0, ls => [unb, unb, .cells #[.int .u8 (183), .int .u8 (0), .int .u8 (0), .int .i16 (0), .int .i32 (3), .int .u8 (149), .int .u8 (0), .int .u8 (0), .int .i16 (0), .int .i32 (0)] 40, rowO (lget ls 3) (esG c_Insn 2 r2) 40 2 5, rowO (lget ls 4) (esG c_Insn 2 g4_0) 40 2 5, .cells #[.int .i64 (y0), .int .i64 ((IntKind.i64.wrap (y0 + 1)))] 3, unb]
def vl_barbicanlaw20_OptChains_L1v1 (y0 : Int) (r2 : Nat → Insn) (g3_0 : Int) (g4_0 : Nat → Insn) : Ex_barbicanlaw20_OptChains_L1v1 → List L1 → List Value
  | .e0 c0_0, ls => [.int .i64 (y0), .bool false, (rowV (lget ls 4) 2 5)]
  | .e1 c1_0, ls => [.int .i64 (y0), .bool false, (rowV (lget ls 4) 2 5)]
def mk_barbicanlaw20_OptChains_L1v1 : Ex_barbicanlaw20_OptChains_L1v1 → List (Nat × Nat)
  | .e0 _ => [(1, 1), (1, 5), (1, 81)]
  | .e1 _ => [(1, 1), (1, 5), (1, 81)]
noncomputable def vf_barbicanlaw20_OptChains_L1v1 (y0 : Int) (r2 : Nat → Insn) (g3_0 : Int) (g4_0 : Nat → Insn) (r : Ex_barbicanlaw20_OptChains_L1v1) : List L1 → List Value := mrgF (mk_barbicanlaw20_OptChains_L1v1 r) (vl_barbicanlaw20_OptChains_L1v1 y0 r2 g3_0 g4_0 r) 6
def Hf_barbicanlaw20_OptChains_L1v1 (y0 : Int) (r2 : Nat → Insn) (g3_0 : Int) (g4_0 : Nat → Insn) : Ex_barbicanlaw20_OptChains_L1v1 → List L1 → List Obj
  | .e0 c0_0, ls => [unb, unb, .cells #[.int .u8 (183), .int .u8 (0), .int .u8 (0), .int .i16 (0), .int .i32 (3), .int .u8 (149), .int .u8 (0), .int .u8 (0), .int .i16 (0), .int .i32 (0)] 40, rowO (lget ls 3) (esG c_Insn 2 r2) 40 2 5, rowO (lget ls 4) (esG c_Insn 2 g4_0) 40 2 5, .cells #[.int .i64 (y0), .int .i64 (c0_0)] 3, unb]
  | .e1 c1_0, ls => [unb, unb, .cells #[.int .u8 (183), .int .u8 (0), .int .u8 (0), .int .i16 (0), .int .i32 (3), .int .u8 (149), .int .u8 (0), .int .u8 (0), .int .i16 (0), .int .i32 (0)] 40, rowO (lget ls 3) (esG c_Insn 2 r2) 40 2 5, rowO (lget ls 4) (esG c_Insn 2 g4_0) 40 2 5, .cells #[.int .i64 (y0), .int .i64 (c1_0)] 3, unb]
def ex_barbicanlaw20_OptChains_L1v1 : Ex_barbicanlaw20_OptChains_L1v1 → Ex
  | .e0 _ => (.exit 2)
  | .e1 _ => .ret
end
section
variable {M : Nat → Prop} {B0 : Nat} {S : World → Prop} (hU : Up M B0 S) (y0 : Int) (r2 : Nat → Insn) (g3_0 : Int) (g4_0 : Nat → Insn)
include hU y0 r2 g3_0 g4_0
theorem go_barbicanlaw20_OptChains_L1v1 (s : Sh_barbicanlaw20_OptChains_L1v1) (r : Ex_barbicanlaw20_OptChains_L1v1) (h : lpO (st_barbicanlaw20_OptChains_L1v1 y0 g4_0) s = some r) : GoesG Try.prog M B0 S (.loop bd_barbicanlaw20_OptChains_L1v1) 7 (fr_barbicanlaw20_OptChains_L1v1 y0 r2 g3_0 g4_0 s) (Hs_barbicanlaw20_OptChains_L1v1 y0 r2 g3_0 g4_0 s) (ex_barbicanlaw20_OptChains_L1v1 r) 6 (vf_barbicanlaw20_OptChains_L1v1 y0 r2 g3_0 g4_0 r) (Hf_barbicanlaw20_OptChains_L1v1 y0 r2 g3_0 g4_0 r) 7 :=
  goes_lpO (fun s q e => by
    cases s with
    | c0 s0_0 =>
      unfold st_barbicanlaw20_OptChains_L1v1 at e
      dsimp only at e
      replace e := cond_eq_or e
      rcases e with ⟨hq0, e⟩ | ⟨hq0, e⟩
      · replace e := cond_eq_or e
        rcases e with ⟨hq1, e⟩ | ⟨hq1, e⟩
        · replace e := cond_eq_or e
          rcases e with ⟨hq2, e⟩ | ⟨hq2, e⟩
          · cases e; exact goes_runM hU [.o, .o, .b (z_lssT hq0), .o, .o, .q (ixM_ok (kd := .i64) (T := 22) (x := s0_0) (N := 2) (sz := 5) rfl (fun w => by kernel_rfl) hq1), .l (accG (i := 4) (f := c_Insn) (A := g4_0) (k := (s0_0).toNat) 0 [.int .u8 (nn ((g4_0 (s0_0).toNat)).fOp), .int .u8 (nn ((g4_0 (s0_0).toNat)).fDst), .int .u8 (nn ((g4_0 (s0_0).toNat)).fSrc), .int .i16 (ii ((g4_0 (s0_0).toNat)).fOff), .int .i32 (ii ((g4_0 (s0_0).toNat)).fImm)] c_Insn_len (inR_nat hq1) rfl), .o, .o, .o, .o, .v .i16 (i16_of_z (IntKind.i64.wrap ((IntKind.i64.wrap (y0 - s0_0)) - 1))), .o, .ov (fun w => (run_aggeq 40 #[.int .u8 (nn ((g4_0 (s0_0).toNat)).fOp), .int .u8 (nn ((g4_0 (s0_0).toNat)).fDst), .int .u8 (nn ((g4_0 (s0_0).toNat)).fSrc), .int .i16 (ii ((g4_0 (s0_0).toNat)).fOff), .int .i32 (ii ((g4_0 (s0_0).toNat)).fImm)] #[.int .u8 (5), .int .u8 (0), .int .u8 (0), .int .i16 (ii (BitVec.ofInt 16 (IntKind.i64.wrap ((IntKind.i64.wrap (y0 - s0_0)) - 1)))), .int .i32 (0)] true (by kernel_rfl) (fun w => (eqi40 9998 ((g4_0 (s0_0).toNat)).fOp (5#8) ((g4_0 (s0_0).toNat)).fDst (0#8) ((g4_0 (s0_0).toNat)).fSrc (0#8) ((g4_0 (s0_0).toNat)).fOff (BitVec.ofInt 16 (IntKind.i64.wrap ((IntKind.i64.wrap (y0 - s0_0)) - 1))) ((g4_0 (s0_0).toNat)).fImm (0#32) w).trans (congrArg (fun b => Result.ok b w) hq2)) (.tmp 82) (.tmp 88) w).2), .o, .o, .o] [0, 1, 2, 3, 4, 5] (fun b => rfl) (by decide) rfl rfl (fun b => by kernel_rfl)
          · cases e; exact ⟨ne_ret, goes_runM hU [.o, .o, .b (z_lssT hq0), .o, .o, .q (ixM_ok (kd := .i64) (T := 22) (x := s0_0) (N := 2) (sz := 5) rfl (fun w => by kernel_rfl) hq1), .l (accG (i := 4) (f := c_Insn) (A := g4_0) (k := (s0_0).toNat) 0 [.int .u8 (nn ((g4_0 (s0_0).toNat)).fOp), .int .u8 (nn ((g4_0 (s0_0).toNat)).fDst), .int .u8 (nn ((g4_0 (s0_0).toNat)).fSrc), .int .i16 (ii ((g4_0 (s0_0).toNat)).fOff), .int .i32 (ii ((g4_0 (s0_0).toNat)).fImm)] c_Insn_len (inR_nat hq1) rfl), .o, .o, .o, .o, .v .i16 (i16_of_z (IntKind.i64.wrap ((IntKind.i64.wrap (y0 - s0_0)) - 1))), .o, .ov (fun w => (run_aggeq 40 #[.int .u8 (nn ((g4_0 (s0_0).toNat)).fOp), .int .u8 (nn ((g4_0 (s0_0).toNat)).fDst), .int .u8 (nn ((g4_0 (s0_0).toNat)).fSrc), .int .i16 (ii ((g4_0 (s0_0).toNat)).fOff), .int .i32 (ii ((g4_0 (s0_0).toNat)).fImm)] #[.int .u8 (5), .int .u8 (0), .int .u8 (0), .int .i16 (ii (BitVec.ofInt 16 (IntKind.i64.wrap ((IntKind.i64.wrap (y0 - s0_0)) - 1)))), .int .i32 (0)] false (by kernel_rfl) (fun w => (eqi40 9998 ((g4_0 (s0_0).toNat)).fOp (5#8) ((g4_0 (s0_0).toNat)).fDst (0#8) ((g4_0 (s0_0).toNat)).fSrc (0#8) ((g4_0 (s0_0).toNat)).fOff (BitVec.ofInt 16 (IntKind.i64.wrap ((IntKind.i64.wrap (y0 - s0_0)) - 1))) ((g4_0 (s0_0).toNat)).fImm (0#32) w).trans (congrArg (fun b => Result.ok b w) hq2)) (.tmp 82) (.tmp 88) w).2), .o] [0, 1, 2, 3, 4, 5] (fun b => rfl) (by decide) rfl rfl (fun b => by kernel_rfl)⟩
        · exact none_some e
      · cases e; exact ⟨ne_exit 2, goes_runM hU [.o, .o, .b (z_lssF hq0)] [0, 1, 2, 3, 4, 5] (fun b => rfl) (by decide) rfl rfl (fun b => by kernel_rfl)⟩) s r h
noncomputable def t0_barbicanlaw20_OptChains_L1v1_0 (y0 : Int) (r2 : Nat → Insn) (g3_0 : Int) (g4_0 : Nat → Insn) (s0_0 : Int) (ls : List L1) : List Value := List.append [.int .i64 (y0), ((lget ls 1).u 1), .bool false, (rowV (lget ls 3) 2 5), ((lget ls 1).u 4), .slice none 0 0, .slice none 0 0, .int .i64 (g3_0), (rowV (lget ls 4) 2 5), .int .i64 (0), .int .i64 (s0_0)] (List.append (jks (lget ls 1).u 11 17) (List.append [.slice none 0 0, .agg #[.int .u8 (183), .int .u8 (0), .int .u8 (0), .int .i16 (0), .int .i32 (3)], .agg #[.int .u8 (149), .int .u8 (0), .int .u8 (0), .int .i16 (0), .int .i32 (0)], .slice (some ⟨(lget ls 2).n, 0, none⟩) 2 2, (rowV (lget ls 3) 2 5), .tuple #[.slice none 0 0, .slice none 0 0, .int .i64 (g3_0)], (rowV (lget ls 3) 2 5), .tuple #[.slice none 0 0, .slice none 0 0, .int .i64 (g3_0)], .slice none 0 0, .slice none 0 0, .int .i64 (g3_0), .tuple #[(rowV (lget ls 4) 2 5), .int .i64 (0)], (rowV (lget ls 3) 2 5), .tuple #[(rowV (lget ls 4) 2 5), .int .i64 (0)], (rowV (lget ls 4) 2 5), .int .i64 (0), .int .i64 (g3_0), .bool false, .bool false, .int .i64 (0), .bool false, .bool false, .bool false, .slice none 0 0, (rowV (lget ls 3) 2 5), .int .i64 (y0), .slice (some ⟨(lget ls 3).n, (y0).toNat * 5, none⟩) (2 - (y0).toNat) (2 - (y0).toNat + (capC .row (lget ls 3) 2 5 - 2)), .bool true, .bool false, .bool false, .bool false, .slice none 0 0, .int .i64 (y0), .int .i64 (y0), .int .i64 ((IntKind.i64.wrap (y0 + 1))), .slice (some ⟨(lget ls 5).n, 0, none⟩) 2 2, .bool true, .bool false, .bool false, .bool false, (rowV (lget ls 4) 2 5), .int .i64 (2), (rowV (lget ls 3) 2 5), .int .i64 (2), .bool false, .bool false] (jks (lget ls 1).u 74 16)))
def pre_barbicanlaw20_OptChains_L1v1_0 (y0 : Int) (r2 : Nat → Insn) (g3_0 : Int) (g4_0 : Nat → Insn) (s0_0 : Int) (ls : List L1) : List Obj := [unb, unb, .cells #[.int .u8 (183), .int .u8 (0), .int .u8 (0), .int .i16 (0), .int .i32 (3), .int .u8 (149), .int .u8 (0), .int .u8 (0), .int .i16 (0), .int .i32 (0)] 40, rowO (lget ls 3) (esG c_Insn 2 r2) 40 2 5, rowO (lget ls 4) (esG c_Insn 2 g4_0) 40 2 5, .cells #[.int .i64 (y0), .int .i64 ((IntKind.i64.wrap (y0 + 1)))] 3]
theorem sp0_barbicanlaw20_OptChains_L1v1_0_ok (s0_0 : Int) (c0_0 : Int) (h : lpO (st_barbicanlaw20_OptChains_L1v1 y0 g4_0) (.c0 s0_0) = some (.e0 c0_0)) : SpcG Try.prog M B0 S ⟨fun ls => .code (.loop bd_barbicanlaw20_OptChains_L1v1) (t0_barbicanlaw20_OptChains_L1v1_0 y0 r2 g3_0 g4_0 s0_0 ls), pre_barbicanlaw20_OptChains_L1v1_0 y0 r2 g3_0 g4_0 s0_0, 1, (.exit 2), fun ls => vf_barbicanlaw20_OptChains_L1v1 y0 r2 g3_0 g4_0 (.e0 c0_0) (ls.take 6 ++ ls.drop 6), fun ls => (Hf_barbicanlaw20_OptChains_L1v1 y0 r2 g3_0 g4_0 (.e0 c0_0) (ls.take 6 ++ ls.drop 6)).take 6 ++ List.replicate 0 unb, fun ls => (Hf_barbicanlaw20_OptChains_L1v1 y0 r2 g3_0 g4_0 (.e0 c0_0) (ls.take 6 ++ ls.drop 6)).drop 6⟩ :=
  spc_of_goesM hU 0 (k0 := 6) (go_barbicanlaw20_OptChains_L1v1 hU y0 r2 g3_0 g4_0 _ _ h) (t0_barbicanlaw20_OptChains_L1v1_0 y0 r2 g3_0 g4_0 s0_0) (pre_barbicanlaw20_OptChains_L1v1_0 y0 r2 g3_0 g4_0 s0_0) (fun _ => rfl) (fun ls h => by match ls, h with | [l0, l1, l2, l3, l4, l5], _ => exact ⟨by kernel_rfl, by kernel_rfl⟩) (fun ls h => by match ls, h with | [l0, l1, l2, l3, l4, l5], _ => rfl) (by decide) (by decide) (fun ls => rfl)
theorem sp1_barbicanlaw20_OptChains_L1v1_0_ok (s0_0 : Int) (c1_0 : Int) (h : lpO (st_barbicanlaw20_OptChains_L1v1 y0 g4_0) (.c0 s0_0) = some (.e1 c1_0)) : SpcG Try.prog M B0 S ⟨fun ls => .code (.loop bd_barbicanlaw20_OptChains_L1v1) (t0_barbicanlaw20_OptChains_L1v1_0 y0 r2 g3_0 g4_0 s0_0 ls), pre_barbicanlaw20_OptChains_L1v1_0 y0 r2 g3_0 g4_0 s0_0, 1, .ret, fun ls => vf_barbicanlaw20_OptChains_L1v1 y0 r2 g3_0 g4_0 (.e1 c1_0) (ls.take 6 ++ ls.drop 6), fun ls => (Hf_barbicanlaw20_OptChains_L1v1 y0 r2 g3_0 g4_0 (.e1 c1_0) (ls.take 6 ++ ls.drop 6)).take 6 ++ List.replicate 0 unb, fun ls => (Hf_barbicanlaw20_OptChains_L1v1 y0 r2 g3_0 g4_0 (.e1 c1_0) (ls.take 6 ++ ls.drop 6)).drop 6⟩ :=
  spc_of_goesM hU 0 (k0 := 6) (go_barbicanlaw20_OptChains_L1v1 hU y0 r2 g3_0 g4_0 _ _ h) (t0_barbicanlaw20_OptChains_L1v1_0 y0 r2 g3_0 g4_0 s0_0) (pre_barbicanlaw20_OptChains_L1v1_0 y0 r2 g3_0 g4_0 s0_0) (fun _ => rfl) (fun ls h => by match ls, h with | [l0, l1, l2, l3, l4, l5], _ => exact ⟨by kernel_rfl, by kernel_rfl⟩) (fun ls h => by match ls, h with | [l0, l1, l2, l3, l4, l5], _ => rfl) (by decide) (by decide) (fun ls => rfl)
inductive Sh_barbicanlaw20_OptChains_L1v2 where
  | c0 (s0_0 : Int)
inductive Ex_barbicanlaw20_OptChains_L1v2 where
  | e0 (c0_0 : Int)
  | e1 (c1_0 : Int)
noncomputable def st_barbicanlaw20_OptChains_L1v2 (y0 : Int) (g1_0 : Nat) (g4_0 : Nat → Insn) : Sh_barbicanlaw20_OptChains_L1v2 → Option (Sh_barbicanlaw20_OptChains_L1v2 ⊕ Ex_barbicanlaw20_OptChains_L1v2)
  | .c0 s0_0 =>
    bif decide (s0_0 < y0) then
      (bif inR s0_0 (g1_0 + 2) then
        (bif ((((g4_0 (s0_0).toNat)).fOp == 5#8) && ((((g4_0 (s0_0).toNat)).fDst == 0#8) && ((((g4_0 (s0_0).toNat)).fSrc == 0#8) && ((((g4_0 (s0_0).toNat)).fOff == (BitVec.ofInt 16 (IntKind.i64.wrap ((IntKind.i64.wrap (y0 - s0_0)) - 1)))) && (((g4_0 (s0_0).toNat)).fImm == 0#32))))) then
          (some (.inl (.c0 (IntKind.i64.wrap (s0_0 + 1)))))
        else (some (.inr (.e1 (IntKind.i64.wrap (y0 + 1))))))
      else (none))
    else (some (.inr (.e0 (IntKind.i64.wrap (y0 + 1)))))
noncomputable def bd_barbicanlaw20_OptChains_L1v2 : Code := codeOf Try.f4 [1, 1, 1, 1, 1, 1, 1, 1, 1, 0, 1, 0, 0]
def fl_barbicanlaw20_OptChains_L1v2 (y0 : Int) (g1_0 : Nat) (g1_1 : Nat → Insn) (r2 : Nat → Insn) (g3_0 : Nat) (g3_1 : Nat → Insn) (g3_2 : Nat) (g3_3 : Nat → Int) (g4_0 : Nat → Insn) : Sh_barbicanlaw20_OptChains_L1v2 → List L1 → List Value
  | .c0 s0_0, ls => [.int .i64 (y0), .bool false, (rowV (lget ls 6) (g1_0 + 2) 5), .int .i64 (s0_0)]
def mf_barbicanlaw20_OptChains_L1v2 : Sh_barbicanlaw20_OptChains_L1v2 → List (Nat × Nat)
  | .c0 _ => [(1, 1), (1, 5), (1, 1), (1, 79)]
noncomputable def fr_barbicanlaw20_OptChains_L1v2 (y0 : Int) (g1_0 : Nat) (g1_1 : Nat → Insn) (r2 : Nat → Insn) (g3_0 : Nat) (g3_1 : Nat → Insn) (g3_2 : Nat) (g3_3 : Nat → Int) (g4_0 : Nat → Insn) (s : Sh_barbicanlaw20_OptChains_L1v2) : List L1 → List Value := mrgF (mf_barbicanlaw20_OptChains_L1v2 s) (fl_barbicanlaw20_OptChains_L1v2 y0 g1_0 g1_1 r2 g3_0 g3_1 g3_2 g3_3 g4_0 s) 8
def Hs_barbicanlaw20_OptChains_L1v2 (y0 : Int) (g1_0 : Nat) (g1_1 : Nat → Insn) (r2 : Nat → Insn) (g3_0 : Nat) (g3_1 : Nat → Insn) (g3_2 : Nat) (g3_3 : Nat → Int) (g4_0 : Nat → Insn) : Sh_barbicanlaw20_OptChains_L1v2 → List L1 → List Obj
  | .c0 s0_0, ls => [unb, unb, .cells #[.int .u8 (183), .int .u8 (0), .int .u8 (0), .int .i16 (0), .int .i32 (3), .int .u8 (149), .int .u8 (0), .int .u8 (0), .int .i16 (0), .int .i32 (0)] 40, rowO (lget ls 3) (esG c_Insn (g1_0 + 2) r2) 40 (g1_0 + 2) 5, rowO (lget ls 4) (esG c_Insn g3_0 g3_1) 40 g3_0 5, rowO (lget ls 5) (esG cZ g3_2 g3_3) 3 g3_2 1, rowO (lget ls 6) (esG c_Insn (g1_0 + 2) g4_0) 40 (g1_0 + 2) 5, .cells #[.int .i64 (y0), .int .i64 ((IntKind.i64.wrap (y0 + 1)))] 3, unb]
def vl_barbicanlaw20_OptChains_L1v2 (y0 : Int) (g1_0 : Nat) (g1_1 : Nat → Insn) (r2 : Nat → Insn) (g3_0 : Nat) (g3_1 : Nat → Insn) (g3_2 : Nat) (g3_3 : Nat → Int) (g4_0 : Nat → Insn) : Ex_barbicanlaw20_OptChains_L1v2 → List L1 → List Value
  | .e0 c0_0, ls => [.int .i64 (y0), .bool false, (rowV (lget ls 6) (g1_0 + 2) 5)]
  | .e1 c1_0, ls => [.int .i64 (y0), .bool false, (rowV (lget ls 6) (g1_0 + 2) 5)]
def mk_barbicanlaw20_OptChains_L1v2 : Ex_barbicanlaw20_OptChains_L1v2 → List (Nat × Nat)
  | .e0 _ => [(1, 1), (1, 5), (1, 81)]
  | .e1 _ => [(1, 1), (1, 5), (1, 81)]
noncomputable def vf_barbicanlaw20_OptChains_L1v2 (y0 : Int) (g1_0 : Nat) (g1_1 : Nat → Insn) (r2 : Nat → Insn) (g3_0 : Nat) (g3_1 : Nat → Insn) (g3_2 : Nat) (g3_3 : Nat → Int) (g4_0 : Nat → Insn) (r : Ex_barbicanlaw20_OptChains_L1v2) : List L1 → List Value := mrgF (mk_barbicanlaw20_OptChains_L1v2 r) (vl_barbicanlaw20_OptChains_L1v2 y0 g1_0 g1_1 r2 g3_0 g3_1 g3_2 g3_3 g4_0 r) 8
def Hf_barbicanlaw20_OptChains_L1v2 (y0 : Int) (g1_0 : Nat) (g1_1 : Nat → Insn) (r2 : Nat → Insn) (g3_0 : Nat) (g3_1 : Nat → Insn) (g3_2 : Nat) (g3_3 : Nat → Int) (g4_0 : Nat → Insn) : Ex_barbicanlaw20_OptChains_L1v2 → List L1 → List Obj
  | .e0 c0_0, ls => [unb, unb, .cells #[.int .u8 (183), .int .u8 (0), .int .u8 (0), .int .i16 (0), .int .i32 (3), .int .u8 (149), .int .u8 (0), .int .u8 (0), .int .i16 (0), .int .i32 (0)] 40, rowO (lget ls 3) (esG c_Insn (g1_0 + 2) r2) 40 (g1_0 + 2) 5, rowO (lget ls 4) (esG c_Insn g3_0 g3_1) 40 g3_0 5, rowO (lget ls 5) (esG cZ g3_2 g3_3) 3 g3_2 1, rowO (lget ls 6) (esG c_Insn (g1_0 + 2) g4_0) 40 (g1_0 + 2) 5, .cells #[.int .i64 (y0), .int .i64 (c0_0)] 3, unb]
  | .e1 c1_0, ls => [unb, unb, .cells #[.int .u8 (183), .int .u8 (0), .int .u8 (0), .int .i16 (0), .int .i32 (3), .int .u8 (149), .int .u8 (0), .int .u8 (0), .int .i16 (0), .int .i32 (0)] 40, rowO (lget ls 3) (esG c_Insn (g1_0 + 2) r2) 40 (g1_0 + 2) 5, rowO (lget ls 4) (esG c_Insn g3_0 g3_1) 40 g3_0 5, rowO (lget ls 5) (esG cZ g3_2 g3_3) 3 g3_2 1, rowO (lget ls 6) (esG c_Insn (g1_0 + 2) g4_0) 40 (g1_0 + 2) 5, .cells #[.int .i64 (y0), .int .i64 (c1_0)] 3, unb]
def ex_barbicanlaw20_OptChains_L1v2 : Ex_barbicanlaw20_OptChains_L1v2 → Ex
  | .e0 _ => (.exit 2)
  | .e1 _ => .ret
end
section
variable {M : Nat → Prop} {B0 : Nat} {S : World → Prop} (hU : Up M B0 S) (y0 : Int) (g1_0 : Nat) (g1_1 : Nat → Insn) (r2 : Nat → Insn) (g3_0 : Nat) (g3_1 : Nat → Insn) (g3_2 : Nat) (g3_3 : Nat → Int) (g4_0 : Nat → Insn)
include hU y0 g1_0 g1_1 r2 g3_0 g3_1 g3_2 g3_3 g4_0
theorem go_barbicanlaw20_OptChains_L1v2 (s : Sh_barbicanlaw20_OptChains_L1v2) (r : Ex_barbicanlaw20_OptChains_L1v2) (h : lpO (st_barbicanlaw20_OptChains_L1v2 y0 g1_0 g4_0) s = some r) : GoesG Try.prog M B0 S (.loop bd_barbicanlaw20_OptChains_L1v2) 9 (fr_barbicanlaw20_OptChains_L1v2 y0 g1_0 g1_1 r2 g3_0 g3_1 g3_2 g3_3 g4_0 s) (Hs_barbicanlaw20_OptChains_L1v2 y0 g1_0 g1_1 r2 g3_0 g3_1 g3_2 g3_3 g4_0 s) (ex_barbicanlaw20_OptChains_L1v2 r) 8 (vf_barbicanlaw20_OptChains_L1v2 y0 g1_0 g1_1 r2 g3_0 g3_1 g3_2 g3_3 g4_0 r) (Hf_barbicanlaw20_OptChains_L1v2 y0 g1_0 g1_1 r2 g3_0 g3_1 g3_2 g3_3 g4_0 r) 9 :=
  goes_lpO (fun s q e => by
    cases s with
    | c0 s0_0 =>
      unfold st_barbicanlaw20_OptChains_L1v2 at e
      dsimp only at e
      replace e := cond_eq_or e
      rcases e with ⟨hq0, e⟩ | ⟨hq0, e⟩
      · replace e := cond_eq_or e
        rcases e with ⟨hq1, e⟩ | ⟨hq1, e⟩
        · replace e := cond_eq_or e
          rcases e with ⟨hq2, e⟩ | ⟨hq2, e⟩
          · cases e; exact goes_runM hU [.o, .o, .b (z_lssT hq0), .o, .o, .q (ixM_ok (kd := .i64) (T := 22) (x := s0_0) (N := (g1_0 + 2)) (sz := 5) rfl (fun w => by kernel_rfl) hq1), .l (accG (i := 6) (f := c_Insn) (A := g4_0) (k := (s0_0).toNat) 0 [.int .u8 (nn ((g4_0 (s0_0).toNat)).fOp), .int .u8 (nn ((g4_0 (s0_0).toNat)).fDst), .int .u8 (nn ((g4_0 (s0_0).toNat)).fSrc), .int .i16 (ii ((g4_0 (s0_0).toNat)).fOff), .int .i32 (ii ((g4_0 (s0_0).toNat)).fImm)] c_Insn_len (inR_nat hq1) rfl), .o, .o, .o, .o, .v .i16 (i16_of_z (IntKind.i64.wrap ((IntKind.i64.wrap (y0 - s0_0)) - 1))), .o, .ov (fun w => (run_aggeq 40 #[.int .u8 (nn ((g4_0 (s0_0).toNat)).fOp), .int .u8 (nn ((g4_0 (s0_0).toNat)).fDst), .int .u8 (nn ((g4_0 (s0_0).toNat)).fSrc), .int .i16 (ii ((g4_0 (s0_0).toNat)).fOff), .int .i32 (ii ((g4_0 (s0_0).toNat)).fImm)] #[.int .u8 (5), .int .u8 (0), .int .u8 (0), .int .i16 (ii (BitVec.ofInt 16 (IntKind.i64.wrap ((IntKind.i64.wrap (y0 - s0_0)) - 1)))), .int .i32 (0)] true (by kernel_rfl) (fun w => (eqi40 9998 ((g4_0 (s0_0).toNat)).fOp (5#8) ((g4_0 (s0_0).toNat)).fDst (0#8) ((g4_0 (s0_0).toNat)).fSrc (0#8) ((g4_0 (s0_0).toNat)).fOff (BitVec.ofInt 16 (IntKind.i64.wrap ((IntKind.i64.wrap (y0 - s0_0)) - 1))) ((g4_0 (s0_0).toNat)).fImm (0#32) w).trans (congrArg (fun b => Result.ok b w) hq2)) (.tmp 82) (.tmp 88) w).2), .o, .o, .o] [0, 1, 2, 3, 4, 5, 6, 7] (fun b => rfl) (by decide) rfl rfl (fun b => by kernel_rfl)
          · cases e; exact ⟨ne_ret, goes_runM hU [.o, .o, .b (z_lssT hq0), .o, .o, .q (ixM_ok (kd := .i64) (T := 22) (x := s0_0) (N := (g1_0 + 2)) (sz := 5) rfl (fun w => by kernel_rfl) hq1), .l (accG (i := 6) (f := c_Insn) (A := g4_0) (k := (s0_0).toNat) 0 [.int .u8 (nn ((g4_0 (s0_0).toNat)).fOp), .int .u8 (nn ((g4_0 (s0_0).toNat)).fDst), .int .u8 (nn ((g4_0 (s0_0).toNat)).fSrc), .int .i16 (ii ((g4_0 (s0_0).toNat)).fOff), .int .i32 (ii ((g4_0 (s0_0).toNat)).fImm)] c_Insn_len (inR_nat hq1) rfl), .o, .o, .o, .o, .v .i16 (i16_of_z (IntKind.i64.wrap ((IntKind.i64.wrap (y0 - s0_0)) - 1))), .o, .ov (fun w => (run_aggeq 40 #[.int .u8 (nn ((g4_0 (s0_0).toNat)).fOp), .int .u8 (nn ((g4_0 (s0_0).toNat)).fDst), .int .u8 (nn ((g4_0 (s0_0).toNat)).fSrc), .int .i16 (ii ((g4_0 (s0_0).toNat)).fOff), .int .i32 (ii ((g4_0 (s0_0).toNat)).fImm)] #[.int .u8 (5), .int .u8 (0), .int .u8 (0), .int .i16 (ii (BitVec.ofInt 16 (IntKind.i64.wrap ((IntKind.i64.wrap (y0 - s0_0)) - 1)))), .int .i32 (0)] false (by kernel_rfl) (fun w => (eqi40 9998 ((g4_0 (s0_0).toNat)).fOp (5#8) ((g4_0 (s0_0).toNat)).fDst (0#8) ((g4_0 (s0_0).toNat)).fSrc (0#8) ((g4_0 (s0_0).toNat)).fOff (BitVec.ofInt 16 (IntKind.i64.wrap ((IntKind.i64.wrap (y0 - s0_0)) - 1))) ((g4_0 (s0_0).toNat)).fImm (0#32) w).trans (congrArg (fun b => Result.ok b w) hq2)) (.tmp 82) (.tmp 88) w).2), .o] [0, 1, 2, 3, 4, 5, 6, 7] (fun b => rfl) (by decide) rfl rfl (fun b => by kernel_rfl)⟩
        · exact none_some e
      · cases e; exact ⟨ne_exit 2, goes_runM hU [.o, .o, .b (z_lssF hq0)] [0, 1, 2, 3, 4, 5, 6, 7] (fun b => rfl) (by decide) rfl rfl (fun b => by kernel_rfl)⟩) s r h
noncomputable def t0_barbicanlaw20_OptChains_L1v2_0 (y0 : Int) (g1_0 : Nat) (g1_1 : Nat → Insn) (r2 : Nat → Insn) (g3_0 : Nat) (g3_1 : Nat → Insn) (g3_2 : Nat) (g3_3 : Nat → Int) (g4_0 : Nat → Insn) (s0_0 : Int) (ls : List L1) : List Value := List.append [.int .i64 (y0), ((lget ls 1).u 1), .bool false, (rowV (lget ls 3) (g1_0 + 2) 5), ((lget ls 1).u 4), (rowCV .cap (lget ls 4) g3_0 5), (rowCV .cap (lget ls 5) g3_2 1), .int .i64 (0), (rowV (lget ls 6) (g1_0 + 2) 5), .int .i64 (0), .int .i64 (s0_0)] (List.append (jks (lget ls 1).u 11 17) (List.append [(rowV (lget ls 0) g1_0 5), .agg #[.int .u8 (183), .int .u8 (0), .int .u8 (0), .int .i16 (0), .int .i32 (3)], .agg #[.int .u8 (149), .int .u8 (0), .int .u8 (0), .int .i16 (0), .int .i32 (0)], .slice (some ⟨(lget ls 2).n, 0, none⟩) 2 2, (rowV (lget ls 3) (g1_0 + 2) 5), .tuple #[(rowCV .cap (lget ls 4) g3_0 5), (rowCV .cap (lget ls 5) g3_2 1), .int .i64 (0)], (rowV (lget ls 3) (g1_0 + 2) 5), .tuple #[(rowCV .cap (lget ls 4) g3_0 5), (rowCV .cap (lget ls 5) g3_2 1), .int .i64 (0)], (rowCV .cap (lget ls 4) g3_0 5), (rowCV .cap (lget ls 5) g3_2 1), .int .i64 (0), .tuple #[(rowV (lget ls 6) (g1_0 + 2) 5), .int .i64 (0)], (rowV (lget ls 3) (g1_0 + 2) 5), .tuple #[(rowV (lget ls 6) (g1_0 + 2) 5), .int .i64 (0)], (rowV (lget ls 6) (g1_0 + 2) 5), .int .i64 (0), .int .i64 (0), .bool false, .bool false, .int .i64 (0), .bool false, .bool false, .bool false, (rowCV .cap (lget ls 4) g3_0 5), (rowV (lget ls 3) (g1_0 + 2) 5), .int .i64 (y0), .slice (some ⟨(lget ls 3).n, (y0).toNat * 5, none⟩) ((g1_0 + 2) - (y0).toNat) ((g1_0 + 2) - (y0).toNat + (capC .row (lget ls 3) (g1_0 + 2) 5 - (g1_0 + 2))), .bool true, .bool false, .bool false, .bool false, (rowCV .cap (lget ls 5) g3_2 1), .int .i64 (y0), .int .i64 (y0), .int .i64 ((IntKind.i64.wrap (y0 + 1))), .slice (some ⟨(lget ls 7).n, 0, none⟩) 2 2, .bool true, .bool false, .bool false, .bool false, (rowV (lget ls 6) (g1_0 + 2) 5), .int .i64 (((g1_0 + 2) : Int)), (rowV (lget ls 3) (g1_0 + 2) 5), .int .i64 (((g1_0 + 2) : Int)), .bool false, .bool false] (jks (lget ls 1).u 74 16)))
def pre_barbicanlaw20_OptChains_L1v2_0 (y0 : Int) (g1_0 : Nat) (g1_1 : Nat → Insn) (r2 : Nat → Insn) (g3_0 : Nat) (g3_1 : Nat → Insn) (g3_2 : Nat) (g3_3 : Nat → Int) (g4_0 : Nat → Insn) (s0_0 : Int) (ls : List L1) : List Obj := [unb, unb, .cells #[.int .u8 (183), .int .u8 (0), .int .u8 (0), .int .i16 (0), .int .i32 (3), .int .u8 (149), .int .u8 (0), .int .u8 (0), .int .i16 (0), .int .i32 (0)] 40, rowO (lget ls 3) (esG c_Insn (g1_0 + 2) r2) 40 (g1_0 + 2) 5, rowO (lget ls 4) (esG c_Insn g3_0 g3_1) 40 g3_0 5, rowO (lget ls 5) (esG cZ g3_2 g3_3) 3 g3_2 1, rowO (lget ls 6) (esG c_Insn (g1_0 + 2) g4_0) 40 (g1_0 + 2) 5, .cells #[.int .i64 (y0), .int .i64 ((IntKind.i64.wrap (y0 + 1)))] 3]
theorem sp0_barbicanlaw20_OptChains_L1v2_0_ok (s0_0 : Int) (c0_0 : Int) (h : lpO (st_barbicanlaw20_OptChains_L1v2 y0 g1_0 g4_0) (.c0 s0_0) = some (.e0 c0_0)) : SpcG Try.prog M B0 S ⟨fun ls => .code (.loop bd_barbicanlaw20_OptChains_L1v2) (t0_barbicanlaw20_OptChains_L1v2_0 y0 g1_0 g1_1 r2 g3_0 g3_1 g3_2 g3_3 g4_0 s0_0 ls), pre_barbicanlaw20_OptChains_L1v2_0 y0 g1_0 g1_1 r2 g3_0 g3_1 g3_2 g3_3 g4_0 s0_0, 1, (.exit 2), fun ls => vf_barbicanlaw20_OptChains_L1v2 y0 g1_0 g1_1 r2 g3_0 g3_1 g3_2 g3_3 g4_0 (.e0 c0_0) (ls.take 8 ++ ls.drop 8), fun ls => (Hf_barbicanlaw20_OptChains_L1v2 y0 g1_0 g1_1 r2 g3_0 g3_1 g3_2 g3_3 g4_0 (.e0 c0_0) (ls.take 8 ++ ls.drop 8)).take 8 ++ List.replicate 0 unb, fun ls => (Hf_barbicanlaw20_OptChains_L1v2 y0 g1_0 g1_1 r2 g3_0 g3_1 g3_2 g3_3 g4_0 (.e0 c0_0) (ls.take 8 ++ ls.drop 8)).drop 8⟩ :=
  spc_of_goesM hU 0 (k0 := 8) (go_barbicanlaw20_OptChains_L1v2 hU y0 g1_0 g1_1 r2 g3_0 g3_1 g3_2 g3_3 g4_0 _ _ h) (t0_barbicanlaw20_OptChains_L1v2_0 y0 g1_0 g1_1 r2 g3_0 g3_1 g3_2 g3_3 g4_0 s0_0) (pre_barbicanlaw20_OptChains_L1v2_0 y0 g1_0 g1_1 r2 g3_0 g3_1 g3_2 g3_3 g4_0 s0_0) (fun _ => rfl) (fun ls h => by match ls, h with | [l0, l1, l2, l3, l4, l5, l6, l7], _ => exact ⟨by kernel_rfl, by kernel_rfl⟩) (fun ls h => by match ls, h with | [l0, l1, l2, l3, l4, l5, l6, l7], _ => rfl) (by decide) (by decide) (fun ls => rfl)
theorem sp1_barbicanlaw20_OptChains_L1v2_0_ok (s0_0 : Int) (c1_0 : Int) (h : lpO (st_barbicanlaw20_OptChains_L1v2 y0 g1_0 g4_0) (.c0 s0_0) = some (.e1 c1_0)) : SpcG Try.prog M B0 S ⟨fun ls => .code (.loop bd_barbicanlaw20_OptChains_L1v2) (t0_barbicanlaw20_OptChains_L1v2_0 y0 g1_0 g1_1 r2 g3_0 g3_1 g3_2 g3_3 g4_0 s0_0 ls), pre_barbicanlaw20_OptChains_L1v2_0 y0 g1_0 g1_1 r2 g3_0 g3_1 g3_2 g3_3 g4_0 s0_0, 1, .ret, fun ls => vf_barbicanlaw20_OptChains_L1v2 y0 g1_0 g1_1 r2 g3_0 g3_1 g3_2 g3_3 g4_0 (.e1 c1_0) (ls.take 8 ++ ls.drop 8), fun ls => (Hf_barbicanlaw20_OptChains_L1v2 y0 g1_0 g1_1 r2 g3_0 g3_1 g3_2 g3_3 g4_0 (.e1 c1_0) (ls.take 8 ++ ls.drop 8)).take 8 ++ List.replicate 0 unb, fun ls => (Hf_barbicanlaw20_OptChains_L1v2 y0 g1_0 g1_1 r2 g3_0 g3_1 g3_2 g3_3 g4_0 (.e1 c1_0) (ls.take 8 ++ ls.drop 8)).drop 8⟩ :=
  spc_of_goesM hU 0 (k0 := 8) (go_barbicanlaw20_OptChains_L1v2 hU y0 g1_0 g1_1 r2 g3_0 g3_1 g3_2 g3_3 g4_0 _ _ h) (t0_barbicanlaw20_OptChains_L1v2_0 y0 g1_0 g1_1 r2 g3_0 g3_1 g3_2 g3_3 g4_0 s0_0) (pre_barbicanlaw20_OptChains_L1v2_0 y0 g1_0 g1_1 r2 g3_0 g3_1 g3_2 g3_3 g4_0 s0_0) (fun _ => rfl) (fun ls h => by match ls, h with | [l0, l1, l2, l3, l4, l5, l6, l7], _ => exact ⟨by kernel_rfl, by kernel_rfl⟩) (fun ls h => by match ls, h with | [l0, l1, l2, l3, l4, l5, l6, l7], _ => rfl) (by decide) (by decide) (fun ls => rfl)
inductive Sh_barbicanlaw20_OptChains_L1v3 where
  | c0 
inductive Ex_barbicanlaw20_OptChains_L1v3 where
  | e0 (c0_0 : Int)
noncomputable def st_barbicanlaw20_OptChains_L1v3 (y0 : Int) : Sh_barbicanlaw20_OptChains_L1v3 → Option (Sh_barbicanlaw20_OptChains_L1v3 ⊕ Ex_barbicanlaw20_OptChains_L1v3)
  | .c0  =>
    bif decide (0 < y0) then
      (none)
    else (some (.inr (.e0 (IntKind.i64.wrap (y0 + 1)))))
noncomputable def bd_barbicanlaw20_OptChains_L1v3 : Code := codeOf Try.f4 [1, 1, 1, 1, 1, 1, 1, 1, 1, 0, 1, 0, 0]
def fl_barbicanlaw20_OptChains_L1v3 (y0 : Int) (g1_0 : Nat) (g1_1 : Nat → Insn) (r2 : Nat → Insn) (g3_0 : Nat) (g3_1 : Nat → Insn) (g3_2 : Nat) (g3_3 : Nat → Int) (g4_0 : Int) : Sh_barbicanlaw20_OptChains_L1v3 → List L1 → List Value
  | .c0 , ls => [.int .i64 (y0), .bool false, .slice none 0 0, .int .i64 (0)]
def mf_barbicanlaw20_OptChains_L1v3 : Sh_barbicanlaw20_OptChains_L1v3 → List (Nat × Nat)
  | .c0  => [(1, 1), (1, 5), (1, 1), (1, 79)]
noncomputable def fr_barbicanlaw20_OptChains_L1v3 (y0 : Int) (g1_0 : Nat) (g1_1 : Nat → Insn) (r2 : Nat → Insn) (g3_0 : Nat) (g3_1 : Nat → Insn) (g3_2 : Nat) (g3_3 : Nat → Int) (g4_0 : Int) (s : Sh_barbicanlaw20_OptChains_L1v3) : List L1 → List Value := mrgF (mf_barbicanlaw20_OptChains_L1v3 s) (fl_barbicanlaw20_OptChains_L1v3 y0 g1_0 g1_1 r2 g3_0 g3_1 g3_2 g3_3 g4_0 s) 7
def Hs_barbicanlaw20_OptChains_L1v3 (y0 : Int) (g1_0 : Nat) (g1_1 : Nat → Insn) (r2 : Nat → Insn) (g3_0 : Nat) (g3_1 : Nat → Insn) (g3_2 : Nat) (g3_3 : Nat → Int) (g4_0 : Int) : Sh_barbicanlaw20_OptChains_L1v3 → List L1 → List Obj
  | .c0 , ls => [unb, unb, .cells #[.int .u8 (183), .int .u8 (0), .int .u8 (0), .int .i16 (0), .int .i32 (3), .int .u8 (149), .int .u8 (0), .int .u8 (0), .int .i16 (0), .int .i32 (0)] 40, rowO (lget ls 3) (esG c_Insn (g1_0 + 2) r2) 40 (g1_0 + 2) 5, rowO (lget ls 4) (esG c_Insn g3_0 g3_1) 40 g3_0 5, rowO (lget ls 5) (esG cZ g3_2 g3_3) 3 g3_2 1, .cells #[.int .i64 (y0), .int .i64 ((IntKind.i64.wrap (y0 + 1)))] 3, unb]
def vl_barbicanlaw20_OptChains_L1v3 (y0 : Int) (g1_0 : Nat) (g1_1 : Nat → Insn) (r2 : Nat → Insn) (g3_0 : Nat) (g3_1 : Nat → Insn) (g3_2 : Nat) (g3_3 : Nat → Int) (g4_0 : Int) : Ex_barbicanlaw20_OptChains_L1v3 → List L1 → List Value
  | .e0 c0_0, ls => [.int .i64 (y0), .bool false, .slice none 0 0]
def mk_barbicanlaw20_OptChains_L1v3 : Ex_barbicanlaw20_OptChains_L1v3 → List (Nat × Nat)
  | .e0 _ => [(1, 1), (1, 5), (1, 81)]
noncomputable def vf_barbicanlaw20_OptChains_L1v3 (y0 : Int) (g1_0 : Nat) (g1_1 : Nat → Insn) (r2 : Nat → Insn) (g3_0 : Nat) (g3_1 : Nat → Insn) (g3_2 : Nat) (g3_3 : Nat → Int) (g4_0 : Int) (r : Ex_barbicanlaw20_OptChains_L1v3) : List L1 → List Value := mrgF (mk_barbicanlaw20_OptChains_L1v3 r) (vl_barbicanlaw20_OptChains_L1v3 y0 g1_0 g1_1 r2 g3_0 g3_1 g3_2 g3_3 g4_0 r) 7
def Hf_barbicanlaw20_OptChains_L1v3 (y0 : Int) (g1_0 : Nat) (g1_1 : Nat → Insn) (r2 : Nat → Insn) (g3_0 : Nat) (g3_1 : Nat → Insn) (g3_2 : Nat) (g3_3 : Nat → Int) (g4_0 : Int) : Ex_barbicanlaw20_OptChains_L1v3 → List L1 → List Obj
  | .e0 c0_0, ls => [unb, unb, .cells #[.int .u8 (183), .int .u8 (0), .int .u8 (0), .int .i16 (0), .int .i32 (3), .int .u8 (149), .int .u8 (0), .int .u8 (0), .int .i16 (0), .int .i32 (0)] 40, rowO (lget ls 3) (esG c_Insn (g1_0 + 2) r2) 40 (g1_0 + 2) 5, rowO (lget ls 4) (esG c_Insn g3_0 g3_1) 40 g3_0 5, rowO (lget ls 5) (esG cZ g3_2 g3_3) 3 g3_2 1, .cells #[.int .i64 (y0), .int .i64 (c0_0)] 3, unb]
def ex_barbicanlaw20_OptChains_L1v3 : Ex_barbicanlaw20_OptChains_L1v3 → Ex
  | .e0 _ => (.exit 2)
end
section
variable {M : Nat → Prop} {B0 : Nat} {S : World → Prop} (hU : Up M B0 S) (y0 : Int) (g1_0 : Nat) (g1_1 : Nat → Insn) (r2 : Nat → Insn) (g3_0 : Nat) (g3_1 : Nat → Insn) (g3_2 : Nat) (g3_3 : Nat → Int) (g4_0 : Int)
include hU y0 g1_0 g1_1 r2 g3_0 g3_1 g3_2 g3_3 g4_0
theorem go_barbicanlaw20_OptChains_L1v3 (s : Sh_barbicanlaw20_OptChains_L1v3) (r : Ex_barbicanlaw20_OptChains_L1v3) (h : lpO (st_barbicanlaw20_OptChains_L1v3 y0) s = some r) : GoesG Try.prog M B0 S (.loop bd_barbicanlaw20_OptChains_L1v3) 8 (fr_barbicanlaw20_OptChains_L1v3 y0 g1_0 g1_1 r2 g3_0 g3_1 g3_2 g3_3 g4_0 s) (Hs_barbicanlaw20_OptChains_L1v3 y0 g1_0 g1_1 r2 g3_0 g3_1 g3_2 g3_3 g4_0 s) (ex_barbicanlaw20_OptChains_L1v3 r) 7 (vf_barbicanlaw20_OptChains_L1v3 y0 g1_0 g1_1 r2 g3_0 g3_1 g3_2 g3_3 g4_0 r) (Hf_barbicanlaw20_OptChains_L1v3 y0 g1_0 g1_1 r2 g3_0 g3_1 g3_2 g3_3 g4_0 r) 8 :=
  goes_lpO (fun s q e => by
    cases s with
    | c0  =>
      unfold st_barbicanlaw20_OptChains_L1v3 at e
      dsimp only at e
      replace e := cond_eq_or e
      rcases e with ⟨hq0, e⟩ | ⟨hq0, e⟩
      · exact none_some e
      · cases e; exact ⟨ne_exit 2, goes_runM hU [.o, .o, .b (z_lssF hq0)] [0, 1, 2, 3, 4, 5, 6] (fun b => rfl) (by decide) rfl rfl (fun b => by kernel_rfl)⟩) s r h
noncomputable def t0_barbicanlaw20_OptChains_L1v3_0 (y0 : Int) (g1_0 : Nat) (g1_1 : Nat → Insn) (r2 : Nat → Insn) (g3_0 : Nat) (g3_1 : Nat → Insn) (g3_2 : Nat) (g3_3 : Nat → Int) (g4_0 : Int)  (ls : List L1) : List Value := List.append [.int .i64 (y0), ((lget ls 1).u 1), .bool false, (rowV (lget ls 3) (g1_0 + 2) 5), ((lget ls 1).u 4), (rowCV .cap (lget ls 4) g3_0 5), (rowCV .cap (lget ls 5) g3_2 1), .int .i64 (0), .slice none 0 0, .int .i64 (g4_0), .int .i64 (0)] (List.append (jks (lget ls 1).u 11 17) (List.append [(rowV (lget ls 0) g1_0 5), .agg #[.int .u8 (183), .int .u8 (0), .int .u8 (0), .int .i16 (0), .int .i32 (3)], .agg #[.int .u8 (149), .int .u8 (0), .int .u8 (0), .int .i16 (0), .int .i32 (0)], .slice (some ⟨(lget ls 2).n, 0, none⟩) 2 2, (rowV (lget ls 3) (g1_0 + 2) 5), .tuple #[(rowCV .cap (lget ls 4) g3_0 5), (rowCV .cap (lget ls 5) g3_2 1), .int .i64 (0)], (rowV (lget ls 3) (g1_0 + 2) 5), .tuple #[(rowCV .cap (lget ls 4) g3_0 5), (rowCV .cap (lget ls 5) g3_2 1), .int .i64 (0)], (rowCV .cap (lget ls 4) g3_0 5), (rowCV .cap (lget ls 5) g3_2 1), .int .i64 (0), .tuple #[.slice none 0 0, .int .i64 (g4_0)], (rowV (lget ls 3) (g1_0 + 2) 5), .tuple #[.slice none 0 0, .int .i64 (g4_0)], .slice none 0 0, .int .i64 (g4_0), .int .i64 (0), .bool false, .bool false, .int .i64 (g4_0), .bool false, .bool false, .bool false, (rowCV .cap (lget ls 4) g3_0 5), (rowV (lget ls 3) (g1_0 + 2) 5), .int .i64 (y0), .slice (some ⟨(lget ls 3).n, (y0).toNat * 5, none⟩) ((g1_0 + 2) - (y0).toNat) ((g1_0 + 2) - (y0).toNat + (capC .row (lget ls 3) (g1_0 + 2) 5 - (g1_0 + 2))), .bool true, .bool false, .bool false, .bool false, (rowCV .cap (lget ls 5) g3_2 1), .int .i64 (y0), .int .i64 (y0), .int .i64 ((IntKind.i64.wrap (y0 + 1))), .slice (some ⟨(lget ls 6).n, 0, none⟩) 2 2, .bool true, .bool false, .bool false, .bool false, .slice none 0 0, .int .i64 (0), (rowV (lget ls 3) (g1_0 + 2) 5), .int .i64 (((g1_0 + 2) : Int)), .bool false, .bool false] (jks (lget ls 1).u 74 16)))
def pre_barbicanlaw20_OptChains_L1v3_0 (y0 : Int) (g1_0 : Nat) (g1_1 : Nat → Insn) (r2 : Nat → Insn) (g3_0 : Nat) (g3_1 : Nat → Insn) (g3_2 : Nat) (g3_3 : Nat → Int) (g4_0 : Int)  (ls : List L1) : List Obj := [unb, unb, .cells #[.int .u8 (183), .int .u8 (0), .int .u8 (0), .int .i16 (0), .int .i32 (3), .int .u8 (149), .int .u8 (0), .int .u8 (0), .int .i16 (0), .int .i32 (0)] 40, rowO (lget ls 3) (esG c_Insn (g1_0 + 2) r2) 40 (g1_0 + 2) 5, rowO (lget ls 4) (esG c_Insn g3_0 g3_1) 40 g3_0 5, rowO (lget ls 5) (esG cZ g3_2 g3_3) 3 g3_2 1, .cells #[.int .i64 (y0), .int .i64 ((IntKind.i64.wrap (y0 + 1)))] 3]
theorem sp0_barbicanlaw20_OptChains_L1v3_0_ok (c0_0 : Int) (h : lpO (st_barbicanlaw20_OptChains_L1v3 y0) (.c0) = some (.e0 c0_0)) : SpcG Try.prog M B0 S ⟨fun ls => .code (.loop bd_barbicanlaw20_OptChains_L1v3) (t0_barbicanlaw20_OptChains_L1v3_0 y0 g1_0 g1_1 r2 g3_0 g3_1 g3_2 g3_3 g4_0  ls), pre_barbicanlaw20_OptChains_L1v3_0 y0 g1_0 g1_1 r2 g3_0 g3_1 g3_2 g3_3 g4_0 , 1, (.exit 2), fun ls => vf_barbicanlaw20_OptChains_L1v3 y0 g1_0 g1_1 r2 g3_0 g3_1 g3_2 g3_3 g4_0 (.e0 c0_0) (ls.take 7 ++ ls.drop 7), fun ls => (Hf_barbicanlaw20_OptChains_L1v3 y0 g1_0 g1_1 r2 g3_0 g3_1 g3_2 g3_3 g4_0 (.e0 c0_0) (ls.take 7 ++ ls.drop 7)).take 7 ++ List.replicate 0 unb, fun ls => (Hf_barbicanlaw20_OptChains_L1v3 y0 g1_0 g1_1 r2 g3_0 g3_1 g3_2 g3_3 g4_0 (.e0 c0_0) (ls.take 7 ++ ls.drop 7)).drop 7⟩ :=
  spc_of_goesM hU 0 (k0 := 7) (go_barbicanlaw20_OptChains_L1v3 hU y0 g1_0 g1_1 r2 g3_0 g3_1 g3_2 g3_3 g4_0 _ _ h) (t0_barbicanlaw20_OptChains_L1v3_0 y0 g1_0 g1_1 r2 g3_0 g3_1 g3_2 g3_3 g4_0 ) (pre_barbicanlaw20_OptChains_L1v3_0 y0 g1_0 g1_1 r2 g3_0 g3_1 g3_2 g3_3 g4_0 ) (fun _ => rfl) (fun ls h => by match ls, h with | [l0, l1, l2, l3, l4, l5, l6], _ => exact ⟨by kernel_rfl, by kernel_rfl⟩) (fun ls h => by match ls, h with | [l0, l1, l2, l3, l4, l5, l6], _ => rfl) (by decide) (by decide) (fun ls => rfl)
inductive Sh_barbicanlaw20_OptChains_L1v4 where
  | c0 (s0_0 : Int)
inductive Ex_barbicanlaw20_OptChains_L1v4 where
  | e0 (c0_0 : Int)
  | e1 (c1_0 : Int)
noncomputable def st_barbicanlaw20_OptChains_L1v4 (y0 : Int) (g1_0 : Nat) (g4_0 : Nat → Insn) : Sh_barbicanlaw20_OptChains_L1v4 → Option (Sh_barbicanlaw20_OptChains_L1v4 ⊕ Ex_barbicanlaw20_OptChains_L1v4)
  | .c0 s0_0 =>
    bif decide (s0_0 < y0) then
      (bif inR s0_0 (g1_0 + 2) then
        (bif ((((g4_0 (s0_0).toNat)).fOp == 5#8) && ((((g4_0 (s0_0).toNat)).fDst == 0#8) && ((((g4_0 (s0_0).toNat)).fSrc == 0#8) && ((((g4_0 (s0_0).toNat)).fOff == (BitVec.ofInt 16 (IntKind.i64.wrap ((IntKind.i64.wrap (y0 - s0_0)) - 1)))) && (((g4_0 (s0_0).toNat)).fImm == 0#32))))) then
          (some (.inl (.c0 (IntKind.i64.wrap (s0_0 + 1)))))
        else (some (.inr (.e1 (IntKind.i64.wrap (y0 + 1))))))
      else (none))
    else (some (.inr (.e0 (IntKind.i64.wrap (y0 + 1)))))
noncomputable def bd_barbicanlaw20_OptChains_L1v4 : Code := codeOf Try.f4 [1, 1, 1, 1, 1, 1, 1, 1, 1, 0, 1, 0, 0]
def fl_barbicanlaw20_OptChains_L1v4 (y0 : Int) (g1_0 : Nat) (g1_1 : Nat → Insn) (r2 : Nat → Insn) (g3_0 : Int) (g4_0 : Nat → Insn) : Sh_barbicanlaw20_OptChains_L1v4 → List L1 → List Value
  | .c0 s0_0, ls => [.int .i64 (y0), .bool false, (rowV (lget ls 4) (g1_0 + 2) 5), .int .i64 (s0_0)]
def mf_barbicanlaw20_OptChains_L1v4 : Sh_barbicanlaw20_OptChains_L1v4 → List (Nat × Nat)
  | .c0 _ => [(1, 1), (1, 5), (1, 1), (1, 79)]
noncomputable def fr_barbicanlaw20_OptChains_L1v4 (y0 : Int) (g1_0 : Nat) (g1_1 : Nat → Insn) (r2 : Nat → Insn) (g3_0 : Int) (g4_0 : Nat → Insn) (s : Sh_barbicanlaw20_OptChains_L1v4) : List L1 → List Value := mrgF (mf_barbicanlaw20_OptChains_L1v4 s) (fl_barbicanlaw20_OptChains_L1v4 y0 g1_0 g1_1 r2 g3_0 g4_0 s) 6
def Hs_barbicanlaw20_OptChains_L1v4 (y0 : Int) (g1_0 : Nat) (g1_1 : Nat → Insn) (r2 : Nat → Insn) (g3_0 : Int) (g4_0 : Nat → Insn) : Sh_barbicanlaw20_OptChains_L1v4 → List L1 → List Obj
  | .c0 s0_0, ls => [unb, unb, .cells #[.int .u8 (183), .int .u8 (0), .int .u8 (0), .int .i16 (0), .int .i32 (3), .int .u8 (149), .int .u8 (0), .int .u8 (0), .int .i16 (0), .int .i32 (0)] 40, rowO (lget ls 3) (esG c_Insn (g1_0 + 2) r2) 40 (g1_0 + 2) 5, rowO (lget ls 4) (esG c_Insn (g1_0 + 2) g4_0) 40 (g1_0 + 2) 5, .cells #[.int .i64 (y0), .int .i64 ((IntKind.i64.wrap (y0 + 1)))] 3, unb]
def vl_barbicanlaw20_OptChains_L1v4 (y0 : Int) (g1_0 : Nat) (g1_1 : Nat → Insn) (r2 : Nat → Insn) (g3_0 : Int) (g4_0 : Nat → Insn) : Ex_barbicanlaw20_OptChains_L1v4 → List L1 → List Value
  | .e0 c0_0, ls => [.int .i64 (y0), .bool false, (rowV (lget ls 4) (g1_0 + 2) 5)]
  | .e1 c1_0, ls => [.int .i64 (y0), .bool false, (rowV (lget ls 4) (g1_0 + 2) 5)]
def mk_barbicanlaw20_OptChains_L1v4 : Ex_barbicanlaw20_OptChains_L1v4 → List (Nat × Nat)
  | .e0 _ => [(1, 1), (1, 5), (1, 81)]
  | .e1 _ => [(1, 1), (1, 5), (1, 81)]
noncomputable def vf_barbicanlaw20_OptChains_L1v4 (y0 : Int) (g1_0 : Nat) (g1_1 : Nat → Insn) (r2 : Nat → Insn) (g3_0 : Int) (g4_0 : Nat → Insn) (r : Ex_barbicanlaw20_OptChains_L1v4) : List L1 → List Value := mrgF (mk_barbicanlaw20_OptChains_L1v4 r) (vl_barbicanlaw20_OptChains_L1v4 y0 g1_0 g1_1 r2 g3_0 g4_0 r) 6
def Hf_barbicanlaw20_OptChains_L1v4 (y0 : Int) (g1_0 : Nat) (g1_1 : Nat → Insn) (r2 : Nat → Insn) (g3_0 : Int) (g4_0 : Nat → Insn) : Ex_barbicanlaw20_OptChains_L1v4 → List L1 → List Obj
  | .e0 c0_0, ls => [unb, unb, .cells #[.int .u8 (183), .int .u8 (0), .int .u8 (0), .int .i16 (0), .int .i32 (3), .int .u8 (149), .int .u8 (0), .int .u8 (0), .int .i16 (0), .int .i32 (0)] 40, rowO (lget ls 3) (esG c_Insn (g1_0 + 2) r2) 40 (g1_0 + 2) 5, rowO (lget ls 4) (esG c_Insn (g1_0 + 2) g4_0) 40 (g1_0 + 2) 5, .cells #[.int .i64 (y0), .int .i64 (c0_0)] 3, unb]
  | .e1 c1_0, ls => [unb, unb, .cells #[.int .u8 (183), .int .u8 (0), .int .u8 (0), .int .i16 (0), .int .i32 (3), .int .u8 (149), .int .u8 (0), .int .u8 (0), .int .i16 (0), .int .i32 (0)] 40, rowO (lget ls 3) (esG c_Insn (g1_0 + 2) r2) 40 (g1_0 + 2) 5, rowO (lget ls 4) (esG c_Insn (g1_0 + 2) g4_0) 40 (g1_0 + 2) 5, .cells #[.int .i64 (y0), .int .i64 (c1_0)] 3, unb]
def ex_barbicanlaw20_OptChains_L1v4 : Ex_barbicanlaw20_OptChains_L1v4 → Ex
  | .e0 _ => (.exit 2)
  | .e1 _ => .ret
end
section
variable {M : Nat → Prop} {B0 : Nat} {S : World → Prop} (hU : Up M B0 S) (y0 : Int) (g1_0 : Nat) (g1_1 : Nat → Insn) (r2 : Nat → Insn) (g3_0 : Int) (g4_0 : Nat → Insn)
include hU y0 g1_0 g1_1 r2 g3_0 g4_0
theorem go_barbicanlaw20_OptChains_L1v4 (s : Sh_barbicanlaw20_OptChains_L1v4) (r : Ex_barbicanlaw20_OptChains_L1v4) (h : lpO (st_barbicanlaw20_OptChains_L1v4 y0 g1_0 g4_0) s = some r) : GoesG Try.prog M B0 S (.loop bd_barbicanlaw20_OptChains_L1v4) 7 (fr_barbicanlaw20_OptChains_L1v4 y0 g1_0 g1_1 r2 g3_0 g4_0 s) (Hs_barbicanlaw20_OptChains_L1v4 y0 g1_0 g1_1 r2 g3_0 g4_0 s) (ex_barbicanlaw20_OptChains_L1v4 r) 6 (vf_barbicanlaw20_OptChains_L1v4 y0 g1_0 g1_1 r2 g3_0 g4_0 r) (Hf_barbicanlaw20_OptChains_L1v4 y0 g1_0 g1_1 r2 g3_0 g4_0 r) 7 :=
  goes_lpO (fun s q e => by
    cases s with
    | c0 s0_0 =>
      unfold st_barbicanlaw20_OptChains_L1v4 at e
      dsimp only at e
      replace e := cond_eq_or e
      rcases e with ⟨hq0, e⟩ | ⟨hq0, e⟩
      · replace e := cond_eq_or e
        rcases e with ⟨hq1, e⟩ | ⟨hq1, e⟩
        · replace e := cond_eq_or e
          rcases e with ⟨hq2, e⟩ | ⟨hq2, e⟩
          · cases e; exact goes_runM hU [.o, .o, .b (z_lssT hq0), .o, .o, .q (ixM_ok (kd := .i64) (T := 22) (x := s0_0) (N := (g1_0 + 2)) (sz := 5) rfl (fun w => by kernel_rfl) hq1), .l (accG (i := 4) (f := c_Insn) (A := g4_0) (k := (s0_0).toNat) 0 [.int .u8 (nn ((g4_0 (s0_0).toNat)).fOp), .int .u8 (nn ((g4_0 (s0_0).toNat)).fDst), .int .u8 (nn ((g4_0 (s0_0).toNat)).fSrc), .int .i16 (ii ((g4_0 (s0_0).toNat)).fOff), .int .i32 (ii ((g4_0 (s0_0).toNat)).fImm)] c_Insn_len (inR_nat hq1) rfl), .o, .o, .o, .o, .v .i16 (i16_of_z (IntKind.i64.wrap ((IntKind.i64.wrap (y0 - s0_0)) - 1))), .o, .ov (fun w => (run_aggeq 40 #[.int .u8 (nn ((g4_0 (s0_0).toNat)).fOp), .int .u8 (nn ((g4_0 (s0_0).toNat)).fDst), .int .u8 (nn ((g4_0 (s0_0).toNat)).fSrc), .int .i16 (ii ((g4_0 (s0_0).toNat)).fOff), .int .i32 (ii ((g4_0 (s0_0).toNat)).fImm)] #[.int .u8 (5), .int .u8 (0), .int .u8 (0), .int .i16 (ii (BitVec.ofInt 16 (IntKind.i64.wrap ((IntKind.i64.wrap (y0 - s0_0)) - 1)))), .int .i32 (0)] true (by kernel_rfl) (fun w => (eqi40 9998 ((g4_0 (s0_0).toNat)).fOp (5#8) ((g4_0 (s0_0).toNat)).fDst (0#8) ((g4_0 (s0_0).toNat)).fSrc (0#8) ((g4_0 (s0_0).toNat)).fOff (BitVec.ofInt 16 (IntKind.i64.wrap ((IntKind.i64.wrap (y0 - s0_0)) - 1))) ((g4_0 (s0_0).toNat)).fImm (0#32) w).trans (congrArg (fun b => Result.ok b w) hq2)) (.tmp 82) (.tmp 88) w).2), .o, .o, .o] [0, 1, 2, 3, 4, 5] (fun b => rfl) (by decide) rfl rfl (fun b => by kernel_rfl)
          · cases e; exact ⟨ne_ret, goes_runM hU [.o, .o, .b (z_lssT hq0), .o, .o, .q (ixM_ok (kd := .i64) (T := 22) (x := s0_0) (N := (g1_0 + 2)) (sz := 5) rfl (fun w => by kernel_rfl) hq1), .l (accG (i := 4) (f := c_Insn) (A := g4_0) (k := (s0_0).toNat) 0 [.int .u8 (nn ((g4_0 (s0_0).toNat)).fOp), .int .u8 (nn ((g4_0 (s0_0).toNat)).fDst), .int .u8 (nn ((g4_0 (s0_0).toNat)).fSrc), .int .i16 (ii ((g4_0 (s0_0).toNat)).fOff), .int .i32 (ii ((g4_0 (s0_0).toNat)).fImm)] c_Insn_len (inR_nat hq1) rfl), .o, .o, .o, .o, .v .i16 (i16_of_z (IntKind.i64.wrap ((IntKind.i64.wrap (y0 - s0_0)) - 1))), .o, .ov (fun w => (run_aggeq 40 #[.int .u8 (nn ((g4_0 (s0_0).toNat)).fOp), .int .u8 (nn ((g4_0 (s0_0).toNat)).fDst), .int .u8 (nn ((g4_0 (s0_0).toNat)).fSrc), .int .i16 (ii ((g4_0 (s0_0).toNat)).fOff), .int .i32 (ii ((g4_0 (s0_0).toNat)).fImm)] #[.int .u8 (5), .int .u8 (0), .int .u8 (0), .int .i16 (ii (BitVec.ofInt 16 (IntKind.i64.wrap ((IntKind.i64.wrap (y0 - s0_0)) - 1)))), .int .i32 (0)] false (by kernel_rfl) (fun w => (eqi40 9998 ((g4_0 (s0_0).toNat)).fOp (5#8) ((g4_0 (s0_0).toNat)).fDst (0#8) ((g4_0 (s0_0).toNat)).fSrc (0#8) ((g4_0 (s0_0).toNat)).fOff (BitVec.ofInt 16 (IntKind.i64.wrap ((IntKind.i64.wrap (y0 - s0_0)) - 1))) ((g4_0 (s0_0).toNat)).fImm (0#32) w).trans (congrArg (fun b => Result.ok b w) hq2)) (.tmp 82) (.tmp 88) w).2), .o] [0, 1, 2, 3, 4, 5] (fun b => rfl) (by decide) rfl rfl (fun b => by kernel_rfl)⟩
        · exact none_some e
      · cases e; exact ⟨ne_exit 2, goes_runM hU [.o, .o, .b (z_lssF hq0)] [0, 1, 2, 3, 4, 5] (fun b => rfl) (by decide) rfl rfl (fun b => by kernel_rfl)⟩) s r h
noncomputable def t0_barbicanlaw20_OptChains_L1v4_0 (y0 : Int) (g1_0 : Nat) (g1_1 : Nat → Insn) (r2 : Nat → Insn) (g3_0 : Int) (g4_0 : Nat → Insn) (s0_0 : Int) (ls : List L1) : List Value := List.append [.int .i64 (y0), ((lget ls 1).u 1), .bool false, (rowV (lget ls 3) (g1_0 + 2) 5), ((lget ls 1).u 4), .slice none 0 0, .slice none 0 0, .int .i64 (g3_0), (rowV (lget ls 4) (g1_0 + 2) 5), .int .i64 (0), .int .i64 (s0_0)] (List.append (jks (lget ls 1).u 11 17) (List.append [(rowV (lget ls 0) g1_0 5), .agg #[.int .u8 (183), .int .u8 (0), .int .u8 (0), .int .i16 (0), .int .i32 (3)], .agg #[.int .u8 (149), .int .u8 (0), .int .u8 (0), .int .i16 (0), .int .i32 (0)], .slice (some ⟨(lget ls 2).n, 0, none⟩) 2 2, (rowV (lget ls 3) (g1_0 + 2) 5), .tuple #[.slice none 0 0, .slice none 0 0, .int .i64 (g3_0)], (rowV (lget ls 3) (g1_0 + 2) 5), .tuple #[.slice none 0 0, .slice none 0 0, .int .i64 (g3_0)], .slice none 0 0, .slice none 0 0, .int .i64 (g3_0), .tuple #[(rowV (lget ls 4) (g1_0 + 2) 5), .int .i64 (0)], (rowV (lget ls 3) (g1_0 + 2) 5), .tuple #[(rowV (lget ls 4) (g1_0 + 2) 5), .int .i64 (0)], (rowV (lget ls 4) (g1_0 + 2) 5), .int .i64 (0), .int .i64 (g3_0), .bool false, .bool false, .int .i64 (0), .bool false, .bool false, .bool false, .slice none 0 0, (rowV (lget ls 3) (g1_0 + 2) 5), .int .i64 (y0), .slice (some ⟨(lget ls 3).n, (y0).toNat * 5, none⟩) ((g1_0 + 2) - (y0).toNat) ((g1_0 + 2) - (y0).toNat + (capC .row (lget ls 3) (g1_0 + 2) 5 - (g1_0 + 2))), .bool true, .bool false, .bool false, .bool false, .slice none 0 0, .int .i64 (y0), .int .i64 (y0), .int .i64 ((IntKind.i64.wrap (y0 + 1))), .slice (some ⟨(lget ls 5).n, 0, none⟩) 2 2, .bool true, .bool false, .bool false, .bool false, (rowV (lget ls 4) (g1_0 + 2) 5), .int .i64 (((g1_0 + 2) : Int)), (rowV (lget ls 3) (g1_0 + 2) 5), .int .i64 (((g1_0 + 2) : Int)), .bool false, .bool false] (jks (lget ls 1).u 74 16)))
def pre_barbicanlaw20_OptChains_L1v4_0 (y0 : Int) (g1_0 : Nat) (g1_1 : Nat → Insn) (r2 : Nat → Insn) (g3_0 : Int) (g4_0 : Nat → Insn) (s0_0 : Int) (ls : List L1) : List Obj := [unb, unb, .cells #[.int .u8 (183), .int .u8 (0), .int .u8 (0), .int .i16 (0), .int .i32 (3), .int .u8 (149), .int .u8 (0), .int .u8 (0), .int .i16 (0), .int .i32 (0)] 40, rowO (lget ls 3) (esG c_Insn (g1_0 + 2) r2) 40 (g1_0 + 2) 5, rowO (lget ls 4) (esG c_Insn (g1_0 + 2) g4_0) 40 (g1_0 + 2) 5, .cells #[.int .i64 (y0), .int .i64 ((IntKind.i64.wrap (y0 + 1)))] 3]
theorem sp0_barbicanlaw20_OptChains_L1v4_0_ok (s0_0 : Int) (c0_0 : Int) (h : lpO (st_barbicanlaw20_OptChains_L1v4 y0 g1_0 g4_0) (.c0 s0_0) = some (.e0 c0_0)) : SpcG Try.prog M B0 S ⟨fun ls => .code (.loop bd_barbicanlaw20_OptChains_L1v4) (t0_barbicanlaw20_OptChains_L1v4_0 y0 g1_0 g1_1 r2 g3_0 g4_0 s0_0 ls), pre_barbicanlaw20_OptChains_L1v4_0 y0 g1_0 g1_1 r2 g3_0 g4_0 s0_0, 1, (.exit 2), fun ls => vf_barbicanlaw20_OptChains_L1v4 y0 g1_0 g1_1 r2 g3_0 g4_0 (.e0 c0_0) (ls.take 6 ++ ls.drop 6), fun ls => (Hf_barbicanlaw20_OptChains_L1v4 y0 g1_0 g1_1 r2 g3_0 g4_0 (.e0 c0_0) (ls.take 6 ++ ls.drop 6)).take 6 ++ List.replicate 0 unb, fun ls => (Hf_barbicanlaw20_OptChains_L1v4 y0 g1_0 g1_1 r2 g3_0 g4_0 (.e0 c0_0) (ls.take 6 ++ ls.drop 6)).drop 6⟩ :=
  spc_of_goesM hU 0 (k0 := 6) (go_barbicanlaw20_OptChains_L1v4 hU y0 g1_0 g1_1 r2 g3_0 g4_0 _ _ h) (t0_barbicanlaw20_OptChains_L1v4_0 y0 g1_0 g1_1 r2 g3_0 g4_0 s0_0) (pre_barbicanlaw20_OptChains_L1v4_0 y0 g1_0 g1_1 r2 g3_0 g4_0 s0_0) (fun _ => rfl) (fun ls h => by match ls, h with | [l0, l1, l2, l3, l4, l5], _ => exact ⟨by kernel_rfl, by kernel_rfl⟩) (fun ls h => by match ls, h with | [l0, l1, l2, l3, l4, l5], _ => rfl) (by decide) (by decide) (fun ls => rfl)
theorem sp1_barbicanlaw20_OptChains_L1v4_0_ok (s0_0 : Int) (c1_0 : Int) (h : lpO (st_barbicanlaw20_OptChains_L1v4 y0 g1_0 g4_0) (.c0 s0_0) = some (.e1 c1_0)) : SpcG Try.prog M B0 S ⟨fun ls => .code (.loop bd_barbicanlaw20_OptChains_L1v4) (t0_barbicanlaw20_OptChains_L1v4_0 y0 g1_0 g1_1 r2 g3_0 g4_0 s0_0 ls), pre_barbicanlaw20_OptChains_L1v4_0 y0 g1_0 g1_1 r2 g3_0 g4_0 s0_0, 1, .ret, fun ls => vf_barbicanlaw20_OptChains_L1v4 y0 g1_0 g1_1 r2 g3_0 g4_0 (.e1 c1_0) (ls.take 6 ++ ls.drop 6), fun ls => (Hf_barbicanlaw20_OptChains_L1v4 y0 g1_0 g1_1 r2 g3_0 g4_0 (.e1 c1_0) (ls.take 6 ++ ls.drop 6)).take 6 ++ List.replicate 0 unb, fun ls => (Hf_barbicanlaw20_OptChains_L1v4 y0 g1_0 g1_1 r2 g3_0 g4_0 (.e1 c1_0) (ls.take 6 ++ ls.drop 6)).drop 6⟩ :=
  spc_of_goesM hU 0 (k0 := 6) (go_barbicanlaw20_OptChains_L1v4 hU y0 g1_0 g1_1 r2 g3_0 g4_0 _ _ h) (t0_barbicanlaw20_OptChains_L1v4_0 y0 g1_0 g1_1 r2 g3_0 g4_0 s0_0) (pre_barbicanlaw20_OptChains_L1v4_0 y0 g1_0 g1_1 r2 g3_0 g4_0 s0_0) (fun _ => rfl) (fun ls h => by match ls, h with | [l0, l1, l2, l3, l4, l5], _ => exact ⟨by kernel_rfl, by kernel_rfl⟩) (fun ls h => by match ls, h with | [l0, l1, l2, l3, l4, l5], _ => rfl) (by decide) (by decide) (fun ls => rfl)
inductive Sh_barbicanlaw20_OptChains_L1v5 where
  | c0 
inductive Ex_barbicanlaw20_OptChains_L1v5 where
  | e0 (c0_0 : Int)
noncomputable def st_barbicanlaw20_OptChains_L1v5 (y0 : Int) : Sh_barbicanlaw20_OptChains_L1v5 → Option (Sh_barbicanlaw20_OptChains_L1v5 ⊕ Ex_barbicanlaw20_OptChains_L1v5)
  | .c0  =>
    bif decide (0 < y0) then
      (none)
    else (some (.inr (.e0 (IntKind.i64.wrap (y0 + 1)))))
noncomputable def bd_barbicanlaw20_OptChains_L1v5 : Code := codeOf Try.f4 [1, 1, 1, 1, 1, 1, 1, 1, 1, 0, 1, 0, 0]
def fl_barbicanlaw20_OptChains_L1v5 (y0 : Int) (g1_0 : Nat) (g1_1 : Nat → Insn) (r2 : Nat → Insn) (g3_0 : Int) (g4_0 : Int) : Sh_barbicanlaw20_OptChains_L1v5 → List L1 → List Value
  | .c0 , ls => [.int .i64 (y0), .bool false, .slice none 0 0, .int .i64 (0)]
def mf_barbicanlaw20_OptChains_L1v5 : Sh_barbicanlaw20_OptChains_L1v5 → List (Nat × Nat)
  | .c0  => [(1, 1), (1, 5), (1, 1), (1, 79)]
noncomputable def fr_barbicanlaw20_OptChains_L1v5 (y0 : Int) (g1_0 : Nat) (g1_1 : Nat → Insn) (r2 : Nat → Insn) (g3_0 : Int) (g4_0 : Int) (s : Sh_barbicanlaw20_OptChains_L1v5) : List L1 → List Value := mrgF (mf_barbicanlaw20_OptChains_L1v5 s) (fl_barbicanlaw20_OptChains_L1v5 y0 g1_0 g1_1 r2 g3_0 g4_0 s) 5
def Hs_barbicanlaw20_OptChains_L1v5 (y0 : Int) (g1_0 : Nat) (g1_1 : Nat → Insn) (r2 : Nat → Insn) (g3_0 : Int) (g4_0 : Int) : Sh_barbicanlaw20_OptChains_L1v5 → List L1 → List Obj
  | .c0 , ls => [unb, unb, .cells #[.int .u8 (183), .int .u8 (0), .int .u8 (0), .int .i16 (0), .int .i32 (3), .int .u8 (149), .int .u8 (0), .int .u8 (0), .int .i16 (0), .int .i32 (0)] 40, rowO (lget ls 3) (esG c_Insn (g1_0 + 2) r2) 40 (g1_0 + 2) 5, .cells #[.int .i64 (y0), .int .i64 ((IntKind.i64.wrap (y0 + 1)))] 3, unb]
def vl_barbicanlaw20_OptChains_L1v5 (y0 : Int) (g1_0 : Nat) (g1_1 : Nat → Insn) (r2 : Nat → Insn) (g3_0 : Int) (g4_0 : Int) : Ex_barbicanlaw20_OptChains_L1v5 → List L1 → List Value
  | .e0 c0_0, ls => [.int .i64 (y0), .bool false, .slice none 0 0]
def mk_barbicanlaw20_OptChains_L1v5 : Ex_barbicanlaw20_OptChains_L1v5 → List (Nat × Nat)
  | .e0 _ => [(1, 1), (1, 5), (1, 81)]
noncomputable def vf_barbicanlaw20_OptChains_L1v5 (y0 : Int) (g1_0 : Nat) (g1_1 : Nat → Insn) (r2 : Nat → Insn) (g3_0 : Int) (g4_0 : Int) (r : Ex_barbicanlaw20_OptChains_L1v5) : List L1 → List Value := mrgF (mk_barbicanlaw20_OptChains_L1v5 r) (vl_barbicanlaw20_OptChains_L1v5 y0 g1_0 g1_1 r2 g3_0 g4_0 r) 5
def Hf_barbicanlaw20_OptChains_L1v5 (y0 : Int) (g1_0 : Nat) (g1_1 : Nat → Insn) (r2 : Nat → Insn) (g3_0 : Int) (g4_0 : Int) : Ex_barbicanlaw20_OptChains_L1v5 → List L1 → List Obj
  | .e0 c0_0, ls => [unb, unb, .cells #[.int .u8 (183), .int .u8 (0), .int .u8 (0), .int .i16 (0), .int .i32 (3), .int .u8 (149), .int .u8 (0), .int .u8 (0), .int .i16 (0), .int .i32 (0)] 40, rowO (lget ls 3) (esG c_Insn (g1_0 + 2) r2) 40 (g1_0 + 2) 5, .cells #[.int .i64 (y0), .int .i64 (c0_0)] 3, unb]
def ex_barbicanlaw20_OptChains_L1v5 : Ex_barbicanlaw20_OptChains_L1v5 → Ex
  | .e0 _ => (.exit 2)
end
section
variable {M : Nat → Prop} {B0 : Nat} {S : World → Prop} (hU : Up M B0 S) (y0 : Int) (g1_0 : Nat) (g1_1 : Nat → Insn) (r2 : Nat → Insn) (g3_0 : Int) (g4_0 : Int)
include hU y0 g1_0 g1_1 r2 g3_0 g4_0
theorem go_barbicanlaw20_OptChains_L1v5 (s : Sh_barbicanlaw20_OptChains_L1v5) (r : Ex_barbicanlaw20_OptChains_L1v5) (h : lpO (st_barbicanlaw20_OptChains_L1v5 y0) s = some r) : GoesG Try.prog M B0 S (.loop bd_barbicanlaw20_OptChains_L1v5) 6 (fr_barbicanlaw20_OptChains_L1v5 y0 g1_0 g1_1 r2 g3_0 g4_0 s) (Hs_barbicanlaw20_OptChains_L1v5 y0 g1_0 g1_1 r2 g3_0 g4_0 s) (ex_barbicanlaw20_OptChains_L1v5 r) 5 (vf_barbicanlaw20_OptChains_L1v5 y0 g1_0 g1_1 r2 g3_0 g4_0 r) (Hf_barbicanlaw20_OptChains_L1v5 y0 g1_0 g1_1 r2 g3_0 g4_0 r) 6 :=
  goes_lpO (fun s q e => by
    cases s with
    | c0  =>
      unfold st_barbicanlaw20_OptChains_L1v5 at e
      dsimp only at e
      replace e := cond_eq_or e
      rcases e with ⟨hq0, e⟩ | ⟨hq0, e⟩
      · exact none_some e
      · cases e; exact ⟨ne_exit 2, goes_runM hU [.o, .o, .b (z_lssF hq0)] [0, 1, 2, 3, 4] (fun b => rfl) (by decide) rfl rfl (fun b => by kernel_rfl)⟩) s r h
noncomputable def t0_barbicanlaw20_OptChains_L1v5_0 (y0 : Int) (g1_0 : Nat) (g1_1 : Nat → Insn) (r2 : Nat → Insn) (g3_0 : Int) (g4_0 : Int)  (ls : List L1) : List Value := List.append [.int .i64 (y0), ((lget ls 1).u 1), .bool false, (rowV (lget ls 3) (g1_0 + 2) 5), ((lget ls 1).u 4), .slice none 0 0, .slice none 0 0, .int .i64 (g3_0), .slice none 0 0, .int .i64 (g4_0), .int .i64 (0)] (List.append (jks (lget ls 1).u 11 17) (List.append [(rowV (lget ls 0) g1_0 5), .agg #[.int .u8 (183), .int .u8 (0), .int .u8 (0), .int .i16 (0), .int .i32 (3)], .agg #[.int .u8 (149), .int .u8 (0), .int .u8 (0), .int .i16 (0), .int .i32 (0)], .slice (some ⟨(lget ls 2).n, 0, none⟩) 2 2, (rowV (lget ls 3) (g1_0 + 2) 5), .tuple #[.slice none 0 0, .slice none 0 0, .int .i64 (g3_0)], (rowV (lget ls 3) (g1_0 + 2) 5), .tuple #[.slice none 0 0, .slice none 0 0, .int .i64 (g3_0)], .slice none 0 0, .slice none 0 0, .int .i64 (g3_0), .tuple #[.slice none 0 0, .int .i64 (g4_0)], (rowV (lget ls 3) (g1_0 + 2) 5), .tuple #[.slice none 0 0, .int .i64 (g4_0)], .slice none 0 0, .int .i64 (g4_0), .int .i64 (g3_0), .bool false, .bool false, .int .i64 (g4_0), .bool false, .bool false, .bool false, .slice none 0 0, (rowV (lget ls 3) (g1_0 + 2) 5), .int .i64 (y0), .slice (some ⟨(lget ls 3).n, (y0).toNat * 5, none⟩) ((g1_0 + 2) - (y0).toNat) ((g1_0 + 2) - (y0).toNat + (capC .row (lget ls 3) (g1_0 + 2) 5 - (g1_0 + 2))), .bool true, .bool false, .bool false, .bool false, .slice none 0 0, .int .i64 (y0), .int .i64 (y0), .int .i64 ((IntKind.i64.wrap (y0 + 1))), .slice (some ⟨(lget ls 4).n, 0, none⟩) 2 2, .bool true, .bool false, .bool false, .bool false, .slice none 0 0, .int .i64 (0), (rowV (lget ls 3) (g1_0 + 2) 5), .int .i64 (((g1_0 + 2) : Int)), .bool false, .bool false] (jks (lget ls 1).u 74 16)))
def pre_barbicanlaw20_OptChains_L1v5_0 (y0 : Int) (g1_0 : Nat) (g1_1 : Nat → Insn) (r2 : Nat → Insn) (g3_0 : Int) (g4_0 : Int)  (ls : List L1) : List Obj := [unb, unb, .cells #[.int .u8 (183), .int .u8 (0), .int .u8 (0), .int .i16 (0), .int .i32 (3), .int .u8 (149), .int .u8 (0), .int .u8 (0), .int .i16 (0), .int .i32 (0)] 40, rowO (lget ls 3) (esG c_Insn (g1_0 + 2) r2) 40 (g1_0 + 2) 5, .cells #[.int .i64 (y0), .int .i64 ((IntKind.i64.wrap (y0 + 1)))] 3]
theorem sp0_barbicanlaw20_OptChains_L1v5_0_ok (c0_0 : Int) (h : lpO (st_barbicanlaw20_OptChains_L1v5 y0) (.c0) = some (.e0 c0_0)) : SpcG Try.prog M B0 S ⟨fun ls => .code (.loop bd_barbicanlaw20_OptChains_L1v5) (t0_barbicanlaw20_OptChains_L1v5_0 y0 g1_0 g1_1 r2 g3_0 g4_0  ls), pre_barbicanlaw20_OptChains_L1v5_0 y0 g1_0 g1_1 r2 g3_0 g4_0 , 1, (.exit 2), fun ls => vf_barbicanlaw20_OptChains_L1v5 y0 g1_0 g1_1 r2 g3_0 g4_0 (.e0 c0_0) (ls.take 5 ++ ls.drop 5), fun ls => (Hf_barbicanlaw20_OptChains_L1v5 y0 g1_0 g1_1 r2 g3_0 g4_0 (.e0 c0_0) (ls.take 5 ++ ls.drop 5)).take 5 ++ List.replicate 0 unb, fun ls => (Hf_barbicanlaw20_OptChains_L1v5 y0 g1_0 g1_1 r2 g3_0 g4_0 (.e0 c0_0) (ls.take 5 ++ ls.drop 5)).drop 5⟩ :=
  spc_of_goesM hU 0 (k0 := 5) (go_barbicanlaw20_OptChains_L1v5 hU y0 g1_0 g1_1 r2 g3_0 g4_0 _ _ h) (t0_barbicanlaw20_OptChains_L1v5_0 y0 g1_0 g1_1 r2 g3_0 g4_0 ) (pre_barbicanlaw20_OptChains_L1v5_0 y0 g1_0 g1_1 r2 g3_0 g4_0 ) (fun _ => rfl) (fun ls h => by match ls, h with | [l0, l1, l2, l3, l4], _ => exact ⟨by kernel_rfl, by kernel_rfl⟩) (fun ls h => by match ls, h with | [l0, l1, l2, l3, l4], _ => rfl) (by decide) (by decide) (fun ls => rfl)
noncomputable def m_barbicanlaw20_OptChains (y0 : Int) : Option (Bool) :=
  (m_barbicanlaw20_known).bind fun r0 =>
  bif r0 then
    (bif decide (y0 < 0) then
      (some true)
    else (bif decide (100 < y0) then
      (some true)
    else ((lpO (st_barbicanlaw20_OptChains_L0 y0) (.c0)).bind fun g1 => match g1 with
    | .e0  => (bindT (appL (fun _ => (⟨0#8, 0#8, 0#8, 0#16, 0#32⟩ : Insn)) 0 [(⟨183#8, 0#8, 0#8, 0#16, 3#32⟩ : Insn), (⟨149#8, 0#8, 0#8, 0#16, 0#32⟩ : Insn)]) fun r2 =>
      (m_opt_Trim 2 r2).bind fun g3 => match g3 with
      | .e0 g3_0 g3_1 g3_2 g3_3 => ((m_opt_Thread 2 r2).bind fun g4 => match g4 with
        | .e0 g4_0 => (bif inR y0 (2 + 1) then
            (bif inR y0 2 then
              ((m_barbicanhelp_Insns g3_0 g3_1 (2 - (y0).toNat) (fun k => r2 ((y0).toNat + k))).bind fun r5 =>
              bif r5 then
                ((m_barbicanhelp_Ints g3_2 g3_3 2 (fun k => if k = 0 then y0 else (IntKind.i64.wrap (y0 + 1)))).bind fun r6 =>
                bif r6 then
                  ((lpO (st_barbicanlaw20_OptChains_L1 y0 g4_0) (.c0 0)).bind fun g7 => match g7 with
                  | .e0 g7_0 => (some true)
                  | .e1 g7_0 => (some false))
                else (some false))
              else (some false))
            else (none))
          else (none))
        | .e1 g4_0 => (bif g4_0 == 0 then
            (bif inR y0 (2 + 1) then
              (bif inR y0 2 then
                ((m_barbicanhelp_Insns g3_0 g3_1 (2 - (y0).toNat) (fun k => r2 ((y0).toNat + k))).bind fun r5 =>
                bif r5 then
                  ((m_barbicanhelp_Ints g3_2 g3_3 2 (fun k => if k = 0 then y0 else (IntKind.i64.wrap (y0 + 1)))).bind fun r6 =>
                  bif r6 then
                    (some false)
                  else (some false))
                else (some false))
              else (none))
            else (none))
          else (some false)))
      | .e1 g3_0 => ((m_opt_Thread 2 r2).bind fun g4 => match g4 with
        | .e0 g4_0 => (bif g3_0 == 0 then
            (bif inR y0 (2 + 1) then
              (bif inR y0 2 then
                ((m_barbicanhelp_Insns 0 (fun _ => (⟨0#8, 0#8, 0#8, 0#16, 0#32⟩ : Insn)) (2 - (y0).toNat) (fun k => r2 ((y0).toNat + k))).bind fun r5 =>
                bif r5 then
                  ((m_barbicanhelp_Ints 0 (fun _ => 0) 2 (fun k => if k = 0 then y0 else (IntKind.i64.wrap (y0 + 1)))).bind fun r6 =>
                  bif r6 then
                    ((lpO (st_barbicanlaw20_OptChains_L1v1 y0 g4_0) (.c0 0)).bind fun g7 => match g7 with
                    | .e0 g7_0 => (some true)
                    | .e1 g7_0 => (some false))
                  else (some false))
                else (some false))
              else (none))
            else (none))
          else (some false))
        | .e1 g4_0 => (bif g3_0 == 0 then
            (bif g4_0 == 0 then
              (bif inR y0 (2 + 1) then
                (bif inR y0 2 then
                  ((m_barbicanhelp_Insns 0 (fun _ => (⟨0#8, 0#8, 0#8, 0#16, 0#32⟩ : Insn)) (2 - (y0).toNat) (fun k => r2 ((y0).toNat + k))).bind fun r5 =>
                  bif r5 then
                    ((m_barbicanhelp_Ints 0 (fun _ => 0) 2 (fun k => if k = 0 then y0 else (IntKind.i64.wrap (y0 + 1)))).bind fun r6 =>
                    bif r6 then
                      (some false)
                    else (some false))
                  else (some false))
                else (none))
              else (none))
            else (some false))
          else (some false))))
    | .e1 g1_0 g1_1 => (bif decide (g1_0 ≤ 1000000) then
        (bindT (appL g1_1 g1_0 [(⟨183#8, 0#8, 0#8, 0#16, 3#32⟩ : Insn), (⟨149#8, 0#8, 0#8, 0#16, 0#32⟩ : Insn)]) fun r2 =>
        (m_opt_Trim (g1_0 + 2) r2).bind fun g3 => match g3 with
        | .e0 g3_0 g3_1 g3_2 g3_3 => ((m_opt_Thread (g1_0 + 2) r2).bind fun g4 => match g4 with
          | .e0 g4_0 => (bif inR y0 ((g1_0 + 2) + 1) then
              (bif inR y0 (g1_0 + 2) then
                ((m_barbicanhelp_Insns g3_0 g3_1 ((g1_0 + 2) - (y0).toNat) (fun k => r2 ((y0).toNat + k))).bind fun r5 =>
                bif r5 then
                  ((m_barbicanhelp_Ints g3_2 g3_3 2 (fun k => if k = 0 then y0 else (IntKind.i64.wrap (y0 + 1)))).bind fun r6 =>
                  bif r6 then
                    (bif ((g1_0 + 2) : Int) == ((g1_0 + 2) : Int) then
                      ((lpO (st_barbicanlaw20_OptChains_L1v2 y0 g1_0 g4_0) (.c0 0)).bind fun g7 => match g7 with
                      | .e0 g7_0 => (some true)
                      | .e1 g7_0 => (some false))
                    else (some false))
                  else (some false))
                else (some false))
              else (none))
            else (none))
          | .e1 g4_0 => (bif g4_0 == 0 then
              (bif inR y0 ((g1_0 + 2) + 1) then
                (bif inR y0 (g1_0 + 2) then
                  ((m_barbicanhelp_Insns g3_0 g3_1 ((g1_0 + 2) - (y0).toNat) (fun k => r2 ((y0).toNat + k))).bind fun r5 =>
                  bif r5 then
                    ((m_barbicanhelp_Ints g3_2 g3_3 2 (fun k => if k = 0 then y0 else (IntKind.i64.wrap (y0 + 1)))).bind fun r6 =>
                    bif r6 then
                      (bif (0 : Int) == ((g1_0 + 2) : Int) then
                        ((lpO (st_barbicanlaw20_OptChains_L1v3 y0) (.c0)).bind fun g7 => match g7 with
                        | .e0 g7_0 =>
                        some true)
                      else (some false))
                    else (some false))
                  else (some false))
                else (none))
              else (none))
            else (some false)))
        | .e1 g3_0 => ((m_opt_Thread (g1_0 + 2) r2).bind fun g4 => match g4 with
          | .e0 g4_0 => (bif g3_0 == 0 then
              (bif inR y0 ((g1_0 + 2) + 1) then
                (bif inR y0 (g1_0 + 2) then
                  ((m_barbicanhelp_Insns 0 (fun _ => (⟨0#8, 0#8, 0#8, 0#16, 0#32⟩ : Insn)) ((g1_0 + 2) - (y0).toNat) (fun k => r2 ((y0).toNat + k))).bind fun r5 =>
                  bif r5 then
                    ((m_barbicanhelp_Ints 0 (fun _ => 0) 2 (fun k => if k = 0 then y0 else (IntKind.i64.wrap (y0 + 1)))).bind fun r6 =>
                    bif r6 then
                      (bif ((g1_0 + 2) : Int) == ((g1_0 + 2) : Int) then
                        ((lpO (st_barbicanlaw20_OptChains_L1v4 y0 g1_0 g4_0) (.c0 0)).bind fun g7 => match g7 with
                        | .e0 g7_0 => (some true)
                        | .e1 g7_0 => (some false))
                      else (some false))
                    else (some false))
                  else (some false))
                else (none))
              else (none))
            else (some false))
          | .e1 g4_0 => (bif g3_0 == 0 then
              (bif g4_0 == 0 then
                (bif inR y0 ((g1_0 + 2) + 1) then
                  (bif inR y0 (g1_0 + 2) then
                    ((m_barbicanhelp_Insns 0 (fun _ => (⟨0#8, 0#8, 0#8, 0#16, 0#32⟩ : Insn)) ((g1_0 + 2) - (y0).toNat) (fun k => r2 ((y0).toNat + k))).bind fun r5 =>
                    bif r5 then
                      ((m_barbicanhelp_Ints 0 (fun _ => 0) 2 (fun k => if k = 0 then y0 else (IntKind.i64.wrap (y0 + 1)))).bind fun r6 =>
                      bif r6 then
                        (bif (0 : Int) == ((g1_0 + 2) : Int) then
                          ((lpO (st_barbicanlaw20_OptChains_L1v5 y0) (.c0)).bind fun g7 => match g7 with
                          | .e0 g7_0 =>
                          some true)
                        else (some false))
                      else (some false))
                    else (some false))
                  else (none))
                else (none))
              else (some false))
            else (some false))))
      else (none)))))
  else (some false)
end
section
variable {M : Nat → Prop} {B0 : Nat} {S : World → Prop} (hU : Up M B0 S)
include hU
theorem ok_barbicanlaw20_OptChains (y0 : Int) (r : Bool) (e : m_barbicanlaw20_OptChains y0 = some r) : ConG Try.prog S 4 #[.int .i64 (y0)] (.bool (r)) := by
  unfold m_barbicanlaw20_OptChains at e
  replace e := bindO_eq e
  obtain ⟨r0, e_r0, e⟩ := e
  try dsimp only at e
  replace e := cond_eq_or e
  rcases e with ⟨hq0, e⟩ | ⟨hq0, e⟩
  · subst hq0
    replace e := cond_eq_or e
    rcases e with ⟨hq1, e⟩ | ⟨hq1, e⟩
    · injection e with e; subst e; exact fn_conG hU (P := Try.prog) Try.func4 (fun xs w => by kernel_rfl) _ _ [.o, .cg (ok_barbicanlaw20_known hU  true e_r0), .o, .o, .b (z_lssT hq1), .o, .o, .o] [] (fun b => by kernel_rfl)
    · replace e := cond_eq_or e
      rcases e with ⟨hq2, e⟩ | ⟨hq2, e⟩
      · injection e with e; subst e; exact fn_conG hU (P := Try.prog) Try.func4 (fun xs w => by kernel_rfl) _ _ [.o, .cg (ok_barbicanlaw20_known hU  true e_r0), .o, .o, .b (z_lssF hq1), .o, .o, .b (z_gtrT hq2), .o, .o] [] (fun b => by kernel_rfl)
      · replace e := bindO_eq e
        obtain ⟨g1, e_g1, e⟩ := e
        rcases g1 with _ | ⟨g1_0, g1_1⟩
        · try dsimp only at e
          replace e := bindT_eq e
          obtain ⟨r2, e_r2, e⟩ := e
          try dsimp only at e
          replace e := bindO_eq e
          obtain ⟨g3, e_g3, e⟩ := e
          rcases g3 with ⟨g3_0, g3_1, g3_2, g3_3⟩ | ⟨g3_0⟩
          · try dsimp only at e
            replace e := bindO_eq e
            obtain ⟨g4, e_g4, e⟩ := e
            rcases g4 with ⟨g4_0⟩ | ⟨g4_0⟩
            · try dsimp only at e
              replace e := cond_eq_or e
              rcases e with ⟨hq3, e⟩ | ⟨hq3, e⟩
              · replace e := cond_eq_or e
                rcases e with ⟨hq4, e⟩ | ⟨hq4, e⟩
                · replace e := bindO_eq e
                  obtain ⟨r5, e_r5, e⟩ := e
                  try dsimp only at e
                  replace e := cond_eq_or e
                  rcases e with ⟨hq5, e⟩ | ⟨hq5, e⟩
                  · subst hq5
                    replace e := bindO_eq e
                    obtain ⟨r6, e_r6, e⟩ := e
                    try dsimp only at e
                    replace e := cond_eq_or e
                    rcases e with ⟨hq6, e⟩ | ⟨hq6, e⟩
                    · subst hq6
                      replace e := bindO_eq e
                      obtain ⟨g7, e_g7, e⟩ := e
                      rcases g7 with ⟨g7_0⟩ | ⟨g7_0⟩
                      · try dsimp only at e
                        injection e with e; subst e; exact fn_conG hU (P := Try.prog) Try.func4 (fun xs w => by kernel_rfl) _ _ [.o, .cg (ok_barbicanlaw20_known hU  true e_r0), .o, .o, .b (z_lssF hq1), .o, .o, .b (z_gtrF hq2), .o, .o, .o, .cp, .cx (sp0_barbicanlaw20_OptChains_L0_0_ok hU y0   e_g1) [], .o, .o, .o, .o, .x (sqAppL0r_ok (ty := 22) rt22 #[false, false] (f := c_Insn) (a0 := (⟨0#8, 0#8, 0#8, 0#16, 0#32⟩ : Insn)) (c := 2) [(⟨183#8, 0#8, 0#8, 0#16, 3#32⟩ : Insn), (⟨149#8, 0#8, 0#8, 0#16, 0#32⟩ : Insn)] (T' := 40) c_Insn_len c_Insn_one rfl rfl (by decide) e_r2) [2], .o, .o, .xg (SpcG.own hU (f := c_Insn) c_Insn_len 2 r2 40 (fun l => padL l 2 5) (fun l => (padL l 2 5).length / 5) _ 2 .normal (by intros; rfl) (by intros; rfl) (by intros; rfl) (fun M0 B0 S0 x0 u0 v0 z0 hU0 hs0 hr0 => ok0_opt_Trim hU0 x0 u0 v0 2 z0 r2 hr0 g3_0 g3_1 g3_2 g3_3 e_g3)) [3], .o, .o, .o, .o, .o, .o, .o, .o, .xg (SpcG.own hU (f := c_Insn) c_Insn_len 2 r2 40 (fun l => padL l 2 5) (fun l => (padL l 2 5).length / 5) _ 1 .normal (by intros; rfl) (by intros; rfl) (by intros; rfl) (fun M0 B0 S0 x0 u0 v0 z0 hU0 hs0 hr0 => ok0_opt_Thread hU0 x0 u0 v0 2 z0 r2 hr0 g4_0 e_g4)) [3], .o, .o, .o, .o, .o, .o, .o, .o, .o, .o, .o, .o, .o, .o, .o, .qb (slTail_ok (T := 22) (e := 40) (sz := 5) (N := 2) (x := y0) .row (by kernel_rfl) (fun w => by kernel_rfl) hq4) 3, .xg (SpcG.own hU (f := c_Insn) c_Insn_len g3_0 g3_1 40 (fun l => padL l g3_0 5) (fun _ => 0) _ 0 .normal (by intros; rfl) (by intros; rfl) (by intros; rfl) (fun M0 B0 S0 x0 u0 v0 z0 hU0 hs0 hr0 => SpcG.ownT hU0 (f := c_Insn) c_Insn_len 2 r2 40 (fun l => padC .row l 2 5) (fun l => capC .row l 2 5 - 2) (y0).toNat (2 - (y0).toNat) (tail_le hq4) _ 0 .normal (by intros; rfl) (by intros; rfl) (by intros; rfl) (fun M1 B1 S1 x1 u1 v1 z1 hU1 hs1 hr1 => ConG.sp (ok_barbicanhelp_Insns hU1 x0 u0 v0 g3_0 z0 g3_1 (Ro.mono hr0 hs1) x1 u1 v1 (2 - (y0).toNat) z1 (fun k => r2 ((y0).toNat + k)) hr1 true e_r5)))) [4, 3], .o, .o, .o, .o, .o, .o, .o, .o, .xg (SpcG.own hU (f := cZ) cZ_len g3_2 g3_3 3 (fun l => padL l g3_2 1) (fun _ => 0) _ 0 .normal (by intros; rfl) (by intros; rfl) (by intros; rfl) (fun M0 B0 S0 x0 u0 v0 z0 hU0 hs0 hr0 => SpcG.own hU0 (f := cZ) cZ_len 2 (fun k => if k = 0 then y0 else (IntKind.i64.wrap (y0 + 1))) 3 (fun _ => []) (fun _ => 0) _ 0 .normal (by intros; rfl) (by intros; rfl) (by intros; rfl) (fun M1 B1 S1 x1 u1 v1 z1 hU1 hs1 hr1 => ConG.sp (ok_barbicanhelp_Ints hU1 x0 u0 v0 g3_2 z0 g3_3 (Ro.mono hr0 hs1) x1 u1 v1 2 z1 (fun k => if k = 0 then y0 else (IntKind.i64.wrap (y0 + 1))) hr1 true e_r6)))) [5, 7], .o, .o, .o, .o, .o, .o, .o, .o, .o, .o, .cp, .cx (sp0_barbicanlaw20_OptChains_L1_0_ok hU y0 r2 g3_0 g3_1 g3_2 g3_3 g4_0 0 g7_0 e_g7) [0, 1, 2, 3, 4, 5, 6, 7], .o] [] (fun b => by kernel_rfl)
                      · try dsimp only at e
                        injection e with e; subst e; exact fn_conG hU (P := Try.prog) Try.func4 (fun xs w => by kernel_rfl) _ _ [.o, .cg (ok_barbicanlaw20_known hU  true e_r0), .o, .o, .b (z_lssF hq1), .o, .o, .b (z_gtrF hq2), .o, .o, .o, .cp, .cx (sp0_barbicanlaw20_OptChains_L0_0_ok hU y0   e_g1) [], .o, .o, .o, .o, .x (sqAppL0r_ok (ty := 22) rt22 #[false, false] (f := c_Insn) (a0 := (⟨0#8, 0#8, 0#8, 0#16, 0#32⟩ : Insn)) (c := 2) [(⟨183#8, 0#8, 0#8, 0#16, 3#32⟩ : Insn), (⟨149#8, 0#8, 0#8, 0#16, 0#32⟩ : Insn)] (T' := 40) c_Insn_len c_Insn_one rfl rfl (by decide) e_r2) [2], .o, .o, .xg (SpcG.own hU (f := c_Insn) c_Insn_len 2 r2 40 (fun l => padL l 2 5) (fun l => (padL l 2 5).length / 5) _ 2 .normal (by intros; rfl) (by intros; rfl) (by intros; rfl) (fun M0 B0 S0 x0 u0 v0 z0 hU0 hs0 hr0 => ok0_opt_Trim hU0 x0 u0 v0 2 z0 r2 hr0 g3_0 g3_1 g3_2 g3_3 e_g3)) [3], .o, .o, .o, .o, .o, .o, .o, .o, .xg (SpcG.own hU (f := c_Insn) c_Insn_len 2 r2 40 (fun l => padL l 2 5) (fun l => (padL l 2 5).length / 5) _ 1 .normal (by intros; rfl) (by intros; rfl) (by intros; rfl) (fun M0 B0 S0 x0 u0 v0 z0 hU0 hs0 hr0 => ok0_opt_Thread hU0 x0 u0 v0 2 z0 r2 hr0 g4_0 e_g4)) [3], .o, .o, .o, .o, .o, .o, .o, .o, .o, .o, .o, .o, .o, .o, .o, .qb (slTail_ok (T := 22) (e := 40) (sz := 5) (N := 2) (x := y0) .row (by kernel_rfl) (fun w => by kernel_rfl) hq4) 3, .xg (SpcG.own hU (f := c_Insn) c_Insn_len g3_0 g3_1 40 (fun l => padL l g3_0 5) (fun _ => 0) _ 0 .normal (by intros; rfl) (by intros; rfl) (by intros; rfl) (fun M0 B0 S0 x0 u0 v0 z0 hU0 hs0 hr0 => SpcG.ownT hU0 (f := c_Insn) c_Insn_len 2 r2 40 (fun l => padC .row l 2 5) (fun l => capC .row l 2 5 - 2) (y0).toNat (2 - (y0).toNat) (tail_le hq4) _ 0 .normal (by intros; rfl) (by intros; rfl) (by intros; rfl) (fun M1 B1 S1 x1 u1 v1 z1 hU1 hs1 hr1 => ConG.sp (ok_barbicanhelp_Insns hU1 x0 u0 v0 g3_0 z0 g3_1 (Ro.mono hr0 hs1) x1 u1 v1 (2 - (y0).toNat) z1 (fun k => r2 ((y0).toNat + k)) hr1 true e_r5)))) [4, 3], .o, .o, .o, .o, .o, .o, .o, .o, .xg (SpcG.own hU (f := cZ) cZ_len g3_2 g3_3 3 (fun l => padL l g3_2 1) (fun _ => 0) _ 0 .normal (by intros; rfl) (by intros; rfl) (by intros; rfl) (fun M0 B0 S0 x0 u0 v0 z0 hU0 hs0 hr0 => SpcG.own hU0 (f := cZ) cZ_len 2 (fun k => if k = 0 then y0 else (IntKind.i64.wrap (y0 + 1))) 3 (fun _ => []) (fun _ => 0) _ 0 .normal (by intros; rfl) (by intros; rfl) (by intros; rfl) (fun M1 B1 S1 x1 u1 v1 z1 hU1 hs1 hr1 => ConG.sp (ok_barbicanhelp_Ints hU1 x0 u0 v0 g3_2 z0 g3_3 (Ro.mono hr0 hs1) x1 u1 v1 2 z1 (fun k => if k = 0 then y0 else (IntKind.i64.wrap (y0 + 1))) hr1 true e_r6)))) [5, 7], .o, .o, .o, .o, .o, .o, .o, .o, .o, .o, .cp, .cx (sp1_barbicanlaw20_OptChains_L1_0_ok hU y0 r2 g3_0 g3_1 g3_2 g3_3 g4_0 0 g7_0 e_g7) [0, 1, 2, 3, 4, 5, 6, 7]] [] (fun b => by kernel_rfl)
                    · subst hq6
                      injection e with e; subst e; exact fn_conG hU (P := Try.prog) Try.func4 (fun xs w => by kernel_rfl) _ _ [.o, .cg (ok_barbicanlaw20_known hU  true e_r0), .o, .o, .b (z_lssF hq1), .o, .o, .b (z_gtrF hq2), .o, .o, .o, .cp, .cx (sp0_barbicanlaw20_OptChains_L0_0_ok hU y0   e_g1) [], .o, .o, .o, .o, .x (sqAppL0r_ok (ty := 22) rt22 #[false, false] (f := c_Insn) (a0 := (⟨0#8, 0#8, 0#8, 0#16, 0#32⟩ : Insn)) (c := 2) [(⟨183#8, 0#8, 0#8, 0#16, 3#32⟩ : Insn), (⟨149#8, 0#8, 0#8, 0#16, 0#32⟩ : Insn)] (T' := 40) c_Insn_len c_Insn_one rfl rfl (by decide) e_r2) [2], .o, .o, .xg (SpcG.own hU (f := c_Insn) c_Insn_len 2 r2 40 (fun l => padL l 2 5) (fun l => (padL l 2 5).length / 5) _ 2 .normal (by intros; rfl) (by intros; rfl) (by intros; rfl) (fun M0 B0 S0 x0 u0 v0 z0 hU0 hs0 hr0 => ok0_opt_Trim hU0 x0 u0 v0 2 z0 r2 hr0 g3_0 g3_1 g3_2 g3_3 e_g3)) [3], .o, .o, .o, .o, .o, .o, .o, .o, .xg (SpcG.own hU (f := c_Insn) c_Insn_len 2 r2 40 (fun l => padL l 2 5) (fun l => (padL l 2 5).length / 5) _ 1 .normal (by intros; rfl) (by intros; rfl) (by intros; rfl) (fun M0 B0 S0 x0 u0 v0 z0 hU0 hs0 hr0 => ok0_opt_Thread hU0 x0 u0 v0 2 z0 r2 hr0 g4_0 e_g4)) [3], .o, .o, .o, .o, .o, .o, .o, .o, .o, .o, .o, .o, .o, .o, .o, .qb (slTail_ok (T := 22) (e := 40) (sz := 5) (N := 2) (x := y0) .row (by kernel_rfl) (fun w => by kernel_rfl) hq4) 3, .xg (SpcG.own hU (f := c_Insn) c_Insn_len g3_0 g3_1 40 (fun l => padL l g3_0 5) (fun _ => 0) _ 0 .normal (by intros; rfl) (by intros; rfl) (by intros; rfl) (fun M0 B0 S0 x0 u0 v0 z0 hU0 hs0 hr0 => SpcG.ownT hU0 (f := c_Insn) c_Insn_len 2 r2 40 (fun l => padC .row l 2 5) (fun l => capC .row l 2 5 - 2) (y0).toNat (2 - (y0).toNat) (tail_le hq4) _ 0 .normal (by intros; rfl) (by intros; rfl) (by intros; rfl) (fun M1 B1 S1 x1 u1 v1 z1 hU1 hs1 hr1 => ConG.sp (ok_barbicanhelp_Insns hU1 x0 u0 v0 g3_0 z0 g3_1 (Ro.mono hr0 hs1) x1 u1 v1 (2 - (y0).toNat) z1 (fun k => r2 ((y0).toNat + k)) hr1 true e_r5)))) [4, 3], .o, .o, .o, .o, .o, .o, .o, .o, .xg (SpcG.own hU (f := cZ) cZ_len g3_2 g3_3 3 (fun l => padL l g3_2 1) (fun _ => 0) _ 0 .normal (by intros; rfl) (by intros; rfl) (by intros; rfl) (fun M0 B0 S0 x0 u0 v0 z0 hU0 hs0 hr0 => SpcG.own hU0 (f := cZ) cZ_len 2 (fun k => if k = 0 then y0 else (IntKind.i64.wrap (y0 + 1))) 3 (fun _ => []) (fun _ => 0) _ 0 .normal (by intros; rfl) (by intros; rfl) (by intros; rfl) (fun M1 B1 S1 x1 u1 v1 z1 hU1 hs1 hr1 => ConG.sp (ok_barbicanhelp_Ints hU1 x0 u0 v0 g3_2 z0 g3_3 (Ro.mono hr0 hs1) x1 u1 v1 2 z1 (fun k => if k = 0 then y0 else (IntKind.i64.wrap (y0 + 1))) hr1 false e_r6)))) [5, 7], .o, .o, .o, .o, .o] [] (fun b => by kernel_rfl)
                  · subst hq5
                    injection e with e; subst e; exact fn_conG hU (P := Try.prog) Try.func4 (fun xs w => by kernel_rfl) _ _ [.o, .cg (ok_barbicanlaw20_known hU  true e_r0), .o, .o, .b (z_lssF hq1), .o, .o, .b (z_gtrF hq2), .o, .o, .o, .cp, .cx (sp0_barbicanlaw20_OptChains_L0_0_ok hU y0   e_g1) [], .o, .o, .o, .o, .x (sqAppL0r_ok (ty := 22) rt22 #[false, false] (f := c_Insn) (a0 := (⟨0#8, 0#8, 0#8, 0#16, 0#32⟩ : Insn)) (c := 2) [(⟨183#8, 0#8, 0#8, 0#16, 3#32⟩ : Insn), (⟨149#8, 0#8, 0#8, 0#16, 0#32⟩ : Insn)] (T' := 40) c_Insn_len c_Insn_one rfl rfl (by decide) e_r2) [2], .o, .o, .xg (SpcG.own hU (f := c_Insn) c_Insn_len 2 r2 40 (fun l => padL l 2 5) (fun l => (padL l 2 5).length / 5) _ 2 .normal (by intros; rfl) (by intros; rfl) (by intros; rfl) (fun M0 B0 S0 x0 u0 v0 z0 hU0 hs0 hr0 => ok0_opt_Trim hU0 x0 u0 v0 2 z0 r2 hr0 g3_0 g3_1 g3_2 g3_3 e_g3)) [3], .o, .o, .o, .o, .o, .o, .o, .o, .xg (SpcG.own hU (f := c_Insn) c_Insn_len 2 r2 40 (fun l => padL l 2 5) (fun l => (padL l 2 5).length / 5) _ 1 .normal (by intros; rfl) (by intros; rfl) (by intros; rfl) (fun M0 B0 S0 x0 u0 v0 z0 hU0 hs0 hr0 => ok0_opt_Thread hU0 x0 u0 v0 2 z0 r2 hr0 g4_0 e_g4)) [3], .o, .o, .o, .o, .o, .o, .o, .o, .o, .o, .o, .o, .o, .o, .o, .qb (slTail_ok (T := 22) (e := 40) (sz := 5) (N := 2) (x := y0) .row (by kernel_rfl) (fun w => by kernel_rfl) hq4) 3, .xg (SpcG.own hU (f := c_Insn) c_Insn_len g3_0 g3_1 40 (fun l => padL l g3_0 5) (fun _ => 0) _ 0 .normal (by intros; rfl) (by intros; rfl) (by intros; rfl) (fun M0 B0 S0 x0 u0 v0 z0 hU0 hs0 hr0 => SpcG.ownT hU0 (f := c_Insn) c_Insn_len 2 r2 40 (fun l => padC .row l 2 5) (fun l => capC .row l 2 5 - 2) (y0).toNat (2 - (y0).toNat) (tail_le hq4) _ 0 .normal (by intros; rfl) (by intros; rfl) (by intros; rfl) (fun M1 B1 S1 x1 u1 v1 z1 hU1 hs1 hr1 => ConG.sp (ok_barbicanhelp_Insns hU1 x0 u0 v0 g3_0 z0 g3_1 (Ro.mono hr0 hs1) x1 u1 v1 (2 - (y0).toNat) z1 (fun k => r2 ((y0).toNat + k)) hr1 false e_r5)))) [4, 3], .o, .o, .o, .o, .o, .o, .o] [] (fun b => by kernel_rfl)
                · exact none_some e
              · exact none_some e
            · try dsimp only at e
              replace e := cond_eq_or e
              rcases e with ⟨hq3, e⟩ | ⟨hq3, e⟩
              · replace e := cond_eq_or e
                rcases e with ⟨hq4, e⟩ | ⟨hq4, e⟩
                · replace e := cond_eq_or e
                  rcases e with ⟨hq5, e⟩ | ⟨hq5, e⟩
                  · replace e := bindO_eq e
                    obtain ⟨r5, e_r5, e⟩ := e
                    try dsimp only at e
                    replace e := cond_eq_or e
                    rcases e with ⟨hq6, e⟩ | ⟨hq6, e⟩
                    · subst hq6
                      replace e := bindO_eq e
                      obtain ⟨r6, e_r6, e⟩ := e
                      try dsimp only at e
                      replace e := cond_eq_or e
                      rcases e with ⟨hq7, e⟩ | ⟨hq7, e⟩
                      · subst hq7
                        injection e with e; subst e; exact fn_conG hU (P := Try.prog) Try.func4 (fun xs w => by kernel_rfl) _ _ [.o, .cg (ok_barbicanlaw20_known hU  true e_r0), .o, .o, .b (z_lssF hq1), .o, .o, .b (z_gtrF hq2), .o, .o, .o, .cp, .cx (sp0_barbicanlaw20_OptChains_L0_0_ok hU y0   e_g1) [], .o, .o, .o, .o, .x (sqAppL0r_ok (ty := 22) rt22 #[false, false] (f := c_Insn) (a0 := (⟨0#8, 0#8, 0#8, 0#16, 0#32⟩ : Insn)) (c := 2) [(⟨183#8, 0#8, 0#8, 0#16, 3#32⟩ : Insn), (⟨149#8, 0#8, 0#8, 0#16, 0#32⟩ : Insn)] (T' := 40) c_Insn_len c_Insn_one rfl rfl (by decide) e_r2) [2], .o, .o, .xg (SpcG.own hU (f := c_Insn) c_Insn_len 2 r2 40 (fun l => padL l 2 5) (fun l => (padL l 2 5).length / 5) _ 2 .normal (by intros; rfl) (by intros; rfl) (by intros; rfl) (fun M0 B0 S0 x0 u0 v0 z0 hU0 hs0 hr0 => ok0_opt_Trim hU0 x0 u0 v0 2 z0 r2 hr0 g3_0 g3_1 g3_2 g3_3 e_g3)) [3], .o, .o, .o, .o, .o, .o, .o, .o, .xg (SpcG.own hU (f := c_Insn) c_Insn_len 2 r2 40 (fun l => padL l 2 5) (fun l => (padL l 2 5).length / 5) _ 0 .normal (by intros; rfl) (by intros; rfl) (by intros; rfl) (fun M0 B0 S0 x0 u0 v0 z0 hU0 hs0 hr0 => ok1_opt_Thread hU0 x0 u0 v0 2 z0 r2 hr0 g4_0 e_g4)) [3], .o, .o, .o, .o, .o, .o, .o, .o, .o, .b (z_neqT hq3), .o, .o, .o, .o, .o, .qb (slTail_ok (T := 22) (e := 40) (sz := 5) (N := 2) (x := y0) .row (by kernel_rfl) (fun w => by kernel_rfl) hq5) 3, .xg (SpcG.own hU (f := c_Insn) c_Insn_len g3_0 g3_1 40 (fun l => padL l g3_0 5) (fun _ => 0) _ 0 .normal (by intros; rfl) (by intros; rfl) (by intros; rfl) (fun M0 B0 S0 x0 u0 v0 z0 hU0 hs0 hr0 => SpcG.ownT hU0 (f := c_Insn) c_Insn_len 2 r2 40 (fun l => padC .row l 2 5) (fun l => capC .row l 2 5 - 2) (y0).toNat (2 - (y0).toNat) (tail_le hq5) _ 0 .normal (by intros; rfl) (by intros; rfl) (by intros; rfl) (fun M1 B1 S1 x1 u1 v1 z1 hU1 hs1 hr1 => ConG.sp (ok_barbicanhelp_Insns hU1 x0 u0 v0 g3_0 z0 g3_1 (Ro.mono hr0 hs1) x1 u1 v1 (2 - (y0).toNat) z1 (fun k => r2 ((y0).toNat + k)) hr1 true e_r5)))) [4, 3], .o, .o, .o, .o, .o, .o, .o, .o, .xg (SpcG.own hU (f := cZ) cZ_len g3_2 g3_3 3 (fun l => padL l g3_2 1) (fun _ => 0) _ 0 .normal (by intros; rfl) (by intros; rfl) (by intros; rfl) (fun M0 B0 S0 x0 u0 v0 z0 hU0 hs0 hr0 => SpcG.own hU0 (f := cZ) cZ_len 2 (fun k => if k = 0 then y0 else (IntKind.i64.wrap (y0 + 1))) 3 (fun _ => []) (fun _ => 0) _ 0 .normal (by intros; rfl) (by intros; rfl) (by intros; rfl) (fun M1 B1 S1 x1 u1 v1 z1 hU1 hs1 hr1 => ConG.sp (ok_barbicanhelp_Ints hU1 x0 u0 v0 g3_2 z0 g3_3 (Ro.mono hr0 hs1) x1 u1 v1 2 z1 (fun k => if k = 0 then y0 else (IntKind.i64.wrap (y0 + 1))) hr1 true e_r6)))) [5, 6], .o, .o, .o, .o, .o, .o, .o, .o, .o, .o] [] (fun b => by kernel_rfl)
                      · subst hq7
                        injection e with e; subst e; exact fn_conG hU (P := Try.prog) Try.func4 (fun xs w => by kernel_rfl) _ _ [.o, .cg (ok_barbicanlaw20_known hU  true e_r0), .o, .o, .b (z_lssF hq1), .o, .o, .b (z_gtrF hq2), .o, .o, .o, .cp, .cx (sp0_barbicanlaw20_OptChains_L0_0_ok hU y0   e_g1) [], .o, .o, .o, .o, .x (sqAppL0r_ok (ty := 22) rt22 #[false, false] (f := c_Insn) (a0 := (⟨0#8, 0#8, 0#8, 0#16, 0#32⟩ : Insn)) (c := 2) [(⟨183#8, 0#8, 0#8, 0#16, 3#32⟩ : Insn), (⟨149#8, 0#8, 0#8, 0#16, 0#32⟩ : Insn)] (T' := 40) c_Insn_len c_Insn_one rfl rfl (by decide) e_r2) [2], .o, .o, .xg (SpcG.own hU (f := c_Insn) c_Insn_len 2 r2 40 (fun l => padL l 2 5) (fun l => (padL l 2 5).length / 5) _ 2 .normal (by intros; rfl) (by intros; rfl) (by intros; rfl) (fun M0 B0 S0 x0 u0 v0 z0 hU0 hs0 hr0 => ok0_opt_Trim hU0 x0 u0 v0 2 z0 r2 hr0 g3_0 g3_1 g3_2 g3_3 e_g3)) [3], .o, .o, .o, .o, .o, .o, .o, .o, .xg (SpcG.own hU (f := c_Insn) c_Insn_len 2 r2 40 (fun l => padL l 2 5) (fun l => (padL l 2 5).length / 5) _ 0 .normal (by intros; rfl) (by intros; rfl) (by intros; rfl) (fun M0 B0 S0 x0 u0 v0 z0 hU0 hs0 hr0 => ok1_opt_Thread hU0 x0 u0 v0 2 z0 r2 hr0 g4_0 e_g4)) [3], .o, .o, .o, .o, .o, .o, .o, .o, .o, .b (z_neqT hq3), .o, .o, .o, .o, .o, .qb (slTail_ok (T := 22) (e := 40) (sz := 5) (N := 2) (x := y0) .row (by kernel_rfl) (fun w => by kernel_rfl) hq5) 3, .xg (SpcG.own hU (f := c_Insn) c_Insn_len g3_0 g3_1 40 (fun l => padL l g3_0 5) (fun _ => 0) _ 0 .normal (by intros; rfl) (by intros; rfl) (by intros; rfl) (fun M0 B0 S0 x0 u0 v0 z0 hU0 hs0 hr0 => SpcG.ownT hU0 (f := c_Insn) c_Insn_len 2 r2 40 (fun l => padC .row l 2 5) (fun l => capC .row l 2 5 - 2) (y0).toNat (2 - (y0).toNat) (tail_le hq5) _ 0 .normal (by intros; rfl) (by intros; rfl) (by intros; rfl) (fun M1 B1 S1 x1 u1 v1 z1 hU1 hs1 hr1 => ConG.sp (ok_barbicanhelp_Insns hU1 x0 u0 v0 g3_0 z0 g3_1 (Ro.mono hr0 hs1) x1 u1 v1 (2 - (y0).toNat) z1 (fun k => r2 ((y0).toNat + k)) hr1 true e_r5)))) [4, 3], .o, .o, .o, .o, .o, .o, .o, .o, .xg (SpcG.own hU (f := cZ) cZ_len g3_2 g3_3 3 (fun l => padL l g3_2 1) (fun _ => 0) _ 0 .normal (by intros; rfl) (by intros; rfl) (by intros; rfl) (fun M0 B0 S0 x0 u0 v0 z0 hU0 hs0 hr0 => SpcG.own hU0 (f := cZ) cZ_len 2 (fun k => if k = 0 then y0 else (IntKind.i64.wrap (y0 + 1))) 3 (fun _ => []) (fun _ => 0) _ 0 .normal (by intros; rfl) (by intros; rfl) (by intros; rfl) (fun M1 B1 S1 x1 u1 v1 z1 hU1 hs1 hr1 => ConG.sp (ok_barbicanhelp_Ints hU1 x0 u0 v0 g3_2 z0 g3_3 (Ro.mono hr0 hs1) x1 u1 v1 2 z1 (fun k => if k = 0 then y0 else (IntKind.i64.wrap (y0 + 1))) hr1 false e_r6)))) [5, 6], .o, .o, .o, .o, .o] [] (fun b => by kernel_rfl)
                    · subst hq6
                      injection e with e; subst e; exact fn_conG hU (P := Try.prog) Try.func4 (fun xs w => by kernel_rfl) _ _ [.o, .cg (ok_barbicanlaw20_known hU  true e_r0), .o, .o, .b (z_lssF hq1), .o, .o, .b (z_gtrF hq2), .o, .o, .o, .cp, .cx (sp0_barbicanlaw20_OptChains_L0_0_ok hU y0   e_g1) [], .o, .o, .o, .o, .x (sqAppL0r_ok (ty := 22) rt22 #[false, false] (f := c_Insn) (a0 := (⟨0#8, 0#8, 0#8, 0#16, 0#32⟩ : Insn)) (c := 2) [(⟨183#8, 0#8, 0#8, 0#16, 3#32⟩ : Insn), (⟨149#8, 0#8, 0#8, 0#16, 0#32⟩ : Insn)] (T' := 40) c_Insn_len c_Insn_one rfl rfl (by decide) e_r2) [2], .o, .o, .xg (SpcG.own hU (f := c_Insn) c_Insn_len 2 r2 40 (fun l => padL l 2 5) (fun l => (padL l 2 5).length / 5) _ 2 .normal (by intros; rfl) (by intros; rfl) (by intros; rfl) (fun M0 B0 S0 x0 u0 v0 z0 hU0 hs0 hr0 => ok0_opt_Trim hU0 x0 u0 v0 2 z0 r2 hr0 g3_0 g3_1 g3_2 g3_3 e_g3)) [3], .o, .o, .o, .o, .o, .o, .o, .o, .xg (SpcG.own hU (f := c_Insn) c_Insn_len 2 r2 40 (fun l => padL l 2 5) (fun l => (padL l 2 5).length / 5) _ 0 .normal (by intros; rfl) (by intros; rfl) (by intros; rfl) (fun M0 B0 S0 x0 u0 v0 z0 hU0 hs0 hr0 => ok1_opt_Thread hU0 x0 u0 v0 2 z0 r2 hr0 g4_0 e_g4)) [3], .o, .o, .o, .o, .o, .o, .o, .o, .o, .b (z_neqT hq3), .o, .o, .o, .o, .o, .qb (slTail_ok (T := 22) (e := 40) (sz := 5) (N := 2) (x := y0) .row (by kernel_rfl) (fun w => by kernel_rfl) hq5) 3, .xg (SpcG.own hU (f := c_Insn) c_Insn_len g3_0 g3_1 40 (fun l => padL l g3_0 5) (fun _ => 0) _ 0 .normal (by intros; rfl) (by intros; rfl) (by intros; rfl) (fun M0 B0 S0 x0 u0 v0 z0 hU0 hs0 hr0 => SpcG.ownT hU0 (f := c_Insn) c_Insn_len 2 r2 40 (fun l => padC .row l 2 5) (fun l => capC .row l 2 5 - 2) (y0).toNat (2 - (y0).toNat) (tail_le hq5) _ 0 .normal (by intros; rfl) (by intros; rfl) (by intros; rfl) (fun M1 B1 S1 x1 u1 v1 z1 hU1 hs1 hr1 => ConG.sp (ok_barbicanhelp_Insns hU1 x0 u0 v0 g3_0 z0 g3_1 (Ro.mono hr0 hs1) x1 u1 v1 (2 - (y0).toNat) z1 (fun k => r2 ((y0).toNat + k)) hr1 false e_r5)))) [4, 3], .o, .o, .o, .o, .o, .o, .o] [] (fun b => by kernel_rfl)
                  · exact none_some e
                · exact none_some e
              · injection e with e; subst e; exact fn_conG hU (P := Try.prog) Try.func4 (fun xs w => by kernel_rfl) _ _ [.o, .cg (ok_barbicanlaw20_known hU  true e_r0), .o, .o, .b (z_lssF hq1), .o, .o, .b (z_gtrF hq2), .o, .o, .o, .cp, .cx (sp0_barbicanlaw20_OptChains_L0_0_ok hU y0   e_g1) [], .o, .o, .o, .o, .x (sqAppL0r_ok (ty := 22) rt22 #[false, false] (f := c_Insn) (a0 := (⟨0#8, 0#8, 0#8, 0#16, 0#32⟩ : Insn)) (c := 2) [(⟨183#8, 0#8, 0#8, 0#16, 3#32⟩ : Insn), (⟨149#8, 0#8, 0#8, 0#16, 0#32⟩ : Insn)] (T' := 40) c_Insn_len c_Insn_one rfl rfl (by decide) e_r2) [2], .o, .o, .xg (SpcG.own hU (f := c_Insn) c_Insn_len 2 r2 40 (fun l => padL l 2 5) (fun l => (padL l 2 5).length / 5) _ 2 .normal (by intros; rfl) (by intros; rfl) (by intros; rfl) (fun M0 B0 S0 x0 u0 v0 z0 hU0 hs0 hr0 => ok0_opt_Trim hU0 x0 u0 v0 2 z0 r2 hr0 g3_0 g3_1 g3_2 g3_3 e_g3)) [3], .o, .o, .o, .o, .o, .o, .o, .o, .xg (SpcG.own hU (f := c_Insn) c_Insn_len 2 r2 40 (fun l => padL l 2 5) (fun l => (padL l 2 5).length / 5) _ 0 .normal (by intros; rfl) (by intros; rfl) (by intros; rfl) (fun M0 B0 S0 x0 u0 v0 z0 hU0 hs0 hr0 => ok1_opt_Thread hU0 x0 u0 v0 2 z0 r2 hr0 g4_0 e_g4)) [3], .o, .o, .o, .o, .o, .o, .o, .o, .o, .b (z_neqF hq3), .o, .o, .o, .o, .o, .o, .o, .o] [] (fun b => by kernel_rfl)
          · try dsimp only at e
            replace e := bindO_eq e
            obtain ⟨g4, e_g4, e⟩ := e
            rcases g4 with ⟨g4_0⟩ | ⟨g4_0⟩
            · try dsimp only at e
              replace e := cond_eq_or e
              rcases e with ⟨hq3, e⟩ | ⟨hq3, e⟩
              · replace e := cond_eq_or e
                rcases e with ⟨hq4, e⟩ | ⟨hq4, e⟩
                · replace e := cond_eq_or e
                  rcases e with ⟨hq5, e⟩ | ⟨hq5, e⟩
                  · replace e := bindO_eq e
                    obtain ⟨r5, e_r5, e⟩ := e
                    try dsimp only at e
                    replace e := cond_eq_or e
                    rcases e with ⟨hq6, e⟩ | ⟨hq6, e⟩
                    · subst hq6
                      replace e := bindO_eq e
                      obtain ⟨r6, e_r6, e⟩ := e
                      try dsimp only at e
                      replace e := cond_eq_or e
                      rcases e with ⟨hq7, e⟩ | ⟨hq7, e⟩
                      · subst hq7
                        replace e := bindO_eq e
                        obtain ⟨g7, e_g7, e⟩ := e
                        rcases g7 with ⟨g7_0⟩ | ⟨g7_0⟩
                        · try dsimp only at e
                          injection e with e; subst e; exact fn_conG hU (P := Try.prog) Try.func4 (fun xs w => by kernel_rfl) _ _ [.o, .cg (ok_barbicanlaw20_known hU  true e_r0), .o, .o, .b (z_lssF hq1), .o, .o, .b (z_gtrF hq2), .o, .o, .o, .cp, .cx (sp0_barbicanlaw20_OptChains_L0_0_ok hU y0   e_g1) [], .o, .o, .o, .o, .x (sqAppL0r_ok (ty := 22) rt22 #[false, false] (f := c_Insn) (a0 := (⟨0#8, 0#8, 0#8, 0#16, 0#32⟩ : Insn)) (c := 2) [(⟨183#8, 0#8, 0#8, 0#16, 3#32⟩ : Insn), (⟨149#8, 0#8, 0#8, 0#16, 0#32⟩ : Insn)] (T' := 40) c_Insn_len c_Insn_one rfl rfl (by decide) e_r2) [2], .o, .o, .xg (SpcG.own hU (f := c_Insn) c_Insn_len 2 r2 40 (fun l => padL l 2 5) (fun l => (padL l 2 5).length / 5) _ 0 .normal (by intros; rfl) (by intros; rfl) (by intros; rfl) (fun M0 B0 S0 x0 u0 v0 z0 hU0 hs0 hr0 => ok1_opt_Trim hU0 x0 u0 v0 2 z0 r2 hr0 g3_0 e_g3)) [3], .o, .o, .o, .o, .o, .o, .o, .o, .xg (SpcG.own hU (f := c_Insn) c_Insn_len 2 r2 40 (fun l => padL l 2 5) (fun l => (padL l 2 5).length / 5) _ 1 .normal (by intros; rfl) (by intros; rfl) (by intros; rfl) (fun M0 B0 S0 x0 u0 v0 z0 hU0 hs0 hr0 => ok0_opt_Thread hU0 x0 u0 v0 2 z0 r2 hr0 g4_0 e_g4)) [3], .o, .o, .o, .o, .o, .o, .b (z_neqT hq3), .o, .o, .o, .o, .o, .o, .o, .o, .qb (slTail_ok (T := 22) (e := 40) (sz := 5) (N := 2) (x := y0) .row (by kernel_rfl) (fun w => by kernel_rfl) hq5) 3, .xg (SpcG.ownT hU (f := c_Insn) c_Insn_len 2 r2 40 (fun l => padC .row l 2 5) (fun l => capC .row l 2 5 - 2) (y0).toNat (2 - (y0).toNat) (tail_le hq5) _ 0 .normal (by intros; rfl) (by intros; rfl) (by intros; rfl) (fun M0 B0 S0 x0 u0 v0 z0 hU0 hs0 hr0 => ConG.sp (ok_barbicanhelp_Insns hU0 none 0 0 0 0 (fun _ => (⟨0#8, 0#8, 0#8, 0#16, 0#32⟩ : Insn)) Ro.nil x0 u0 v0 (2 - (y0).toNat) z0 (fun k => r2 ((y0).toNat + k)) hr0 true e_r5))) [3], .o, .o, .o, .o, .o, .o, .o, .o, .xg (SpcG.own hU (f := cZ) cZ_len 2 (fun k => if k = 0 then y0 else (IntKind.i64.wrap (y0 + 1))) 3 (fun _ => []) (fun _ => 0) _ 0 .normal (by intros; rfl) (by intros; rfl) (by intros; rfl) (fun M0 B0 S0 x0 u0 v0 z0 hU0 hs0 hr0 => ConG.sp (ok_barbicanhelp_Ints hU0 none 0 0 0 0 (fun _ => 0) Ro.nil x0 u0 v0 2 z0 (fun k => if k = 0 then y0 else (IntKind.i64.wrap (y0 + 1))) hr0 true e_r6))) [5], .o, .o, .o, .o, .o, .o, .o, .o, .o, .o, .cp, .cx (sp0_barbicanlaw20_OptChains_L1v1_0_ok hU y0 r2 g3_0 g4_0 0 g7_0 e_g7) [0, 1, 2, 3, 4, 5], .o] [] (fun b => by kernel_rfl)
                        · try dsimp only at e
                          injection e with e; subst e; exact fn_conG hU (P := Try.prog) Try.func4 (fun xs w => by kernel_rfl) _ _ [.o, .cg (ok_barbicanlaw20_known hU  true e_r0), .o, .o, .b (z_lssF hq1), .o, .o, .b (z_gtrF hq2), .o, .o, .o, .cp, .cx (sp0_barbicanlaw20_OptChains_L0_0_ok hU y0   e_g1) [], .o, .o, .o, .o, .x (sqAppL0r_ok (ty := 22) rt22 #[false, false] (f := c_Insn) (a0 := (⟨0#8, 0#8, 0#8, 0#16, 0#32⟩ : Insn)) (c := 2) [(⟨183#8, 0#8, 0#8, 0#16, 3#32⟩ : Insn), (⟨149#8, 0#8, 0#8, 0#16, 0#32⟩ : Insn)] (T' := 40) c_Insn_len c_Insn_one rfl rfl (by decide) e_r2) [2], .o, .o, .xg (SpcG.own hU (f := c_Insn) c_Insn_len 2 r2 40 (fun l => padL l 2 5) (fun l => (padL l 2 5).length / 5) _ 0 .normal (by intros; rfl) (by intros; rfl) (by intros; rfl) (fun M0 B0 S0 x0 u0 v0 z0 hU0 hs0 hr0 => ok1_opt_Trim hU0 x0 u0 v0 2 z0 r2 hr0 g3_0 e_g3)) [3], .o, .o, .o, .o, .o, .o, .o, .o, .xg (SpcG.own hU (f := c_Insn) c_Insn_len 2 r2 40 (fun l => padL l 2 5) (fun l => (padL l 2 5).length / 5) _ 1 .normal (by intros; rfl) (by intros; rfl) (by intros; rfl) (fun M0 B0 S0 x0 u0 v0 z0 hU0 hs0 hr0 => ok0_opt_Thread hU0 x0 u0 v0 2 z0 r2 hr0 g4_0 e_g4)) [3], .o, .o, .o, .o, .o, .o, .b (z_neqT hq3), .o, .o, .o, .o, .o, .o, .o, .o, .qb (slTail_ok (T := 22) (e := 40) (sz := 5) (N := 2) (x := y0) .row (by kernel_rfl) (fun w => by kernel_rfl) hq5) 3, .xg (SpcG.ownT hU (f := c_Insn) c_Insn_len 2 r2 40 (fun l => padC .row l 2 5) (fun l => capC .row l 2 5 - 2) (y0).toNat (2 - (y0).toNat) (tail_le hq5) _ 0 .normal (by intros; rfl) (by intros; rfl) (by intros; rfl) (fun M0 B0 S0 x0 u0 v0 z0 hU0 hs0 hr0 => ConG.sp (ok_barbicanhelp_Insns hU0 none 0 0 0 0 (fun _ => (⟨0#8, 0#8, 0#8, 0#16, 0#32⟩ : Insn)) Ro.nil x0 u0 v0 (2 - (y0).toNat) z0 (fun k => r2 ((y0).toNat + k)) hr0 true e_r5))) [3], .o, .o, .o, .o, .o, .o, .o, .o, .xg (SpcG.own hU (f := cZ) cZ_len 2 (fun k => if k = 0 then y0 else (IntKind.i64.wrap (y0 + 1))) 3 (fun _ => []) (fun _ => 0) _ 0 .normal (by intros; rfl) (by intros; rfl) (by intros; rfl) (fun M0 B0 S0 x0 u0 v0 z0 hU0 hs0 hr0 => ConG.sp (ok_barbicanhelp_Ints hU0 none 0 0 0 0 (fun _ => 0) Ro.nil x0 u0 v0 2 z0 (fun k => if k = 0 then y0 else (IntKind.i64.wrap (y0 + 1))) hr0 true e_r6))) [5], .o, .o, .o, .o, .o, .o, .o, .o, .o, .o, .cp, .cx (sp1_barbicanlaw20_OptChains_L1v1_0_ok hU y0 r2 g3_0 g4_0 0 g7_0 e_g7) [0, 1, 2, 3, 4, 5]] [] (fun b => by kernel_rfl)
                      · subst hq7
                        injection e with e; subst e; exact fn_conG hU (P := Try.prog) Try.func4 (fun xs w => by kernel_rfl) _ _ [.o, .cg (ok_barbicanlaw20_known hU  true e_r0), .o, .o, .b (z_lssF hq1), .o, .o, .b (z_gtrF hq2), .o, .o, .o, .cp, .cx (sp0_barbicanlaw20_OptChains_L0_0_ok hU y0   e_g1) [], .o, .o, .o, .o, .x (sqAppL0r_ok (ty := 22) rt22 #[false, false] (f := c_Insn) (a0 := (⟨0#8, 0#8, 0#8, 0#16, 0#32⟩ : Insn)) (c := 2) [(⟨183#8, 0#8, 0#8, 0#16, 3#32⟩ : Insn), (⟨149#8, 0#8, 0#8, 0#16, 0#32⟩ : Insn)] (T' := 40) c_Insn_len c_Insn_one rfl rfl (by decide) e_r2) [2], .o, .o, .xg (SpcG.own hU (f := c_Insn) c_Insn_len 2 r2 40 (fun l => padL l 2 5) (fun l => (padL l 2 5).length / 5) _ 0 .normal (by intros; rfl) (by intros; rfl) (by intros; rfl) (fun M0 B0 S0 x0 u0 v0 z0 hU0 hs0 hr0 => ok1_opt_Trim hU0 x0 u0 v0 2 z0 r2 hr0 g3_0 e_g3)) [3], .o, .o, .o, .o, .o, .o, .o, .o, .xg (SpcG.own hU (f := c_Insn) c_Insn_len 2 r2 40 (fun l => padL l 2 5) (fun l => (padL l 2 5).length / 5) _ 1 .normal (by intros; rfl) (by intros; rfl) (by intros; rfl) (fun M0 B0 S0 x0 u0 v0 z0 hU0 hs0 hr0 => ok0_opt_Thread hU0 x0 u0 v0 2 z0 r2 hr0 g4_0 e_g4)) [3], .o, .o, .o, .o, .o, .o, .b (z_neqT hq3), .o, .o, .o, .o, .o, .o, .o, .o, .qb (slTail_ok (T := 22) (e := 40) (sz := 5) (N := 2) (x := y0) .row (by kernel_rfl) (fun w => by kernel_rfl) hq5) 3, .xg (SpcG.ownT hU (f := c_Insn) c_Insn_len 2 r2 40 (fun l => padC .row l 2 5) (fun l => capC .row l 2 5 - 2) (y0).toNat (2 - (y0).toNat) (tail_le hq5) _ 0 .normal (by intros; rfl) (by intros; rfl) (by intros; rfl) (fun M0 B0 S0 x0 u0 v0 z0 hU0 hs0 hr0 => ConG.sp (ok_barbicanhelp_Insns hU0 none 0 0 0 0 (fun _ => (⟨0#8, 0#8, 0#8, 0#16, 0#32⟩ : Insn)) Ro.nil x0 u0 v0 (2 - (y0).toNat) z0 (fun k => r2 ((y0).toNat + k)) hr0 true e_r5))) [3], .o, .o, .o, .o, .o, .o, .o, .o, .xg (SpcG.own hU (f := cZ) cZ_len 2 (fun k => if k = 0 then y0 else (IntKind.i64.wrap (y0 + 1))) 3 (fun _ => []) (fun _ => 0) _ 0 .normal (by intros; rfl) (by intros; rfl) (by intros; rfl) (fun M0 B0 S0 x0 u0 v0 z0 hU0 hs0 hr0 => ConG.sp (ok_barbicanhelp_Ints hU0 none 0 0 0 0 (fun _ => 0) Ro.nil x0 u0 v0 2 z0 (fun k => if k = 0 then y0 else (IntKind.i64.wrap (y0 + 1))) hr0 false e_r6))) [5], .o, .o, .o, .o, .o] [] (fun b => by kernel_rfl)
                    · subst hq6
                      injection e with e; subst e; exact fn_conG hU (P := Try.prog) Try.func4 (fun xs w => by kernel_rfl) _ _ [.o, .cg (ok_barbicanlaw20_known hU  true e_r0), .o, .o, .b (z_lssF hq1), .o, .o, .b (z_gtrF hq2), .o, .o, .o, .cp, .cx (sp0_barbicanlaw20_OptChains_L0_0_ok hU y0   e_g1) [], .o, .o, .o, .o, .x (sqAppL0r_ok (ty := 22) rt22 #[false, false] (f := c_Insn) (a0 := (⟨0#8, 0#8, 0#8, 0#16, 0#32⟩ : Insn)) (c := 2) [(⟨183#8, 0#8, 0#8, 0#16, 3#32⟩ : Insn), (⟨149#8, 0#8, 0#8, 0#16, 0#32⟩ : Insn)] (T' := 40) c_Insn_len c_Insn_one rfl rfl (by decide) e_r2) [2], .o, .o, .xg (SpcG.own hU (f := c_Insn) c_Insn_len 2 r2 40 (fun l => padL l 2 5) (fun l => (padL l 2 5).length / 5) _ 0 .normal (by intros; rfl) (by intros; rfl) (by intros; rfl) (fun M0 B0 S0 x0 u0 v0 z0 hU0 hs0 hr0 => ok1_opt_Trim hU0 x0 u0 v0 2 z0 r2 hr0 g3_0 e_g3)) [3], .o, .o, .o, .o, .o, .o, .o, .o, .xg (SpcG.own hU (f := c_Insn) c_Insn_len 2 r2 40 (fun l => padL l 2 5) (fun l => (padL l 2 5).length / 5) _ 1 .normal (by intros; rfl) (by intros; rfl) (by intros; rfl) (fun M0 B0 S0 x0 u0 v0 z0 hU0 hs0 hr0 => ok0_opt_Thread hU0 x0 u0 v0 2 z0 r2 hr0 g4_0 e_g4)) [3], .o, .o, .o, .o, .o, .o, .b (z_neqT hq3), .o, .o, .o, .o, .o, .o, .o, .o, .qb (slTail_ok (T := 22) (e := 40) (sz := 5) (N := 2) (x := y0) .row (by kernel_rfl) (fun w => by kernel_rfl) hq5) 3, .xg (SpcG.ownT hU (f := c_Insn) c_Insn_len 2 r2 40 (fun l => padC .row l 2 5) (fun l => capC .row l 2 5 - 2) (y0).toNat (2 - (y0).toNat) (tail_le hq5) _ 0 .normal (by intros; rfl) (by intros; rfl) (by intros; rfl) (fun M0 B0 S0 x0 u0 v0 z0 hU0 hs0 hr0 => ConG.sp (ok_barbicanhelp_Insns hU0 none 0 0 0 0 (fun _ => (⟨0#8, 0#8, 0#8, 0#16, 0#32⟩ : Insn)) Ro.nil x0 u0 v0 (2 - (y0).toNat) z0 (fun k => r2 ((y0).toNat + k)) hr0 false e_r5))) [3], .o, .o, .o, .o, .o, .o, .o] [] (fun b => by kernel_rfl)
                  · exact none_some e
                · exact none_some e
              · injection e with e; subst e; exact fn_conG hU (P := Try.prog) Try.func4 (fun xs w => by kernel_rfl) _ _ [.o, .cg (ok_barbicanlaw20_known hU  true e_r0), .o, .o, .b (z_lssF hq1), .o, .o, .b (z_gtrF hq2), .o, .o, .o, .cp, .cx (sp0_barbicanlaw20_OptChains_L0_0_ok hU y0   e_g1) [], .o, .o, .o, .o, .x (sqAppL0r_ok (ty := 22) rt22 #[false, false] (f := c_Insn) (a0 := (⟨0#8, 0#8, 0#8, 0#16, 0#32⟩ : Insn)) (c := 2) [(⟨183#8, 0#8, 0#8, 0#16, 3#32⟩ : Insn), (⟨149#8, 0#8, 0#8, 0#16, 0#32⟩ : Insn)] (T' := 40) c_Insn_len c_Insn_one rfl rfl (by decide) e_r2) [2], .o, .o, .xg (SpcG.own hU (f := c_Insn) c_Insn_len 2 r2 40 (fun l => padL l 2 5) (fun l => (padL l 2 5).length / 5) _ 0 .normal (by intros; rfl) (by intros; rfl) (by intros; rfl) (fun M0 B0 S0 x0 u0 v0 z0 hU0 hs0 hr0 => ok1_opt_Trim hU0 x0 u0 v0 2 z0 r2 hr0 g3_0 e_g3)) [3], .o, .o, .o, .o, .o, .o, .o, .o, .xg (SpcG.own hU (f := c_Insn) c_Insn_len 2 r2 40 (fun l => padL l 2 5) (fun l => (padL l 2 5).length / 5) _ 1 .normal (by intros; rfl) (by intros; rfl) (by intros; rfl) (fun M0 B0 S0 x0 u0 v0 z0 hU0 hs0 hr0 => ok0_opt_Thread hU0 x0 u0 v0 2 z0 r2 hr0 g4_0 e_g4)) [3], .o, .o, .o, .o, .o, .o, .b (z_neqF hq3), .o, .o, .o, .o, .o, .o, .o, .o, .o] [] (fun b => by kernel_rfl)
            · try dsimp only at e
              replace e := cond_eq_or e
              rcases e with ⟨hq3, e⟩ | ⟨hq3, e⟩
              · replace e := cond_eq_or e
                rcases e with ⟨hq4, e⟩ | ⟨hq4, e⟩
                · replace e := cond_eq_or e
                  rcases e with ⟨hq5, e⟩ | ⟨hq5, e⟩
                  · replace e := cond_eq_or e
                    rcases e with ⟨hq6, e⟩ | ⟨hq6, e⟩
                    · replace e := bindO_eq e
                      obtain ⟨r5, e_r5, e⟩ := e
                      try dsimp only at e
                      replace e := cond_eq_or e
                      rcases e with ⟨hq7, e⟩ | ⟨hq7, e⟩
                      · subst hq7
                        replace e := bindO_eq e
                        obtain ⟨r6, e_r6, e⟩ := e
                        try dsimp only at e
                        replace e := cond_eq_or e
                        rcases e with ⟨hq8, e⟩ | ⟨hq8, e⟩
                        · subst hq8
                          injection e with e; subst e; exact fn_conG hU (P := Try.prog) Try.func4 (fun xs w => by kernel_rfl) _ _ [.o, .cg (ok_barbicanlaw20_known hU  true e_r0), .o, .o, .b (z_lssF hq1), .o, .o, .b (z_gtrF hq2), .o, .o, .o, .cp, .cx (sp0_barbicanlaw20_OptChains_L0_0_ok hU y0   e_g1) [], .o, .o, .o, .o, .x (sqAppL0r_ok (ty := 22) rt22 #[false, false] (f := c_Insn) (a0 := (⟨0#8, 0#8, 0#8, 0#16, 0#32⟩ : Insn)) (c := 2) [(⟨183#8, 0#8, 0#8, 0#16, 3#32⟩ : Insn), (⟨149#8, 0#8, 0#8, 0#16, 0#32⟩ : Insn)] (T' := 40) c_Insn_len c_Insn_one rfl rfl (by decide) e_r2) [2], .o, .o, .xg (SpcG.own hU (f := c_Insn) c_Insn_len 2 r2 40 (fun l => padL l 2 5) (fun l => (padL l 2 5).length / 5) _ 0 .normal (by intros; rfl) (by intros; rfl) (by intros; rfl) (fun M0 B0 S0 x0 u0 v0 z0 hU0 hs0 hr0 => ok1_opt_Trim hU0 x0 u0 v0 2 z0 r2 hr0 g3_0 e_g3)) [3], .o, .o, .o, .o, .o, .o, .o, .o, .xg (SpcG.own hU (f := c_Insn) c_Insn_len 2 r2 40 (fun l => padL l 2 5) (fun l => (padL l 2 5).length / 5) _ 0 .normal (by intros; rfl) (by intros; rfl) (by intros; rfl) (fun M0 B0 S0 x0 u0 v0 z0 hU0 hs0 hr0 => ok1_opt_Thread hU0 x0 u0 v0 2 z0 r2 hr0 g4_0 e_g4)) [3], .o, .o, .o, .o, .o, .o, .b (z_neqT hq3), .o, .o, .b (z_neqT hq4), .o, .o, .o, .o, .o, .qb (slTail_ok (T := 22) (e := 40) (sz := 5) (N := 2) (x := y0) .row (by kernel_rfl) (fun w => by kernel_rfl) hq6) 3, .xg (SpcG.ownT hU (f := c_Insn) c_Insn_len 2 r2 40 (fun l => padC .row l 2 5) (fun l => capC .row l 2 5 - 2) (y0).toNat (2 - (y0).toNat) (tail_le hq6) _ 0 .normal (by intros; rfl) (by intros; rfl) (by intros; rfl) (fun M0 B0 S0 x0 u0 v0 z0 hU0 hs0 hr0 => ConG.sp (ok_barbicanhelp_Insns hU0 none 0 0 0 0 (fun _ => (⟨0#8, 0#8, 0#8, 0#16, 0#32⟩ : Insn)) Ro.nil x0 u0 v0 (2 - (y0).toNat) z0 (fun k => r2 ((y0).toNat + k)) hr0 true e_r5))) [3], .o, .o, .o, .o, .o, .o, .o, .o, .xg (SpcG.own hU (f := cZ) cZ_len 2 (fun k => if k = 0 then y0 else (IntKind.i64.wrap (y0 + 1))) 3 (fun _ => []) (fun _ => 0) _ 0 .normal (by intros; rfl) (by intros; rfl) (by intros; rfl) (fun M0 B0 S0 x0 u0 v0 z0 hU0 hs0 hr0 => ConG.sp (ok_barbicanhelp_Ints hU0 none 0 0 0 0 (fun _ => 0) Ro.nil x0 u0 v0 2 z0 (fun k => if k = 0 then y0 else (IntKind.i64.wrap (y0 + 1))) hr0 true e_r6))) [4], .o, .o, .o, .o, .o, .o, .o, .o, .o, .o] [] (fun b => by kernel_rfl)
                        · subst hq8
                          injection e with e; subst e; exact fn_conG hU (P := Try.prog) Try.func4 (fun xs w => by kernel_rfl) _ _ [.o, .cg (ok_barbicanlaw20_known hU  true e_r0), .o, .o, .b (z_lssF hq1), .o, .o, .b (z_gtrF hq2), .o, .o, .o, .cp, .cx (sp0_barbicanlaw20_OptChains_L0_0_ok hU y0   e_g1) [], .o, .o, .o, .o, .x (sqAppL0r_ok (ty := 22) rt22 #[false, false] (f := c_Insn) (a0 := (⟨0#8, 0#8, 0#8, 0#16, 0#32⟩ : Insn)) (c := 2) [(⟨183#8, 0#8, 0#8, 0#16, 3#32⟩ : Insn), (⟨149#8, 0#8, 0#8, 0#16, 0#32⟩ : Insn)] (T' := 40) c_Insn_len c_Insn_one rfl rfl (by decide) e_r2) [2], .o, .o, .xg (SpcG.own hU (f := c_Insn) c_Insn_len 2 r2 40 (fun l => padL l 2 5) (fun l => (padL l 2 5).length / 5) _ 0 .normal (by intros; rfl) (by intros; rfl) (by intros; rfl) (fun M0 B0 S0 x0 u0 v0 z0 hU0 hs0 hr0 => ok1_opt_Trim hU0 x0 u0 v0 2 z0 r2 hr0 g3_0 e_g3)) [3], .o, .o, .o, .o, .o, .o, .o, .o, .xg (SpcG.own hU (f := c_Insn) c_Insn_len 2 r2 40 (fun l => padL l 2 5) (fun l => (padL l 2 5).length / 5) _ 0 .normal (by intros; rfl) (by intros; rfl) (by intros; rfl) (fun M0 B0 S0 x0 u0 v0 z0 hU0 hs0 hr0 => ok1_opt_Thread hU0 x0 u0 v0 2 z0 r2 hr0 g4_0 e_g4)) [3], .o, .o, .o, .o, .o, .o, .b (z_neqT hq3), .o, .o, .b (z_neqT hq4), .o, .o, .o, .o, .o, .qb (slTail_ok (T := 22) (e := 40) (sz := 5) (N := 2) (x := y0) .row (by kernel_rfl) (fun w => by kernel_rfl) hq6) 3, .xg (SpcG.ownT hU (f := c_Insn) c_Insn_len 2 r2 40 (fun l => padC .row l 2 5) (fun l => capC .row l 2 5 - 2) (y0).toNat (2 - (y0).toNat) (tail_le hq6) _ 0 .normal (by intros; rfl) (by intros; rfl) (by intros; rfl) (fun M0 B0 S0 x0 u0 v0 z0 hU0 hs0 hr0 => ConG.sp (ok_barbicanhelp_Insns hU0 none 0 0 0 0 (fun _ => (⟨0#8, 0#8, 0#8, 0#16, 0#32⟩ : Insn)) Ro.nil x0 u0 v0 (2 - (y0).toNat) z0 (fun k => r2 ((y0).toNat + k)) hr0 true e_r5))) [3], .o, .o, .o, .o, .o, .o, .o, .o, .xg (SpcG.own hU (f := cZ) cZ_len 2 (fun k => if k = 0 then y0 else (IntKind.i64.wrap (y0 + 1))) 3 (fun _ => []) (fun _ => 0) _ 0 .normal (by intros; rfl) (by intros; rfl) (by intros; rfl) (fun M0 B0 S0 x0 u0 v0 z0 hU0 hs0 hr0 => ConG.sp (ok_barbicanhelp_Ints hU0 none 0 0 0 0 (fun _ => 0) Ro.nil x0 u0 v0 2 z0 (fun k => if k = 0 then y0 else (IntKind.i64.wrap (y0 + 1))) hr0 false e_r6))) [4], .o, .o, .o, .o, .o] [] (fun b => by kernel_rfl)
                      · subst hq7
                        injection e with e; subst e; exact fn_conG hU (P := Try.prog) Try.func4 (fun xs w => by kernel_rfl) _ _ [.o, .cg (ok_barbicanlaw20_known hU  true e_r0), .o, .o, .b (z_lssF hq1), .o, .o, .b (z_gtrF hq2), .o, .o, .o, .cp, .cx (sp0_barbicanlaw20_OptChains_L0_0_ok hU y0   e_g1) [], .o, .o, .o, .o, .x (sqAppL0r_ok (ty := 22) rt22 #[false, false] (f := c_Insn) (a0 := (⟨0#8, 0#8, 0#8, 0#16, 0#32⟩ : Insn)) (c := 2) [(⟨183#8, 0#8, 0#8, 0#16, 3#32⟩ : Insn), (⟨149#8, 0#8, 0#8, 0#16, 0#32⟩ : Insn)] (T' := 40) c_Insn_len c_Insn_one rfl rfl (by decide) e_r2) [2], .o, .o, .xg (SpcG.own hU (f := c_Insn) c_Insn_len 2 r2 40 (fun l => padL l 2 5) (fun l => (padL l 2 5).length / 5) _ 0 .normal (by intros; rfl) (by intros; rfl) (by intros; rfl) (fun M0 B0 S0 x0 u0 v0 z0 hU0 hs0 hr0 => ok1_opt_Trim hU0 x0 u0 v0 2 z0 r2 hr0 g3_0 e_g3)) [3], .o, .o, .o, .o, .o, .o, .o, .o, .xg (SpcG.own hU (f := c_Insn) c_Insn_len 2 r2 40 (fun l => padL l 2 5) (fun l => (padL l 2 5).length / 5) _ 0 .normal (by intros; rfl) (by intros; rfl) (by intros; rfl) (fun M0 B0 S0 x0 u0 v0 z0 hU0 hs0 hr0 => ok1_opt_Thread hU0 x0 u0 v0 2 z0 r2 hr0 g4_0 e_g4)) [3], .o, .o, .o, .o, .o, .o, .b (z_neqT hq3), .o, .o, .b (z_neqT hq4), .o, .o, .o, .o, .o, .qb (slTail_ok (T := 22) (e := 40) (sz := 5) (N := 2) (x := y0) .row (by kernel_rfl) (fun w => by kernel_rfl) hq6) 3, .xg (SpcG.ownT hU (f := c_Insn) c_Insn_len 2 r2 40 (fun l => padC .row l 2 5) (fun l => capC .row l 2 5 - 2) (y0).toNat (2 - (y0).toNat) (tail_le hq6) _ 0 .normal (by intros; rfl) (by intros; rfl) (by intros; rfl) (fun M0 B0 S0 x0 u0 v0 z0 hU0 hs0 hr0 => ConG.sp (ok_barbicanhelp_Insns hU0 none 0 0 0 0 (fun _ => (⟨0#8, 0#8, 0#8, 0#16, 0#32⟩ : Insn)) Ro.nil x0 u0 v0 (2 - (y0).toNat) z0 (fun k => r2 ((y0).toNat + k)) hr0 false e_r5))) [3], .o, .o, .o, .o, .o, .o, .o] [] (fun b => by kernel_rfl)
                    · exact none_some e
                  · exact none_some e
                · injection e with e; subst e; exact fn_conG hU (P := Try.prog) Try.func4 (fun xs w => by kernel_rfl) _ _ [.o, .cg (ok_barbicanlaw20_known hU  true e_r0), .o, .o, .b (z_lssF hq1), .o, .o, .b (z_gtrF hq2), .o, .o, .o, .cp, .cx (sp0_barbicanlaw20_OptChains_L0_0_ok hU y0   e_g1) [], .o, .o, .o, .o, .x (sqAppL0r_ok (ty := 22) rt22 #[false, false] (f := c_Insn) (a0 := (⟨0#8, 0#8, 0#8, 0#16, 0#32⟩ : Insn)) (c := 2) [(⟨183#8, 0#8, 0#8, 0#16, 3#32⟩ : Insn), (⟨149#8, 0#8, 0#8, 0#16, 0#32⟩ : Insn)] (T' := 40) c_Insn_len c_Insn_one rfl rfl (by decide) e_r2) [2], .o, .o, .xg (SpcG.own hU (f := c_Insn) c_Insn_len 2 r2 40 (fun l => padL l 2 5) (fun l => (padL l 2 5).length / 5) _ 0 .normal (by intros; rfl) (by intros; rfl) (by intros; rfl) (fun M0 B0 S0 x0 u0 v0 z0 hU0 hs0 hr0 => ok1_opt_Trim hU0 x0 u0 v0 2 z0 r2 hr0 g3_0 e_g3)) [3], .o, .o, .o, .o, .o, .o, .o, .o, .xg (SpcG.own hU (f := c_Insn) c_Insn_len 2 r2 40 (fun l => padL l 2 5) (fun l => (padL l 2 5).length / 5) _ 0 .normal (by intros; rfl) (by intros; rfl) (by intros; rfl) (fun M0 B0 S0 x0 u0 v0 z0 hU0 hs0 hr0 => ok1_opt_Thread hU0 x0 u0 v0 2 z0 r2 hr0 g4_0 e_g4)) [3], .o, .o, .o, .o, .o, .o, .b (z_neqT hq3), .o, .o, .b (z_neqF hq4), .o, .o, .o, .o, .o, .o, .o, .o] [] (fun b => by kernel_rfl)
              · injection e with e; subst e; exact fn_conG hU (P := Try.prog) Try.func4 (fun xs w => by kernel_rfl) _ _ [.o, .cg (ok_barbicanlaw20_known hU  true e_r0), .o, .o, .b (z_lssF hq1), .o, .o, .b (z_gtrF hq2), .o, .o, .o, .cp, .cx (sp0_barbicanlaw20_OptChains_L0_0_ok hU y0   e_g1) [], .o, .o, .o, .o, .x (sqAppL0r_ok (ty := 22) rt22 #[false, false] (f := c_Insn) (a0 := (⟨0#8, 0#8, 0#8, 0#16, 0#32⟩ : Insn)) (c := 2) [(⟨183#8, 0#8, 0#8, 0#16, 3#32⟩ : Insn), (⟨149#8, 0#8, 0#8, 0#16, 0#32⟩ : Insn)] (T' := 40) c_Insn_len c_Insn_one rfl rfl (by decide) e_r2) [2], .o, .o, .xg (SpcG.own hU (f := c_Insn) c_Insn_len 2 r2 40 (fun l => padL l 2 5) (fun l => (padL l 2 5).length / 5) _ 0 .normal (by intros; rfl) (by intros; rfl) (by intros; rfl) (fun M0 B0 S0 x0 u0 v0 z0 hU0 hs0 hr0 => ok1_opt_Trim hU0 x0 u0 v0 2 z0 r2 hr0 g3_0 e_g3)) [3], .o, .o, .o, .o, .o, .o, .o, .o, .xg (SpcG.own hU (f := c_Insn) c_Insn_len 2 r2 40 (fun l => padL l 2 5) (fun l => (padL l 2 5).length / 5) _ 0 .normal (by intros; rfl) (by intros; rfl) (by intros; rfl) (fun M0 B0 S0 x0 u0 v0 z0 hU0 hs0 hr0 => ok1_opt_Thread hU0 x0 u0 v0 2 z0 r2 hr0 g4_0 e_g4)) [3], .o, .o, .o, .o, .o, .o, .b (z_neqF hq3), .o, .o, .o, .o, .o, .o, .o, .o, .o] [] (fun b => by kernel_rfl)
        · try dsimp only at e
          replace e := cond_eq_or e
          rcases e with ⟨hq3, e⟩ | ⟨hq3, e⟩
          · replace e := bindT_eq e
            obtain ⟨r2, e_r2, e⟩ := e
            try dsimp only at e
            replace e := bindO_eq e
            obtain ⟨g3, e_g3, e⟩ := e
            rcases g3 with ⟨g3_0, g3_1, g3_2, g3_3⟩ | ⟨g3_0⟩
            · try dsimp only at e
              replace e := bindO_eq e
              obtain ⟨g4, e_g4, e⟩ := e
              rcases g4 with ⟨g4_0⟩ | ⟨g4_0⟩
              · try dsimp only at e
                replace e := cond_eq_or e
                rcases e with ⟨hq4, e⟩ | ⟨hq4, e⟩
                · replace e := cond_eq_or e
                  rcases e with ⟨hq5, e⟩ | ⟨hq5, e⟩
                  · replace e := bindO_eq e
                    obtain ⟨r5, e_r5, e⟩ := e
                    try dsimp only at e
                    replace e := cond_eq_or e
                    rcases e with ⟨hq6, e⟩ | ⟨hq6, e⟩
                    · subst hq6
                      replace e := bindO_eq e
                      obtain ⟨r6, e_r6, e⟩ := e
                      try dsimp only at e
                      replace e := cond_eq_or e
                      rcases e with ⟨hq7, e⟩ | ⟨hq7, e⟩
                      · subst hq7
                        replace e := cond_eq_or e
                        rcases e with ⟨hq8, e⟩ | ⟨hq8, e⟩
                        · replace e := bindO_eq e
                          obtain ⟨g7, e_g7, e⟩ := e
                          rcases g7 with ⟨g7_0⟩ | ⟨g7_0⟩
                          · try dsimp only at e
                            injection e with e; subst e; exact fn_conG hU (P := Try.prog) Try.func4 (fun xs w => by kernel_rfl) _ _ [.o, .cg (ok_barbicanlaw20_known hU  true e_r0), .o, .o, .b (z_lssF hq1), .o, .o, .b (z_gtrF hq2), .o, .o, .o, .cp, .cx (sp1_barbicanlaw20_OptChains_L0_0_ok hU y0  g1_0 g1_1 e_g1) [], .o, .o, .o, .o, .x (sqAppLr_ok (ty := 22) rt22 #[false, false] (f := c_Insn) (N := g1_0) (A := g1_1) (c := 2) [(⟨183#8, 0#8, 0#8, 0#16, 3#32⟩ : Insn), (⟨149#8, 0#8, 0#8, 0#16, 0#32⟩ : Insn)] (T' := 40) .row c_Insn_len c_Insn_one hq3 rfl (by decide) e_r2) [0, 2], .o, .o, .xg (SpcG.own hU (f := c_Insn) c_Insn_len (g1_0 + 2) r2 40 (fun l => padL l (g1_0 + 2) 5) (fun l => (padL l (g1_0 + 2) 5).length / 5) _ 2 .normal (by intros; rfl) (by intros; rfl) (by intros; rfl) (fun M0 B0 S0 x0 u0 v0 z0 hU0 hs0 hr0 => ok0_opt_Trim hU0 x0 u0 v0 (g1_0 + 2) z0 r2 hr0 g3_0 g3_1 g3_2 g3_3 e_g3)) [3], .o, .o, .o, .o, .o, .o, .o, .o, .xg (SpcG.own hU (f := c_Insn) c_Insn_len (g1_0 + 2) r2 40 (fun l => padL l (g1_0 + 2) 5) (fun l => (padL l (g1_0 + 2) 5).length / 5) _ 1 .normal (by intros; rfl) (by intros; rfl) (by intros; rfl) (fun M0 B0 S0 x0 u0 v0 z0 hU0 hs0 hr0 => ok0_opt_Thread hU0 x0 u0 v0 (g1_0 + 2) z0 r2 hr0 g4_0 e_g4)) [3], .o, .o, .o, .o, .o, .o, .o, .o, .o, .o, .o, .o, .o, .o, .o, .qb (slTail_ok (T := 22) (e := 40) (sz := 5) (N := (g1_0 + 2)) (x := y0) .row (by kernel_rfl) (fun w => by kernel_rfl) hq5) 3, .xg (SpcG.own hU (f := c_Insn) c_Insn_len g3_0 g3_1 40 (fun l => padL l g3_0 5) (fun _ => 0) _ 0 .normal (by intros; rfl) (by intros; rfl) (by intros; rfl) (fun M0 B0 S0 x0 u0 v0 z0 hU0 hs0 hr0 => SpcG.ownT hU0 (f := c_Insn) c_Insn_len (g1_0 + 2) r2 40 (fun l => padC .row l (g1_0 + 2) 5) (fun l => capC .row l (g1_0 + 2) 5 - (g1_0 + 2)) (y0).toNat ((g1_0 + 2) - (y0).toNat) (tail_le hq5) _ 0 .normal (by intros; rfl) (by intros; rfl) (by intros; rfl) (fun M1 B1 S1 x1 u1 v1 z1 hU1 hs1 hr1 => ConG.sp (ok_barbicanhelp_Insns hU1 x0 u0 v0 g3_0 z0 g3_1 (Ro.mono hr0 hs1) x1 u1 v1 ((g1_0 + 2) - (y0).toNat) z1 (fun k => r2 ((y0).toNat + k)) hr1 true e_r5)))) [4, 3], .o, .o, .o, .o, .o, .o, .o, .o, .xg (SpcG.own hU (f := cZ) cZ_len g3_2 g3_3 3 (fun l => padL l g3_2 1) (fun _ => 0) _ 0 .normal (by intros; rfl) (by intros; rfl) (by intros; rfl) (fun M0 B0 S0 x0 u0 v0 z0 hU0 hs0 hr0 => SpcG.own hU0 (f := cZ) cZ_len 2 (fun k => if k = 0 then y0 else (IntKind.i64.wrap (y0 + 1))) 3 (fun _ => []) (fun _ => 0) _ 0 .normal (by intros; rfl) (by intros; rfl) (by intros; rfl) (fun M1 B1 S1 x1 u1 v1 z1 hU1 hs1 hr1 => ConG.sp (ok_barbicanhelp_Ints hU1 x0 u0 v0 g3_2 z0 g3_3 (Ro.mono hr0 hs1) x1 u1 v1 2 z1 (fun k => if k = 0 then y0 else (IntKind.i64.wrap (y0 + 1))) hr1 true e_r6)))) [5, 7], .o, .o, .o, .o, .o, .o, .o, .b (z_neqT hq8), .o, .o, .cp, .cx (sp0_barbicanlaw20_OptChains_L1v2_0_ok hU y0 g1_0 g1_1 r2 g3_0 g3_1 g3_2 g3_3 g4_0 0 g7_0 e_g7) [0, 1, 2, 3, 4, 5, 6, 7], .o] [] (fun b => by kernel_rfl)
                          · try dsimp only at e
                            injection e with e; subst e; exact fn_conG hU (P := Try.prog) Try.func4 (fun xs w => by kernel_rfl) _ _ [.o, .cg (ok_barbicanlaw20_known hU  true e_r0), .o, .o, .b (z_lssF hq1), .o, .o, .b (z_gtrF hq2), .o, .o, .o, .cp, .cx (sp1_barbicanlaw20_OptChains_L0_0_ok hU y0  g1_0 g1_1 e_g1) [], .o, .o, .o, .o, .x (sqAppLr_ok (ty := 22) rt22 #[false, false] (f := c_Insn) (N := g1_0) (A := g1_1) (c := 2) [(⟨183#8, 0#8, 0#8, 0#16, 3#32⟩ : Insn), (⟨149#8, 0#8, 0#8, 0#16, 0#32⟩ : Insn)] (T' := 40) .row c_Insn_len c_Insn_one hq3 rfl (by decide) e_r2) [0, 2], .o, .o, .xg (SpcG.own hU (f := c_Insn) c_Insn_len (g1_0 + 2) r2 40 (fun l => padL l (g1_0 + 2) 5) (fun l => (padL l (g1_0 + 2) 5).length / 5) _ 2 .normal (by intros; rfl) (by intros; rfl) (by intros; rfl) (fun M0 B0 S0 x0 u0 v0 z0 hU0 hs0 hr0 => ok0_opt_Trim hU0 x0 u0 v0 (g1_0 + 2) z0 r2 hr0 g3_0 g3_1 g3_2 g3_3 e_g3)) [3], .o, .o, .o, .o, .o, .o, .o, .o, .xg (SpcG.own hU (f := c_Insn) c_Insn_len (g1_0 + 2) r2 40 (fun l => padL l (g1_0 + 2) 5) (fun l => (padL l (g1_0 + 2) 5).length / 5) _ 1 .normal (by intros; rfl) (by intros; rfl) (by intros; rfl) (fun M0 B0 S0 x0 u0 v0 z0 hU0 hs0 hr0 => ok0_opt_Thread hU0 x0 u0 v0 (g1_0 + 2) z0 r2 hr0 g4_0 e_g4)) [3], .o, .o, .o, .o, .o, .o, .o, .o, .o, .o, .o, .o, .o, .o, .o, .qb (slTail_ok (T := 22) (e := 40) (sz := 5) (N := (g1_0 + 2)) (x := y0) .row (by kernel_rfl) (fun w => by kernel_rfl) hq5) 3, .xg (SpcG.own hU (f := c_Insn) c_Insn_len g3_0 g3_1 40 (fun l => padL l g3_0 5) (fun _ => 0) _ 0 .normal (by intros; rfl) (by intros; rfl) (by intros; rfl) (fun M0 B0 S0 x0 u0 v0 z0 hU0 hs0 hr0 => SpcG.ownT hU0 (f := c_Insn) c_Insn_len (g1_0 + 2) r2 40 (fun l => padC .row l (g1_0 + 2) 5) (fun l => capC .row l (g1_0 + 2) 5 - (g1_0 + 2)) (y0).toNat ((g1_0 + 2) - (y0).toNat) (tail_le hq5) _ 0 .normal (by intros; rfl) (by intros; rfl) (by intros; rfl) (fun M1 B1 S1 x1 u1 v1 z1 hU1 hs1 hr1 => ConG.sp (ok_barbicanhelp_Insns hU1 x0 u0 v0 g3_0 z0 g3_1 (Ro.mono hr0 hs1) x1 u1 v1 ((g1_0 + 2) - (y0).toNat) z1 (fun k => r2 ((y0).toNat + k)) hr1 true e_r5)))) [4, 3], .o, .o, .o, .o, .o, .o, .o, .o, .xg (SpcG.own hU (f := cZ) cZ_len g3_2 g3_3 3 (fun l => padL l g3_2 1) (fun _ => 0) _ 0 .normal (by intros; rfl) (by intros; rfl) (by intros; rfl) (fun M0 B0 S0 x0 u0 v0 z0 hU0 hs0 hr0 => SpcG.own hU0 (f := cZ) cZ_len 2 (fun k => if k = 0 then y0 else (IntKind.i64.wrap (y0 + 1))) 3 (fun _ => []) (fun _ => 0) _ 0 .normal (by intros; rfl) (by intros; rfl) (by intros; rfl) (fun M1 B1 S1 x1 u1 v1 z1 hU1 hs1 hr1 => ConG.sp (ok_barbicanhelp_Ints hU1 x0 u0 v0 g3_2 z0 g3_3 (Ro.mono hr0 hs1) x1 u1 v1 2 z1 (fun k => if k = 0 then y0 else (IntKind.i64.wrap (y0 + 1))) hr1 true e_r6)))) [5, 7], .o, .o, .o, .o, .o, .o, .o, .b (z_neqT hq8), .o, .o, .cp, .cx (sp1_barbicanlaw20_OptChains_L1v2_0_ok hU y0 g1_0 g1_1 r2 g3_0 g3_1 g3_2 g3_3 g4_0 0 g7_0 e_g7) [0, 1, 2, 3, 4, 5, 6, 7]] [] (fun b => by kernel_rfl)
                        · injection e with e; subst e; exact fn_conG hU (P := Try.prog) Try.func4 (fun xs w => by kernel_rfl) _ _ [.o, .cg (ok_barbicanlaw20_known hU  true e_r0), .o, .o, .b (z_lssF hq1), .o, .o, .b (z_gtrF hq2), .o, .o, .o, .cp, .cx (sp1_barbicanlaw20_OptChains_L0_0_ok hU y0  g1_0 g1_1 e_g1) [], .o, .o, .o, .o, .x (sqAppLr_ok (ty := 22) rt22 #[false, false] (f := c_Insn) (N := g1_0) (A := g1_1) (c := 2) [(⟨183#8, 0#8, 0#8, 0#16, 3#32⟩ : Insn), (⟨149#8, 0#8, 0#8, 0#16, 0#32⟩ : Insn)] (T' := 40) .row c_Insn_len c_Insn_one hq3 rfl (by decide) e_r2) [0, 2], .o, .o, .xg (SpcG.own hU (f := c_Insn) c_Insn_len (g1_0 + 2) r2 40 (fun l => padL l (g1_0 + 2) 5) (fun l => (padL l (g1_0 + 2) 5).length / 5) _ 2 .normal (by intros; rfl) (by intros; rfl) (by intros; rfl) (fun M0 B0 S0 x0 u0 v0 z0 hU0 hs0 hr0 => ok0_opt_Trim hU0 x0 u0 v0 (g1_0 + 2) z0 r2 hr0 g3_0 g3_1 g3_2 g3_3 e_g3)) [3], .o, .o, .o, .o, .o, .o, .o, .o, .xg (SpcG.own hU (f := c_Insn) c_Insn_len (g1_0 + 2) r2 40 (fun l => padL l (g1_0 + 2) 5) (fun l => (padL l (g1_0 + 2) 5).length / 5) _ 1 .normal (by intros; rfl) (by intros; rfl) (by intros; rfl) (fun M0 B0 S0 x0 u0 v0 z0 hU0 hs0 hr0 => ok0_opt_Thread hU0 x0 u0 v0 (g1_0 + 2) z0 r2 hr0 g4_0 e_g4)) [3], .o, .o, .o, .o, .o, .o, .o, .o, .o, .o, .o, .o, .o, .o, .o, .qb (slTail_ok (T := 22) (e := 40) (sz := 5) (N := (g1_0 + 2)) (x := y0) .row (by kernel_rfl) (fun w => by kernel_rfl) hq5) 3, .xg (SpcG.own hU (f := c_Insn) c_Insn_len g3_0 g3_1 40 (fun l => padL l g3_0 5) (fun _ => 0) _ 0 .normal (by intros; rfl) (by intros; rfl) (by intros; rfl) (fun M0 B0 S0 x0 u0 v0 z0 hU0 hs0 hr0 => SpcG.ownT hU0 (f := c_Insn) c_Insn_len (g1_0 + 2) r2 40 (fun l => padC .row l (g1_0 + 2) 5) (fun l => capC .row l (g1_0 + 2) 5 - (g1_0 + 2)) (y0).toNat ((g1_0 + 2) - (y0).toNat) (tail_le hq5) _ 0 .normal (by intros; rfl) (by intros; rfl) (by intros; rfl) (fun M1 B1 S1 x1 u1 v1 z1 hU1 hs1 hr1 => ConG.sp (ok_barbicanhelp_Insns hU1 x0 u0 v0 g3_0 z0 g3_1 (Ro.mono hr0 hs1) x1 u1 v1 ((g1_0 + 2) - (y0).toNat) z1 (fun k => r2 ((y0).toNat + k)) hr1 true e_r5)))) [4, 3], .o, .o, .o, .o, .o, .o, .o, .o, .xg (SpcG.own hU (f := cZ) cZ_len g3_2 g3_3 3 (fun l => padL l g3_2 1) (fun _ => 0) _ 0 .normal (by intros; rfl) (by intros; rfl) (by intros; rfl) (fun M0 B0 S0 x0 u0 v0 z0 hU0 hs0 hr0 => SpcG.own hU0 (f := cZ) cZ_len 2 (fun k => if k = 0 then y0 else (IntKind.i64.wrap (y0 + 1))) 3 (fun _ => []) (fun _ => 0) _ 0 .normal (by intros; rfl) (by intros; rfl) (by intros; rfl) (fun M1 B1 S1 x1 u1 v1 z1 hU1 hs1 hr1 => ConG.sp (ok_barbicanhelp_Ints hU1 x0 u0 v0 g3_2 z0 g3_3 (Ro.mono hr0 hs1) x1 u1 v1 2 z1 (fun k => if k = 0 then y0 else (IntKind.i64.wrap (y0 + 1))) hr1 true e_r6)))) [5, 7], .o, .o, .o, .o, .o, .o, .o, .b (z_neqF hq8), .o, .o] [] (fun b => by kernel_rfl)
                      · subst hq7
                        injection e with e; subst e; exact fn_conG hU (P := Try.prog) Try.func4 (fun xs w => by kernel_rfl) _ _ [.o, .cg (ok_barbicanlaw20_known hU  true e_r0), .o, .o, .b (z_lssF hq1), .o, .o, .b (z_gtrF hq2), .o, .o, .o, .cp, .cx (sp1_barbicanlaw20_OptChains_L0_0_ok hU y0  g1_0 g1_1 e_g1) [], .o, .o, .o, .o, .x (sqAppLr_ok (ty := 22) rt22 #[false, false] (f := c_Insn) (N := g1_0) (A := g1_1) (c := 2) [(⟨183#8, 0#8, 0#8, 0#16, 3#32⟩ : Insn), (⟨149#8, 0#8, 0#8, 0#16, 0#32⟩ : Insn)] (T' := 40) .row c_Insn_len c_Insn_one hq3 rfl (by decide) e_r2) [0, 2], .o, .o, .xg (SpcG.own hU (f := c_Insn) c_Insn_len (g1_0 + 2) r2 40 (fun l => padL l (g1_0 + 2) 5) (fun l => (padL l (g1_0 + 2) 5).length / 5) _ 2 .normal (by intros; rfl) (by intros; rfl) (by intros; rfl) (fun M0 B0 S0 x0 u0 v0 z0 hU0 hs0 hr0 => ok0_opt_Trim hU0 x0 u0 v0 (g1_0 + 2) z0 r2 hr0 g3_0 g3_1 g3_2 g3_3 e_g3)) [3], .o, .o, .o, .o, .o, .o, .o, .o, .xg (SpcG.own hU (f := c_Insn) c_Insn_len (g1_0 + 2) r2 40 (fun l => padL l (g1_0 + 2) 5) (fun l => (padL l (g1_0 + 2) 5).length / 5) _ 1 .normal (by intros; rfl) (by intros; rfl) (by intros; rfl) (fun M0 B0 S0 x0 u0 v0 z0 hU0 hs0 hr0 => ok0_opt_Thread hU0 x0 u0 v0 (g1_0 + 2) z0 r2 hr0 g4_0 e_g4)) [3], .o, .o, .o, .o, .o, .o, .o, .o, .o, .o, .o, .o, .o, .o, .o, .qb (slTail_ok (T := 22) (e := 40) (sz := 5) (N := (g1_0 + 2)) (x := y0) .row (by kernel_rfl) (fun w => by kernel_rfl) hq5) 3, .xg (SpcG.own hU (f := c_Insn) c_Insn_len g3_0 g3_1 40 (fun l => padL l g3_0 5) (fun _ => 0) _ 0 .normal (by intros; rfl) (by intros; rfl) (by intros; rfl) (fun M0 B0 S0 x0 u0 v0 z0 hU0 hs0 hr0 => SpcG.ownT hU0 (f := c_Insn) c_Insn_len (g1_0 + 2) r2 40 (fun l => padC .row l (g1_0 + 2) 5) (fun l => capC .row l (g1_0 + 2) 5 - (g1_0 + 2)) (y0).toNat ((g1_0 + 2) - (y0).toNat) (tail_le hq5) _ 0 .normal (by intros; rfl) (by intros; rfl) (by intros; rfl) (fun M1 B1 S1 x1 u1 v1 z1 hU1 hs1 hr1 => ConG.sp (ok_barbicanhelp_Insns hU1 x0 u0 v0 g3_0 z0 g3_1 (Ro.mono hr0 hs1) x1 u1 v1 ((g1_0 + 2) - (y0).toNat) z1 (fun k => r2 ((y0).toNat + k)) hr1 true e_r5)))) [4, 3], .o, .o, .o, .o, .o, .o, .o, .o, .xg (SpcG.own hU (f := cZ) cZ_len g3_2 g3_3 3 (fun l => padL l g3_2 1) (fun _ => 0) _ 0 .normal (by intros; rfl) (by intros; rfl) (by intros; rfl) (fun M0 B0 S0 x0 u0 v0 z0 hU0 hs0 hr0 => SpcG.own hU0 (f := cZ) cZ_len 2 (fun k => if k = 0 then y0 else (IntKind.i64.wrap (y0 + 1))) 3 (fun _ => []) (fun _ => 0) _ 0 .normal (by intros; rfl) (by intros; rfl) (by intros; rfl) (fun M1 B1 S1 x1 u1 v1 z1 hU1 hs1 hr1 => ConG.sp (ok_barbicanhelp_Ints hU1 x0 u0 v0 g3_2 z0 g3_3 (Ro.mono hr0 hs1) x1 u1 v1 2 z1 (fun k => if k = 0 then y0 else (IntKind.i64.wrap (y0 + 1))) hr1 false e_r6)))) [5, 7], .o, .o, .o, .o, .o] [] (fun b => by kernel_rfl)
                    · subst hq6
                      injection e with e; subst e; exact fn_conG hU (P := Try.prog) Try.func4 (fun xs w => by kernel_rfl) _ _ [.o, .cg (ok_barbicanlaw20_known hU  true e_r0), .o, .o, .b (z_lssF hq1), .o, .o, .b (z_gtrF hq2), .o, .o, .o, .cp, .cx (sp1_barbicanlaw20_OptChains_L0_0_ok hU y0  g1_0 g1_1 e_g1) [], .o, .o, .o, .o, .x (sqAppLr_ok (ty := 22) rt22 #[false, false] (f := c_Insn) (N := g1_0) (A := g1_1) (c := 2) [(⟨183#8, 0#8, 0#8, 0#16, 3#32⟩ : Insn), (⟨149#8, 0#8, 0#8, 0#16, 0#32⟩ : Insn)] (T' := 40) .row c_Insn_len c_Insn_one hq3 rfl (by decide) e_r2) [0, 2], .o, .o, .xg (SpcG.own hU (f := c_Insn) c_Insn_len (g1_0 + 2) r2 40 (fun l => padL l (g1_0 + 2) 5) (fun l => (padL l (g1_0 + 2) 5).length / 5) _ 2 .normal (by intros; rfl) (by intros; rfl) (by intros; rfl) (fun M0 B0 S0 x0 u0 v0 z0 hU0 hs0 hr0 => ok0_opt_Trim hU0 x0 u0 v0 (g1_0 + 2) z0 r2 hr0 g3_0 g3_1 g3_2 g3_3 e_g3)) [3], .o, .o, .o, .o, .o, .o, .o, .o, .xg (SpcG.own hU (f := c_Insn) c_Insn_len (g1_0 + 2) r2 40 (fun l => padL l (g1_0 + 2) 5) (fun l => (padL l (g1_0 + 2) 5).length / 5) _ 1 .normal (by intros; rfl) (by intros; rfl) (by intros; rfl) (fun M0 B0 S0 x0 u0 v0 z0 hU0 hs0 hr0 => ok0_opt_Thread hU0 x0 u0 v0 (g1_0 + 2) z0 r2 hr0 g4_0 e_g4)) [3], .o, .o, .o, .o, .o, .o, .o, .o, .o, .o, .o, .o, .o, .o, .o, .qb (slTail_ok (T := 22) (e := 40) (sz := 5) (N := (g1_0 + 2)) (x := y0) .row (by kernel_rfl) (fun w => by kernel_rfl) hq5) 3, .xg (SpcG.own hU (f := c_Insn) c_Insn_len g3_0 g3_1 40 (fun l => padL l g3_0 5) (fun _ => 0) _ 0 .normal (by intros; rfl) (by intros; rfl) (by intros; rfl) (fun M0 B0 S0 x0 u0 v0 z0 hU0 hs0 hr0 => SpcG.ownT hU0 (f := c_Insn) c_Insn_len (g1_0 + 2) r2 40 (fun l => padC .row l (g1_0 + 2) 5) (fun l => capC .row l (g1_0 + 2) 5 - (g1_0 + 2)) (y0).toNat ((g1_0 + 2) - (y0).toNat) (tail_le hq5) _ 0 .normal (by intros; rfl) (by intros; rfl) (by intros; rfl) (fun M1 B1 S1 x1 u1 v1 z1 hU1 hs1 hr1 => ConG.sp (ok_barbicanhelp_Insns hU1 x0 u0 v0 g3_0 z0 g3_1 (Ro.mono hr0 hs1) x1 u1 v1 ((g1_0 + 2) - (y0).toNat) z1 (fun k => r2 ((y0).toNat + k)) hr1 false e_r5)))) [4, 3], .o, .o, .o, .o, .o, .o, .o] [] (fun b => by kernel_rfl)
                  · exact none_some e
                · exact none_some e
              · try dsimp only at e
                replace e := cond_eq_or e
                rcases e with ⟨hq4, e⟩ | ⟨hq4, e⟩
                · replace e := cond_eq_or e
                  rcases e with ⟨hq5, e⟩ | ⟨hq5, e⟩
                  · replace e := cond_eq_or e
                    rcases e with ⟨hq6, e⟩ | ⟨hq6, e⟩
                    · replace e := bindO_eq e
                      obtain ⟨r5, e_r5, e⟩ := e
                      try dsimp only at e
                      replace e := cond_eq_or e
                      rcases e with ⟨hq7, e⟩ | ⟨hq7, e⟩
                      · subst hq7
                        replace e := bindO_eq e
                        obtain ⟨r6, e_r6, e⟩ := e
                        try dsimp only at e
                        replace e := cond_eq_or e
                        rcases e with ⟨hq8, e⟩ | ⟨hq8, e⟩
                        · subst hq8
                          replace e := cond_eq_or e
                          rcases e with ⟨hq9, e⟩ | ⟨hq9, e⟩
                          · replace e := bindO_eq e
                            obtain ⟨g7, e_g7, e⟩ := e
                            obtain ⟨g7_0⟩ := g7
                            try dsimp only at e
                            injection e with e; subst e; exact fn_conG hU (P := Try.prog) Try.func4 (fun xs w => by kernel_rfl) _ _ [.o, .cg (ok_barbicanlaw20_known hU  true e_r0), .o, .o, .b (z_lssF hq1), .o, .o, .b (z_gtrF hq2), .o, .o, .o, .cp, .cx (sp1_barbicanlaw20_OptChains_L0_0_ok hU y0  g1_0 g1_1 e_g1) [], .o, .o, .o, .o, .x (sqAppLr_ok (ty := 22) rt22 #[false, false] (f := c_Insn) (N := g1_0) (A := g1_1) (c := 2) [(⟨183#8, 0#8, 0#8, 0#16, 3#32⟩ : Insn), (⟨149#8, 0#8, 0#8, 0#16, 0#32⟩ : Insn)] (T' := 40) .row c_Insn_len c_Insn_one hq3 rfl (by decide) e_r2) [0, 2], .o, .o, .xg (SpcG.own hU (f := c_Insn) c_Insn_len (g1_0 + 2) r2 40 (fun l => padL l (g1_0 + 2) 5) (fun l => (padL l (g1_0 + 2) 5).length / 5) _ 2 .normal (by intros; rfl) (by intros; rfl) (by intros; rfl) (fun M0 B0 S0 x0 u0 v0 z0 hU0 hs0 hr0 => ok0_opt_Trim hU0 x0 u0 v0 (g1_0 + 2) z0 r2 hr0 g3_0 g3_1 g3_2 g3_3 e_g3)) [3], .o, .o, .o, .o, .o, .o, .o, .o, .xg (SpcG.own hU (f := c_Insn) c_Insn_len (g1_0 + 2) r2 40 (fun l => padL l (g1_0 + 2) 5) (fun l => (padL l (g1_0 + 2) 5).length / 5) _ 0 .normal (by intros; rfl) (by intros; rfl) (by intros; rfl) (fun M0 B0 S0 x0 u0 v0 z0 hU0 hs0 hr0 => ok1_opt_Thread hU0 x0 u0 v0 (g1_0 + 2) z0 r2 hr0 g4_0 e_g4)) [3], .o, .o, .o, .o, .o, .o, .o, .o, .o, .b (z_neqT hq4), .o, .o, .o, .o, .o, .qb (slTail_ok (T := 22) (e := 40) (sz := 5) (N := (g1_0 + 2)) (x := y0) .row (by kernel_rfl) (fun w => by kernel_rfl) hq6) 3, .xg (SpcG.own hU (f := c_Insn) c_Insn_len g3_0 g3_1 40 (fun l => padL l g3_0 5) (fun _ => 0) _ 0 .normal (by intros; rfl) (by intros; rfl) (by intros; rfl) (fun M0 B0 S0 x0 u0 v0 z0 hU0 hs0 hr0 => SpcG.ownT hU0 (f := c_Insn) c_Insn_len (g1_0 + 2) r2 40 (fun l => padC .row l (g1_0 + 2) 5) (fun l => capC .row l (g1_0 + 2) 5 - (g1_0 + 2)) (y0).toNat ((g1_0 + 2) - (y0).toNat) (tail_le hq6) _ 0 .normal (by intros; rfl) (by intros; rfl) (by intros; rfl) (fun M1 B1 S1 x1 u1 v1 z1 hU1 hs1 hr1 => ConG.sp (ok_barbicanhelp_Insns hU1 x0 u0 v0 g3_0 z0 g3_1 (Ro.mono hr0 hs1) x1 u1 v1 ((g1_0 + 2) - (y0).toNat) z1 (fun k => r2 ((y0).toNat + k)) hr1 true e_r5)))) [4, 3], .o, .o, .o, .o, .o, .o, .o, .o, .xg (SpcG.own hU (f := cZ) cZ_len g3_2 g3_3 3 (fun l => padL l g3_2 1) (fun _ => 0) _ 0 .normal (by intros; rfl) (by intros; rfl) (by intros; rfl) (fun M0 B0 S0 x0 u0 v0 z0 hU0 hs0 hr0 => SpcG.own hU0 (f := cZ) cZ_len 2 (fun k => if k = 0 then y0 else (IntKind.i64.wrap (y0 + 1))) 3 (fun _ => []) (fun _ => 0) _ 0 .normal (by intros; rfl) (by intros; rfl) (by intros; rfl) (fun M1 B1 S1 x1 u1 v1 z1 hU1 hs1 hr1 => ConG.sp (ok_barbicanhelp_Ints hU1 x0 u0 v0 g3_2 z0 g3_3 (Ro.mono hr0 hs1) x1 u1 v1 2 z1 (fun k => if k = 0 then y0 else (IntKind.i64.wrap (y0 + 1))) hr1 true e_r6)))) [5, 6], .o, .o, .o, .o, .o, .o, .o, .b (z_neqT hq9), .o, .o, .cp, .cx (sp0_barbicanlaw20_OptChains_L1v3_0_ok hU y0 g1_0 g1_1 r2 g3_0 g3_1 g3_2 g3_3 g4_0  g7_0 e_g7) [0, 1, 2, 3, 4, 5, 6], .o] [] (fun b => by kernel_rfl)
                          · injection e with e; subst e; exact fn_conG hU (P := Try.prog) Try.func4 (fun xs w => by kernel_rfl) _ _ [.o, .cg (ok_barbicanlaw20_known hU  true e_r0), .o, .o, .b (z_lssF hq1), .o, .o, .b (z_gtrF hq2), .o, .o, .o, .cp, .cx (sp1_barbicanlaw20_OptChains_L0_0_ok hU y0  g1_0 g1_1 e_g1) [], .o, .o, .o, .o, .x (sqAppLr_ok (ty := 22) rt22 #[false, false] (f := c_Insn) (N := g1_0) (A := g1_1) (c := 2) [(⟨183#8, 0#8, 0#8, 0#16, 3#32⟩ : Insn), (⟨149#8, 0#8, 0#8, 0#16, 0#32⟩ : Insn)] (T' := 40) .row c_Insn_len c_Insn_one hq3 rfl (by decide) e_r2) [0, 2], .o, .o, .xg (SpcG.own hU (f := c_Insn) c_Insn_len (g1_0 + 2) r2 40 (fun l => padL l (g1_0 + 2) 5) (fun l => (padL l (g1_0 + 2) 5).length / 5) _ 2 .normal (by intros; rfl) (by intros; rfl) (by intros; rfl) (fun M0 B0 S0 x0 u0 v0 z0 hU0 hs0 hr0 => ok0_opt_Trim hU0 x0 u0 v0 (g1_0 + 2) z0 r2 hr0 g3_0 g3_1 g3_2 g3_3 e_g3)) [3], .o, .o, .o, .o, .o, .o, .o, .o, .xg (SpcG.own hU (f := c_Insn) c_Insn_len (g1_0 + 2) r2 40 (fun l => padL l (g1_0 + 2) 5) (fun l => (padL l (g1_0 + 2) 5).length / 5) _ 0 .normal (by intros; rfl) (by intros; rfl) (by intros; rfl) (fun M0 B0 S0 x0 u0 v0 z0 hU0 hs0 hr0 => ok1_opt_Thread hU0 x0 u0 v0 (g1_0 + 2) z0 r2 hr0 g4_0 e_g4)) [3], .o, .o, .o, .o, .o, .o, .o, .o, .o, .b (z_neqT hq4), .o, .o, .o, .o, .o, .qb (slTail_ok (T := 22) (e := 40) (sz := 5) (N := (g1_0 + 2)) (x := y0) .row (by kernel_rfl) (fun w => by kernel_rfl) hq6) 3, .xg (SpcG.own hU (f := c_Insn) c_Insn_len g3_0 g3_1 40 (fun l => padL l g3_0 5) (fun _ => 0) _ 0 .normal (by intros; rfl) (by intros; rfl) (by intros; rfl) (fun M0 B0 S0 x0 u0 v0 z0 hU0 hs0 hr0 => SpcG.ownT hU0 (f := c_Insn) c_Insn_len (g1_0 + 2) r2 40 (fun l => padC .row l (g1_0 + 2) 5) (fun l => capC .row l (g1_0 + 2) 5 - (g1_0 + 2)) (y0).toNat ((g1_0 + 2) - (y0).toNat) (tail_le hq6) _ 0 .normal (by intros; rfl) (by intros; rfl) (by intros; rfl) (fun M1 B1 S1 x1 u1 v1 z1 hU1 hs1 hr1 => ConG.sp (ok_barbicanhelp_Insns hU1 x0 u0 v0 g3_0 z0 g3_1 (Ro.mono hr0 hs1) x1 u1 v1 ((g1_0 + 2) - (y0).toNat) z1 (fun k => r2 ((y0).toNat + k)) hr1 true e_r5)))) [4, 3], .o, .o, .o, .o, .o, .o, .o, .o, .xg (SpcG.own hU (f := cZ) cZ_len g3_2 g3_3 3 (fun l => padL l g3_2 1) (fun _ => 0) _ 0 .normal (by intros; rfl) (by intros; rfl) (by intros; rfl) (fun M0 B0 S0 x0 u0 v0 z0 hU0 hs0 hr0 => SpcG.own hU0 (f := cZ) cZ_len 2 (fun k => if k = 0 then y0 else (IntKind.i64.wrap (y0 + 1))) 3 (fun _ => []) (fun _ => 0) _ 0 .normal (by intros; rfl) (by intros; rfl) (by intros; rfl) (fun M1 B1 S1 x1 u1 v1 z1 hU1 hs1 hr1 => ConG.sp (ok_barbicanhelp_Ints hU1 x0 u0 v0 g3_2 z0 g3_3 (Ro.mono hr0 hs1) x1 u1 v1 2 z1 (fun k => if k = 0 then y0 else (IntKind.i64.wrap (y0 + 1))) hr1 true e_r6)))) [5, 6], .o, .o, .o, .o, .o, .o, .o, .b (z_neqF hq9), .o, .o] [] (fun b => by kernel_rfl)
                        · subst hq8
                          injection e with e; subst e; exact fn_conG hU (P := Try.prog) Try.func4 (fun xs w => by kernel_rfl) _ _ [.o, .cg (ok_barbicanlaw20_known hU  true e_r0), .o, .o, .b (z_lssF hq1), .o, .o, .b (z_gtrF hq2), .o, .o, .o, .cp, .cx (sp1_barbicanlaw20_OptChains_L0_0_ok hU y0  g1_0 g1_1 e_g1) [], .o, .o, .o, .o, .x (sqAppLr_ok (ty := 22) rt22 #[false, false] (f := c_Insn) (N := g1_0) (A := g1_1) (c := 2) [(⟨183#8, 0#8, 0#8, 0#16, 3#32⟩ : Insn), (⟨149#8, 0#8, 0#8, 0#16, 0#32⟩ : Insn)] (T' := 40) .row c_Insn_len c_Insn_one hq3 rfl (by decide) e_r2) [0, 2], .o, .o, .xg (SpcG.own hU (f := c_Insn) c_Insn_len (g1_0 + 2) r2 40 (fun l => padL l (g1_0 + 2) 5) (fun l => (padL l (g1_0 + 2) 5).length / 5) _ 2 .normal (by intros; rfl) (by intros; rfl) (by intros; rfl) (fun M0 B0 S0 x0 u0 v0 z0 hU0 hs0 hr0 => ok0_opt_Trim hU0 x0 u0 v0 (g1_0 + 2) z0 r2 hr0 g3_0 g3_1 g3_2 g3_3 e_g3)) [3], .o, .o, .o, .o, .o, .o, .o, .o, .xg (SpcG.own hU (f := c_Insn) c_Insn_len (g1_0 + 2) r2 40 (fun l => padL l (g1_0 + 2) 5) (fun l => (padL l (g1_0 + 2) 5).length / 5) _ 0 .normal (by intros; rfl) (by intros; rfl) (by intros; rfl) (fun M0 B0 S0 x0 u0 v0 z0 hU0 hs0 hr0 => ok1_opt_Thread hU0 x0 u0 v0 (g1_0 + 2) z0 r2 hr0 g4_0 e_g4)) [3], .o, .o, .o, .o, .o, .o, .o, .o, .o, .b (z_neqT hq4), .o, .o, .o, .o, .o, .qb (slTail_ok (T := 22) (e := 40) (sz := 5) (N := (g1_0 + 2)) (x := y0) .row (by kernel_rfl) (fun w => by kernel_rfl) hq6) 3, .xg (SpcG.own hU (f := c_Insn) c_Insn_len g3_0 g3_1 40 (fun l => padL l g3_0 5) (fun _ => 0) _ 0 .normal (by intros; rfl) (by intros; rfl) (by intros; rfl) (fun M0 B0 S0 x0 u0 v0 z0 hU0 hs0 hr0 => SpcG.ownT hU0 (f := c_Insn) c_Insn_len (g1_0 + 2) r2 40 (fun l => padC .row l (g1_0 + 2) 5) (fun l => capC .row l (g1_0 + 2) 5 - (g1_0 + 2)) (y0).toNat ((g1_0 + 2) - (y0).toNat) (tail_le hq6) _ 0 .normal (by intros; rfl) (by intros; rfl) (by intros; rfl) (fun M1 B1 S1 x1 u1 v1 z1 hU1 hs1 hr1 => ConG.sp (ok_barbicanhelp_Insns hU1 x0 u0 v0 g3_0 z0 g3_1 (Ro.mono hr0 hs1) x1 u1 v1 ((g1_0 + 2) - (y0).toNat) z1 (fun k => r2 ((y0).toNat + k)) hr1 true e_r5)))) [4, 3], .o, .o, .o, .o, .o, .o, .o, .o, .xg (SpcG.own hU (f := cZ) cZ_len g3_2 g3_3 3 (fun l => padL l g3_2 1) (fun _ => 0) _ 0 .normal (by intros; rfl) (by intros; rfl) (by intros; rfl) (fun M0 B0 S0 x0 u0 v0 z0 hU0 hs0 hr0 => SpcG.own hU0 (f := cZ) cZ_len 2 (fun k => if k = 0 then y0 else (IntKind.i64.wrap (y0 + 1))) 3 (fun _ => []) (fun _ => 0) _ 0 .normal (by intros; rfl) (by intros; rfl) (by intros; rfl) (fun M1 B1 S1 x1 u1 v1 z1 hU1 hs1 hr1 => ConG.sp (ok_barbicanhelp_Ints hU1 x0 u0 v0 g3_2 z0 g3_3 (Ro.mono hr0 hs1) x1 u1 v1 2 z1 (fun k => if k = 0 then y0 else (IntKind.i64.wrap (y0 + 1))) hr1 false e_r6)))) [5, 6], .o, .o, .o, .o, .o] [] (fun b => by kernel_rfl)
                      · subst hq7
                        injection e with e; subst e; exact fn_conG hU (P := Try.prog) Try.func4 (fun xs w => by kernel_rfl) _ _ [.o, .cg (ok_barbicanlaw20_known hU  true e_r0), .o, .o, .b (z_lssF hq1), .o, .o, .b (z_gtrF hq2), .o, .o, .o, .cp, .cx (sp1_barbicanlaw20_OptChains_L0_0_ok hU y0  g1_0 g1_1 e_g1) [], .o, .o, .o, .o, .x (sqAppLr_ok (ty := 22) rt22 #[false, false] (f := c_Insn) (N := g1_0) (A := g1_1) (c := 2) [(⟨183#8, 0#8, 0#8, 0#16, 3#32⟩ : Insn), (⟨149#8, 0#8, 0#8, 0#16, 0#32⟩ : Insn)] (T' := 40) .row c_Insn_len c_Insn_one hq3 rfl (by decide) e_r2) [0, 2], .o, .o, .xg (SpcG.own hU (f := c_Insn) c_Insn_len (g1_0 + 2) r2 40 (fun l => padL l (g1_0 + 2) 5) (fun l => (padL l (g1_0 + 2) 5).length / 5) _ 2 .normal (by intros; rfl) (by intros; rfl) (by intros; rfl) (fun M0 B0 S0 x0 u0 v0 z0 hU0 hs0 hr0 => ok0_opt_Trim hU0 x0 u0 v0 (g1_0 + 2) z0 r2 hr0 g3_0 g3_1 g3_2 g3_3 e_g3)) [3], .o, .o, .o, .o, .o, .o, .o, .o, .xg (SpcG.own hU (f := c_Insn) c_Insn_len (g1_0 + 2) r2 40 (fun l => padL l (g1_0 + 2) 5) (fun l => (padL l (g1_0 + 2) 5).length / 5) _ 0 .normal (by intros; rfl) (by intros; rfl) (by intros; rfl) (fun M0 B0 S0 x0 u0 v0 z0 hU0 hs0 hr0 => ok1_opt_Thread hU0 x0 u0 v0 (g1_0 + 2) z0 r2 hr0 g4_0 e_g4)) [3], .o, .o, .o, .o, .o, .o, .o, .o, .o, .b (z_neqT hq4), .o, .o, .o, .o, .o, .qb (slTail_ok (T := 22) (e := 40) (sz := 5) (N := (g1_0 + 2)) (x := y0) .row (by kernel_rfl) (fun w => by kernel_rfl) hq6) 3, .xg (SpcG.own hU (f := c_Insn) c_Insn_len g3_0 g3_1 40 (fun l => padL l g3_0 5) (fun _ => 0) _ 0 .normal (by intros; rfl) (by intros; rfl) (by intros; rfl) (fun M0 B0 S0 x0 u0 v0 z0 hU0 hs0 hr0 => SpcG.ownT hU0 (f := c_Insn) c_Insn_len (g1_0 + 2) r2 40 (fun l => padC .row l (g1_0 + 2) 5) (fun l => capC .row l (g1_0 + 2) 5 - (g1_0 + 2)) (y0).toNat ((g1_0 + 2) - (y0).toNat) (tail_le hq6) _ 0 .normal (by intros; rfl) (by intros; rfl) (by intros; rfl) (fun M1 B1 S1 x1 u1 v1 z1 hU1 hs1 hr1 => ConG.sp (ok_barbicanhelp_Insns hU1 x0 u0 v0 g3_0 z0 g3_1 (Ro.mono hr0 hs1) x1 u1 v1 ((g1_0 + 2) - (y0).toNat) z1 (fun k => r2 ((y0).toNat + k)) hr1 false e_r5)))) [4, 3], .o, .o, .o, .o, .o, .o, .o] [] (fun b => by kernel_rfl)
                    · exact none_some e
                  · exact none_some e
                · injection e with e; subst e; exact fn_conG hU (P := Try.prog) Try.func4 (fun xs w => by kernel_rfl) _ _ [.o, .cg (ok_barbicanlaw20_known hU  true e_r0), .o, .o, .b (z_lssF hq1), .o, .o, .b (z_gtrF hq2), .o, .o, .o, .cp, .cx (sp1_barbicanlaw20_OptChains_L0_0_ok hU y0  g1_0 g1_1 e_g1) [], .o, .o, .o, .o, .x (sqAppLr_ok (ty := 22) rt22 #[false, false] (f := c_Insn) (N := g1_0) (A := g1_1) (c := 2) [(⟨183#8, 0#8, 0#8, 0#16, 3#32⟩ : Insn), (⟨149#8, 0#8, 0#8, 0#16, 0#32⟩ : Insn)] (T' := 40) .row c_Insn_len c_Insn_one hq3 rfl (by decide) e_r2) [0, 2], .o, .o, .xg (SpcG.own hU (f := c_Insn) c_Insn_len (g1_0 + 2) r2 40 (fun l => padL l (g1_0 + 2) 5) (fun l => (padL l (g1_0 + 2) 5).length / 5) _ 2 .normal (by intros; rfl) (by intros; rfl) (by intros; rfl) (fun M0 B0 S0 x0 u0 v0 z0 hU0 hs0 hr0 => ok0_opt_Trim hU0 x0 u0 v0 (g1_0 + 2) z0 r2 hr0 g3_0 g3_1 g3_2 g3_3 e_g3)) [3], .o, .o, .o, .o, .o, .o, .o, .o, .xg (SpcG.own hU (f := c_Insn) c_Insn_len (g1_0 + 2) r2 40 (fun l => padL l (g1_0 + 2) 5) (fun l => (padL l (g1_0 + 2) 5).length / 5) _ 0 .normal (by intros; rfl) (by intros; rfl) (by intros; rfl) (fun M0 B0 S0 x0 u0 v0 z0 hU0 hs0 hr0 => ok1_opt_Thread hU0 x0 u0 v0 (g1_0 + 2) z0 r2 hr0 g4_0 e_g4)) [3], .o, .o, .o, .o, .o, .o, .o, .o, .o, .b (z_neqF hq4), .o, .o, .o, .o, .o, .o, .o, .o] [] (fun b => by kernel_rfl)
            · try dsimp only at e
              replace e := bindO_eq e
              obtain ⟨g4, e_g4, e⟩ := e
              rcases g4 with ⟨g4_0⟩ | ⟨g4_0⟩
              · try dsimp only at e
                replace e := cond_eq_or e
                rcases e with ⟨hq4, e⟩ | ⟨hq4, e⟩
                · replace e := cond_eq_or e
                  rcases e with ⟨hq5, e⟩ | ⟨hq5, e⟩
                  · replace e := cond_eq_or e
                    rcases e with ⟨hq6, e⟩ | ⟨hq6, e⟩
                    · replace e := bindO_eq e
                      obtain ⟨r5, e_r5, e⟩ := e
                      try dsimp only at e
                      replace e := cond_eq_or e
                      rcases e with ⟨hq7, e⟩ | ⟨hq7, e⟩
                      · subst hq7
                        replace e := bindO_eq e
                        obtain ⟨r6, e_r6, e⟩ := e
                        try dsimp only at e
                        replace e := cond_eq_or e
                        rcases e with ⟨hq8, e⟩ | ⟨hq8, e⟩
                        · subst hq8
                          replace e := cond_eq_or e
                          rcases e with ⟨hq9, e⟩ | ⟨hq9, e⟩
                          · replace e := bindO_eq e
                            obtain ⟨g7, e_g7, e⟩ := e
                            rcases g7 with ⟨g7_0⟩ | ⟨g7_0⟩
                            · try dsimp only at e
                              injection e with e; subst e; exact fn_conG hU (P := Try.prog) Try.func4 (fun xs w => by kernel_rfl) _ _ [.o, .cg (ok_barbicanlaw20_known hU  true e_r0), .o, .o, .b (z_lssF hq1), .o, .o, .b (z_gtrF hq2), .o, .o, .o, .cp, .cx (sp1_barbicanlaw20_OptChains_L0_0_ok hU y0  g1_0 g1_1 e_g1) [], .o, .o, .o, .o, .x (sqAppLr_ok (ty := 22) rt22 #[false, false] (f := c_Insn) (N := g1_0) (A := g1_1) (c := 2) [(⟨183#8, 0#8, 0#8, 0#16, 3#32⟩ : Insn), (⟨149#8, 0#8, 0#8, 0#16, 0#32⟩ : Insn)] (T' := 40) .row c_Insn_len c_Insn_one hq3 rfl (by decide) e_r2) [0, 2], .o, .o, .xg (SpcG.own hU (f := c_Insn) c_Insn_len (g1_0 + 2) r2 40 (fun l => padL l (g1_0 + 2) 5) (fun l => (padL l (g1_0 + 2) 5).length / 5) _ 0 .normal (by intros; rfl) (by intros; rfl) (by intros; rfl) (fun M0 B0 S0 x0 u0 v0 z0 hU0 hs0 hr0 => ok1_opt_Trim hU0 x0 u0 v0 (g1_0 + 2) z0 r2 hr0 g3_0 e_g3)) [3], .o, .o, .o, .o, .o, .o, .o, .o, .xg (SpcG.own hU (f := c_Insn) c_Insn_len (g1_0 + 2) r2 40 (fun l => padL l (g1_0 + 2) 5) (fun l => (padL l (g1_0 + 2) 5).length / 5) _ 1 .normal (by intros; rfl) (by intros; rfl) (by intros; rfl) (fun M0 B0 S0 x0 u0 v0 z0 hU0 hs0 hr0 => ok0_opt_Thread hU0 x0 u0 v0 (g1_0 + 2) z0 r2 hr0 g4_0 e_g4)) [3], .o, .o, .o, .o, .o, .o, .b (z_neqT hq4), .o, .o, .o, .o, .o, .o, .o, .o, .qb (slTail_ok (T := 22) (e := 40) (sz := 5) (N := (g1_0 + 2)) (x := y0) .row (by kernel_rfl) (fun w => by kernel_rfl) hq6) 3, .xg (SpcG.ownT hU (f := c_Insn) c_Insn_len (g1_0 + 2) r2 40 (fun l => padC .row l (g1_0 + 2) 5) (fun l => capC .row l (g1_0 + 2) 5 - (g1_0 + 2)) (y0).toNat ((g1_0 + 2) - (y0).toNat) (tail_le hq6) _ 0 .normal (by intros; rfl) (by intros; rfl) (by intros; rfl) (fun M0 B0 S0 x0 u0 v0 z0 hU0 hs0 hr0 => ConG.sp (ok_barbicanhelp_Insns hU0 none 0 0 0 0 (fun _ => (⟨0#8, 0#8, 0#8, 0#16, 0#32⟩ : Insn)) Ro.nil x0 u0 v0 ((g1_0 + 2) - (y0).toNat) z0 (fun k => r2 ((y0).toNat + k)) hr0 true e_r5))) [3], .o, .o, .o, .o, .o, .o, .o, .o, .xg (SpcG.own hU (f := cZ) cZ_len 2 (fun k => if k = 0 then y0 else (IntKind.i64.wrap (y0 + 1))) 3 (fun _ => []) (fun _ => 0) _ 0 .normal (by intros; rfl) (by intros; rfl) (by intros; rfl) (fun M0 B0 S0 x0 u0 v0 z0 hU0 hs0 hr0 => ConG.sp (ok_barbicanhelp_Ints hU0 none 0 0 0 0 (fun _ => 0) Ro.nil x0 u0 v0 2 z0 (fun k => if k = 0 then y0 else (IntKind.i64.wrap (y0 + 1))) hr0 true e_r6))) [5], .o, .o, .o, .o, .o, .o, .o, .b (z_neqT hq9), .o, .o, .cp, .cx (sp0_barbicanlaw20_OptChains_L1v4_0_ok hU y0 g1_0 g1_1 r2 g3_0 g4_0 0 g7_0 e_g7) [0, 1, 2, 3, 4, 5], .o] [] (fun b => by kernel_rfl)
                            · try dsimp only at e
                              injection e with e; subst e; exact fn_conG hU (P := Try.prog) Try.func4 (fun xs w => by kernel_rfl) _ _ [.o, .cg (ok_barbicanlaw20_known hU  true e_r0), .o, .o, .b (z_lssF hq1), .o, .o, .b (z_gtrF hq2), .o, .o, .o, .cp, .cx (sp1_barbicanlaw20_OptChains_L0_0_ok hU y0  g1_0 g1_1 e_g1) [], .o, .o, .o, .o, .x (sqAppLr_ok (ty := 22) rt22 #[false, false] (f := c_Insn) (N := g1_0) (A := g1_1) (c := 2) [(⟨183#8, 0#8, 0#8, 0#16, 3#32⟩ : Insn), (⟨149#8, 0#8, 0#8, 0#16, 0#32⟩ : Insn)] (T' := 40) .row c_Insn_len c_Insn_one hq3 rfl (by decide) e_r2) [0, 2], .o, .o, .xg (SpcG.own hU (f := c_Insn) c_Insn_len (g1_0 + 2) r2 40 (fun l => padL l (g1_0 + 2) 5) (fun l => (padL l (g1_0 + 2) 5).length / 5) _ 0 .normal (by intros; rfl) (by intros; rfl) (by intros; rfl) (fun M0 B0 S0 x0 u0 v0 z0 hU0 hs0 hr0 => ok1_opt_Trim hU0 x0 u0 v0 (g1_0 + 2) z0 r2 hr0 g3_0 e_g3)) [3], .o, .o, .o, .o, .o, .o, .o, .o, .xg (SpcG.own hU (f := c_Insn) c_Insn_len (g1_0 + 2) r2 40 (fun l => padL l (g1_0 + 2) 5) (fun l => (padL l (g1_0 + 2) 5).length / 5) _ 1 .normal (by intros; rfl) (by intros; rfl) (by intros; rfl) (fun M0 B0 S0 x0 u0 v0 z0 hU0 hs0 hr0 => ok0_opt_Thread hU0 x0 u0 v0 (g1_0 + 2) z0 r2 hr0 g4_0 e_g4)) [3], .o, .o, .o, .o, .o, .o, .b (z_neqT hq4), .o, .o, .o, .o, .o, .o, .o, .o, .qb (slTail_ok (T := 22) (e := 40) (sz := 5) (N := (g1_0 + 2)) (x := y0) .row (by kernel_rfl) (fun w => by kernel_rfl) hq6) 3, .xg (SpcG.ownT hU (f := c_Insn) c_Insn_len (g1_0 + 2) r2 40 (fun l => padC .row l (g1_0 + 2) 5) (fun l => capC .row l (g1_0 + 2) 5 - (g1_0 + 2)) (y0).toNat ((g1_0 + 2) - (y0).toNat) (tail_le hq6) _ 0 .normal (by intros; rfl) (by intros; rfl) (by intros; rfl) (fun M0 B0 S0 x0 u0 v0 z0 hU0 hs0 hr0 => ConG.sp (ok_barbicanhelp_Insns hU0 none 0 0 0 0 (fun _ => (⟨0#8, 0#8, 0#8, 0#16, 0#32⟩ : Insn)) Ro.nil x0 u0 v0 ((g1_0 + 2) - (y0).toNat) z0 (fun k => r2 ((y0).toNat + k)) hr0 true e_r5))) [3], .o, .o, .o, .o, .o, .o, .o, .o, .xg (SpcG.own hU (f := cZ) cZ_len 2 (fun k => if k = 0 then y0 else (IntKind.i64.wrap (y0 + 1))) 3 (fun _ => []) (fun _ => 0) _ 0 .normal (by intros; rfl) (by intros; rfl) (by intros; rfl) (fun M0 B0 S0 x0 u0 v0 z0 hU0 hs0 hr0 => ConG.sp (ok_barbicanhelp_Ints hU0 none 0 0 0 0 (fun _ => 0) Ro.nil x0 u0 v0 2 z0 (fun k => if k = 0 then y0 else (IntKind.i64.wrap (y0 + 1))) hr0 true e_r6))) [5], .o, .o, .o, .o, .o, .o, .o, .b (z_neqT hq9), .o, .o, .cp, .cx (sp1_barbicanlaw20_OptChains_L1v4_0_ok hU y0 g1_0 g1_1 r2 g3_0 g4_0 0 g7_0 e_g7) [0, 1, 2, 3, 4, 5]] [] (fun b => by kernel_rfl)
                          · injection e with e; subst e; exact fn_conG hU (P := Try.prog) Try.func4 (fun xs w => by kernel_rfl) _ _ [.o, .cg (ok_barbicanlaw20_known hU  true e_r0), .o, .o, .b (z_lssF hq1), .o, .o, .b (z_gtrF hq2), .o, .o, .o, .cp, .cx (sp1_barbicanlaw20_OptChains_L0_0_ok hU y0  g1_0 g1_1 e_g1) [], .o, .o, .o, .o, .x (sqAppLr_ok (ty := 22) rt22 #[false, false] (f := c_Insn) (N := g1_0) (A := g1_1) (c := 2) [(⟨183#8, 0#8, 0#8, 0#16, 3#32⟩ : Insn), (⟨149#8, 0#8, 0#8, 0#16, 0#32⟩ : Insn)] (T' := 40) .row c_Insn_len c_Insn_one hq3 rfl (by decide) e_r2) [0, 2], .o, .o, .xg (SpcG.own hU (f := c_Insn) c_Insn_len (g1_0 + 2) r2 40 (fun l => padL l (g1_0 + 2) 5) (fun l => (padL l (g1_0 + 2) 5).length / 5) _ 0 .normal (by intros; rfl) (by intros; rfl) (by intros; rfl) (fun M0 B0 S0 x0 u0 v0 z0 hU0 hs0 hr0 => ok1_opt_Trim hU0 x0 u0 v0 (g1_0 + 2) z0 r2 hr0 g3_0 e_g3)) [3], .o, .o, .o, .o, .o, .o, .o, .o, .xg (SpcG.own hU (f := c_Insn) c_Insn_len (g1_0 + 2) r2 40 (fun l => padL l (g1_0 + 2) 5) (fun l => (padL l (g1_0 + 2) 5).length / 5) _ 1 .normal (by intros; rfl) (by intros; rfl) (by intros; rfl) (fun M0 B0 S0 x0 u0 v0 z0 hU0 hs0 hr0 => ok0_opt_Thread hU0 x0 u0 v0 (g1_0 + 2) z0 r2 hr0 g4_0 e_g4)) [3], .o, .o, .o, .o, .o, .o, .b (z_neqT hq4), .o, .o, .o, .o, .o, .o, .o, .o, .qb (slTail_ok (T := 22) (e := 40) (sz := 5) (N := (g1_0 + 2)) (x := y0) .row (by kernel_rfl) (fun w => by kernel_rfl) hq6) 3, .xg (SpcG.ownT hU (f := c_Insn) c_Insn_len (g1_0 + 2) r2 40 (fun l => padC .row l (g1_0 + 2) 5) (fun l => capC .row l (g1_0 + 2) 5 - (g1_0 + 2)) (y0).toNat ((g1_0 + 2) - (y0).toNat) (tail_le hq6) _ 0 .normal (by intros; rfl) (by intros; rfl) (by intros; rfl) (fun M0 B0 S0 x0 u0 v0 z0 hU0 hs0 hr0 => ConG.sp (ok_barbicanhelp_Insns hU0 none 0 0 0 0 (fun _ => (⟨0#8, 0#8, 0#8, 0#16, 0#32⟩ : Insn)) Ro.nil x0 u0 v0 ((g1_0 + 2) - (y0).toNat) z0 (fun k => r2 ((y0).toNat + k)) hr0 true e_r5))) [3], .o, .o, .o, .o, .o, .o, .o, .o, .xg (SpcG.own hU (f := cZ) cZ_len 2 (fun k => if k = 0 then y0 else (IntKind.i64.wrap (y0 + 1))) 3 (fun _ => []) (fun _ => 0) _ 0 .normal (by intros; rfl) (by intros; rfl) (by intros; rfl) (fun M0 B0 S0 x0 u0 v0 z0 hU0 hs0 hr0 => ConG.sp (ok_barbicanhelp_Ints hU0 none 0 0 0 0 (fun _ => 0) Ro.nil x0 u0 v0 2 z0 (fun k => if k = 0 then y0 else (IntKind.i64.wrap (y0 + 1))) hr0 true e_r6))) [5], .o, .o, .o, .o, .o, .o, .o, .b (z_neqF hq9), .o, .o] [] (fun b => by kernel_rfl)
                        · subst hq8
                          injection e with e; subst e; exact fn_conG hU (P := Try.prog) Try.func4 (fun xs w => by kernel_rfl) _ _ [.o, .cg (ok_barbicanlaw20_known hU  true e_r0), .o, .o, .b (z_lssF hq1), .o, .o, .b (z_gtrF hq2), .o, .o, .o, .cp, .cx (sp1_barbicanlaw20_OptChains_L0_0_ok hU y0  g1_0 g1_1 e_g1) [], .o, .o, .o, .o, .x (sqAppLr_ok (ty := 22) rt22 #[false, false] (f := c_Insn) (N := g1_0) (A := g1_1) (c := 2) [(⟨183#8, 0#8, 0#8, 0#16, 3#32⟩ : Insn), (⟨149#8, 0#8, 0#8, 0#16, 0#32⟩ : Insn)] (T' := 40) .row c_Insn_len c_Insn_one hq3 rfl (by decide) e_r2) [0, 2], .o, .o, .xg (SpcG.own hU (f := c_Insn) c_Insn_len (g1_0 + 2) r2 40 (fun l => padL l (g1_0 + 2) 5) (fun l => (padL l (g1_0 + 2) 5).length / 5) _ 0 .normal (by intros; rfl) (by intros; rfl) (by intros; rfl) (fun M0 B0 S0 x0 u0 v0 z0 hU0 hs0 hr0 => ok1_opt_Trim hU0 x0 u0 v0 (g1_0 + 2) z0 r2 hr0 g3_0 e_g3)) [3], .o, .o, .o, .o, .o, .o, .o, .o, .xg (SpcG.own hU (f := c_Insn) c_Insn_len (g1_0 + 2) r2 40 (fun l => padL l (g1_0 + 2) 5) (fun l => (padL l (g1_0 + 2) 5).length / 5) _ 1 .normal (by intros; rfl) (by intros; rfl) (by intros; rfl) (fun M0 B0 S0 x0 u0 v0 z0 hU0 hs0 hr0 => ok0_opt_Thread hU0 x0 u0 v0 (g1_0 + 2) z0 r2 hr0 g4_0 e_g4)) [3], .o, .o, .o, .o, .o, .o, .b (z_neqT hq4), .o, .o, .o, .o, .o, .o, .o, .o, .qb (slTail_ok (T := 22) (e := 40) (sz := 5) (N := (g1_0 + 2)) (x := y0) .row (by kernel_rfl) (fun w => by kernel_rfl) hq6) 3, .xg (SpcG.ownT hU (f := c_Insn) c_Insn_len (g1_0 + 2) r2 40 (fun l => padC .row l (g1_0 + 2) 5) (fun l => capC .row l (g1_0 + 2) 5 - (g1_0 + 2)) (y0).toNat ((g1_0 + 2) - (y0).toNat) (tail_le hq6) _ 0 .normal (by intros; rfl) (by intros; rfl) (by intros; rfl) (fun M0 B0 S0 x0 u0 v0 z0 hU0 hs0 hr0 => ConG.sp (ok_barbicanhelp_Insns hU0 none 0 0 0 0 (fun _ => (⟨0#8, 0#8, 0#8, 0#16, 0#32⟩ : Insn)) Ro.nil x0 u0 v0 ((g1_0 + 2) - (y0).toNat) z0 (fun k => r2 ((y0).toNat + k)) hr0 true e_r5))) [3], .o, .o, .o, .o, .o, .o, .o, .o, .xg (SpcG.own hU (f := cZ) cZ_len 2 (fun k => if k = 0 then y0 else (IntKind.i64.wrap (y0 + 1))) 3 (fun _ => []) (fun _ => 0) _ 0 .normal (by intros; rfl) (by intros; rfl) (by intros; rfl) (fun M0 B0 S0 x0 u0 v0 z0 hU0 hs0 hr0 => ConG.sp (ok_barbicanhelp_Ints hU0 none 0 0 0 0 (fun _ => 0) Ro.nil x0 u0 v0 2 z0 (fun k => if k = 0 then y0 else (IntKind.i64.wrap (y0 + 1))) hr0 false e_r6))) [5], .o, .o, .o, .o, .o] [] (fun b => by kernel_rfl)
                      · subst hq7
                        injection e with e; subst e; exact fn_conG hU (P := Try.prog) Try.func4 (fun xs w => by kernel_rfl) _ _ [.o, .cg (ok_barbicanlaw20_known hU  true e_r0), .o, .o, .b (z_lssF hq1), .o, .o, .b (z_gtrF hq2), .o, .o, .o, .cp, .cx (sp1_barbicanlaw20_OptChains_L0_0_ok hU y0  g1_0 g1_1 e_g1) [], .o, .o, .o, .o, .x (sqAppLr_ok (ty := 22) rt22 #[false, false] (f := c_Insn) (N := g1_0) (A := g1_1) (c := 2) [(⟨183#8, 0#8, 0#8, 0#16, 3#32⟩ : Insn), (⟨149#8, 0#8, 0#8, 0#16, 0#32⟩ : Insn)] (T' := 40) .row c_Insn_len c_Insn_one hq3 rfl (by decide) e_r2) [0, 2], .o, .o, .xg (SpcG.own hU (f := c_Insn) c_Insn_len (g1_0 + 2) r2 40 (fun l => padL l (g1_0 + 2) 5) (fun l => (padL l (g1_0 + 2) 5).length / 5) _ 0 .normal (by intros; rfl) (by intros; rfl) (by intros; rfl) (fun M0 B0 S0 x0 u0 v0 z0 hU0 hs0 hr0 => ok1_opt_Trim hU0 x0 u0 v0 (g1_0 + 2) z0 r2 hr0 g3_0 e_g3)) [3], .o, .o, .o, .o, .o, .o, .o, .o, .xg (SpcG.own hU (f := c_Insn) c_Insn_len (g1_0 + 2) r2 40 (fun l => padL l (g1_0 + 2) 5) (fun l => (padL l (g1_0 + 2) 5).length / 5) _ 1 .normal (by intros; rfl) (by intros; rfl) (by intros; rfl) (fun M0 B0 S0 x0 u0 v0 z0 hU0 hs0 hr0 => ok0_opt_Thread hU0 x0 u0 v0 (g1_0 + 2) z0 r2 hr0 g4_0 e_g4)) [3], .o, .o, .o, .o, .o, .o, .b (z_neqT hq4), .o, .o, .o, .o, .o, .o, .o, .o, .qb (slTail_ok (T := 22) (e := 40) (sz := 5) (N := (g1_0 + 2)) (x := y0) .row (by kernel_rfl) (fun w => by kernel_rfl) hq6) 3, .xg (SpcG.ownT hU (f := c_Insn) c_Insn_len (g1_0 + 2) r2 40 (fun l => padC .row l (g1_0 + 2) 5) (fun l => capC .row l (g1_0 + 2) 5 - (g1_0 + 2)) (y0).toNat ((g1_0 + 2) - (y0).toNat) (tail_le hq6) _ 0 .normal (by intros; rfl) (by intros; rfl) (by intros; rfl) (fun M0 B0 S0 x0 u0 v0 z0 hU0 hs0 hr0 => ConG.sp (ok_barbicanhelp_Insns hU0 none 0 0 0 0 (fun _ => (⟨0#8, 0#8, 0#8, 0#16, 0#32⟩ : Insn)) Ro.nil x0 u0 v0 ((g1_0 + 2) - (y0).toNat) z0 (fun k => r2 ((y0).toNat + k)) hr0 false e_r5))) [3], .o, .o, .o, .o, .o, .o, .o] [] (fun b => by kernel_rfl)
                    · exact none_some e
                  · exact none_some e
                · injection e with e; subst e; exact fn_conG hU (P := Try.prog) Try.func4 (fun xs w => by kernel_rfl) _ _ [.o, .cg (ok_barbicanlaw20_known hU  true e_r0), .o, .o, .b (z_lssF hq1), .o, .o, .b (z_gtrF hq2), .o, .o, .o, .cp, .cx (sp1_barbicanlaw20_OptChains_L0_0_ok hU y0  g1_0 g1_1 e_g1) [], .o, .o, .o, .o, .x (sqAppLr_ok (ty := 22) rt22 #[false, false] (f := c_Insn) (N := g1_0) (A := g1_1) (c := 2) [(⟨183#8, 0#8, 0#8, 0#16, 3#32⟩ : Insn), (⟨149#8, 0#8, 0#8, 0#16, 0#32⟩ : Insn)] (T' := 40) .row c_Insn_len c_Insn_one hq3 rfl (by decide) e_r2) [0, 2], .o, .o, .xg (SpcG.own hU (f := c_Insn) c_Insn_len (g1_0 + 2) r2 40 (fun l => padL l (g1_0 + 2) 5) (fun l => (padL l (g1_0 + 2) 5).length / 5) _ 0 .normal (by intros; rfl) (by intros; rfl) (by intros; rfl) (fun M0 B0 S0 x0 u0 v0 z0 hU0 hs0 hr0 => ok1_opt_Trim hU0 x0 u0 v0 (g1_0 + 2) z0 r2 hr0 g3_0 e_g3)) [3], .o, .o, .o, .o, .o, .o, .o, .o, .xg (SpcG.own hU (f := c_Insn) c_Insn_len (g1_0 + 2) r2 40 (fun l => padL l (g1_0 + 2) 5) (fun l => (padL l (g1_0 + 2) 5).length / 5) _ 1 .normal (by intros; rfl) (by intros; rfl) (by intros; rfl) (fun M0 B0 S0 x0 u0 v0 z0 hU0 hs0 hr0 => ok0_opt_Thread hU0 x0 u0 v0 (g1_0 + 2) z0 r2 hr0 g4_0 e_g4)) [3], .o, .o, .o, .o, .o, .o, .b (z_neqF hq4), .o, .o, .o, .o, .o, .o, .o, .o, .o] [] (fun b => by kernel_rfl)
              · try dsimp only at e
                replace e := cond_eq_or e
                rcases e with ⟨hq4, e⟩ | ⟨hq4, e⟩
                · replace e := cond_eq_or e
                  rcases e with ⟨hq5, e⟩ | ⟨hq5, e⟩
                  · replace e := cond_eq_or e
                    rcases e with ⟨hq6, e⟩ | ⟨hq6, e⟩
                    · replace e := cond_eq_or e
                      rcases e with ⟨hq7, e⟩ | ⟨hq7, e⟩
                      · replace e := bindO_eq e
                        obtain ⟨r5, e_r5, e⟩ := e
                        try dsimp only at e
                        replace e := cond_eq_or e
                        rcases e with ⟨hq8, e⟩ | ⟨hq8, e⟩
                        · subst hq8
                          replace e := bindO_eq e
                          obtain ⟨r6, e_r6, e⟩ := e
                          try dsimp only at e
                          replace e := cond_eq_or e
                          rcases e with ⟨hq9, e⟩ | ⟨hq9, e⟩
                          · subst hq9
                            replace e := cond_eq_or e
                            rcases e with ⟨hq10, e⟩ | ⟨hq10, e⟩
                            · replace e := bindO_eq e
                              obtain ⟨g7, e_g7, e⟩ := e
                              obtain ⟨g7_0⟩ := g7
                              try dsimp only at e
                              injection e with e; subst e; exact fn_conG hU (P := Try.prog) Try.func4 (fun xs w => by kernel_rfl) _ _ [.o, .cg (ok_barbicanlaw20_known hU  true e_r0), .o, .o, .b (z_lssF hq1), .o, .o, .b (z_gtrF hq2), .o, .o, .o, .cp, .cx (sp1_barbicanlaw20_OptChains_L0_0_ok hU y0  g1_0 g1_1 e_g1) [], .o, .o, .o, .o, .x (sqAppLr_ok (ty := 22) rt22 #[false, false] (f := c_Insn) (N := g1_0) (A := g1_1) (c := 2) [(⟨183#8, 0#8, 0#8, 0#16, 3#32⟩ : Insn), (⟨149#8, 0#8, 0#8, 0#16, 0#32⟩ : Insn)] (T' := 40) .row c_Insn_len c_Insn_one hq3 rfl (by decide) e_r2) [0, 2], .o, .o, .xg (SpcG.own hU (f := c_Insn) c_Insn_len (g1_0 + 2) r2 40 (fun l => padL l (g1_0 + 2) 5) (fun l => (padL l (g1_0 + 2) 5).length / 5) _ 0 .normal (by intros; rfl) (by intros; rfl) (by intros; rfl) (fun M0 B0 S0 x0 u0 v0 z0 hU0 hs0 hr0 => ok1_opt_Trim hU0 x0 u0 v0 (g1_0 + 2) z0 r2 hr0 g3_0 e_g3)) [3], .o, .o, .o, .o, .o, .o, .o, .o, .xg (SpcG.own hU (f := c_Insn) c_Insn_len (g1_0 + 2) r2 40 (fun l => padL l (g1_0 + 2) 5) (fun l => (padL l (g1_0 + 2) 5).length / 5) _ 0 .normal (by intros; rfl) (by intros; rfl) (by intros; rfl) (fun M0 B0 S0 x0 u0 v0 z0 hU0 hs0 hr0 => ok1_opt_Thread hU0 x0 u0 v0 (g1_0 + 2) z0 r2 hr0 g4_0 e_g4)) [3], .o, .o, .o, .o, .o, .o, .b (z_neqT hq4), .o, .o, .b (z_neqT hq5), .o, .o, .o, .o, .o, .qb (slTail_ok (T := 22) (e := 40) (sz := 5) (N := (g1_0 + 2)) (x := y0) .row (by kernel_rfl) (fun w => by kernel_rfl) hq7) 3, .xg (SpcG.ownT hU (f := c_Insn) c_Insn_len (g1_0 + 2) r2 40 (fun l => padC .row l (g1_0 + 2) 5) (fun l => capC .row l (g1_0 + 2) 5 - (g1_0 + 2)) (y0).toNat ((g1_0 + 2) - (y0).toNat) (tail_le hq7) _ 0 .normal (by intros; rfl) (by intros; rfl) (by intros; rfl) (fun M0 B0 S0 x0 u0 v0 z0 hU0 hs0 hr0 => ConG.sp (ok_barbicanhelp_Insns hU0 none 0 0 0 0 (fun _ => (⟨0#8, 0#8, 0#8, 0#16, 0#32⟩ : Insn)) Ro.nil x0 u0 v0 ((g1_0 + 2) - (y0).toNat) z0 (fun k => r2 ((y0).toNat + k)) hr0 true e_r5))) [3], .o, .o, .o, .o, .o, .o, .o, .o, .xg (SpcG.own hU (f := cZ) cZ_len 2 (fun k => if k = 0 then y0 else (IntKind.i64.wrap (y0 + 1))) 3 (fun _ => []) (fun _ => 0) _ 0 .normal (by intros; rfl) (by intros; rfl) (by intros; rfl) (fun M0 B0 S0 x0 u0 v0 z0 hU0 hs0 hr0 => ConG.sp (ok_barbicanhelp_Ints hU0 none 0 0 0 0 (fun _ => 0) Ro.nil x0 u0 v0 2 z0 (fun k => if k = 0 then y0 else (IntKind.i64.wrap (y0 + 1))) hr0 true e_r6))) [4], .o, .o, .o, .o, .o, .o, .o, .b (z_neqT hq10), .o, .o, .cp, .cx (sp0_barbicanlaw20_OptChains_L1v5_0_ok hU y0 g1_0 g1_1 r2 g3_0 g4_0  g7_0 e_g7) [0, 1, 2, 3, 4], .o] [] (fun b => by kernel_rfl)
                            · injection e with e; subst e; exact fn_conG hU (P := Try.prog) Try.func4 (fun xs w => by kernel_rfl) _ _ [.o, .cg (ok_barbicanlaw20_known hU  true e_r0), .o, .o, .b (z_lssF hq1), .o, .o, .b (z_gtrF hq2), .o, .o, .o, .cp, .cx (sp1_barbicanlaw20_OptChains_L0_0_ok hU y0  g1_0 g1_1 e_g1) [], .o, .o, .o, .o, .x (sqAppLr_ok (ty := 22) rt22 #[false, false] (f := c_Insn) (N := g1_0) (A := g1_1) (c := 2) [(⟨183#8, 0#8, 0#8, 0#16, 3#32⟩ : Insn), (⟨149#8, 0#8, 0#8, 0#16, 0#32⟩ : Insn)] (T' := 40) .row c_Insn_len c_Insn_one hq3 rfl (by decide) e_r2) [0, 2], .o, .o, .xg (SpcG.own hU (f := c_Insn) c_Insn_len (g1_0 + 2) r2 40 (fun l => padL l (g1_0 + 2) 5) (fun l => (padL l (g1_0 + 2) 5).length / 5) _ 0 .normal (by intros; rfl) (by intros; rfl) (by intros; rfl) (fun M0 B0 S0 x0 u0 v0 z0 hU0 hs0 hr0 => ok1_opt_Trim hU0 x0 u0 v0 (g1_0 + 2) z0 r2 hr0 g3_0 e_g3)) [3], .o, .o, .o, .o, .o, .o, .o, .o, .xg (SpcG.own hU (f := c_Insn) c_Insn_len (g1_0 + 2) r2 40 (fun l => padL l (g1_0 + 2) 5) (fun l => (padL l (g1_0 + 2) 5).length / 5) _ 0 .normal (by intros; rfl) (by intros; rfl) (by intros; rfl) (fun M0 B0 S0 x0 u0 v0 z0 hU0 hs0 hr0 => ok1_opt_Thread hU0 x0 u0 v0 (g1_0 + 2) z0 r2 hr0 g4_0 e_g4)) [3], .o, .o, .o, .o, .o, .o, .b (z_neqT hq4), .o, .o, .b (z_neqT hq5), .o, .o, .o, .o, .o, .qb (slTail_ok (T := 22) (e := 40) (sz := 5) (N := (g1_0 + 2)) (x := y0) .row (by kernel_rfl) (fun w => by kernel_rfl) hq7) 3, .xg (SpcG.ownT hU (f := c_Insn) c_Insn_len (g1_0 + 2) r2 40 (fun l => padC .row l (g1_0 + 2) 5) (fun l => capC .row l (g1_0 + 2) 5 - (g1_0 + 2)) (y0).toNat ((g1_0 + 2) - (y0).toNat) (tail_le hq7) _ 0 .normal (by intros; rfl) (by intros; rfl) (by intros; rfl) (fun M0 B0 S0 x0 u0 v0 z0 hU0 hs0 hr0 => ConG.sp (ok_barbicanhelp_Insns hU0 none 0 0 0 0 (fun _ => (⟨0#8, 0#8, 0#8, 0#16, 0#32⟩ : Insn)) Ro.nil x0 u0 v0 ((g1_0 + 2) - (y0).toNat) z0 (fun k => r2 ((y0).toNat + k)) hr0 true e_r5))) [3], .o, .o, .o, .o, .o, .o, .o, .o, .xg (SpcG.own hU (f := cZ) cZ_len 2 (fun k => if k = 0 then y0 else (IntKind.i64.wrap (y0 + 1))) 3 (fun _ => []) (fun _ => 0) _ 0 .normal (by intros; rfl) (by intros; rfl) (by intros; rfl) (fun M0 B0 S0 x0 u0 v0 z0 hU0 hs0 hr0 => ConG.sp (ok_barbicanhelp_Ints hU0 none 0 0 0 0 (fun _ => 0) Ro.nil x0 u0 v0 2 z0 (fun k => if k = 0 then y0 else (IntKind.i64.wrap (y0 + 1))) hr0 true e_r6))) [4], .o, .o, .o, .o, .o, .o, .o, .b (z_neqF hq10), .o, .o] [] (fun b => by kernel_rfl)
                          · subst hq9
                            injection e with e; subst e; exact fn_conG hU (P := Try.prog) Try.func4 (fun xs w => by kernel_rfl) _ _ [.o, .cg (ok_barbicanlaw20_known hU  true e_r0), .o, .o, .b (z_lssF hq1), .o, .o, .b (z_gtrF hq2), .o, .o, .o, .cp, .cx (sp1_barbicanlaw20_OptChains_L0_0_ok hU y0  g1_0 g1_1 e_g1) [], .o, .o, .o, .o, .x (sqAppLr_ok (ty := 22) rt22 #[false, false] (f := c_Insn) (N := g1_0) (A := g1_1) (c := 2) [(⟨183#8, 0#8, 0#8, 0#16, 3#32⟩ : Insn), (⟨149#8, 0#8, 0#8, 0#16, 0#32⟩ : Insn)] (T' := 40) .row c_Insn_len c_Insn_one hq3 rfl (by decide) e_r2) [0, 2], .o, .o, .xg (SpcG.own hU (f := c_Insn) c_Insn_len (g1_0 + 2) r2 40 (fun l => padL l (g1_0 + 2) 5) (fun l => (padL l (g1_0 + 2) 5).length / 5) _ 0 .normal (by intros; rfl) (by intros; rfl) (by intros; rfl) (fun M0 B0 S0 x0 u0 v0 z0 hU0 hs0 hr0 => ok1_opt_Trim hU0 x0 u0 v0 (g1_0 + 2) z0 r2 hr0 g3_0 e_g3)) [3], .o, .o, .o, .o, .o, .o, .o, .o, .xg (SpcG.own hU (f := c_Insn) c_Insn_len (g1_0 + 2) r2 40 (fun l => padL l (g1_0 + 2) 5) (fun l => (padL l (g1_0 + 2) 5).length / 5) _ 0 .normal (by intros; rfl) (by intros; rfl) (by intros; rfl) (fun M0 B0 S0 x0 u0 v0 z0 hU0 hs0 hr0 => ok1_opt_Thread hU0 x0 u0 v0 (g1_0 + 2) z0 r2 hr0 g4_0 e_g4)) [3], .o, .o, .o, .o, .o, .o, .b (z_neqT hq4), .o, .o, .b (z_neqT hq5), .o, .o, .o, .o, .o, .qb (slTail_ok (T := 22) (e := 40) (sz := 5) (N := (g1_0 + 2)) (x := y0) .row (by kernel_rfl) (fun w => by kernel_rfl) hq7) 3, .xg (SpcG.ownT hU (f := c_Insn) c_Insn_len (g1_0 + 2) r2 40 (fun l => padC .row l (g1_0 + 2) 5) (fun l => capC .row l (g1_0 + 2) 5 - (g1_0 + 2)) (y0).toNat ((g1_0 + 2) - (y0).toNat) (tail_le hq7) _ 0 .normal (by intros; rfl) (by intros; rfl) (by intros; rfl) (fun M0 B0 S0 x0 u0 v0 z0 hU0 hs0 hr0 => ConG.sp (ok_barbicanhelp_Insns hU0 none 0 0 0 0 (fun _ => (⟨0#8, 0#8, 0#8, 0#16, 0#32⟩ : Insn)) Ro.nil x0 u0 v0 ((g1_0 + 2) - (y0).toNat) z0 (fun k => r2 ((y0).toNat + k)) hr0 true e_r5))) [3], .o, .o, .o, .o, .o, .o, .o, .o, .xg (SpcG.own hU (f := cZ) cZ_len 2 (fun k => if k = 0 then y0 else (IntKind.i64.wrap (y0 + 1))) 3 (fun _ => []) (fun _ => 0) _ 0 .normal (by intros; rfl) (by intros; rfl) (by intros; rfl) (fun M0 B0 S0 x0 u0 v0 z0 hU0 hs0 hr0 => ConG.sp (ok_barbicanhelp_Ints hU0 none 0 0 0 0 (fun _ => 0) Ro.nil x0 u0 v0 2 z0 (fun k => if k = 0 then y0 else (IntKind.i64.wrap (y0 + 1))) hr0 false e_r6))) [4], .o, .o, .o, .o, .o] [] (fun b => by kernel_rfl)
                        · subst hq8
                          injection e with e; subst e; exact fn_conG hU (P := Try.prog) Try.func4 (fun xs w => by kernel_rfl) _ _ [.o, .cg (ok_barbicanlaw20_known hU  true e_r0), .o, .o, .b (z_lssF hq1), .o, .o, .b (z_gtrF hq2), .o, .o, .o, .cp, .cx (sp1_barbicanlaw20_OptChains_L0_0_ok hU y0  g1_0 g1_1 e_g1) [], .o, .o, .o, .o, .x (sqAppLr_ok (ty := 22) rt22 #[false, false] (f := c_Insn) (N := g1_0) (A := g1_1) (c := 2) [(⟨183#8, 0#8, 0#8, 0#16, 3#32⟩ : Insn), (⟨149#8, 0#8, 0#8, 0#16, 0#32⟩ : Insn)] (T' := 40) .row c_Insn_len c_Insn_one hq3 rfl (by decide) e_r2) [0, 2], .o, .o, .xg (SpcG.own hU (f := c_Insn) c_Insn_len (g1_0 + 2) r2 40 (fun l => padL l (g1_0 + 2) 5) (fun l => (padL l (g1_0 + 2) 5).length / 5) _ 0 .normal (by intros; rfl) (by intros; rfl) (by intros; rfl) (fun M0 B0 S0 x0 u0 v0 z0 hU0 hs0 hr0 => ok1_opt_Trim hU0 x0 u0 v0 (g1_0 + 2) z0 r2 hr0 g3_0 e_g3)) [3], .o, .o, .o, .o, .o, .o, .o, .o, .xg (SpcG.own hU (f := c_Insn) c_Insn_len (g1_0 + 2) r2 40 (fun l => padL l (g1_0 + 2) 5) (fun l => (padL l (g1_0 + 2) 5).length / 5) _ 0 .normal (by intros; rfl) (by intros; rfl) (by intros; rfl) (fun M0 B0 S0 x0 u0 v0 z0 hU0 hs0 hr0 => ok1_opt_Thread hU0 x0 u0 v0 (g1_0 + 2) z0 r2 hr0 g4_0 e_g4)) [3], .o, .o, .o, .o, .o, .o, .b (z_neqT hq4), .o, .o, .b (z_neqT hq5), .o, .o, .o, .o, .o, .qb (slTail_ok (T := 22) (e := 40) (sz := 5) (N := (g1_0 + 2)) (x := y0) .row (by kernel_rfl) (fun w => by kernel_rfl) hq7) 3, .xg (SpcG.ownT hU (f := c_Insn) c_Insn_len (g1_0 + 2) r2 40 (fun l => padC .row l (g1_0 + 2) 5) (fun l => capC .row l (g1_0 + 2) 5 - (g1_0 + 2)) (y0).toNat ((g1_0 + 2) - (y0).toNat) (tail_le hq7) _ 0 .normal (by intros; rfl) (by intros; rfl) (by intros; rfl) (fun M0 B0 S0 x0 u0 v0 z0 hU0 hs0 hr0 => ConG.sp (ok_barbicanhelp_Insns hU0 none 0 0 0 0 (fun _ => (⟨0#8, 0#8, 0#8, 0#16, 0#32⟩ : Insn)) Ro.nil x0 u0 v0 ((g1_0 + 2) - (y0).toNat) z0 (fun k => r2 ((y0).toNat + k)) hr0 false e_r5))) [3], .o, .o, .o, .o, .o, .o, .o] [] (fun b => by kernel_rfl)
                      · exact none_some e
                    · exact none_some e
                  · injection e with e; subst e; exact fn_conG hU (P := Try.prog) Try.func4 (fun xs w => by kernel_rfl) _ _ [.o, .cg (ok_barbicanlaw20_known hU  true e_r0), .o, .o, .b (z_lssF hq1), .o, .o, .b (z_gtrF hq2), .o, .o, .o, .cp, .cx (sp1_barbicanlaw20_OptChains_L0_0_ok hU y0  g1_0 g1_1 e_g1) [], .o, .o, .o, .o, .x (sqAppLr_ok (ty := 22) rt22 #[false, false] (f := c_Insn) (N := g1_0) (A := g1_1) (c := 2) [(⟨183#8, 0#8, 0#8, 0#16, 3#32⟩ : Insn), (⟨149#8, 0#8, 0#8, 0#16, 0#32⟩ : Insn)] (T' := 40) .row c_Insn_len c_Insn_one hq3 rfl (by decide) e_r2) [0, 2], .o, .o, .xg (SpcG.own hU (f := c_Insn) c_Insn_len (g1_0 + 2) r2 40 (fun l => padL l (g1_0 + 2) 5) (fun l => (padL l (g1_0 + 2) 5).length / 5) _ 0 .normal (by intros; rfl) (by intros; rfl) (by intros; rfl) (fun M0 B0 S0 x0 u0 v0 z0 hU0 hs0 hr0 => ok1_opt_Trim hU0 x0 u0 v0 (g1_0 + 2) z0 r2 hr0 g3_0 e_g3)) [3], .o, .o, .o, .o, .o, .o, .o, .o, .xg (SpcG.own hU (f := c_Insn) c_Insn_len (g1_0 + 2) r2 40 (fun l => padL l (g1_0 + 2) 5) (fun l => (padL l (g1_0 + 2) 5).length / 5) _ 0 .normal (by intros; rfl) (by intros; rfl) (by intros; rfl) (fun M0 B0 S0 x0 u0 v0 z0 hU0 hs0 hr0 => ok1_opt_Thread hU0 x0 u0 v0 (g1_0 + 2) z0 r2 hr0 g4_0 e_g4)) [3], .o, .o, .o, .o, .o, .o, .b (z_neqT hq4), .o, .o, .b (z_neqF hq5), .o, .o, .o, .o, .o, .o, .o, .o] [] (fun b => by kernel_rfl)
                · injection e with e; subst e; exact fn_conG hU (P := Try.prog) Try.func4 (fun xs w => by kernel_rfl) _ _ [.o, .cg (ok_barbicanlaw20_known hU  true e_r0), .o, .o, .b (z_lssF hq1), .o, .o, .b (z_gtrF hq2), .o, .o, .o, .cp, .cx (sp1_barbicanlaw20_OptChains_L0_0_ok hU y0  g1_0 g1_1 e_g1) [], .o, .o, .o, .o, .x (sqAppLr_ok (ty := 22) rt22 #[false, false] (f := c_Insn) (N := g1_0) (A := g1_1) (c := 2) [(⟨183#8, 0#8, 0#8, 0#16, 3#32⟩ : Insn), (⟨149#8, 0#8, 0#8, 0#16, 0#32⟩ : Insn)] (T' := 40) .row c_Insn_len c_Insn_one hq3 rfl (by decide) e_r2) [0, 2], .o, .o, .xg (SpcG.own hU (f := c_Insn) c_Insn_len (g1_0 + 2) r2 40 (fun l => padL l (g1_0 + 2) 5) (fun l => (padL l (g1_0 + 2) 5).length / 5) _ 0 .normal (by intros; rfl) (by intros; rfl) (by intros; rfl) (fun M0 B0 S0 x0 u0 v0 z0 hU0 hs0 hr0 => ok1_opt_Trim hU0 x0 u0 v0 (g1_0 + 2) z0 r2 hr0 g3_0 e_g3)) [3], .o, .o, .o, .o, .o, .o, .o, .o, .xg (SpcG.own hU (f := c_Insn) c_Insn_len (g1_0 + 2) r2 40 (fun l => padL l (g1_0 + 2) 5) (fun l => (padL l (g1_0 + 2) 5).length / 5) _ 0 .normal (by intros; rfl) (by intros; rfl) (by intros; rfl) (fun M0 B0 S0 x0 u0 v0 z0 hU0 hs0 hr0 => ok1_opt_Thread hU0 x0 u0 v0 (g1_0 + 2) z0 r2 hr0 g4_0 e_g4)) [3], .o, .o, .o, .o, .o, .o, .b (z_neqF hq4), .o, .o, .o, .o, .o, .o, .o, .o, .o] [] (fun b => by kernel_rfl)
          · exact none_some e
  · subst hq0
    injection e with e; subst e; exact fn_conG hU (P := Try.prog) Try.func4 (fun xs w => by kernel_rfl) _ _ [.o, .cg (ok_barbicanlaw20_known hU  false e_r0), .o, .o] [] (fun b => by kernel_rfl)
end

end Go.Proofs.Ytkfmmcobmjkilaa
