/-
  What the law knows of the program.
-/
import Derived.Test.YtnlnldpolaodbaaDoorBRAb
import Derived.Test.YtnlnldpolaodbaaDoorRyY
import Derived.Test.YtnlnldpolaodbaaDoorRxO
import Derived.Test.YtnlnldpolaodbaaDoorRyK
import Derived.Test.YtnlnldpolaodbaaDoorRyM
import Derived.Test.YtnlnldpolaodbaaDoorProg
namespace Go.Proofs.YtnlnldpolaodbaaDoor
open Go.RowKit
set_option linter.unusedVariables false
set_option linter.unusedSimpArgs false
set_option linter.unusedSectionVars false
set_option maxRecDepth 100000
set_option maxHeartbeats 4000000
section
variable {M : Nat → Prop} {B0 : Nat} {S : World → Prop} (hU : Up M B0 S) (a0 : Option Addr) (p0 : Nat) (q0 : Nat) (n0 : Nat) (k0 : Nat) (X0 : Nat → RoX) (A0 : Nat → (Xs27 × (Nat × (Nat → Member)))) (hR0 : RoS S h_Xs27 t_Xs27 7 c_Member 3 a0 p0 q0 n0 X0 (fun i => (A0 i).2) (fun i => (A0 i).1))
include hU a0 p0 q0 n0 k0 X0 A0 hR0
theorem go_btf_holdsItself_v1_L0 (s : Sh_btf_holdsItself_v1_L0) (r : Ex_btf_holdsItself_v1_L0) (h : lpO (st_btf_holdsItself_v1_L0 n0 A0) s = some r) : GoesG Tryd.prog M B0 S (.loop bd_btf_holdsItself_v1_L0) 3 (fr_btf_holdsItself_v1_L0 a0 p0 q0 n0 k0 X0 A0 s) (Hs_btf_holdsItself_v1_L0 a0 p0 q0 n0 k0 X0 A0 s) (ex_btf_holdsItself_v1_L0 r) 1 (vf_btf_holdsItself_v1_L0 a0 p0 q0 n0 k0 X0 A0 r) (Hf_btf_holdsItself_v1_L0 a0 p0 q0 n0 k0 X0 A0 r) 3 :=
  goes_lpO (fun s q e => by
    cases s with
    | c0 s0_0 =>
      unfold st_btf_holdsItself_v1_L0 at e
      dsimp only at e
      replace e := cond_eq_or e
      rcases e with ⟨hq0, e⟩ | ⟨hq0, e⟩
      · replace e := bindO_eq e
        obtain ⟨gb0, e_gb0, e⟩ := e
        obtain ⟨gb0_0, gb0_1⟩ := gb0
        try dsimp only at e
        replace e := cond_eq_or e
        rcases e with ⟨hq1, e⟩ | ⟨hq1, e⟩
        · subst hq1
          cases e; exact ⟨ne_ret, goes_runM hU [.a 1, .a 0, .o, .b (z_leqT hq0), .o, .o, .o, .a 4, .a 4, .a 1, .xg (ok0_btf_holdsItself_1_v3_F 64 hU s0_0 a0 p0 q0 n0 k0 X0 A0 hR0 s0_0 (fun _ => false) gb0_0 true e_gb0) [0, 1, 3, 4], .a 1, .o] [0, 2] (fun b => rfl) (by decide) rfl rfl (fun b => by kernel_rfl)⟩
        · subst hq1
          cases e; exact goes_runM hU [.a 1, .a 0, .o, .b (z_leqT hq0), .o, .o, .o, .a 4, .a 4, .a 1, .xg (ok0_btf_holdsItself_1_v3_F 64 hU s0_0 a0 p0 q0 n0 k0 X0 A0 hR0 s0_0 (fun _ => false) gb0_0 false e_gb0) [0, 1, 3, 4], .a 1, .o, .a 5, .a 5, .o, .a 5] [0, 5] (fun b => rfl) (by decide) rfl rfl (fun b => by kernel_rfl)
      · cases e; exact ⟨ne_exit 0, goes_runM hU [.a 1, .a 0, .o, .b (z_leqF hq0)] [0, 2] (fun b => rfl) (by decide) rfl rfl (fun b => by kernel_rfl)⟩) s r h
noncomputable def t0_btf_holdsItself_v1_L0_0 (a0 : Option Addr) (p0 : Nat) (q0 : Nat) (n0 : Nat) (k0 : Nat) (X0 : Nat → RoX) (A0 : Nat → (Xs27 × (Nat × (Nat → Member)))) (s0_0 : Int) (ls : List L1) : List Value := List.append [.slice a0 n0 (n0 + k0), .pointer (some ⟨(lget ls 0).n, 0, none⟩), .int .i64 (0), .pointer (some ⟨(lget ls 1).n, 0, none⟩)] (und 14)
def pre_btf_holdsItself_v1_L0_0 (a0 : Option Addr) (p0 : Nat) (q0 : Nat) (n0 : Nat) (k0 : Nat) (X0 : Nat → RoX) (A0 : Nat → (Xs27 × (Nat × (Nat → Member)))) (s0_0 : Int) (ls : List L1) : List Obj := [.cells #[.slice a0 n0 (n0 + k0)] 24, .cells #[.int .i64 (s0_0)] 3]
theorem sp0_btf_holdsItself_v1_L0_0_ok (s0_0 : Int) (h : lpO (st_btf_holdsItself_v1_L0 n0 A0) (.c0 s0_0) = some (.e0 )) : SpcG Tryd.prog M B0 S ⟨fun ls => .code (.loop bd_btf_holdsItself_v1_L0) (t0_btf_holdsItself_v1_L0_0 a0 p0 q0 n0 k0 X0 A0 s0_0 ls), pre_btf_holdsItself_v1_L0_0 a0 p0 q0 n0 k0 X0 A0 s0_0, 2, (.exit 0), fun ls => vf_btf_holdsItself_v1_L0 a0 p0 q0 n0 k0 X0 A0 (.e0 ) (ls.take 1 ++ ls.drop 2), fun ls => (Hf_btf_holdsItself_v1_L0 a0 p0 q0 n0 k0 X0 A0 (.e0 ) (ls.take 1 ++ ls.drop 2)).take 1 ++ List.replicate 1 unb, fun ls => (Hf_btf_holdsItself_v1_L0 a0 p0 q0 n0 k0 X0 A0 (.e0 ) (ls.take 1 ++ ls.drop 2)).drop 1⟩ :=
  spc_of_goesM hU 0 (k0 := 2) (go_btf_holdsItself_v1_L0 hU a0 p0 q0 n0 k0 X0 A0 hR0 _ _ h) (t0_btf_holdsItself_v1_L0_0 a0 p0 q0 n0 k0 X0 A0 s0_0) (pre_btf_holdsItself_v1_L0_0 a0 p0 q0 n0 k0 X0 A0 s0_0) (fun _ => rfl) (fun ls h => by match ls, h with | [l0, l1], _ => exact ⟨by kernel_rfl, by kernel_rfl⟩) (fun ls h => by match ls, h with | [l0, l1], _ => rfl) (by decide) (by decide) (fun ls => rfl)
theorem sp1_btf_holdsItself_v1_L0_0_ok (s0_0 : Int) (c1_0 : Int) (h : lpO (st_btf_holdsItself_v1_L0 n0 A0) (.c0 s0_0) = some (.e1 c1_0)) : SpcG Tryd.prog M B0 S ⟨fun ls => .code (.loop bd_btf_holdsItself_v1_L0) (t0_btf_holdsItself_v1_L0_0 a0 p0 q0 n0 k0 X0 A0 s0_0 ls), pre_btf_holdsItself_v1_L0_0 a0 p0 q0 n0 k0 X0 A0 s0_0, 2, .ret, fun ls => vf_btf_holdsItself_v1_L0 a0 p0 q0 n0 k0 X0 A0 (.e1 c1_0) (ls.take 1 ++ ls.drop 2), fun ls => (Hf_btf_holdsItself_v1_L0 a0 p0 q0 n0 k0 X0 A0 (.e1 c1_0) (ls.take 1 ++ ls.drop 2)).take 1 ++ List.replicate 1 unb, fun ls => (Hf_btf_holdsItself_v1_L0 a0 p0 q0 n0 k0 X0 A0 (.e1 c1_0) (ls.take 1 ++ ls.drop 2)).drop 1⟩ :=
  spc_of_goesM hU 0 (k0 := 2) (go_btf_holdsItself_v1_L0 hU a0 p0 q0 n0 k0 X0 A0 hR0 _ _ h) (t0_btf_holdsItself_v1_L0_0 a0 p0 q0 n0 k0 X0 A0 s0_0) (pre_btf_holdsItself_v1_L0_0 a0 p0 q0 n0 k0 X0 A0 s0_0) (fun _ => rfl) (fun ls h => by match ls, h with | [l0, l1], _ => exact ⟨by kernel_rfl, by kernel_rfl⟩) (fun ls h => by match ls, h with | [l0, l1], _ => rfl) (by decide) (by decide) (fun ls => rfl)
noncomputable def m_btf_holdsItself_v1 (n0 : Nat) (A0 : Nat → (Xs27 × (Nat × (Nat → Member)))) : Option (Int) :=
  (lpO (st_btf_holdsItself_v1_L0 n0 A0) (.c0 1)).bind fun g0 => match g0 with
  | .e0  => (some 0)
  | .e1 g0_0 => (some g0_0)
theorem ok_btf_holdsItself_v1 (r : Int) (e : m_btf_holdsItself_v1 n0 A0 = some r) : ConG Tryd.prog S 11 #[.slice a0 n0 (n0 + k0)] (.int .i64 (r)) := by
  unfold m_btf_holdsItself_v1 at e
  replace e := bindO_eq e
  obtain ⟨g0, e_g0, e⟩ := e
  rcases g0 with _ | ⟨g0_0⟩
  · try dsimp only at e
    injection e with e; subst e; exact fn_conG hU (P := Tryd.prog) Tryd.func11 (fun xs w => by kernel_rfl) _ _ [.o, .o, .o, .a 1, .cp, .cx (sp0_btf_holdsItself_v1_L0_0_ok hU a0 p0 q0 n0 k0 X0 A0 hR0 1  e_g0) [0, 1], .o] [] (fun b => by kernel_rfl)
  · try dsimp only at e
    injection e with e; subst e; exact fn_conG hU (P := Tryd.prog) Tryd.func11 (fun xs w => by kernel_rfl) _ _ [.o, .o, .o, .a 1, .cp, .cx (sp1_btf_holdsItself_v1_L0_0_ok hU a0 p0 q0 n0 k0 X0 A0 hR0 1 g0_0 e_g0) [0, 1]] [] (fun b => by kernel_rfl)
inductive Sh_btf_resolve_v2_L0 where
  | c0 (s0_0 : Int)
inductive Ex_btf_resolve_v2_L0 where
  | e0 (c0_0 : Int)
noncomputable def st_btf_resolve_v2_L0 (n0 : Nat) (A0 : Nat → (Xs27 × (Nat × (Nat → Member)))) : Sh_btf_resolve_v2_L0 → Option (Sh_btf_resolve_v2_L0 ⊕ Ex_btf_resolve_v2_L0)
  | .c0 s0_0 =>
    bif inR (IntKind.i64.wrap (s0_0 - 1)) n0 then
      (bif ((A0 ((IntKind.i64.wrap (s0_0 - 1))).toNat).1).fKind == 5 then
        (some (.inl (.c0 ((A0 ((IntKind.i64.wrap (s0_0 - 1))).toNat).1).fTo)))
      else (some (.inr (.e0 s0_0))))
    else (none)
noncomputable def bd_btf_resolve_v2_L0 : Code := codeOf Tryd.f25 [1, 0, 0, 0]
def fl_btf_resolve_v2_L0 (a0 : Option Addr) (p0 : Nat) (q0 : Nat) (n0 : Nat) (k0 : Nat) (X0 : Nat → RoX) (A0 : Nat → (Xs27 × (Nat × (Nat → Member)))) (y1 : Int) : Sh_btf_resolve_v2_L0 → List L1 → List Value
  | .c0 s0_0, ls => [.slice a0 n0 (n0 + k0), .int .i64 (s0_0)]
def mf_btf_resolve_v2_L0 : Sh_btf_resolve_v2_L0 → List (Nat × Nat)
  | .c0 _ => [(2, 17)]
noncomputable def fr_btf_resolve_v2_L0 (a0 : Option Addr) (p0 : Nat) (q0 : Nat) (n0 : Nat) (k0 : Nat) (X0 : Nat → RoX) (A0 : Nat → (Xs27 × (Nat × (Nat → Member)))) (y1 : Int) (s : Sh_btf_resolve_v2_L0) : List L1 → List Value := mrgF (mf_btf_resolve_v2_L0 s) (fl_btf_resolve_v2_L0 a0 p0 q0 n0 k0 X0 A0 y1 s) 0
def Hs_btf_resolve_v2_L0 (a0 : Option Addr) (p0 : Nat) (q0 : Nat) (n0 : Nat) (k0 : Nat) (X0 : Nat → RoX) (A0 : Nat → (Xs27 × (Nat × (Nat → Member)))) (y1 : Int) : Sh_btf_resolve_v2_L0 → List L1 → List Obj
  | .c0 s0_0, ls => [unb]
def vl_btf_resolve_v2_L0 (a0 : Option Addr) (p0 : Nat) (q0 : Nat) (n0 : Nat) (k0 : Nat) (X0 : Nat → RoX) (A0 : Nat → (Xs27 × (Nat × (Nat → Member)))) (y1 : Int) : Ex_btf_resolve_v2_L0 → List L1 → List Value
  | .e0 c0_0, ls => [.slice a0 n0 (n0 + k0), .int .i64 (c0_0)]
def mk_btf_resolve_v2_L0 : Ex_btf_resolve_v2_L0 → List (Nat × Nat)
  | .e0 _ => [(2, 17)]
noncomputable def vf_btf_resolve_v2_L0 (a0 : Option Addr) (p0 : Nat) (q0 : Nat) (n0 : Nat) (k0 : Nat) (X0 : Nat → RoX) (A0 : Nat → (Xs27 × (Nat × (Nat → Member)))) (y1 : Int) (r : Ex_btf_resolve_v2_L0) : List L1 → List Value := mrgF (mk_btf_resolve_v2_L0 r) (vl_btf_resolve_v2_L0 a0 p0 q0 n0 k0 X0 A0 y1 r) 0
def Hf_btf_resolve_v2_L0 (a0 : Option Addr) (p0 : Nat) (q0 : Nat) (n0 : Nat) (k0 : Nat) (X0 : Nat → RoX) (A0 : Nat → (Xs27 × (Nat × (Nat → Member)))) (y1 : Int) : Ex_btf_resolve_v2_L0 → List L1 → List Obj
  | .e0 c0_0, ls => [unb]
def ex_btf_resolve_v2_L0 : Ex_btf_resolve_v2_L0 → Ex
  | .e0 _ => (.exit 0)
theorem go_btf_resolve_v2_L0 (y1 : Int) (s : Sh_btf_resolve_v2_L0) (r : Ex_btf_resolve_v2_L0) (h : lpO (st_btf_resolve_v2_L0 n0 A0) s = some r) : GoesG Tryd.prog M B0 S (.loop bd_btf_resolve_v2_L0) 1 (fr_btf_resolve_v2_L0 a0 p0 q0 n0 k0 X0 A0 y1 s) (Hs_btf_resolve_v2_L0 a0 p0 q0 n0 k0 X0 A0 y1 s) (ex_btf_resolve_v2_L0 r) 0 (vf_btf_resolve_v2_L0 a0 p0 q0 n0 k0 X0 A0 y1 r) (Hf_btf_resolve_v2_L0 a0 p0 q0 n0 k0 X0 A0 y1 r) 1 :=
  goes_lpO (fun s q e => by
    cases s with
    | c0 s0_0 =>
      unfold st_btf_resolve_v2_L0 at e
      dsimp only at e
      replace e := cond_eq_or e
      rcases e with ⟨hq0, e⟩ | ⟨hq0, e⟩
      · replace e := cond_eq_or e
        rcases e with ⟨hq1, e⟩ | ⟨hq1, e⟩
        · cases e; exact goes_runM hU [.o, .o, .o, .q (ixRo_ok (kd := .i64) (T := 24) (x := (IntKind.i64.wrap (s0_0 - 1))) (sz := 7) rfl (fun w => by kernel_rfl) (RoS.row hR0) hq0), .o, .l (accRo (RoS.row hR0) (rxS_len z_Xs27 X0 (fun i => (A0 i).2) (fun i => (A0 i).1)) (inR_nat hq0) 0 [.int .i64 (((A0 ((IntKind.i64.wrap (s0_0 - 1))).toNat).1).fKind)] rfl), .b (z_eqlT hq1), .o, .o, .o, .q (ixRo_ok (kd := .i64) (T := 24) (x := (IntKind.i64.wrap (s0_0 - 1))) (sz := 7) rfl (fun w => by kernel_rfl) (RoS.row hR0) hq0), .o, .l (accRo (RoS.row hR0) (rxS_len z_Xs27 X0 (fun i => (A0 i).2) (fun i => (A0 i).1)) (inR_nat hq0) 4 [.int .i64 (((A0 ((IntKind.i64.wrap (s0_0 - 1))).toNat).1).fTo)] rfl), .o] [] (fun b => rfl) (by decide) rfl rfl (fun b => by kernel_rfl)
        · cases e; exact ⟨ne_exit 0, goes_runM hU [.o, .o, .o, .q (ixRo_ok (kd := .i64) (T := 24) (x := (IntKind.i64.wrap (s0_0 - 1))) (sz := 7) rfl (fun w => by kernel_rfl) (RoS.row hR0) hq0), .o, .l (accRo (RoS.row hR0) (rxS_len z_Xs27 X0 (fun i => (A0 i).2) (fun i => (A0 i).1)) (inR_nat hq0) 0 [.int .i64 (((A0 ((IntKind.i64.wrap (s0_0 - 1))).toNat).1).fKind)] rfl), .b (z_eqlF hq1)] [] (fun b => rfl) (by decide) rfl rfl (fun b => by kernel_rfl)⟩
      · exact none_some e) s r h
noncomputable def t0_btf_resolve_v2_L0_0 (a0 : Option Addr) (p0 : Nat) (q0 : Nat) (n0 : Nat) (k0 : Nat) (X0 : Nat → RoX) (A0 : Nat → (Xs27 × (Nat × (Nat → Member)))) (y1 : Int) (s0_0 : Int) (ls : List L1) : List Value := List.append [.slice a0 n0 (n0 + k0), .int .i64 (s0_0), undef, undef, .int .i64 (0)] (und 14)
def pre_btf_resolve_v2_L0_0 (a0 : Option Addr) (p0 : Nat) (q0 : Nat) (n0 : Nat) (k0 : Nat) (X0 : Nat → RoX) (A0 : Nat → (Xs27 × (Nat × (Nat → Member)))) (y1 : Int) (s0_0 : Int) (ls : List L1) : List Obj := []
theorem sp0_btf_resolve_v2_L0_0_ok (y1 : Int) (s0_0 : Int) (c0_0 : Int) (h : lpO (st_btf_resolve_v2_L0 n0 A0) (.c0 s0_0) = some (.e0 c0_0)) : SpcG Tryd.prog M B0 S ⟨fun ls => .code (.loop bd_btf_resolve_v2_L0) (t0_btf_resolve_v2_L0_0 a0 p0 q0 n0 k0 X0 A0 y1 s0_0 ls), pre_btf_resolve_v2_L0_0 a0 p0 q0 n0 k0 X0 A0 y1 s0_0, 1, (.exit 0), fun ls => vf_btf_resolve_v2_L0 a0 p0 q0 n0 k0 X0 A0 y1 (.e0 c0_0) (ls.take 0 ++ ls.drop 0), fun ls => (Hf_btf_resolve_v2_L0 a0 p0 q0 n0 k0 X0 A0 y1 (.e0 c0_0) (ls.take 0 ++ ls.drop 0)).take 0 ++ List.replicate 0 unb, fun ls => (Hf_btf_resolve_v2_L0 a0 p0 q0 n0 k0 X0 A0 y1 (.e0 c0_0) (ls.take 0 ++ ls.drop 0)).drop 0⟩ :=
  spc_of_goesM hU 0 (k0 := 0) (go_btf_resolve_v2_L0 hU a0 p0 q0 n0 k0 X0 A0 hR0 y1 _ _ h) (t0_btf_resolve_v2_L0_0 a0 p0 q0 n0 k0 X0 A0 y1 s0_0) (pre_btf_resolve_v2_L0_0 a0 p0 q0 n0 k0 X0 A0 y1 s0_0) (fun _ => rfl) (fun ls h => by match ls, h with | [], _ => exact ⟨by kernel_rfl, by kernel_rfl⟩) (fun ls h => by match ls, h with | [], _ => rfl) (by decide) (by decide) (fun ls => rfl)
noncomputable def m_btf_resolve_v2 (n0 : Nat) (A0 : Nat → (Xs27 × (Nat × (Nat → Member)))) (y1 : Int) : Option (Int) :=
  (lpO (st_btf_resolve_v2_L0 n0 A0) (.c0 y1)).bind fun g0 => match g0 with
  | .e0 g0_0 =>
  some g0_0
theorem ok_btf_resolve_v2 (y1 : Int) (r : Int) (e : m_btf_resolve_v2 n0 A0 y1 = some r) : ConG Tryd.prog S 25 #[.slice a0 n0 (n0 + k0), .int .i64 (y1)] (.int .i64 (r)) := by
  unfold m_btf_resolve_v2 at e
  replace e := bindO_eq e
  obtain ⟨g0, e_g0, e⟩ := e
  obtain ⟨g0_0⟩ := g0
  try dsimp only at e
  injection e with e; subst e; exact fn_conG hU (P := Tryd.prog) Tryd.func25 (fun xs w => by kernel_rfl) _ _ [.o, .cp, .cx (sp0_btf_resolve_v2_L0_0_ok hU a0 p0 q0 n0 k0 X0 A0 hR0 y1 y1 g0_0 e_g0) [], .o, .o] [] (fun b => by kernel_rfl)
noncomputable def m_btf_isFunction_v1 (n0 : Nat) (A0 : Nat → (Xs27 × (Nat × (Nat → Member)))) (y1 : Int) : Option (Bool) :=
  (m_btf_resolve_v2 n0 A0 y1).bind fun r0 =>
  bif inR (IntKind.i64.wrap (r0 - 1)) n0 then
    (some (((A0 ((IntKind.i64.wrap (r0 - 1))).toNat).1).fKind == 6))
  else (none)
theorem ok_btf_isFunction_v1 (y1 : Int) (r : Bool) (e : m_btf_isFunction_v1 n0 A0 y1 = some r) : ConG Tryd.prog S 24 #[.slice a0 n0 (n0 + k0), .int .i64 (y1)] (.bool (r)) := by
  unfold m_btf_isFunction_v1 at e
  replace e := bindO_eq e
  obtain ⟨r0, e_r0, e⟩ := e
  try dsimp only at e
  replace e := cond_eq_or e
  rcases e with ⟨hq0, e⟩ | ⟨hq0, e⟩
  · injection e with e; subst e; exact fn_conG hU (P := Tryd.prog) Tryd.func24 (fun xs w => by kernel_rfl) _ _ [.o, .o, .o, .o, .cg (ok_btf_resolve_v2 hU a0 p0 q0 n0 k0 X0 A0 hR0 y1 r0 e_r0), .o, .q (ixRo_ok (kd := .i64) (T := 24) (x := (IntKind.i64.wrap (r0 - 1))) (sz := 7) rfl (fun w => by kernel_rfl) (RoS.row hR0) hq0), .o, .l (accRo (RoS.row hR0) (rxS_len z_Xs27 X0 (fun i => (A0 i).2) (fun i => (A0 i).1)) (inR_nat hq0) 0 [.int .i64 (((A0 ((IntKind.i64.wrap (r0 - 1))).toNat).1).fKind)] rfl), .o, .o] [] (fun b => by kernel_rfl)
  · exact none_some e
inductive Sh_btf_holdsFunction_v2_L0 where
  | c0 (s0_0 : Int)
inductive Ex_btf_holdsFunction_v2_L0 where
  | e0 
  | e1 
noncomputable def st_btf_holdsFunction_v2_L0 (n0 : Nat) (A0 : Nat → (Xs27 × (Nat × (Nat → Member)))) (n1 : Nat) (A1 : Nat → Member) : Sh_btf_holdsFunction_v2_L0 → Option (Sh_btf_holdsFunction_v2_L0 ⊕ Ex_btf_holdsFunction_v2_L0)
  | .c0 s0_0 =>
    bif decide (s0_0 < (n1 : Int)) then
      (bif inR s0_0 n1 then
        ((m_btf_isFunction_v1 n0 A0 ((A1 (s0_0).toNat)).fType).bind fun rb0 =>
        bif rb0 then
          (some (.inr (.e1 )))
        else (some (.inl (.c0 (IntKind.i64.wrap (s0_0 + 1))))))
      else (none))
    else (some (.inr (.e0 )))
noncomputable def bd_btf_holdsFunction_v2_L0 : Code := codeOf Tryd.f12 [1, 1, 0, 1, 0, 0]
def fl_btf_holdsFunction_v2_L0 (a0 : Option Addr) (p0 : Nat) (q0 : Nat) (n0 : Nat) (k0 : Nat) (X0 : Nat → RoX) (A0 : Nat → (Xs27 × (Nat × (Nat → Member)))) (y1 : Xs27) (a1 : Option Addr) (p1 : Nat) (q1 : Nat) (n1 : Nat) (k1 : Nat) (A1 : Nat → Member) : Sh_btf_holdsFunction_v2_L0 → List L1 → List Value
  | .c0 s0_0, ls => [.slice a0 n0 (n0 + k0), .bool false, .slice a1 n1 (n1 + k1), .int .i64 ((n1 : Int)), .int .i64 (s0_0)]
def mf_btf_holdsFunction_v2_L0 : Sh_btf_holdsFunction_v2_L0 → List (Nat × Nat)
  | .c0 _ => [(1, 3), (1, 12), (3, 8)]
noncomputable def fr_btf_holdsFunction_v2_L0 (a0 : Option Addr) (p0 : Nat) (q0 : Nat) (n0 : Nat) (k0 : Nat) (X0 : Nat → RoX) (A0 : Nat → (Xs27 × (Nat × (Nat → Member)))) (y1 : Xs27) (a1 : Option Addr) (p1 : Nat) (q1 : Nat) (n1 : Nat) (k1 : Nat) (A1 : Nat → Member) (s : Sh_btf_holdsFunction_v2_L0) : List L1 → List Value := mrgF (mf_btf_holdsFunction_v2_L0 s) (fl_btf_holdsFunction_v2_L0 a0 p0 q0 n0 k0 X0 A0 y1 a1 p1 q1 n1 k1 A1 s) 1
def Hs_btf_holdsFunction_v2_L0 (a0 : Option Addr) (p0 : Nat) (q0 : Nat) (n0 : Nat) (k0 : Nat) (X0 : Nat → RoX) (A0 : Nat → (Xs27 × (Nat × (Nat → Member)))) (y1 : Xs27) (a1 : Option Addr) (p1 : Nat) (q1 : Nat) (n1 : Nat) (k1 : Nat) (A1 : Nat → Member) : Sh_btf_holdsFunction_v2_L0 → List L1 → List Obj
  | .c0 s0_0, ls => [.cells #[.int .i64 (y1.fKind), .string y1.fName, .int .i64 (y1.fSize), .bool (y1.fSigned), .int .i64 (y1.fTo), .int .i64 (y1.fCount), .slice a1 n1 (n1 + k1)] 27, unb]
def vl_btf_holdsFunction_v2_L0 (a0 : Option Addr) (p0 : Nat) (q0 : Nat) (n0 : Nat) (k0 : Nat) (X0 : Nat → RoX) (A0 : Nat → (Xs27 × (Nat × (Nat → Member)))) (y1 : Xs27) (a1 : Option Addr) (p1 : Nat) (q1 : Nat) (n1 : Nat) (k1 : Nat) (A1 : Nat → Member) : Ex_btf_holdsFunction_v2_L0 → List L1 → List Value
  | .e0 , ls => [.slice a0 n0 (n0 + k0), .bool false, .slice a1 n1 (n1 + k1), .int .i64 ((n1 : Int))]
  | .e1 , ls => [.slice a0 n0 (n0 + k0), .bool true, .slice a1 n1 (n1 + k1), .int .i64 ((n1 : Int))]
def mk_btf_holdsFunction_v2_L0 : Ex_btf_holdsFunction_v2_L0 → List (Nat × Nat)
  | .e0  => [(1, 3), (1, 12), (2, 9)]
  | .e1  => [(1, 3), (1, 12), (2, 9)]
noncomputable def vf_btf_holdsFunction_v2_L0 (a0 : Option Addr) (p0 : Nat) (q0 : Nat) (n0 : Nat) (k0 : Nat) (X0 : Nat → RoX) (A0 : Nat → (Xs27 × (Nat × (Nat → Member)))) (y1 : Xs27) (a1 : Option Addr) (p1 : Nat) (q1 : Nat) (n1 : Nat) (k1 : Nat) (A1 : Nat → Member) (r : Ex_btf_holdsFunction_v2_L0) : List L1 → List Value := mrgF (mk_btf_holdsFunction_v2_L0 r) (vl_btf_holdsFunction_v2_L0 a0 p0 q0 n0 k0 X0 A0 y1 a1 p1 q1 n1 k1 A1 r) 1
def Hf_btf_holdsFunction_v2_L0 (a0 : Option Addr) (p0 : Nat) (q0 : Nat) (n0 : Nat) (k0 : Nat) (X0 : Nat → RoX) (A0 : Nat → (Xs27 × (Nat × (Nat → Member)))) (y1 : Xs27) (a1 : Option Addr) (p1 : Nat) (q1 : Nat) (n1 : Nat) (k1 : Nat) (A1 : Nat → Member) : Ex_btf_holdsFunction_v2_L0 → List L1 → List Obj
  | .e0 , ls => [.cells #[.int .i64 (y1.fKind), .string y1.fName, .int .i64 (y1.fSize), .bool (y1.fSigned), .int .i64 (y1.fTo), .int .i64 (y1.fCount), .slice a1 n1 (n1 + k1)] 27, unb]
  | .e1 , ls => [.cells #[.int .i64 (y1.fKind), .string y1.fName, .int .i64 (y1.fSize), .bool (y1.fSigned), .int .i64 (y1.fTo), .int .i64 (y1.fCount), .slice a1 n1 (n1 + k1)] 27, unb]
def ex_btf_holdsFunction_v2_L0 : Ex_btf_holdsFunction_v2_L0 → Ex
  | .e0  => (.exit 0)
  | .e1  => .ret
theorem go_btf_holdsFunction_v2_L0 (y1 : Xs27) (a1 : Option Addr) (p1 : Nat) (q1 : Nat) (n1 : Nat) (k1 : Nat) (A1 : Nat → Member) (hR1 : Ro S c_Member 3 a1 p1 q1 n1 A1) (s : Sh_btf_holdsFunction_v2_L0) (r : Ex_btf_holdsFunction_v2_L0) (h : lpO (st_btf_holdsFunction_v2_L0 n0 A0 n1 A1) s = some r) : GoesG Tryd.prog M B0 S (.loop bd_btf_holdsFunction_v2_L0) 2 (fr_btf_holdsFunction_v2_L0 a0 p0 q0 n0 k0 X0 A0 y1 a1 p1 q1 n1 k1 A1 s) (Hs_btf_holdsFunction_v2_L0 a0 p0 q0 n0 k0 X0 A0 y1 a1 p1 q1 n1 k1 A1 s) (ex_btf_holdsFunction_v2_L0 r) 1 (vf_btf_holdsFunction_v2_L0 a0 p0 q0 n0 k0 X0 A0 y1 a1 p1 q1 n1 k1 A1 r) (Hf_btf_holdsFunction_v2_L0 a0 p0 q0 n0 k0 X0 A0 y1 a1 p1 q1 n1 k1 A1 r) 2 :=
  goes_lpO (fun s q e => by
    cases s with
    | c0 s0_0 =>
      unfold st_btf_holdsFunction_v2_L0 at e
      dsimp only at e
      replace e := cond_eq_or e
      rcases e with ⟨hq0, e⟩ | ⟨hq0, e⟩
      · replace e := cond_eq_or e
        rcases e with ⟨hq1, e⟩ | ⟨hq1, e⟩
        · replace e := bindO_eq e
          obtain ⟨rb0, e_rb0, e⟩ := e
          try dsimp only at e
          replace e := cond_eq_or e
          rcases e with ⟨hq2, e⟩ | ⟨hq2, e⟩
          · subst hq2
            cases e; exact ⟨ne_ret, goes_runM hU [.b (z_lssT hq0), .q (ixRo_ok (kd := .i64) (T := 25) (x := s0_0) (sz := 3) rfl (fun w => by kernel_rfl) hR1 hq1), .l (accRo hR1 c_Member_len (inR_nat hq1) 0 [.string ((A1 (s0_0).toNat)).fName, .int .i64 (((A1 (s0_0).toNat)).fType), .int .i64 (((A1 (s0_0).toNat)).fBits)] rfl), .o, .a 2, .o, .o, .a 2, .cg (ok_btf_isFunction_v1 hU a0 p0 q0 n0 k0 X0 A0 hR0 ((A1 (s0_0).toNat)).fType true e_rb0), .o] [0] (fun b => rfl) (by decide) rfl rfl (fun b => by kernel_rfl)⟩
          · subst hq2
            cases e; exact goes_runM hU [.b (z_lssT hq0), .q (ixRo_ok (kd := .i64) (T := 25) (x := s0_0) (sz := 3) rfl (fun w => by kernel_rfl) hR1 hq1), .l (accRo hR1 c_Member_len (inR_nat hq1) 0 [.string ((A1 (s0_0).toNat)).fName, .int .i64 (((A1 (s0_0).toNat)).fType), .int .i64 (((A1 (s0_0).toNat)).fBits)] rfl), .o, .a 2, .o, .o, .a 2, .cg (ok_btf_isFunction_v1 hU a0 p0 q0 n0 k0 X0 A0 hR0 ((A1 (s0_0).toNat)).fType false e_rb0), .o, .o] [0] (fun b => rfl) (by decide) rfl rfl (fun b => by kernel_rfl)
        · exact none_some e
      · cases e; exact ⟨ne_exit 0, goes_runM hU [.b (z_lssF hq0)] [0] (fun b => rfl) (by decide) rfl rfl (fun b => by kernel_rfl)⟩) s r h
noncomputable def t0_btf_holdsFunction_v2_L0_0 (a0 : Option Addr) (p0 : Nat) (q0 : Nat) (n0 : Nat) (k0 : Nat) (X0 : Nat → RoX) (A0 : Nat → (Xs27 × (Nat × (Nat → Member)))) (y1 : Xs27) (a1 : Option Addr) (p1 : Nat) (q1 : Nat) (n1 : Nat) (k1 : Nat) (A1 : Nat → Member) (s0_0 : Int) (ls : List L1) : List Value := List.append [.slice a0 n0 (n0 + k0), .agg #[.int .i64 (y1.fKind), .string y1.fName, .int .i64 (y1.fSize), .bool (y1.fSigned), .int .i64 (y1.fTo), .int .i64 (y1.fCount), .slice a1 n1 (n1 + k1)], undef, .pointer (some ⟨(lget ls 0).n, 0, none⟩), .bool false, undef, undef, .pointer (some ⟨(lget ls 0).n, 0, none⟩), .int .i64 (y1.fKind), .bool true, .bool true, .slice a0 n0 (n0 + k0), .pointer (some ⟨(lget ls 0).n, 4, none⟩), .int .i64 (y1.fTo), .bool false, .bool false, .pointer (some ⟨(lget ls 0).n, 6, none⟩), .slice a1 n1 (n1 + k1), .int .i64 ((n1 : Int)), .int .i64 (s0_0)] (und 8)
def pre_btf_holdsFunction_v2_L0_0 (a0 : Option Addr) (p0 : Nat) (q0 : Nat) (n0 : Nat) (k0 : Nat) (X0 : Nat → RoX) (A0 : Nat → (Xs27 × (Nat × (Nat → Member)))) (y1 : Xs27) (a1 : Option Addr) (p1 : Nat) (q1 : Nat) (n1 : Nat) (k1 : Nat) (A1 : Nat → Member) (s0_0 : Int) (ls : List L1) : List Obj := [.cells #[.int .i64 (y1.fKind), .string y1.fName, .int .i64 (y1.fSize), .bool (y1.fSigned), .int .i64 (y1.fTo), .int .i64 (y1.fCount), .slice a1 n1 (n1 + k1)] 27]
theorem sp0_btf_holdsFunction_v2_L0_0_ok (y1 : Xs27) (a1 : Option Addr) (p1 : Nat) (q1 : Nat) (n1 : Nat) (k1 : Nat) (A1 : Nat → Member) (hR1 : Ro S c_Member 3 a1 p1 q1 n1 A1) (s0_0 : Int) (h : lpO (st_btf_holdsFunction_v2_L0 n0 A0 n1 A1) (.c0 s0_0) = some (.e0 )) : SpcG Tryd.prog M B0 S ⟨fun ls => .code (.loop bd_btf_holdsFunction_v2_L0) (t0_btf_holdsFunction_v2_L0_0 a0 p0 q0 n0 k0 X0 A0 y1 a1 p1 q1 n1 k1 A1 s0_0 ls), pre_btf_holdsFunction_v2_L0_0 a0 p0 q0 n0 k0 X0 A0 y1 a1 p1 q1 n1 k1 A1 s0_0, 1, (.exit 0), fun ls => vf_btf_holdsFunction_v2_L0 a0 p0 q0 n0 k0 X0 A0 y1 a1 p1 q1 n1 k1 A1 (.e0 ) (ls.take 1 ++ ls.drop 1), fun ls => (Hf_btf_holdsFunction_v2_L0 a0 p0 q0 n0 k0 X0 A0 y1 a1 p1 q1 n1 k1 A1 (.e0 ) (ls.take 1 ++ ls.drop 1)).take 1 ++ List.replicate 0 unb, fun ls => (Hf_btf_holdsFunction_v2_L0 a0 p0 q0 n0 k0 X0 A0 y1 a1 p1 q1 n1 k1 A1 (.e0 ) (ls.take 1 ++ ls.drop 1)).drop 1⟩ :=
  spc_of_goesM hU 0 (k0 := 1) (go_btf_holdsFunction_v2_L0 hU a0 p0 q0 n0 k0 X0 A0 hR0 y1 a1 p1 q1 n1 k1 A1 hR1 _ _ h) (t0_btf_holdsFunction_v2_L0_0 a0 p0 q0 n0 k0 X0 A0 y1 a1 p1 q1 n1 k1 A1 s0_0) (pre_btf_holdsFunction_v2_L0_0 a0 p0 q0 n0 k0 X0 A0 y1 a1 p1 q1 n1 k1 A1 s0_0) (fun _ => rfl) (fun ls h => by match ls, h with | [l0], _ => exact ⟨by kernel_rfl, by kernel_rfl⟩) (fun ls h => by match ls, h with | [l0], _ => rfl) (by decide) (by decide) (fun ls => rfl)
theorem sp1_btf_holdsFunction_v2_L0_0_ok (y1 : Xs27) (a1 : Option Addr) (p1 : Nat) (q1 : Nat) (n1 : Nat) (k1 : Nat) (A1 : Nat → Member) (hR1 : Ro S c_Member 3 a1 p1 q1 n1 A1) (s0_0 : Int) (h : lpO (st_btf_holdsFunction_v2_L0 n0 A0 n1 A1) (.c0 s0_0) = some (.e1 )) : SpcG Tryd.prog M B0 S ⟨fun ls => .code (.loop bd_btf_holdsFunction_v2_L0) (t0_btf_holdsFunction_v2_L0_0 a0 p0 q0 n0 k0 X0 A0 y1 a1 p1 q1 n1 k1 A1 s0_0 ls), pre_btf_holdsFunction_v2_L0_0 a0 p0 q0 n0 k0 X0 A0 y1 a1 p1 q1 n1 k1 A1 s0_0, 1, .ret, fun ls => vf_btf_holdsFunction_v2_L0 a0 p0 q0 n0 k0 X0 A0 y1 a1 p1 q1 n1 k1 A1 (.e1 ) (ls.take 1 ++ ls.drop 1), fun ls => (Hf_btf_holdsFunction_v2_L0 a0 p0 q0 n0 k0 X0 A0 y1 a1 p1 q1 n1 k1 A1 (.e1 ) (ls.take 1 ++ ls.drop 1)).take 1 ++ List.replicate 0 unb, fun ls => (Hf_btf_holdsFunction_v2_L0 a0 p0 q0 n0 k0 X0 A0 y1 a1 p1 q1 n1 k1 A1 (.e1 ) (ls.take 1 ++ ls.drop 1)).drop 1⟩ :=
  spc_of_goesM hU 0 (k0 := 1) (go_btf_holdsFunction_v2_L0 hU a0 p0 q0 n0 k0 X0 A0 hR0 y1 a1 p1 q1 n1 k1 A1 hR1 _ _ h) (t0_btf_holdsFunction_v2_L0_0 a0 p0 q0 n0 k0 X0 A0 y1 a1 p1 q1 n1 k1 A1 s0_0) (pre_btf_holdsFunction_v2_L0_0 a0 p0 q0 n0 k0 X0 A0 y1 a1 p1 q1 n1 k1 A1 s0_0) (fun _ => rfl) (fun ls h => by match ls, h with | [l0], _ => exact ⟨by kernel_rfl, by kernel_rfl⟩) (fun ls h => by match ls, h with | [l0], _ => rfl) (by decide) (by decide) (fun ls => rfl)
inductive Sh_btf_holdsFunction_v2_L0v1 where
  | c0 (s0_0 : Int)
inductive Ex_btf_holdsFunction_v2_L0v1 where
  | e0 
  | e1 
noncomputable def st_btf_holdsFunction_v2_L0v1 (n0 : Nat) (A0 : Nat → (Xs27 × (Nat × (Nat → Member)))) (n1 : Nat) (A1 : Nat → Member) : Sh_btf_holdsFunction_v2_L0v1 → Option (Sh_btf_holdsFunction_v2_L0v1 ⊕ Ex_btf_holdsFunction_v2_L0v1)
  | .c0 s0_0 =>
    bif decide (s0_0 < (n1 : Int)) then
      (bif inR s0_0 n1 then
        ((m_btf_isFunction_v1 n0 A0 ((A1 (s0_0).toNat)).fType).bind fun rb0 =>
        bif rb0 then
          (some (.inr (.e1 )))
        else (some (.inl (.c0 (IntKind.i64.wrap (s0_0 + 1))))))
      else (none))
    else (some (.inr (.e0 )))
noncomputable def bd_btf_holdsFunction_v2_L0v1 : Code := codeOf Tryd.f12 [1, 1, 0, 1, 0, 0]
def fl_btf_holdsFunction_v2_L0v1 (a0 : Option Addr) (p0 : Nat) (q0 : Nat) (n0 : Nat) (k0 : Nat) (X0 : Nat → RoX) (A0 : Nat → (Xs27 × (Nat × (Nat → Member)))) (y1 : Xs27) (a1 : Option Addr) (p1 : Nat) (q1 : Nat) (n1 : Nat) (k1 : Nat) (A1 : Nat → Member) : Sh_btf_holdsFunction_v2_L0v1 → List L1 → List Value
  | .c0 s0_0, ls => [.slice a0 n0 (n0 + k0), .bool false, .slice a1 n1 (n1 + k1), .int .i64 ((n1 : Int)), .int .i64 (s0_0)]
def mf_btf_holdsFunction_v2_L0v1 : Sh_btf_holdsFunction_v2_L0v1 → List (Nat × Nat)
  | .c0 _ => [(1, 3), (1, 12), (3, 8)]
noncomputable def fr_btf_holdsFunction_v2_L0v1 (a0 : Option Addr) (p0 : Nat) (q0 : Nat) (n0 : Nat) (k0 : Nat) (X0 : Nat → RoX) (A0 : Nat → (Xs27 × (Nat × (Nat → Member)))) (y1 : Xs27) (a1 : Option Addr) (p1 : Nat) (q1 : Nat) (n1 : Nat) (k1 : Nat) (A1 : Nat → Member) (s : Sh_btf_holdsFunction_v2_L0v1) : List L1 → List Value := mrgF (mf_btf_holdsFunction_v2_L0v1 s) (fl_btf_holdsFunction_v2_L0v1 a0 p0 q0 n0 k0 X0 A0 y1 a1 p1 q1 n1 k1 A1 s) 1
def Hs_btf_holdsFunction_v2_L0v1 (a0 : Option Addr) (p0 : Nat) (q0 : Nat) (n0 : Nat) (k0 : Nat) (X0 : Nat → RoX) (A0 : Nat → (Xs27 × (Nat × (Nat → Member)))) (y1 : Xs27) (a1 : Option Addr) (p1 : Nat) (q1 : Nat) (n1 : Nat) (k1 : Nat) (A1 : Nat → Member) : Sh_btf_holdsFunction_v2_L0v1 → List L1 → List Obj
  | .c0 s0_0, ls => [.cells #[.int .i64 (y1.fKind), .string y1.fName, .int .i64 (y1.fSize), .bool (y1.fSigned), .int .i64 (y1.fTo), .int .i64 (y1.fCount), .slice a1 n1 (n1 + k1)] 27, unb]
def vl_btf_holdsFunction_v2_L0v1 (a0 : Option Addr) (p0 : Nat) (q0 : Nat) (n0 : Nat) (k0 : Nat) (X0 : Nat → RoX) (A0 : Nat → (Xs27 × (Nat × (Nat → Member)))) (y1 : Xs27) (a1 : Option Addr) (p1 : Nat) (q1 : Nat) (n1 : Nat) (k1 : Nat) (A1 : Nat → Member) : Ex_btf_holdsFunction_v2_L0v1 → List L1 → List Value
  | .e0 , ls => [.slice a0 n0 (n0 + k0), .bool false, .slice a1 n1 (n1 + k1), .int .i64 ((n1 : Int))]
  | .e1 , ls => [.slice a0 n0 (n0 + k0), .bool true, .slice a1 n1 (n1 + k1), .int .i64 ((n1 : Int))]
def mk_btf_holdsFunction_v2_L0v1 : Ex_btf_holdsFunction_v2_L0v1 → List (Nat × Nat)
  | .e0  => [(1, 3), (1, 12), (2, 9)]
  | .e1  => [(1, 3), (1, 12), (2, 9)]
noncomputable def vf_btf_holdsFunction_v2_L0v1 (a0 : Option Addr) (p0 : Nat) (q0 : Nat) (n0 : Nat) (k0 : Nat) (X0 : Nat → RoX) (A0 : Nat → (Xs27 × (Nat × (Nat → Member)))) (y1 : Xs27) (a1 : Option Addr) (p1 : Nat) (q1 : Nat) (n1 : Nat) (k1 : Nat) (A1 : Nat → Member) (r : Ex_btf_holdsFunction_v2_L0v1) : List L1 → List Value := mrgF (mk_btf_holdsFunction_v2_L0v1 r) (vl_btf_holdsFunction_v2_L0v1 a0 p0 q0 n0 k0 X0 A0 y1 a1 p1 q1 n1 k1 A1 r) 1
def Hf_btf_holdsFunction_v2_L0v1 (a0 : Option Addr) (p0 : Nat) (q0 : Nat) (n0 : Nat) (k0 : Nat) (X0 : Nat → RoX) (A0 : Nat → (Xs27 × (Nat × (Nat → Member)))) (y1 : Xs27) (a1 : Option Addr) (p1 : Nat) (q1 : Nat) (n1 : Nat) (k1 : Nat) (A1 : Nat → Member) : Ex_btf_holdsFunction_v2_L0v1 → List L1 → List Obj
  | .e0 , ls => [.cells #[.int .i64 (y1.fKind), .string y1.fName, .int .i64 (y1.fSize), .bool (y1.fSigned), .int .i64 (y1.fTo), .int .i64 (y1.fCount), .slice a1 n1 (n1 + k1)] 27, unb]
  | .e1 , ls => [.cells #[.int .i64 (y1.fKind), .string y1.fName, .int .i64 (y1.fSize), .bool (y1.fSigned), .int .i64 (y1.fTo), .int .i64 (y1.fCount), .slice a1 n1 (n1 + k1)] 27, unb]
def ex_btf_holdsFunction_v2_L0v1 : Ex_btf_holdsFunction_v2_L0v1 → Ex
  | .e0  => (.exit 0)
  | .e1  => .ret
theorem go_btf_holdsFunction_v2_L0v1 (y1 : Xs27) (a1 : Option Addr) (p1 : Nat) (q1 : Nat) (n1 : Nat) (k1 : Nat) (A1 : Nat → Member) (hR1 : Ro S c_Member 3 a1 p1 q1 n1 A1) (s : Sh_btf_holdsFunction_v2_L0v1) (r : Ex_btf_holdsFunction_v2_L0v1) (h : lpO (st_btf_holdsFunction_v2_L0v1 n0 A0 n1 A1) s = some r) : GoesG Tryd.prog M B0 S (.loop bd_btf_holdsFunction_v2_L0v1) 2 (fr_btf_holdsFunction_v2_L0v1 a0 p0 q0 n0 k0 X0 A0 y1 a1 p1 q1 n1 k1 A1 s) (Hs_btf_holdsFunction_v2_L0v1 a0 p0 q0 n0 k0 X0 A0 y1 a1 p1 q1 n1 k1 A1 s) (ex_btf_holdsFunction_v2_L0v1 r) 1 (vf_btf_holdsFunction_v2_L0v1 a0 p0 q0 n0 k0 X0 A0 y1 a1 p1 q1 n1 k1 A1 r) (Hf_btf_holdsFunction_v2_L0v1 a0 p0 q0 n0 k0 X0 A0 y1 a1 p1 q1 n1 k1 A1 r) 2 :=
  goes_lpO (fun s q e => by
    cases s with
    | c0 s0_0 =>
      unfold st_btf_holdsFunction_v2_L0v1 at e
      dsimp only at e
      replace e := cond_eq_or e
      rcases e with ⟨hq0, e⟩ | ⟨hq0, e⟩
      · replace e := cond_eq_or e
        rcases e with ⟨hq1, e⟩ | ⟨hq1, e⟩
        · replace e := bindO_eq e
          obtain ⟨rb0, e_rb0, e⟩ := e
          try dsimp only at e
          replace e := cond_eq_or e
          rcases e with ⟨hq2, e⟩ | ⟨hq2, e⟩
          · subst hq2
            cases e; exact ⟨ne_ret, goes_runM hU [.b (z_lssT hq0), .q (ixRo_ok (kd := .i64) (T := 25) (x := s0_0) (sz := 3) rfl (fun w => by kernel_rfl) hR1 hq1), .l (accRo hR1 c_Member_len (inR_nat hq1) 0 [.string ((A1 (s0_0).toNat)).fName, .int .i64 (((A1 (s0_0).toNat)).fType), .int .i64 (((A1 (s0_0).toNat)).fBits)] rfl), .o, .a 2, .o, .o, .a 2, .cg (ok_btf_isFunction_v1 hU a0 p0 q0 n0 k0 X0 A0 hR0 ((A1 (s0_0).toNat)).fType true e_rb0), .o] [0] (fun b => rfl) (by decide) rfl rfl (fun b => by kernel_rfl)⟩
          · subst hq2
            cases e; exact goes_runM hU [.b (z_lssT hq0), .q (ixRo_ok (kd := .i64) (T := 25) (x := s0_0) (sz := 3) rfl (fun w => by kernel_rfl) hR1 hq1), .l (accRo hR1 c_Member_len (inR_nat hq1) 0 [.string ((A1 (s0_0).toNat)).fName, .int .i64 (((A1 (s0_0).toNat)).fType), .int .i64 (((A1 (s0_0).toNat)).fBits)] rfl), .o, .a 2, .o, .o, .a 2, .cg (ok_btf_isFunction_v1 hU a0 p0 q0 n0 k0 X0 A0 hR0 ((A1 (s0_0).toNat)).fType false e_rb0), .o, .o] [0] (fun b => rfl) (by decide) rfl rfl (fun b => by kernel_rfl)
        · exact none_some e
      · cases e; exact ⟨ne_exit 0, goes_runM hU [.b (z_lssF hq0)] [0] (fun b => rfl) (by decide) rfl rfl (fun b => by kernel_rfl)⟩) s r h
noncomputable def t0_btf_holdsFunction_v2_L0v1_0 (a0 : Option Addr) (p0 : Nat) (q0 : Nat) (n0 : Nat) (k0 : Nat) (X0 : Nat → RoX) (A0 : Nat → (Xs27 × (Nat × (Nat → Member)))) (y1 : Xs27) (a1 : Option Addr) (p1 : Nat) (q1 : Nat) (n1 : Nat) (k1 : Nat) (A1 : Nat → Member) (s0_0 : Int) (ls : List L1) : List Value := List.append [.slice a0 n0 (n0 + k0), .agg #[.int .i64 (y1.fKind), .string y1.fName, .int .i64 (y1.fSize), .bool (y1.fSigned), .int .i64 (y1.fTo), .int .i64 (y1.fCount), .slice a1 n1 (n1 + k1)], undef, .pointer (some ⟨(lget ls 0).n, 0, none⟩), .bool false, undef, undef, .pointer (some ⟨(lget ls 0).n, 0, none⟩), .int .i64 (y1.fKind), .bool false, .bool false] (List.append (und 4) (List.append [.bool false, .pointer (some ⟨(lget ls 0).n, 6, none⟩), .slice a1 n1 (n1 + k1), .int .i64 ((n1 : Int)), .int .i64 (s0_0)] (und 8)))
def pre_btf_holdsFunction_v2_L0v1_0 (a0 : Option Addr) (p0 : Nat) (q0 : Nat) (n0 : Nat) (k0 : Nat) (X0 : Nat → RoX) (A0 : Nat → (Xs27 × (Nat × (Nat → Member)))) (y1 : Xs27) (a1 : Option Addr) (p1 : Nat) (q1 : Nat) (n1 : Nat) (k1 : Nat) (A1 : Nat → Member) (s0_0 : Int) (ls : List L1) : List Obj := [.cells #[.int .i64 (y1.fKind), .string y1.fName, .int .i64 (y1.fSize), .bool (y1.fSigned), .int .i64 (y1.fTo), .int .i64 (y1.fCount), .slice a1 n1 (n1 + k1)] 27]
theorem sp0_btf_holdsFunction_v2_L0v1_0_ok (y1 : Xs27) (a1 : Option Addr) (p1 : Nat) (q1 : Nat) (n1 : Nat) (k1 : Nat) (A1 : Nat → Member) (hR1 : Ro S c_Member 3 a1 p1 q1 n1 A1) (s0_0 : Int) (h : lpO (st_btf_holdsFunction_v2_L0v1 n0 A0 n1 A1) (.c0 s0_0) = some (.e0 )) : SpcG Tryd.prog M B0 S ⟨fun ls => .code (.loop bd_btf_holdsFunction_v2_L0v1) (t0_btf_holdsFunction_v2_L0v1_0 a0 p0 q0 n0 k0 X0 A0 y1 a1 p1 q1 n1 k1 A1 s0_0 ls), pre_btf_holdsFunction_v2_L0v1_0 a0 p0 q0 n0 k0 X0 A0 y1 a1 p1 q1 n1 k1 A1 s0_0, 1, (.exit 0), fun ls => vf_btf_holdsFunction_v2_L0v1 a0 p0 q0 n0 k0 X0 A0 y1 a1 p1 q1 n1 k1 A1 (.e0 ) (ls.take 1 ++ ls.drop 1), fun ls => (Hf_btf_holdsFunction_v2_L0v1 a0 p0 q0 n0 k0 X0 A0 y1 a1 p1 q1 n1 k1 A1 (.e0 ) (ls.take 1 ++ ls.drop 1)).take 1 ++ List.replicate 0 unb, fun ls => (Hf_btf_holdsFunction_v2_L0v1 a0 p0 q0 n0 k0 X0 A0 y1 a1 p1 q1 n1 k1 A1 (.e0 ) (ls.take 1 ++ ls.drop 1)).drop 1⟩ :=
  spc_of_goesM hU 0 (k0 := 1) (go_btf_holdsFunction_v2_L0v1 hU a0 p0 q0 n0 k0 X0 A0 hR0 y1 a1 p1 q1 n1 k1 A1 hR1 _ _ h) (t0_btf_holdsFunction_v2_L0v1_0 a0 p0 q0 n0 k0 X0 A0 y1 a1 p1 q1 n1 k1 A1 s0_0) (pre_btf_holdsFunction_v2_L0v1_0 a0 p0 q0 n0 k0 X0 A0 y1 a1 p1 q1 n1 k1 A1 s0_0) (fun _ => rfl) (fun ls h => by match ls, h with | [l0], _ => exact ⟨by kernel_rfl, by kernel_rfl⟩) (fun ls h => by match ls, h with | [l0], _ => rfl) (by decide) (by decide) (fun ls => rfl)
theorem sp1_btf_holdsFunction_v2_L0v1_0_ok (y1 : Xs27) (a1 : Option Addr) (p1 : Nat) (q1 : Nat) (n1 : Nat) (k1 : Nat) (A1 : Nat → Member) (hR1 : Ro S c_Member 3 a1 p1 q1 n1 A1) (s0_0 : Int) (h : lpO (st_btf_holdsFunction_v2_L0v1 n0 A0 n1 A1) (.c0 s0_0) = some (.e1 )) : SpcG Tryd.prog M B0 S ⟨fun ls => .code (.loop bd_btf_holdsFunction_v2_L0v1) (t0_btf_holdsFunction_v2_L0v1_0 a0 p0 q0 n0 k0 X0 A0 y1 a1 p1 q1 n1 k1 A1 s0_0 ls), pre_btf_holdsFunction_v2_L0v1_0 a0 p0 q0 n0 k0 X0 A0 y1 a1 p1 q1 n1 k1 A1 s0_0, 1, .ret, fun ls => vf_btf_holdsFunction_v2_L0v1 a0 p0 q0 n0 k0 X0 A0 y1 a1 p1 q1 n1 k1 A1 (.e1 ) (ls.take 1 ++ ls.drop 1), fun ls => (Hf_btf_holdsFunction_v2_L0v1 a0 p0 q0 n0 k0 X0 A0 y1 a1 p1 q1 n1 k1 A1 (.e1 ) (ls.take 1 ++ ls.drop 1)).take 1 ++ List.replicate 0 unb, fun ls => (Hf_btf_holdsFunction_v2_L0v1 a0 p0 q0 n0 k0 X0 A0 y1 a1 p1 q1 n1 k1 A1 (.e1 ) (ls.take 1 ++ ls.drop 1)).drop 1⟩ :=
  spc_of_goesM hU 0 (k0 := 1) (go_btf_holdsFunction_v2_L0v1 hU a0 p0 q0 n0 k0 X0 A0 hR0 y1 a1 p1 q1 n1 k1 A1 hR1 _ _ h) (t0_btf_holdsFunction_v2_L0v1_0 a0 p0 q0 n0 k0 X0 A0 y1 a1 p1 q1 n1 k1 A1 s0_0) (pre_btf_holdsFunction_v2_L0v1_0 a0 p0 q0 n0 k0 X0 A0 y1 a1 p1 q1 n1 k1 A1 s0_0) (fun _ => rfl) (fun ls h => by match ls, h with | [l0], _ => exact ⟨by kernel_rfl, by kernel_rfl⟩) (fun ls h => by match ls, h with | [l0], _ => rfl) (by decide) (by decide) (fun ls => rfl)
noncomputable def m_btf_holdsFunction_v2 (n0 : Nat) (A0 : Nat → (Xs27 × (Nat × (Nat → Member)))) (y1 : Xs27) (n1 : Nat) (A1 : Nat → Member) : Option (Bool) :=
  bif y1.fKind == 3 then
    ((m_btf_isFunction_v1 n0 A0 y1.fTo).bind fun r0 =>
    bif r0 then
      (some true)
    else ((lpO (st_btf_holdsFunction_v2_L0 n0 A0 n1 A1) (.c0 0)).bind fun g1 => match g1 with
    | .e0  => (some false)
    | .e1  => (some true)))
  else ((lpO (st_btf_holdsFunction_v2_L0v1 n0 A0 n1 A1) (.c0 0)).bind fun g0 => match g0 with
  | .e0  => (some false)
  | .e1  => (some true))
theorem ok_btf_holdsFunction_v2 (y1 : Xs27) (a1 : Option Addr) (p1 : Nat) (q1 : Nat) (n1 : Nat) (k1 : Nat) (A1 : Nat → Member) (hR1 : Ro S c_Member 3 a1 p1 q1 n1 A1) (r : Bool) (e : m_btf_holdsFunction_v2 n0 A0 y1 n1 A1 = some r) : ConG Tryd.prog S 12 #[.slice a0 n0 (n0 + k0), .agg #[.int .i64 (y1.fKind), .string y1.fName, .int .i64 (y1.fSize), .bool (y1.fSigned), .int .i64 (y1.fTo), .int .i64 (y1.fCount), .slice a1 n1 (n1 + k1)]] (.bool (r)) := by
  unfold m_btf_holdsFunction_v2 at e
  replace e := cond_eq_or e
  rcases e with ⟨hq0, e⟩ | ⟨hq0, e⟩
  · replace e := bindO_eq e
    obtain ⟨r0, e_r0, e⟩ := e
    try dsimp only at e
    replace e := cond_eq_or e
    rcases e with ⟨hq1, e⟩ | ⟨hq1, e⟩
    · subst hq1
      injection e with e; subst e; exact fn_conG hU (P := Tryd.prog) Tryd.func12 (fun xs w => by kernel_rfl) _ _ [.o, .o, .o, .a 0, .b (z_eqlT hq0), .o, .o, .o, .a 0, .cg (ok_btf_isFunction_v1 hU a0 p0 q0 n0 k0 X0 A0 hR0 y1.fTo true e_r0), .o, .o] [] (fun b => by kernel_rfl)
    · subst hq1
      replace e := bindO_eq e
      obtain ⟨g1, e_g1, e⟩ := e
      rcases g1 with _ | _
      · try dsimp only at e
        injection e with e; subst e; exact fn_conG hU (P := Tryd.prog) Tryd.func12 (fun xs w => by kernel_rfl) _ _ [.o, .o, .o, .a 0, .b (z_eqlT hq0), .o, .o, .o, .a 0, .cg (ok_btf_isFunction_v1 hU a0 p0 q0 n0 k0 X0 A0 hR0 y1.fTo false e_r0), .o, .o, .a 0, .o, .o, .cp, .cx (sp0_btf_holdsFunction_v2_L0_0_ok hU a0 p0 q0 n0 k0 X0 A0 hR0 y1 a1 p1 q1 n1 k1 A1 hR1 0  e_g1) [0], .o] [] (fun b => by kernel_rfl)
      · try dsimp only at e
        injection e with e; subst e; exact fn_conG hU (P := Tryd.prog) Tryd.func12 (fun xs w => by kernel_rfl) _ _ [.o, .o, .o, .a 0, .b (z_eqlT hq0), .o, .o, .o, .a 0, .cg (ok_btf_isFunction_v1 hU a0 p0 q0 n0 k0 X0 A0 hR0 y1.fTo false e_r0), .o, .o, .a 0, .o, .o, .cp, .cx (sp1_btf_holdsFunction_v2_L0_0_ok hU a0 p0 q0 n0 k0 X0 A0 hR0 y1 a1 p1 q1 n1 k1 A1 hR1 0  e_g1) [0]] [] (fun b => by kernel_rfl)
  · replace e := bindO_eq e
    obtain ⟨g0, e_g0, e⟩ := e
    rcases g0 with _ | _
    · try dsimp only at e
      injection e with e; subst e; exact fn_conG hU (P := Tryd.prog) Tryd.func12 (fun xs w => by kernel_rfl) _ _ [.o, .o, .o, .a 0, .b (z_eqlF hq0), .o, .o, .o, .a 0, .o, .o, .cp, .cx (sp0_btf_holdsFunction_v2_L0v1_0_ok hU a0 p0 q0 n0 k0 X0 A0 hR0 y1 a1 p1 q1 n1 k1 A1 hR1 0  e_g0) [0], .o] [] (fun b => by kernel_rfl)
    · try dsimp only at e
      injection e with e; subst e; exact fn_conG hU (P := Tryd.prog) Tryd.func12 (fun xs w => by kernel_rfl) _ _ [.o, .o, .o, .a 0, .b (z_eqlF hq0), .o, .o, .o, .a 0, .o, .o, .cp, .cx (sp1_btf_holdsFunction_v2_L0v1_0_ok hU a0 p0 q0 n0 k0 X0 A0 hR0 y1 a1 p1 q1 n1 k1 A1 hR1 0  e_g0) [0]] [] (fun b => by kernel_rfl)
noncomputable def m_btf_sizeOf_v2 (n0 : Nat) (A0 : Nat → (Xs27 × (Nat × (Nat → Member)))) (y1 : Int) (mr0 : (Nat) → (Nat → (Xs27 × (Nat × (Nat → Member)))) → (Int) → Option (Int)) : Option (Int) :=
  bif inR (IntKind.i64.wrap (y1 - 1)) n0 then
    (bif ((A0 ((IntKind.i64.wrap (y1 - 1))).toNat).1).fKind == 5 then
      ((mr0 n0 A0 ((A0 ((IntKind.i64.wrap (y1 - 1))).toNat).1).fTo).bind fun r0 =>
      some r0)
    else (bif ((A0 ((IntKind.i64.wrap (y1 - 1))).toNat).1).fKind == 3 then
      ((mr0 n0 A0 ((A0 ((IntKind.i64.wrap (y1 - 1))).toNat).1).fTo).bind fun r0 =>
      some (if 65537 < (IntKind.i64.wrap (((A0 ((IntKind.i64.wrap (y1 - 1))).toNat).1).fCount * r0)) then 65537 else (IntKind.i64.wrap (((A0 ((IntKind.i64.wrap (y1 - 1))).toNat).1).fCount * r0))))
    else (bif ((A0 ((IntKind.i64.wrap (y1 - 1))).toNat).1).fKind == 2 then
      (some 8)
    else (bif ((A0 ((IntKind.i64.wrap (y1 - 1))).toNat).1).fKind == 1 then
      (some ((A0 ((IntKind.i64.wrap (y1 - 1))).toNat).1).fSize)
    else (bif ((A0 ((IntKind.i64.wrap (y1 - 1))).toNat).1).fKind == 4 then
      (some ((A0 ((IntKind.i64.wrap (y1 - 1))).toNat).1).fSize)
    else (some 0))))))
  else (none)
theorem ok_btf_sizeOf_v2 (y1 : Int) (mr0 : (Nat) → (Nat → (Xs27 × (Nat × (Nat → Member)))) → (Int) → Option (Int)) (ih0 : ∀ {M : Nat → Prop} {B0 : Nat} {S : World → Prop} (hU : Up M B0 S) (a0 : Option Addr) (p0 : Nat) (q0 : Nat) (n0 : Nat) (k0 : Nat) (X0 : Nat → RoX) (A0 : Nat → (Xs27 × (Nat × (Nat → Member)))) (hR0 : RoS S h_Xs27 t_Xs27 7 c_Member 3 a0 p0 q0 n0 X0 (fun i => (A0 i).2) (fun i => (A0 i).1)) (y1 : Int) (r : Int), mr0 n0 A0 y1 = some r → ConG Tryd.prog S 15 #[.slice a0 n0 (n0 + k0), .int .i64 (y1)] (.int .i64 (r))) (r : Int) (e : m_btf_sizeOf_v2 n0 A0 y1 mr0 = some r) : ConG Tryd.prog S 15 #[.slice a0 n0 (n0 + k0), .int .i64 (y1)] (.int .i64 (r)) := by
  unfold m_btf_sizeOf_v2 at e
  replace e := cond_eq_or e
  rcases e with ⟨hq0, e⟩ | ⟨hq0, e⟩
  · replace e := cond_eq_or e
    rcases e with ⟨hq1, e⟩ | ⟨hq1, e⟩
    · replace e := bindO_eq e
      obtain ⟨r0, e_r0, e⟩ := e
      try dsimp only at e
      injection e with e; subst e; exact fn_conG hU (P := Tryd.prog) Tryd.func15 (fun xs w => by kernel_rfl) _ _ [.o, .o, .o, .o, .q (ixRo_ok (kd := .i64) (T := 24) (x := (IntKind.i64.wrap (y1 - 1))) (sz := 7) rfl (fun w => by kernel_rfl) (RoS.row hR0) hq0), .l (accRo (RoS.row hR0) (rxS_len z_Xs27 X0 (fun i => (A0 i).2) (fun i => (A0 i).1)) (inR_nat hq0) 0 [.int .i64 (((A0 ((IntKind.i64.wrap (y1 - 1))).toNat).1).fKind), .string ((A0 ((IntKind.i64.wrap (y1 - 1))).toNat).1).fName, .int .i64 (((A0 ((IntKind.i64.wrap (y1 - 1))).toNat).1).fSize), .bool (((A0 ((IntKind.i64.wrap (y1 - 1))).toNat).1).fSigned), .int .i64 (((A0 ((IntKind.i64.wrap (y1 - 1))).toNat).1).fTo), .int .i64 (((A0 ((IntKind.i64.wrap (y1 - 1))).toNat).1).fCount), .slice (X0 ((IntKind.i64.wrap (y1 - 1))).toNat).a (A0 ((IntKind.i64.wrap (y1 - 1))).toNat).2.1 ((A0 ((IntKind.i64.wrap (y1 - 1))).toNat).2.1 + (X0 ((IntKind.i64.wrap (y1 - 1))).toNat).c)] rfl), .o, .a 0, .o, .a 0, .b (z_eqlT hq1), .o, .o, .o, .a 0, .cg (ih0 hU a0 p0 q0 n0 k0 X0 A0 hR0 ((A0 ((IntKind.i64.wrap (y1 - 1))).toNat).1).fTo r0 e_r0), .o] [] (fun b => by kernel_rfl)
    · replace e := cond_eq_or e
      rcases e with ⟨hq2, e⟩ | ⟨hq2, e⟩
      · replace e := bindO_eq e
        obtain ⟨r0, e_r0, e⟩ := e
        try dsimp only at e
        injection e with e; subst e; exact fn_conG hU (P := Tryd.prog) Tryd.func15 (fun xs w => by kernel_rfl) _ _ [.o, .o, .o, .o, .q (ixRo_ok (kd := .i64) (T := 24) (x := (IntKind.i64.wrap (y1 - 1))) (sz := 7) rfl (fun w => by kernel_rfl) (RoS.row hR0) hq0), .l (accRo (RoS.row hR0) (rxS_len z_Xs27 X0 (fun i => (A0 i).2) (fun i => (A0 i).1)) (inR_nat hq0) 0 [.int .i64 (((A0 ((IntKind.i64.wrap (y1 - 1))).toNat).1).fKind), .string ((A0 ((IntKind.i64.wrap (y1 - 1))).toNat).1).fName, .int .i64 (((A0 ((IntKind.i64.wrap (y1 - 1))).toNat).1).fSize), .bool (((A0 ((IntKind.i64.wrap (y1 - 1))).toNat).1).fSigned), .int .i64 (((A0 ((IntKind.i64.wrap (y1 - 1))).toNat).1).fTo), .int .i64 (((A0 ((IntKind.i64.wrap (y1 - 1))).toNat).1).fCount), .slice (X0 ((IntKind.i64.wrap (y1 - 1))).toNat).a (A0 ((IntKind.i64.wrap (y1 - 1))).toNat).2.1 ((A0 ((IntKind.i64.wrap (y1 - 1))).toNat).2.1 + (X0 ((IntKind.i64.wrap (y1 - 1))).toNat).c)] rfl), .o, .a 0, .o, .a 0, .b (z_eqlF hq1), .o, .b (z_eqlT hq2), .o, .r [0, 1, 2, 3, 4] [] [5, 6, 7, 8], .o, .a 0, .o, .o, .a 0, .cg (ih0 hU a0 p0 q0 n0 k0 X0 A0 hR0 ((A0 ((IntKind.i64.wrap (y1 - 1))).toNat).1).fTo r0 e_r0), .o, .o, .o] [] (fun b => by kernel_rfl)
      · replace e := cond_eq_or e
        rcases e with ⟨hq3, e⟩ | ⟨hq3, e⟩
        · injection e with e; subst e; exact fn_conG hU (P := Tryd.prog) Tryd.func15 (fun xs w => by kernel_rfl) _ _ [.o, .o, .o, .o, .q (ixRo_ok (kd := .i64) (T := 24) (x := (IntKind.i64.wrap (y1 - 1))) (sz := 7) rfl (fun w => by kernel_rfl) (RoS.row hR0) hq0), .l (accRo (RoS.row hR0) (rxS_len z_Xs27 X0 (fun i => (A0 i).2) (fun i => (A0 i).1)) (inR_nat hq0) 0 [.int .i64 (((A0 ((IntKind.i64.wrap (y1 - 1))).toNat).1).fKind), .string ((A0 ((IntKind.i64.wrap (y1 - 1))).toNat).1).fName, .int .i64 (((A0 ((IntKind.i64.wrap (y1 - 1))).toNat).1).fSize), .bool (((A0 ((IntKind.i64.wrap (y1 - 1))).toNat).1).fSigned), .int .i64 (((A0 ((IntKind.i64.wrap (y1 - 1))).toNat).1).fTo), .int .i64 (((A0 ((IntKind.i64.wrap (y1 - 1))).toNat).1).fCount), .slice (X0 ((IntKind.i64.wrap (y1 - 1))).toNat).a (A0 ((IntKind.i64.wrap (y1 - 1))).toNat).2.1 ((A0 ((IntKind.i64.wrap (y1 - 1))).toNat).2.1 + (X0 ((IntKind.i64.wrap (y1 - 1))).toNat).c)] rfl), .o, .a 0, .o, .a 0, .b (z_eqlF hq1), .o, .b (z_eqlF hq2), .o, .b (z_eqlT hq3), .o, .o] [] (fun b => by kernel_rfl)
        · replace e := cond_eq_or e
          rcases e with ⟨hq4, e⟩ | ⟨hq4, e⟩
          · injection e with e; subst e; exact fn_conG hU (P := Tryd.prog) Tryd.func15 (fun xs w => by kernel_rfl) _ _ [.o, .o, .o, .o, .q (ixRo_ok (kd := .i64) (T := 24) (x := (IntKind.i64.wrap (y1 - 1))) (sz := 7) rfl (fun w => by kernel_rfl) (RoS.row hR0) hq0), .l (accRo (RoS.row hR0) (rxS_len z_Xs27 X0 (fun i => (A0 i).2) (fun i => (A0 i).1)) (inR_nat hq0) 0 [.int .i64 (((A0 ((IntKind.i64.wrap (y1 - 1))).toNat).1).fKind), .string ((A0 ((IntKind.i64.wrap (y1 - 1))).toNat).1).fName, .int .i64 (((A0 ((IntKind.i64.wrap (y1 - 1))).toNat).1).fSize), .bool (((A0 ((IntKind.i64.wrap (y1 - 1))).toNat).1).fSigned), .int .i64 (((A0 ((IntKind.i64.wrap (y1 - 1))).toNat).1).fTo), .int .i64 (((A0 ((IntKind.i64.wrap (y1 - 1))).toNat).1).fCount), .slice (X0 ((IntKind.i64.wrap (y1 - 1))).toNat).a (A0 ((IntKind.i64.wrap (y1 - 1))).toNat).2.1 ((A0 ((IntKind.i64.wrap (y1 - 1))).toNat).2.1 + (X0 ((IntKind.i64.wrap (y1 - 1))).toNat).c)] rfl), .o, .a 0, .o, .a 0, .b (z_eqlF hq1), .o, .b (z_eqlF hq2), .o, .b (z_eqlF hq3), .o, .b (z_eqlT hq4), .o, .o, .a 0, .o] [] (fun b => by kernel_rfl)
          · replace e := cond_eq_or e
            rcases e with ⟨hq5, e⟩ | ⟨hq5, e⟩
            · injection e with e; subst e; exact fn_conG hU (P := Tryd.prog) Tryd.func15 (fun xs w => by kernel_rfl) _ _ [.o, .o, .o, .o, .q (ixRo_ok (kd := .i64) (T := 24) (x := (IntKind.i64.wrap (y1 - 1))) (sz := 7) rfl (fun w => by kernel_rfl) (RoS.row hR0) hq0), .l (accRo (RoS.row hR0) (rxS_len z_Xs27 X0 (fun i => (A0 i).2) (fun i => (A0 i).1)) (inR_nat hq0) 0 [.int .i64 (((A0 ((IntKind.i64.wrap (y1 - 1))).toNat).1).fKind), .string ((A0 ((IntKind.i64.wrap (y1 - 1))).toNat).1).fName, .int .i64 (((A0 ((IntKind.i64.wrap (y1 - 1))).toNat).1).fSize), .bool (((A0 ((IntKind.i64.wrap (y1 - 1))).toNat).1).fSigned), .int .i64 (((A0 ((IntKind.i64.wrap (y1 - 1))).toNat).1).fTo), .int .i64 (((A0 ((IntKind.i64.wrap (y1 - 1))).toNat).1).fCount), .slice (X0 ((IntKind.i64.wrap (y1 - 1))).toNat).a (A0 ((IntKind.i64.wrap (y1 - 1))).toNat).2.1 ((A0 ((IntKind.i64.wrap (y1 - 1))).toNat).2.1 + (X0 ((IntKind.i64.wrap (y1 - 1))).toNat).c)] rfl), .o, .a 0, .o, .a 0, .b (z_eqlF hq1), .o, .b (z_eqlF hq2), .o, .b (z_eqlF hq3), .o, .b (z_eqlF hq4), .o, .b (z_eqlT hq5), .o, .o, .a 0, .o] [] (fun b => by kernel_rfl)
            · injection e with e; subst e; exact fn_conG hU (P := Tryd.prog) Tryd.func15 (fun xs w => by kernel_rfl) _ _ [.o, .o, .o, .o, .q (ixRo_ok (kd := .i64) (T := 24) (x := (IntKind.i64.wrap (y1 - 1))) (sz := 7) rfl (fun w => by kernel_rfl) (RoS.row hR0) hq0), .l (accRo (RoS.row hR0) (rxS_len z_Xs27 X0 (fun i => (A0 i).2) (fun i => (A0 i).1)) (inR_nat hq0) 0 [.int .i64 (((A0 ((IntKind.i64.wrap (y1 - 1))).toNat).1).fKind), .string ((A0 ((IntKind.i64.wrap (y1 - 1))).toNat).1).fName, .int .i64 (((A0 ((IntKind.i64.wrap (y1 - 1))).toNat).1).fSize), .bool (((A0 ((IntKind.i64.wrap (y1 - 1))).toNat).1).fSigned), .int .i64 (((A0 ((IntKind.i64.wrap (y1 - 1))).toNat).1).fTo), .int .i64 (((A0 ((IntKind.i64.wrap (y1 - 1))).toNat).1).fCount), .slice (X0 ((IntKind.i64.wrap (y1 - 1))).toNat).a (A0 ((IntKind.i64.wrap (y1 - 1))).toNat).2.1 ((A0 ((IntKind.i64.wrap (y1 - 1))).toNat).2.1 + (X0 ((IntKind.i64.wrap (y1 - 1))).toNat).c)] rfl), .o, .a 0, .o, .a 0, .b (z_eqlF hq1), .o, .b (z_eqlF hq2), .o, .b (z_eqlF hq3), .o, .b (z_eqlF hq4), .o, .b (z_eqlF hq5), .o, .o] [] (fun b => by kernel_rfl)
  · exact none_some e
noncomputable def m_btf_sizeOf_v2_F : Nat → (Nat) → (Nat → (Xs27 × (Nat × (Nat → Member)))) → (Int) → Option (Int)
  | 0 => fun _ _ _ => none
  | k + 1 => fun n0 A0 y1 => m_btf_sizeOf_v2 n0 A0 y1 (m_btf_sizeOf_v2_F k)
end
theorem ok_btf_sizeOf_v2_F (k : Nat) : ∀ {M : Nat → Prop} {B0 : Nat} {S : World → Prop} (hU : Up M B0 S) (a0 : Option Addr) (p0 : Nat) (q0 : Nat) (n0 : Nat) (k0 : Nat) (X0 : Nat → RoX) (A0 : Nat → (Xs27 × (Nat × (Nat → Member)))) (hR0 : RoS S h_Xs27 t_Xs27 7 c_Member 3 a0 p0 q0 n0 X0 (fun i => (A0 i).2) (fun i => (A0 i).1)) (y1 : Int) (r : Int) (e : m_btf_sizeOf_v2_F k n0 A0 y1 = some r), ConG Tryd.prog S 15 #[.slice a0 n0 (n0 + k0), .int .i64 (y1)] (.int .i64 (r)) := by
  induction k with
  | zero => intro M B0 S hU a0 p0 q0 n0 k0 X0 A0 hR0 y1 r e; cases e
  | succ k ih => intro M B0 S hU a0 p0 q0 n0 k0 X0 A0 hR0 y1 r e; exact ok_btf_sizeOf_v2 hU a0 p0 q0 n0 k0 X0 A0 hR0 y1 (m_btf_sizeOf_v2_F k) (fun hU a0 p0 q0 n0 k0 X0 A0 hR0 y1 r e => ih hU a0 p0 q0 n0 k0 X0 A0 hR0 y1 r e) r e
inductive Sh_btf_fits_v2_L0 where
  | c0 (s0_0 : Int) (s0_1 : Int)
inductive Ex_btf_fits_v2_L0 where
  | e0 (c0_0 : Int) (c0_1 : ByteArray) (c0_2 : Int) (c0_3 : Bool) (c0_4 : Int) (c0_5 : Int)
  | e1 (c1_0 : Int) (c1_1 : ByteArray) (c1_2 : Int) (c1_3 : Bool) (c1_4 : Int) (c1_5 : Int)
noncomputable def st_btf_fits_v2_L0 (n0 : Nat) (A0 : Nat → (Xs27 × (Nat × (Nat → Member)))) (y1 : Int) : Sh_btf_fits_v2_L0 → Option (Sh_btf_fits_v2_L0 ⊕ Ex_btf_fits_v2_L0)
  | .c0 s0_0 s0_1 =>
    bif decide (s0_1 < ((A0 ((IntKind.i64.wrap (y1 - 1))).toNat).2.1 : Int)) then
      (bif inR s0_1 (A0 ((IntKind.i64.wrap (y1 - 1))).toNat).2.1 then
        (bif inR (IntKind.i64.wrap (y1 - 1)) n0 then
          (bif decide ((((A0 ((IntKind.i64.wrap (y1 - 1))).toNat).2.2 (s0_1).toNat)).fBits < 0) then
            (some (.inr (.e1 ((A0 ((IntKind.i64.wrap (y1 - 1))).toNat).1).fKind ((A0 ((IntKind.i64.wrap (y1 - 1))).toNat).1).fName ((A0 ((IntKind.i64.wrap (y1 - 1))).toNat).1).fSize ((A0 ((IntKind.i64.wrap (y1 - 1))).toNat).1).fSigned ((A0 ((IntKind.i64.wrap (y1 - 1))).toNat).1).fTo ((A0 ((IntKind.i64.wrap (y1 - 1))).toNat).1).fCount)))
          else (bif (zrem (((A0 ((IntKind.i64.wrap (y1 - 1))).toNat).2.2 (s0_1).toNat)).fBits 8) == 0 then
            (bif decide ((zquo (((A0 ((IntKind.i64.wrap (y1 - 1))).toNat).2.2 (s0_1).toNat)).fBits 8) < s0_0) then
              (some (.inr (.e1 ((A0 ((IntKind.i64.wrap (y1 - 1))).toNat).1).fKind ((A0 ((IntKind.i64.wrap (y1 - 1))).toNat).1).fName ((A0 ((IntKind.i64.wrap (y1 - 1))).toNat).1).fSize ((A0 ((IntKind.i64.wrap (y1 - 1))).toNat).1).fSigned ((A0 ((IntKind.i64.wrap (y1 - 1))).toNat).1).fTo ((A0 ((IntKind.i64.wrap (y1 - 1))).toNat).1).fCount)))
            else ((m_btf_sizeOf_v2_F 64 n0 A0 (((A0 ((IntKind.i64.wrap (y1 - 1))).toNat).2.2 (s0_1).toNat)).fType).bind fun rb0 =>
            bif decide (((A0 ((IntKind.i64.wrap (y1 - 1))).toNat).1).fSize < (IntKind.i64.wrap ((zquo (((A0 ((IntKind.i64.wrap (y1 - 1))).toNat).2.2 (s0_1).toNat)).fBits 8) + rb0))) then
              (some (.inr (.e1 ((A0 ((IntKind.i64.wrap (y1 - 1))).toNat).1).fKind ((A0 ((IntKind.i64.wrap (y1 - 1))).toNat).1).fName ((A0 ((IntKind.i64.wrap (y1 - 1))).toNat).1).fSize ((A0 ((IntKind.i64.wrap (y1 - 1))).toNat).1).fSigned ((A0 ((IntKind.i64.wrap (y1 - 1))).toNat).1).fTo ((A0 ((IntKind.i64.wrap (y1 - 1))).toNat).1).fCount)))
            else (some (.inl (.c0 (IntKind.i64.wrap ((zquo (((A0 ((IntKind.i64.wrap (y1 - 1))).toNat).2.2 (s0_1).toNat)).fBits 8) + rb0)) (IntKind.i64.wrap (s0_1 + 1)))))))
          else (some (.inr (.e1 ((A0 ((IntKind.i64.wrap (y1 - 1))).toNat).1).fKind ((A0 ((IntKind.i64.wrap (y1 - 1))).toNat).1).fName ((A0 ((IntKind.i64.wrap (y1 - 1))).toNat).1).fSize ((A0 ((IntKind.i64.wrap (y1 - 1))).toNat).1).fSigned ((A0 ((IntKind.i64.wrap (y1 - 1))).toNat).1).fTo ((A0 ((IntKind.i64.wrap (y1 - 1))).toNat).1).fCount)))))
        else (none))
      else (none))
    else (some (.inr (.e0 ((A0 ((IntKind.i64.wrap (y1 - 1))).toNat).1).fKind ((A0 ((IntKind.i64.wrap (y1 - 1))).toNat).1).fName ((A0 ((IntKind.i64.wrap (y1 - 1))).toNat).1).fSize ((A0 ((IntKind.i64.wrap (y1 - 1))).toNat).1).fSigned ((A0 ((IntKind.i64.wrap (y1 - 1))).toNat).1).fTo ((A0 ((IntKind.i64.wrap (y1 - 1))).toNat).1).fCount)))
noncomputable def bd_btf_fits_v2_L0 : Code := codeOf Tryd.f13 [1, 1, 0, 1, 0, 1, 1, 1, 0, 1, 1, 0, 0]
def fl_btf_fits_v2_L0 (a0 : Option Addr) (p0 : Nat) (q0 : Nat) (n0 : Nat) (k0 : Nat) (X0 : Nat → RoX) (A0 : Nat → (Xs27 × (Nat × (Nat → Member)))) (y1 : Int) : Sh_btf_fits_v2_L0 → List L1 → List Value
  | .c0 s0_0 s0_1, ls => [.slice a0 n0 (n0 + k0), .bool false, .pointer (some ⟨(lget ls 0).n, 0, none⟩), .int .i64 (s0_0), .slice (X0 ((IntKind.i64.wrap (y1 - 1))).toNat).a (A0 ((IntKind.i64.wrap (y1 - 1))).toNat).2.1 ((A0 ((IntKind.i64.wrap (y1 - 1))).toNat).2.1 + (X0 ((IntKind.i64.wrap (y1 - 1))).toNat).c), .int .i64 (((A0 ((IntKind.i64.wrap (y1 - 1))).toNat).2.1 : Int)), .int .i64 (s0_1)]
def mf_btf_fits_v2_L0 : Sh_btf_fits_v2_L0 → List (Nat × Nat)
  | .c0 _ _ => [(1, 3), (3, 18), (3, 32)]
noncomputable def fr_btf_fits_v2_L0 (a0 : Option Addr) (p0 : Nat) (q0 : Nat) (n0 : Nat) (k0 : Nat) (X0 : Nat → RoX) (A0 : Nat → (Xs27 × (Nat × (Nat → Member)))) (y1 : Int) (s : Sh_btf_fits_v2_L0) : List L1 → List Value := mrgF (mf_btf_fits_v2_L0 s) (fl_btf_fits_v2_L0 a0 p0 q0 n0 k0 X0 A0 y1 s) 1
def Hs_btf_fits_v2_L0 (a0 : Option Addr) (p0 : Nat) (q0 : Nat) (n0 : Nat) (k0 : Nat) (X0 : Nat → RoX) (A0 : Nat → (Xs27 × (Nat × (Nat → Member)))) (y1 : Int) : Sh_btf_fits_v2_L0 → List L1 → List Obj
  | .c0 s0_0 s0_1, ls => [.cells #[.int .i64 (((A0 ((IntKind.i64.wrap (y1 - 1))).toNat).1).fKind), .string ((A0 ((IntKind.i64.wrap (y1 - 1))).toNat).1).fName, .int .i64 (((A0 ((IntKind.i64.wrap (y1 - 1))).toNat).1).fSize), .bool (((A0 ((IntKind.i64.wrap (y1 - 1))).toNat).1).fSigned), .int .i64 (((A0 ((IntKind.i64.wrap (y1 - 1))).toNat).1).fTo), .int .i64 (((A0 ((IntKind.i64.wrap (y1 - 1))).toNat).1).fCount), .slice (X0 ((IntKind.i64.wrap (y1 - 1))).toNat).a (A0 ((IntKind.i64.wrap (y1 - 1))).toNat).2.1 ((A0 ((IntKind.i64.wrap (y1 - 1))).toNat).2.1 + (X0 ((IntKind.i64.wrap (y1 - 1))).toNat).c)] 27, unb]
def vl_btf_fits_v2_L0 (a0 : Option Addr) (p0 : Nat) (q0 : Nat) (n0 : Nat) (k0 : Nat) (X0 : Nat → RoX) (A0 : Nat → (Xs27 × (Nat × (Nat → Member)))) (y1 : Int) : Ex_btf_fits_v2_L0 → List L1 → List Value
  | .e0 c0_0 c0_1 c0_2 c0_3 c0_4 c0_5, ls => [.slice a0 n0 (n0 + k0), .bool false, .pointer (some ⟨(lget ls 0).n, 0, none⟩), .slice (X0 ((IntKind.i64.wrap (y1 - 1))).toNat).a (A0 ((IntKind.i64.wrap (y1 - 1))).toNat).2.1 ((A0 ((IntKind.i64.wrap (y1 - 1))).toNat).2.1 + (X0 ((IntKind.i64.wrap (y1 - 1))).toNat).c), .int .i64 (((A0 ((IntKind.i64.wrap (y1 - 1))).toNat).2.1 : Int))]
  | .e1 c1_0 c1_1 c1_2 c1_3 c1_4 c1_5, ls => [.slice a0 n0 (n0 + k0), .bool false, .pointer (some ⟨(lget ls 0).n, 0, none⟩), .slice (X0 ((IntKind.i64.wrap (y1 - 1))).toNat).a (A0 ((IntKind.i64.wrap (y1 - 1))).toNat).2.1 ((A0 ((IntKind.i64.wrap (y1 - 1))).toNat).2.1 + (X0 ((IntKind.i64.wrap (y1 - 1))).toNat).c), .int .i64 (((A0 ((IntKind.i64.wrap (y1 - 1))).toNat).2.1 : Int))]
def mk_btf_fits_v2_L0 : Ex_btf_fits_v2_L0 → List (Nat × Nat)
  | .e0 _ _ _ _ _ _ => [(1, 3), (2, 19), (2, 33)]
  | .e1 _ _ _ _ _ _ => [(1, 3), (2, 19), (2, 33)]
noncomputable def vf_btf_fits_v2_L0 (a0 : Option Addr) (p0 : Nat) (q0 : Nat) (n0 : Nat) (k0 : Nat) (X0 : Nat → RoX) (A0 : Nat → (Xs27 × (Nat × (Nat → Member)))) (y1 : Int) (r : Ex_btf_fits_v2_L0) : List L1 → List Value := mrgF (mk_btf_fits_v2_L0 r) (vl_btf_fits_v2_L0 a0 p0 q0 n0 k0 X0 A0 y1 r) 1
def Hf_btf_fits_v2_L0 (a0 : Option Addr) (p0 : Nat) (q0 : Nat) (n0 : Nat) (k0 : Nat) (X0 : Nat → RoX) (A0 : Nat → (Xs27 × (Nat × (Nat → Member)))) (y1 : Int) : Ex_btf_fits_v2_L0 → List L1 → List Obj
  | .e0 c0_0 c0_1 c0_2 c0_3 c0_4 c0_5, ls => [.cells #[.int .i64 (c0_0), .string c0_1, .int .i64 (c0_2), .bool (c0_3), .int .i64 (c0_4), .int .i64 (c0_5), .slice (X0 ((IntKind.i64.wrap (y1 - 1))).toNat).a (A0 ((IntKind.i64.wrap (y1 - 1))).toNat).2.1 ((A0 ((IntKind.i64.wrap (y1 - 1))).toNat).2.1 + (X0 ((IntKind.i64.wrap (y1 - 1))).toNat).c)] 27, unb]
  | .e1 c1_0 c1_1 c1_2 c1_3 c1_4 c1_5, ls => [.cells #[.int .i64 (c1_0), .string c1_1, .int .i64 (c1_2), .bool (c1_3), .int .i64 (c1_4), .int .i64 (c1_5), .slice (X0 ((IntKind.i64.wrap (y1 - 1))).toNat).a (A0 ((IntKind.i64.wrap (y1 - 1))).toNat).2.1 ((A0 ((IntKind.i64.wrap (y1 - 1))).toNat).2.1 + (X0 ((IntKind.i64.wrap (y1 - 1))).toNat).c)] 27, unb]
def ex_btf_fits_v2_L0 : Ex_btf_fits_v2_L0 → Ex
  | .e0 _ _ _ _ _ _ => (.exit 1)
  | .e1 _ _ _ _ _ _ => .ret
section
variable {M : Nat → Prop} {B0 : Nat} {S : World → Prop} (hU : Up M B0 S) (a0 : Option Addr) (p0 : Nat) (q0 : Nat) (n0 : Nat) (k0 : Nat) (X0 : Nat → RoX) (A0 : Nat → (Xs27 × (Nat × (Nat → Member)))) (hR0 : RoS S h_Xs27 t_Xs27 7 c_Member 3 a0 p0 q0 n0 X0 (fun i => (A0 i).2) (fun i => (A0 i).1)) (y1 : Int)
include hU a0 p0 q0 n0 k0 X0 A0 hR0 y1
theorem go_btf_fits_v2_L0 (s : Sh_btf_fits_v2_L0) (r : Ex_btf_fits_v2_L0) (h : lpO (st_btf_fits_v2_L0 n0 A0 y1) s = some r) : GoesG Tryd.prog M B0 S (.loop bd_btf_fits_v2_L0) 2 (fr_btf_fits_v2_L0 a0 p0 q0 n0 k0 X0 A0 y1 s) (Hs_btf_fits_v2_L0 a0 p0 q0 n0 k0 X0 A0 y1 s) (ex_btf_fits_v2_L0 r) 1 (vf_btf_fits_v2_L0 a0 p0 q0 n0 k0 X0 A0 y1 r) (Hf_btf_fits_v2_L0 a0 p0 q0 n0 k0 X0 A0 y1 r) 2 :=
  goes_lpO (fun s q e => by
    cases s with
    | c0 s0_0 s0_1 =>
      unfold st_btf_fits_v2_L0 at e
      dsimp only at e
      replace e := cond_eq_or e
      rcases e with ⟨hq0, e⟩ | ⟨hq0, e⟩
      · replace e := cond_eq_or e
        rcases e with ⟨hq1, e⟩ | ⟨hq1, e⟩
        · replace e := cond_eq_or e
          rcases e with ⟨hq2, e⟩ | ⟨hq2, e⟩
          · replace e := cond_eq_or e
            rcases e with ⟨hq3, e⟩ | ⟨hq3, e⟩
            · cases e; exact ⟨ne_ret, goes_runM hU [.b (z_lssT hq0), .q (ixRo_ok (kd := .i64) (T := 25) (x := s0_1) (sz := 3) rfl (fun w => by kernel_rfl) (RoS.els hR0 ((IntKind.i64.wrap (y1 - 1))).toNat (inR_nat hq2)) hq1), .l (accRo (RoS.els hR0 ((IntKind.i64.wrap (y1 - 1))).toNat (inR_nat hq2)) c_Member_len (inR_nat hq1) 0 [.string (((A0 ((IntKind.i64.wrap (y1 - 1))).toNat).2.2 (s0_1).toNat)).fName, .int .i64 ((((A0 ((IntKind.i64.wrap (y1 - 1))).toNat).2.2 (s0_1).toNat)).fType), .int .i64 ((((A0 ((IntKind.i64.wrap (y1 - 1))).toNat).2.2 (s0_1).toNat)).fBits)] rfl), .o, .a 2, .o, .a 2, .b (z_lssT hq3), .o, .o, .o, .o, .o] [0] (fun b => rfl) (by decide) rfl rfl (fun b => by kernel_rfl)⟩
            · replace e := cond_eq_or e
              rcases e with ⟨hq4, e⟩ | ⟨hq4, e⟩
              · replace e := cond_eq_or e
                rcases e with ⟨hq5, e⟩ | ⟨hq5, e⟩
                · cases e; exact ⟨ne_ret, goes_runM hU [.b (z_lssT hq0), .q (ixRo_ok (kd := .i64) (T := 25) (x := s0_1) (sz := 3) rfl (fun w => by kernel_rfl) (RoS.els hR0 ((IntKind.i64.wrap (y1 - 1))).toNat (inR_nat hq2)) hq1), .l (accRo (RoS.els hR0 ((IntKind.i64.wrap (y1 - 1))).toNat (inR_nat hq2)) c_Member_len (inR_nat hq1) 0 [.string (((A0 ((IntKind.i64.wrap (y1 - 1))).toNat).2.2 (s0_1).toNat)).fName, .int .i64 ((((A0 ((IntKind.i64.wrap (y1 - 1))).toNat).2.2 (s0_1).toNat)).fType), .int .i64 ((((A0 ((IntKind.i64.wrap (y1 - 1))).toNat).2.2 (s0_1).toNat)).fBits)] rfl), .o, .a 2, .o, .a 2, .b (z_lssF hq3), .o, .o, .a 2, .ov (z_rem Tryd.prog 3 (.tmp 36) (.const (.int .i64 (8))) (((A0 ((IntKind.i64.wrap (y1 - 1))).toNat).2.2 (s0_1).toNat)).fBits 8 (by decide)), .b (z_neqT hq4), .o, .o, .o, .a 2, .ov (z_quo Tryd.prog 3 (.tmp 42) (.const (.int .i64 (8))) (((A0 ((IntKind.i64.wrap (y1 - 1))).toNat).2.2 (s0_1).toNat)).fBits 8 (by decide)), .o, .b (z_lssT hq5), .o, .o] [0] (fun b => rfl) (by decide) rfl rfl (fun b => by kernel_rfl)⟩
                · replace e := bindO_eq e
                  obtain ⟨rb0, e_rb0, e⟩ := e
                  try dsimp only at e
                  replace e := cond_eq_or e
                  rcases e with ⟨hq6, e⟩ | ⟨hq6, e⟩
                  · cases e; exact ⟨ne_ret, goes_runM hU [.b (z_lssT hq0), .q (ixRo_ok (kd := .i64) (T := 25) (x := s0_1) (sz := 3) rfl (fun w => by kernel_rfl) (RoS.els hR0 ((IntKind.i64.wrap (y1 - 1))).toNat (inR_nat hq2)) hq1), .l (accRo (RoS.els hR0 ((IntKind.i64.wrap (y1 - 1))).toNat (inR_nat hq2)) c_Member_len (inR_nat hq1) 0 [.string (((A0 ((IntKind.i64.wrap (y1 - 1))).toNat).2.2 (s0_1).toNat)).fName, .int .i64 ((((A0 ((IntKind.i64.wrap (y1 - 1))).toNat).2.2 (s0_1).toNat)).fType), .int .i64 ((((A0 ((IntKind.i64.wrap (y1 - 1))).toNat).2.2 (s0_1).toNat)).fBits)] rfl), .o, .a 2, .o, .a 2, .b (z_lssF hq3), .o, .o, .a 2, .ov (z_rem Tryd.prog 3 (.tmp 36) (.const (.int .i64 (8))) (((A0 ((IntKind.i64.wrap (y1 - 1))).toNat).2.2 (s0_1).toNat)).fBits 8 (by decide)), .b (z_neqT hq4), .o, .o, .o, .a 2, .ov (z_quo Tryd.prog 3 (.tmp 42) (.const (.int .i64 (8))) (((A0 ((IntKind.i64.wrap (y1 - 1))).toNat).2.2 (s0_1).toNat)).fBits 8 (by decide)), .o, .b (z_lssF hq5), .o, .r [0, 1, 2, 3, 4, 5] [] [6, 7, 8], .o, .a 2, .ov (z_quo Tryd.prog 3 (.tmp 48) (.const (.int .i64 (8))) (((A0 ((IntKind.i64.wrap (y1 - 1))).toNat).2.2 (s0_1).toNat)).fBits 8 (by decide)), .o, .o, .a 2, .cg (ok_btf_sizeOf_v2_F 64 hU a0 p0 q0 n0 k0 X0 A0 hR0 (((A0 ((IntKind.i64.wrap (y1 - 1))).toNat).2.2 (s0_1).toNat)).fType rb0 e_rb0), .o, .o, .o, .o, .a 0, .b (z_gtrT hq6), .o] [0] (fun b => rfl) (by decide) rfl rfl (fun b => by kernel_rfl)⟩
                  · cases e; exact goes_runM hU [.b (z_lssT hq0), .q (ixRo_ok (kd := .i64) (T := 25) (x := s0_1) (sz := 3) rfl (fun w => by kernel_rfl) (RoS.els hR0 ((IntKind.i64.wrap (y1 - 1))).toNat (inR_nat hq2)) hq1), .l (accRo (RoS.els hR0 ((IntKind.i64.wrap (y1 - 1))).toNat (inR_nat hq2)) c_Member_len (inR_nat hq1) 0 [.string (((A0 ((IntKind.i64.wrap (y1 - 1))).toNat).2.2 (s0_1).toNat)).fName, .int .i64 ((((A0 ((IntKind.i64.wrap (y1 - 1))).toNat).2.2 (s0_1).toNat)).fType), .int .i64 ((((A0 ((IntKind.i64.wrap (y1 - 1))).toNat).2.2 (s0_1).toNat)).fBits)] rfl), .o, .a 2, .o, .a 2, .b (z_lssF hq3), .o, .o, .a 2, .ov (z_rem Tryd.prog 3 (.tmp 36) (.const (.int .i64 (8))) (((A0 ((IntKind.i64.wrap (y1 - 1))).toNat).2.2 (s0_1).toNat)).fBits 8 (by decide)), .b (z_neqT hq4), .o, .o, .o, .a 2, .ov (z_quo Tryd.prog 3 (.tmp 42) (.const (.int .i64 (8))) (((A0 ((IntKind.i64.wrap (y1 - 1))).toNat).2.2 (s0_1).toNat)).fBits 8 (by decide)), .o, .b (z_lssF hq5), .o, .r [0, 1, 2, 3, 4, 5] [] [6, 7, 8], .o, .a 2, .ov (z_quo Tryd.prog 3 (.tmp 48) (.const (.int .i64 (8))) (((A0 ((IntKind.i64.wrap (y1 - 1))).toNat).2.2 (s0_1).toNat)).fBits 8 (by decide)), .o, .o, .a 2, .cg (ok_btf_sizeOf_v2_F 64 hU a0 p0 q0 n0 k0 X0 A0 hR0 (((A0 ((IntKind.i64.wrap (y1 - 1))).toNat).2.2 (s0_1).toNat)).fType rb0 e_rb0), .o, .o, .o, .o, .a 0, .b (z_gtrF hq6), .o, .o] [0] (fun b => rfl) (by decide) rfl rfl (fun b => by kernel_rfl)
              · cases e; exact ⟨ne_ret, goes_runM hU [.b (z_lssT hq0), .q (ixRo_ok (kd := .i64) (T := 25) (x := s0_1) (sz := 3) rfl (fun w => by kernel_rfl) (RoS.els hR0 ((IntKind.i64.wrap (y1 - 1))).toNat (inR_nat hq2)) hq1), .l (accRo (RoS.els hR0 ((IntKind.i64.wrap (y1 - 1))).toNat (inR_nat hq2)) c_Member_len (inR_nat hq1) 0 [.string (((A0 ((IntKind.i64.wrap (y1 - 1))).toNat).2.2 (s0_1).toNat)).fName, .int .i64 ((((A0 ((IntKind.i64.wrap (y1 - 1))).toNat).2.2 (s0_1).toNat)).fType), .int .i64 ((((A0 ((IntKind.i64.wrap (y1 - 1))).toNat).2.2 (s0_1).toNat)).fBits)] rfl), .o, .a 2, .o, .a 2, .b (z_lssF hq3), .o, .o, .a 2, .ov (z_rem Tryd.prog 3 (.tmp 36) (.const (.int .i64 (8))) (((A0 ((IntKind.i64.wrap (y1 - 1))).toNat).2.2 (s0_1).toNat)).fBits 8 (by decide)), .b (z_neqF hq4), .o, .o, .o, .o] [0] (fun b => rfl) (by decide) rfl rfl (fun b => by kernel_rfl)⟩
          · exact none_some e
        · exact none_some e
      · cases e; exact ⟨ne_exit 1, goes_runM hU [.b (z_lssF hq0)] [0] (fun b => rfl) (by decide) rfl rfl (fun b => by kernel_rfl)⟩) s r h
noncomputable def t0_btf_fits_v2_L0_0 (a0 : Option Addr) (p0 : Nat) (q0 : Nat) (n0 : Nat) (k0 : Nat) (X0 : Nat → RoX) (A0 : Nat → (Xs27 × (Nat × (Nat → Member)))) (y1 : Int) (s0_0 : Int) (s0_1 : Int) (ls : List L1) : List Value := List.append [.slice a0 n0 (n0 + k0), .int .i64 (y1), undef, undef, .bool false, .pointer (some ⟨(lget ls 0).n, 0, none⟩), .int .i64 (s0_0), undef, undef, .slice a0 n0 (n0 + k0), .int .i64 (y1), .int .i64 ((IntKind.i64.wrap (y1 - 1))), .pointer (some ⟨p0, q0 + ((IntKind.i64.wrap (y1 - 1))).toNat * 7, none⟩), .agg #[.int .i64 (((A0 ((IntKind.i64.wrap (y1 - 1))).toNat).1).fKind), .string ((A0 ((IntKind.i64.wrap (y1 - 1))).toNat).1).fName, .int .i64 (((A0 ((IntKind.i64.wrap (y1 - 1))).toNat).1).fSize), .bool (((A0 ((IntKind.i64.wrap (y1 - 1))).toNat).1).fSigned), .int .i64 (((A0 ((IntKind.i64.wrap (y1 - 1))).toNat).1).fTo), .int .i64 (((A0 ((IntKind.i64.wrap (y1 - 1))).toNat).1).fCount), .slice (X0 ((IntKind.i64.wrap (y1 - 1))).toNat).a (A0 ((IntKind.i64.wrap (y1 - 1))).toNat).2.1 ((A0 ((IntKind.i64.wrap (y1 - 1))).toNat).2.1 + (X0 ((IntKind.i64.wrap (y1 - 1))).toNat).c)], .pointer (some ⟨(lget ls 0).n, 0, none⟩), .int .i64 (((A0 ((IntKind.i64.wrap (y1 - 1))).toNat).1).fKind), .bool false, .bool false] (List.append (und 4) (List.append [.bool true, .bool true, .pointer (some ⟨(lget ls 0).n, 6, none⟩), .slice (X0 ((IntKind.i64.wrap (y1 - 1))).toNat).a (A0 ((IntKind.i64.wrap (y1 - 1))).toNat).2.1 ((A0 ((IntKind.i64.wrap (y1 - 1))).toNat).2.1 + (X0 ((IntKind.i64.wrap (y1 - 1))).toNat).c), .int .i64 (((A0 ((IntKind.i64.wrap (y1 - 1))).toNat).2.1 : Int)), .int .i64 (s0_1)] (und 32)))
def pre_btf_fits_v2_L0_0 (a0 : Option Addr) (p0 : Nat) (q0 : Nat) (n0 : Nat) (k0 : Nat) (X0 : Nat → RoX) (A0 : Nat → (Xs27 × (Nat × (Nat → Member)))) (y1 : Int) (s0_0 : Int) (s0_1 : Int) (ls : List L1) : List Obj := [.cells #[.int .i64 (((A0 ((IntKind.i64.wrap (y1 - 1))).toNat).1).fKind), .string ((A0 ((IntKind.i64.wrap (y1 - 1))).toNat).1).fName, .int .i64 (((A0 ((IntKind.i64.wrap (y1 - 1))).toNat).1).fSize), .bool (((A0 ((IntKind.i64.wrap (y1 - 1))).toNat).1).fSigned), .int .i64 (((A0 ((IntKind.i64.wrap (y1 - 1))).toNat).1).fTo), .int .i64 (((A0 ((IntKind.i64.wrap (y1 - 1))).toNat).1).fCount), .slice (X0 ((IntKind.i64.wrap (y1 - 1))).toNat).a (A0 ((IntKind.i64.wrap (y1 - 1))).toNat).2.1 ((A0 ((IntKind.i64.wrap (y1 - 1))).toNat).2.1 + (X0 ((IntKind.i64.wrap (y1 - 1))).toNat).c)] 27]
theorem sp0_btf_fits_v2_L0_0_ok (s0_0 : Int) (s0_1 : Int) (c0_0 : Int) (c0_1 : ByteArray) (c0_2 : Int) (c0_3 : Bool) (c0_4 : Int) (c0_5 : Int) (h : lpO (st_btf_fits_v2_L0 n0 A0 y1) (.c0 s0_0 s0_1) = some (.e0 c0_0 c0_1 c0_2 c0_3 c0_4 c0_5)) : SpcG Tryd.prog M B0 S ⟨fun ls => .code (.loop bd_btf_fits_v2_L0) (t0_btf_fits_v2_L0_0 a0 p0 q0 n0 k0 X0 A0 y1 s0_0 s0_1 ls), pre_btf_fits_v2_L0_0 a0 p0 q0 n0 k0 X0 A0 y1 s0_0 s0_1, 1, (.exit 1), fun ls => vf_btf_fits_v2_L0 a0 p0 q0 n0 k0 X0 A0 y1 (.e0 c0_0 c0_1 c0_2 c0_3 c0_4 c0_5) (ls.take 1 ++ ls.drop 1), fun ls => (Hf_btf_fits_v2_L0 a0 p0 q0 n0 k0 X0 A0 y1 (.e0 c0_0 c0_1 c0_2 c0_3 c0_4 c0_5) (ls.take 1 ++ ls.drop 1)).take 1 ++ List.replicate 0 unb, fun ls => (Hf_btf_fits_v2_L0 a0 p0 q0 n0 k0 X0 A0 y1 (.e0 c0_0 c0_1 c0_2 c0_3 c0_4 c0_5) (ls.take 1 ++ ls.drop 1)).drop 1⟩ :=
  spc_of_goesM hU 0 (k0 := 1) (go_btf_fits_v2_L0 hU a0 p0 q0 n0 k0 X0 A0 hR0 y1 _ _ h) (t0_btf_fits_v2_L0_0 a0 p0 q0 n0 k0 X0 A0 y1 s0_0 s0_1) (pre_btf_fits_v2_L0_0 a0 p0 q0 n0 k0 X0 A0 y1 s0_0 s0_1) (fun _ => rfl) (fun ls h => by match ls, h with | [l0], _ => exact ⟨by kernel_rfl, by kernel_rfl⟩) (fun ls h => by match ls, h with | [l0], _ => rfl) (by decide) (by decide) (fun ls => rfl)
theorem sp1_btf_fits_v2_L0_0_ok (s0_0 : Int) (s0_1 : Int) (c1_0 : Int) (c1_1 : ByteArray) (c1_2 : Int) (c1_3 : Bool) (c1_4 : Int) (c1_5 : Int) (h : lpO (st_btf_fits_v2_L0 n0 A0 y1) (.c0 s0_0 s0_1) = some (.e1 c1_0 c1_1 c1_2 c1_3 c1_4 c1_5)) : SpcG Tryd.prog M B0 S ⟨fun ls => .code (.loop bd_btf_fits_v2_L0) (t0_btf_fits_v2_L0_0 a0 p0 q0 n0 k0 X0 A0 y1 s0_0 s0_1 ls), pre_btf_fits_v2_L0_0 a0 p0 q0 n0 k0 X0 A0 y1 s0_0 s0_1, 1, .ret, fun ls => vf_btf_fits_v2_L0 a0 p0 q0 n0 k0 X0 A0 y1 (.e1 c1_0 c1_1 c1_2 c1_3 c1_4 c1_5) (ls.take 1 ++ ls.drop 1), fun ls => (Hf_btf_fits_v2_L0 a0 p0 q0 n0 k0 X0 A0 y1 (.e1 c1_0 c1_1 c1_2 c1_3 c1_4 c1_5) (ls.take 1 ++ ls.drop 1)).take 1 ++ List.replicate 0 unb, fun ls => (Hf_btf_fits_v2_L0 a0 p0 q0 n0 k0 X0 A0 y1 (.e1 c1_0 c1_1 c1_2 c1_3 c1_4 c1_5) (ls.take 1 ++ ls.drop 1)).drop 1⟩ :=
  spc_of_goesM hU 0 (k0 := 1) (go_btf_fits_v2_L0 hU a0 p0 q0 n0 k0 X0 A0 hR0 y1 _ _ h) (t0_btf_fits_v2_L0_0 a0 p0 q0 n0 k0 X0 A0 y1 s0_0 s0_1) (pre_btf_fits_v2_L0_0 a0 p0 q0 n0 k0 X0 A0 y1 s0_0 s0_1) (fun _ => rfl) (fun ls h => by match ls, h with | [l0], _ => exact ⟨by kernel_rfl, by kernel_rfl⟩) (fun ls h => by match ls, h with | [l0], _ => rfl) (by decide) (by decide) (fun ls => rfl)
noncomputable def m_btf_fits_v2 (n0 : Nat) (A0 : Nat → (Xs27 × (Nat × (Nat → Member)))) (y1 : Int) : Option (Bool) :=
  bif inR (IntKind.i64.wrap (y1 - 1)) n0 then
    (bif ((A0 ((IntKind.i64.wrap (y1 - 1))).toNat).1).fKind == 3 then
      ((m_btf_sizeOf_v2_F 64 n0 A0 y1).bind fun r0 =>
      some (decide (r0 ≤ 65536)))
    else (bif ((A0 ((IntKind.i64.wrap (y1 - 1))).toNat).1).fKind == 4 then
      ((lpO (st_btf_fits_v2_L0 n0 A0 y1) (.c0 0 0)).bind fun g0 => match g0 with
      | .e0 g0_0 g0_1 g0_2 g0_3 g0_4 g0_5 => (some true)
      | .e1 g0_0 g0_1 g0_2 g0_3 g0_4 g0_5 => (some false))
    else (some true)))
  else (none)
theorem ok_btf_fits_v2 (r : Bool) (e : m_btf_fits_v2 n0 A0 y1 = some r) : ConG Tryd.prog S 13 #[.slice a0 n0 (n0 + k0), .int .i64 (y1)] (.bool (r)) := by
  unfold m_btf_fits_v2 at e
  replace e := cond_eq_or e
  rcases e with ⟨hq0, e⟩ | ⟨hq0, e⟩
  · replace e := cond_eq_or e
    rcases e with ⟨hq1, e⟩ | ⟨hq1, e⟩
    · replace e := bindO_eq e
      obtain ⟨r0, e_r0, e⟩ := e
      try dsimp only at e
      injection e with e; subst e; exact fn_conG hU (P := Tryd.prog) Tryd.func13 (fun xs w => by kernel_rfl) _ _ [.o, .o, .o, .o, .q (ixRo_ok (kd := .i64) (T := 24) (x := (IntKind.i64.wrap (y1 - 1))) (sz := 7) rfl (fun w => by kernel_rfl) (RoS.row hR0) hq0), .l (accRo (RoS.row hR0) (rxS_len z_Xs27 X0 (fun i => (A0 i).2) (fun i => (A0 i).1)) (inR_nat hq0) 0 [.int .i64 (((A0 ((IntKind.i64.wrap (y1 - 1))).toNat).1).fKind), .string ((A0 ((IntKind.i64.wrap (y1 - 1))).toNat).1).fName, .int .i64 (((A0 ((IntKind.i64.wrap (y1 - 1))).toNat).1).fSize), .bool (((A0 ((IntKind.i64.wrap (y1 - 1))).toNat).1).fSigned), .int .i64 (((A0 ((IntKind.i64.wrap (y1 - 1))).toNat).1).fTo), .int .i64 (((A0 ((IntKind.i64.wrap (y1 - 1))).toNat).1).fCount), .slice (X0 ((IntKind.i64.wrap (y1 - 1))).toNat).a (A0 ((IntKind.i64.wrap (y1 - 1))).toNat).2.1 ((A0 ((IntKind.i64.wrap (y1 - 1))).toNat).2.1 + (X0 ((IntKind.i64.wrap (y1 - 1))).toNat).c)] rfl), .o, .a 0, .o, .a 0, .b (z_eqlT hq1), .o, .o, .o, .cg (ok_btf_sizeOf_v2_F 64 hU a0 p0 q0 n0 k0 X0 A0 hR0 y1 r0 e_r0), .o, .o] [] (fun b => by kernel_rfl)
    · replace e := cond_eq_or e
      rcases e with ⟨hq2, e⟩ | ⟨hq2, e⟩
      · replace e := bindO_eq e
        obtain ⟨g0, e_g0, e⟩ := e
        rcases g0 with ⟨g0_0, g0_1, g0_2, g0_3, g0_4, g0_5⟩ | ⟨g0_0, g0_1, g0_2, g0_3, g0_4, g0_5⟩
        · try dsimp only at e
          injection e with e; subst e; exact fn_conG hU (P := Tryd.prog) Tryd.func13 (fun xs w => by kernel_rfl) _ _ [.o, .o, .o, .o, .q (ixRo_ok (kd := .i64) (T := 24) (x := (IntKind.i64.wrap (y1 - 1))) (sz := 7) rfl (fun w => by kernel_rfl) (RoS.row hR0) hq0), .l (accRo (RoS.row hR0) (rxS_len z_Xs27 X0 (fun i => (A0 i).2) (fun i => (A0 i).1)) (inR_nat hq0) 0 [.int .i64 (((A0 ((IntKind.i64.wrap (y1 - 1))).toNat).1).fKind), .string ((A0 ((IntKind.i64.wrap (y1 - 1))).toNat).1).fName, .int .i64 (((A0 ((IntKind.i64.wrap (y1 - 1))).toNat).1).fSize), .bool (((A0 ((IntKind.i64.wrap (y1 - 1))).toNat).1).fSigned), .int .i64 (((A0 ((IntKind.i64.wrap (y1 - 1))).toNat).1).fTo), .int .i64 (((A0 ((IntKind.i64.wrap (y1 - 1))).toNat).1).fCount), .slice (X0 ((IntKind.i64.wrap (y1 - 1))).toNat).a (A0 ((IntKind.i64.wrap (y1 - 1))).toNat).2.1 ((A0 ((IntKind.i64.wrap (y1 - 1))).toNat).2.1 + (X0 ((IntKind.i64.wrap (y1 - 1))).toNat).c)] rfl), .o, .a 0, .o, .a 0, .b (z_eqlF hq1), .o, .b (z_eqlT hq2), .o, .o, .o, .a 0, .o, .o, .cp, .cx (sp0_btf_fits_v2_L0_0_ok hU a0 p0 q0 n0 k0 X0 A0 hR0 y1 0 0 g0_0 g0_1 g0_2 g0_3 g0_4 g0_5 e_g0) [0], .o] [] (fun b => by kernel_rfl)
        · try dsimp only at e
          injection e with e; subst e; exact fn_conG hU (P := Tryd.prog) Tryd.func13 (fun xs w => by kernel_rfl) _ _ [.o, .o, .o, .o, .q (ixRo_ok (kd := .i64) (T := 24) (x := (IntKind.i64.wrap (y1 - 1))) (sz := 7) rfl (fun w => by kernel_rfl) (RoS.row hR0) hq0), .l (accRo (RoS.row hR0) (rxS_len z_Xs27 X0 (fun i => (A0 i).2) (fun i => (A0 i).1)) (inR_nat hq0) 0 [.int .i64 (((A0 ((IntKind.i64.wrap (y1 - 1))).toNat).1).fKind), .string ((A0 ((IntKind.i64.wrap (y1 - 1))).toNat).1).fName, .int .i64 (((A0 ((IntKind.i64.wrap (y1 - 1))).toNat).1).fSize), .bool (((A0 ((IntKind.i64.wrap (y1 - 1))).toNat).1).fSigned), .int .i64 (((A0 ((IntKind.i64.wrap (y1 - 1))).toNat).1).fTo), .int .i64 (((A0 ((IntKind.i64.wrap (y1 - 1))).toNat).1).fCount), .slice (X0 ((IntKind.i64.wrap (y1 - 1))).toNat).a (A0 ((IntKind.i64.wrap (y1 - 1))).toNat).2.1 ((A0 ((IntKind.i64.wrap (y1 - 1))).toNat).2.1 + (X0 ((IntKind.i64.wrap (y1 - 1))).toNat).c)] rfl), .o, .a 0, .o, .a 0, .b (z_eqlF hq1), .o, .b (z_eqlT hq2), .o, .o, .o, .a 0, .o, .o, .cp, .cx (sp1_btf_fits_v2_L0_0_ok hU a0 p0 q0 n0 k0 X0 A0 hR0 y1 0 0 g0_0 g0_1 g0_2 g0_3 g0_4 g0_5 e_g0) [0]] [] (fun b => by kernel_rfl)
      · injection e with e; subst e; exact fn_conG hU (P := Tryd.prog) Tryd.func13 (fun xs w => by kernel_rfl) _ _ [.o, .o, .o, .o, .q (ixRo_ok (kd := .i64) (T := 24) (x := (IntKind.i64.wrap (y1 - 1))) (sz := 7) rfl (fun w => by kernel_rfl) (RoS.row hR0) hq0), .l (accRo (RoS.row hR0) (rxS_len z_Xs27 X0 (fun i => (A0 i).2) (fun i => (A0 i).1)) (inR_nat hq0) 0 [.int .i64 (((A0 ((IntKind.i64.wrap (y1 - 1))).toNat).1).fKind), .string ((A0 ((IntKind.i64.wrap (y1 - 1))).toNat).1).fName, .int .i64 (((A0 ((IntKind.i64.wrap (y1 - 1))).toNat).1).fSize), .bool (((A0 ((IntKind.i64.wrap (y1 - 1))).toNat).1).fSigned), .int .i64 (((A0 ((IntKind.i64.wrap (y1 - 1))).toNat).1).fTo), .int .i64 (((A0 ((IntKind.i64.wrap (y1 - 1))).toNat).1).fCount), .slice (X0 ((IntKind.i64.wrap (y1 - 1))).toNat).a (A0 ((IntKind.i64.wrap (y1 - 1))).toNat).2.1 ((A0 ((IntKind.i64.wrap (y1 - 1))).toNat).2.1 + (X0 ((IntKind.i64.wrap (y1 - 1))).toNat).c)] rfl), .o, .a 0, .o, .a 0, .b (z_eqlF hq1), .o, .b (z_eqlF hq2), .o, .o] [] (fun b => by kernel_rfl)
  · exact none_some e
inductive Sh_btf_Check_v1_L0 where
  | c0 (s0_0 : Nat) (s0_1 : Nat → Me39) (s0_2 : Int)
inductive Ex_btf_Check_v1_L0 where
  | e0 (c0_0 : Nat) (c0_1 : Nat → Me39)
  | e1 (c1_0 : Nat) (c1_1 : Nat → Me39) (c1_2 : Int) (c1_3 : Int)
noncomputable def st_btf_Check_v1_L0 (n0 : Nat) (A0 : Nat → (Xs27 × (Nat × (Nat → Member)))) : Sh_btf_Check_v1_L0 → Option (Sh_btf_Check_v1_L0 ⊕ Ex_btf_Check_v1_L0)
  | .c0 s0_0 s0_1 s0_2 =>
    bif decide (s0_2 < (n0 : Int)) then
      (bif inR s0_2 n0 then
        ((m_btf_checkType_v2 ((A0 (s0_2).toNat).1) (A0 (s0_2).toNat).2.1 (A0 (s0_2).toNat).2.2 (n0 : Int) s0_0 s0_1).bind fun gb0 => match gb0 with
        | .e0 gb0_0 gb0_1 gb0_2 =>
        bif gb0_2 == 0 then
          (some (.inl (.c0 gb0_0 gb0_1 (IntKind.i64.wrap (s0_2 + 1)))))
        else (some (.inr (.e1 gb0_0 gb0_1 (IntKind.i64.wrap (s0_2 + 1)) gb0_2))))
      else (none))
    else (some (.inr (.e0 s0_0 s0_1)))
noncomputable def bd_btf_Check_v1_L0 : Code := codeOf Tryd.f5 [1, 1, 1, 0, 1, 0, 0]
def fl_btf_Check_v1_L0 (a0 : Option Addr) (p0 : Nat) (q0 : Nat) (n0 : Nat) (k0 : Nat) (X0 : Nat → RoX) (A0 : Nat → (Xs27 × (Nat × (Nat → Member)))) : Sh_btf_Check_v1_L0 → List L1 → List Value
  | .c0 s0_0 s0_1 s0_2, ls => [.slice a0 n0 (n0 + k0), .int .i64 (0), .int .i64 (0), .map (some (lget ls 0).n), .slice a0 n0 (n0 + k0), .int .i64 ((n0 : Int)), .int .i64 (s0_2)]
def mf_btf_Check_v1_L0 : Sh_btf_Check_v1_L0 → List (Nat × Nat)
  | .c0 _ _ _ => [(1, 1), (3, 10), (3, 46)]
noncomputable def fr_btf_Check_v1_L0 (a0 : Option Addr) (p0 : Nat) (q0 : Nat) (n0 : Nat) (k0 : Nat) (X0 : Nat → RoX) (A0 : Nat → (Xs27 × (Nat × (Nat → Member)))) (s : Sh_btf_Check_v1_L0) : List L1 → List Value := mrgF (mf_btf_Check_v1_L0 s) (fl_btf_Check_v1_L0 a0 p0 q0 n0 k0 X0 A0 s) 1
def Hs_btf_Check_v1_L0 (a0 : Option Addr) (p0 : Nat) (q0 : Nat) (n0 : Nat) (k0 : Nat) (X0 : Nat → RoX) (A0 : Nat → (Xs27 × (Nat × (Nat → Member)))) : Sh_btf_Check_v1_L0 → List L1 → List Obj
  | .c0 s0_0 s0_1 s0_2, ls => [mapG kv_Me39 vv_Me39 s0_0 s0_1, unb]
def vl_btf_Check_v1_L0 (a0 : Option Addr) (p0 : Nat) (q0 : Nat) (n0 : Nat) (k0 : Nat) (X0 : Nat → RoX) (A0 : Nat → (Xs27 × (Nat × (Nat → Member)))) : Ex_btf_Check_v1_L0 → List L1 → List Value
  | .e0 c0_0 c0_1, ls => [.slice a0 n0 (n0 + k0), .int .i64 (0), .int .i64 (0), .map (some (lget ls 0).n), .slice a0 n0 (n0 + k0), .int .i64 ((n0 : Int))]
  | .e1 c1_0 c1_1 c1_2 c1_3, ls => [.slice a0 n0 (n0 + k0), .int .i64 (c1_2), .int .i64 (c1_3), .map (some (lget ls 0).n), .slice a0 n0 (n0 + k0), .int .i64 ((n0 : Int))]
def mk_btf_Check_v1_L0 : Ex_btf_Check_v1_L0 → List (Nat × Nat)
  | .e0 _ _ => [(1, 1), (3, 10), (2, 47)]
  | .e1 _ _ _ _ => [(1, 1), (3, 10), (2, 47)]
noncomputable def vf_btf_Check_v1_L0 (a0 : Option Addr) (p0 : Nat) (q0 : Nat) (n0 : Nat) (k0 : Nat) (X0 : Nat → RoX) (A0 : Nat → (Xs27 × (Nat × (Nat → Member)))) (r : Ex_btf_Check_v1_L0) : List L1 → List Value := mrgF (mk_btf_Check_v1_L0 r) (vl_btf_Check_v1_L0 a0 p0 q0 n0 k0 X0 A0 r) 1
def Hf_btf_Check_v1_L0 (a0 : Option Addr) (p0 : Nat) (q0 : Nat) (n0 : Nat) (k0 : Nat) (X0 : Nat → RoX) (A0 : Nat → (Xs27 × (Nat × (Nat → Member)))) : Ex_btf_Check_v1_L0 → List L1 → List Obj
  | .e0 c0_0 c0_1, ls => [mapG kv_Me39 vv_Me39 c0_0 c0_1, unb]
  | .e1 c1_0 c1_1 c1_2 c1_3, ls => [mapG kv_Me39 vv_Me39 c1_0 c1_1, unb]
def ex_btf_Check_v1_L0 : Ex_btf_Check_v1_L0 → Ex
  | .e0 _ _ => (.exit 0)
  | .e1 _ _ _ _ => .ret
end
section
variable {M : Nat → Prop} {B0 : Nat} {S : World → Prop} (hU : Up M B0 S) (a0 : Option Addr) (p0 : Nat) (q0 : Nat) (n0 : Nat) (k0 : Nat) (X0 : Nat → RoX) (A0 : Nat → (Xs27 × (Nat × (Nat → Member)))) (hR0 : RoS S h_Xs27 t_Xs27 7 c_Member 3 a0 p0 q0 n0 X0 (fun i => (A0 i).2) (fun i => (A0 i).1))
include hU a0 p0 q0 n0 k0 X0 A0 hR0
theorem go_btf_Check_v1_L0 (s : Sh_btf_Check_v1_L0) (r : Ex_btf_Check_v1_L0) (h : lpO (st_btf_Check_v1_L0 n0 A0) s = some r) : GoesG Tryd.prog M B0 S (.loop bd_btf_Check_v1_L0) 2 (fr_btf_Check_v1_L0 a0 p0 q0 n0 k0 X0 A0 s) (Hs_btf_Check_v1_L0 a0 p0 q0 n0 k0 X0 A0 s) (ex_btf_Check_v1_L0 r) 1 (vf_btf_Check_v1_L0 a0 p0 q0 n0 k0 X0 A0 r) (Hf_btf_Check_v1_L0 a0 p0 q0 n0 k0 X0 A0 r) 2 :=
  goes_lpO (fun s q e => by
    cases s with
    | c0 s0_0 s0_1 s0_2 =>
      unfold st_btf_Check_v1_L0 at e
      dsimp only at e
      replace e := cond_eq_or e
      rcases e with ⟨hq0, e⟩ | ⟨hq0, e⟩
      · replace e := cond_eq_or e
        rcases e with ⟨hq1, e⟩ | ⟨hq1, e⟩
        · replace e := bindO_eq e
          obtain ⟨gb0, e_gb0, e⟩ := e
          obtain ⟨gb0_0, gb0_1, gb0_2⟩ := gb0
          try dsimp only at e
          replace e := cond_eq_or e
          rcases e with ⟨hq2, e⟩ | ⟨hq2, e⟩
          · cases e; exact goes_runM hU [.b (z_lssT hq0), .o, .q (ixRo_ok (kd := .i64) (T := 24) (x := s0_2) (sz := 7) rfl (fun w => by kernel_rfl) (RoS.row hR0) hq1), .l (accRo (RoS.row hR0) (rxS_len z_Xs27 X0 (fun i => (A0 i).2) (fun i => (A0 i).1)) (inR_nat hq1) 0 [.int .i64 (((A0 (s0_2).toNat).1).fKind), .string ((A0 (s0_2).toNat).1).fName, .int .i64 (((A0 (s0_2).toNat).1).fSize), .bool (((A0 (s0_2).toNat).1).fSigned), .int .i64 (((A0 (s0_2).toNat).1).fTo), .int .i64 (((A0 (s0_2).toNat).1).fCount), .slice (X0 (s0_2).toNat).a (A0 (s0_2).toNat).2.1 ((A0 (s0_2).toNat).2.1 + (X0 (s0_2).toNat).c)] rfl), .o, .o, .a 2, .a 2, .o, .o, .o, .xg (ok0_btf_checkType_v2 hU ((A0 (s0_2).toNat).1) (X0 (s0_2).toNat).a (X0 (s0_2).toNat).p (X0 (s0_2).toNat).q (A0 (s0_2).toNat).2.1 (X0 (s0_2).toNat).c (A0 (s0_2).toNat).2.2 (RoS.els hR0 (s0_2).toNat (inR_nat hq1)) (n0 : Int) s0_0 s0_1 gb0_0 gb0_1 gb0_2 e_gb0) [0], .o, .o, .b (z_neqT hq2), .o, .o] [0] (fun b => rfl) (by decide) rfl rfl (fun b => by kernel_rfl)
          · cases e; exact ⟨ne_ret, goes_runM hU [.b (z_lssT hq0), .o, .q (ixRo_ok (kd := .i64) (T := 24) (x := s0_2) (sz := 7) rfl (fun w => by kernel_rfl) (RoS.row hR0) hq1), .l (accRo (RoS.row hR0) (rxS_len z_Xs27 X0 (fun i => (A0 i).2) (fun i => (A0 i).1)) (inR_nat hq1) 0 [.int .i64 (((A0 (s0_2).toNat).1).fKind), .string ((A0 (s0_2).toNat).1).fName, .int .i64 (((A0 (s0_2).toNat).1).fSize), .bool (((A0 (s0_2).toNat).1).fSigned), .int .i64 (((A0 (s0_2).toNat).1).fTo), .int .i64 (((A0 (s0_2).toNat).1).fCount), .slice (X0 (s0_2).toNat).a (A0 (s0_2).toNat).2.1 ((A0 (s0_2).toNat).2.1 + (X0 (s0_2).toNat).c)] rfl), .o, .o, .a 2, .a 2, .o, .o, .o, .xg (ok0_btf_checkType_v2 hU ((A0 (s0_2).toNat).1) (X0 (s0_2).toNat).a (X0 (s0_2).toNat).p (X0 (s0_2).toNat).q (A0 (s0_2).toNat).2.1 (X0 (s0_2).toNat).c (A0 (s0_2).toNat).2.2 (RoS.els hR0 (s0_2).toNat (inR_nat hq1)) (n0 : Int) s0_0 s0_1 gb0_0 gb0_1 gb0_2 e_gb0) [0], .o, .o, .b (z_neqF hq2), .o, .o, .o, .o, .o] [0] (fun b => rfl) (by decide) rfl rfl (fun b => by kernel_rfl)⟩
        · exact none_some e
      · cases e; exact ⟨ne_exit 0, goes_runM hU [.b (z_lssF hq0)] [0] (fun b => rfl) (by decide) rfl rfl (fun b => by kernel_rfl)⟩) s r h
noncomputable def t0_btf_Check_v1_L0_0 (a0 : Option Addr) (p0 : Nat) (q0 : Nat) (n0 : Nat) (k0 : Nat) (X0 : Nat → RoX) (A0 : Nat → (Xs27 × (Nat × (Nat → Member)))) (s0_0 : Nat) (s0_1 : Nat → Me39) (s0_2 : Int) (ls : List L1) : List Value := List.append [.slice a0 n0 (n0 + k0), undef, .int .i64 (0), .int .i64 (0), .map (some (lget ls 0).n)] (List.append (und 7) (List.append [.slice a0 n0 (n0 + k0), .bool false, .map (some (lget ls 0).n), .slice a0 n0 (n0 + k0), .int .i64 ((n0 : Int)), .int .i64 (s0_2)] (und 46)))
def pre_btf_Check_v1_L0_0 (a0 : Option Addr) (p0 : Nat) (q0 : Nat) (n0 : Nat) (k0 : Nat) (X0 : Nat → RoX) (A0 : Nat → (Xs27 × (Nat × (Nat → Member)))) (s0_0 : Nat) (s0_1 : Nat → Me39) (s0_2 : Int) (ls : List L1) : List Obj := [mapG kv_Me39 vv_Me39 s0_0 s0_1]
theorem sp0_btf_Check_v1_L0_0_ok (s0_0 : Nat) (s0_1 : Nat → Me39) (s0_2 : Int) (c0_0 : Nat) (c0_1 : Nat → Me39) (h : lpO (st_btf_Check_v1_L0 n0 A0) (.c0 s0_0 s0_1 s0_2) = some (.e0 c0_0 c0_1)) : SpcG Tryd.prog M B0 S ⟨fun ls => .code (.loop bd_btf_Check_v1_L0) (t0_btf_Check_v1_L0_0 a0 p0 q0 n0 k0 X0 A0 s0_0 s0_1 s0_2 ls), pre_btf_Check_v1_L0_0 a0 p0 q0 n0 k0 X0 A0 s0_0 s0_1 s0_2, 1, (.exit 0), fun ls => vf_btf_Check_v1_L0 a0 p0 q0 n0 k0 X0 A0 (.e0 c0_0 c0_1) (ls.take 1 ++ ls.drop 1), fun ls => (Hf_btf_Check_v1_L0 a0 p0 q0 n0 k0 X0 A0 (.e0 c0_0 c0_1) (ls.take 1 ++ ls.drop 1)).take 1 ++ List.replicate 0 unb, fun ls => (Hf_btf_Check_v1_L0 a0 p0 q0 n0 k0 X0 A0 (.e0 c0_0 c0_1) (ls.take 1 ++ ls.drop 1)).drop 1⟩ :=
  spc_of_goesM hU 0 (k0 := 1) (go_btf_Check_v1_L0 hU a0 p0 q0 n0 k0 X0 A0 hR0 _ _ h) (t0_btf_Check_v1_L0_0 a0 p0 q0 n0 k0 X0 A0 s0_0 s0_1 s0_2) (pre_btf_Check_v1_L0_0 a0 p0 q0 n0 k0 X0 A0 s0_0 s0_1 s0_2) (fun _ => rfl) (fun ls h => by match ls, h with | [l0], _ => exact ⟨by kernel_rfl, by kernel_rfl⟩) (fun ls h => by match ls, h with | [l0], _ => rfl) (by decide) (by decide) (fun ls => rfl)
theorem sp1_btf_Check_v1_L0_0_ok (s0_0 : Nat) (s0_1 : Nat → Me39) (s0_2 : Int) (c1_0 : Nat) (c1_1 : Nat → Me39) (c1_2 : Int) (c1_3 : Int) (h : lpO (st_btf_Check_v1_L0 n0 A0) (.c0 s0_0 s0_1 s0_2) = some (.e1 c1_0 c1_1 c1_2 c1_3)) : SpcG Tryd.prog M B0 S ⟨fun ls => .code (.loop bd_btf_Check_v1_L0) (t0_btf_Check_v1_L0_0 a0 p0 q0 n0 k0 X0 A0 s0_0 s0_1 s0_2 ls), pre_btf_Check_v1_L0_0 a0 p0 q0 n0 k0 X0 A0 s0_0 s0_1 s0_2, 1, .ret, fun ls => vf_btf_Check_v1_L0 a0 p0 q0 n0 k0 X0 A0 (.e1 c1_0 c1_1 c1_2 c1_3) (ls.take 1 ++ ls.drop 1), fun ls => (Hf_btf_Check_v1_L0 a0 p0 q0 n0 k0 X0 A0 (.e1 c1_0 c1_1 c1_2 c1_3) (ls.take 1 ++ ls.drop 1)).take 1 ++ List.replicate 0 unb, fun ls => (Hf_btf_Check_v1_L0 a0 p0 q0 n0 k0 X0 A0 (.e1 c1_0 c1_1 c1_2 c1_3) (ls.take 1 ++ ls.drop 1)).drop 1⟩ :=
  spc_of_goesM hU 0 (k0 := 1) (go_btf_Check_v1_L0 hU a0 p0 q0 n0 k0 X0 A0 hR0 _ _ h) (t0_btf_Check_v1_L0_0 a0 p0 q0 n0 k0 X0 A0 s0_0 s0_1 s0_2) (pre_btf_Check_v1_L0_0 a0 p0 q0 n0 k0 X0 A0 s0_0 s0_1 s0_2) (fun _ => rfl) (fun ls h => by match ls, h with | [l0], _ => exact ⟨by kernel_rfl, by kernel_rfl⟩) (fun ls h => by match ls, h with | [l0], _ => rfl) (by decide) (by decide) (fun ls => rfl)
inductive Sh_btf_Check_v1_L1 where
  | c0 (s0_0 : Int)
inductive Ex_btf_Check_v1_L1 where
  | e0 
  | e1 (c1_0 : Int)
noncomputable def st_btf_Check_v1_L1 (n0 : Nat) (A0 : Nat → (Xs27 × (Nat × (Nat → Member)))) : Sh_btf_Check_v1_L1 → Option (Sh_btf_Check_v1_L1 ⊕ Ex_btf_Check_v1_L1)
  | .c0 s0_0 =>
    bif decide (s0_0 < (n0 : Int)) then
      (bif inR s0_0 n0 then
        ((m_btf_holdsFunction_v2 n0 A0 ((A0 (s0_0).toNat).1) (A0 (s0_0).toNat).2.1 (A0 (s0_0).toNat).2.2).bind fun rb0 =>
        bif rb0 then
          (some (.inr (.e1 (IntKind.i64.wrap (s0_0 + 1)))))
        else (some (.inl (.c0 (IntKind.i64.wrap (s0_0 + 1))))))
      else (none))
    else (some (.inr (.e0 )))
noncomputable def bd_btf_Check_v1_L1 : Code := codeOf Tryd.f5 [1, 1, 1, 1, 1, 0, 1, 0, 0]
def fl_btf_Check_v1_L1 (a0 : Option Addr) (p0 : Nat) (q0 : Nat) (n0 : Nat) (k0 : Nat) (X0 : Nat → RoX) (A0 : Nat → (Xs27 × (Nat × (Nat → Member)))) (g1_0 : Nat) (g1_1 : Nat → Me39) (r2 : Int) : Sh_btf_Check_v1_L1 → List L1 → List Value
  | .c0 s0_0, ls => [.slice a0 n0 (n0 + k0), .int .i64 (0), .int .i64 (0), .slice a0 n0 (n0 + k0), .int .i64 ((n0 : Int)), .int .i64 (s0_0)]
def mf_btf_Check_v1_L1 : Sh_btf_Check_v1_L1 → List (Nat × Nat)
  | .c0 _ => [(1, 1), (2, 34), (3, 23)]
noncomputable def fr_btf_Check_v1_L1 (a0 : Option Addr) (p0 : Nat) (q0 : Nat) (n0 : Nat) (k0 : Nat) (X0 : Nat → RoX) (A0 : Nat → (Xs27 × (Nat × (Nat → Member)))) (g1_0 : Nat) (g1_1 : Nat → Me39) (r2 : Int) (s : Sh_btf_Check_v1_L1) : List L1 → List Value := mrgF (mf_btf_Check_v1_L1 s) (fl_btf_Check_v1_L1 a0 p0 q0 n0 k0 X0 A0 g1_0 g1_1 r2 s) 2
def Hs_btf_Check_v1_L1 (a0 : Option Addr) (p0 : Nat) (q0 : Nat) (n0 : Nat) (k0 : Nat) (X0 : Nat → RoX) (A0 : Nat → (Xs27 × (Nat × (Nat → Member)))) (g1_0 : Nat) (g1_1 : Nat → Me39) (r2 : Int) : Sh_btf_Check_v1_L1 → List L1 → List Obj
  | .c0 s0_0, ls => [mapG kv_Me39 vv_Me39 g1_0 g1_1, unb, unb]
def vl_btf_Check_v1_L1 (a0 : Option Addr) (p0 : Nat) (q0 : Nat) (n0 : Nat) (k0 : Nat) (X0 : Nat → RoX) (A0 : Nat → (Xs27 × (Nat × (Nat → Member)))) (g1_0 : Nat) (g1_1 : Nat → Me39) (r2 : Int) : Ex_btf_Check_v1_L1 → List L1 → List Value
  | .e0 , ls => [.slice a0 n0 (n0 + k0), .int .i64 (0), .int .i64 (0), .slice a0 n0 (n0 + k0), .int .i64 ((n0 : Int))]
  | .e1 c1_0, ls => [.slice a0 n0 (n0 + k0), .int .i64 (c1_0), .int .i64 (41), .slice a0 n0 (n0 + k0), .int .i64 ((n0 : Int))]
def mk_btf_Check_v1_L1 : Ex_btf_Check_v1_L1 → List (Nat × Nat)
  | .e0  => [(1, 1), (2, 34), (2, 24)]
  | .e1 _ => [(1, 1), (2, 34), (2, 24)]
noncomputable def vf_btf_Check_v1_L1 (a0 : Option Addr) (p0 : Nat) (q0 : Nat) (n0 : Nat) (k0 : Nat) (X0 : Nat → RoX) (A0 : Nat → (Xs27 × (Nat × (Nat → Member)))) (g1_0 : Nat) (g1_1 : Nat → Me39) (r2 : Int) (r : Ex_btf_Check_v1_L1) : List L1 → List Value := mrgF (mk_btf_Check_v1_L1 r) (vl_btf_Check_v1_L1 a0 p0 q0 n0 k0 X0 A0 g1_0 g1_1 r2 r) 2
def Hf_btf_Check_v1_L1 (a0 : Option Addr) (p0 : Nat) (q0 : Nat) (n0 : Nat) (k0 : Nat) (X0 : Nat → RoX) (A0 : Nat → (Xs27 × (Nat × (Nat → Member)))) (g1_0 : Nat) (g1_1 : Nat → Me39) (r2 : Int) : Ex_btf_Check_v1_L1 → List L1 → List Obj
  | .e0 , ls => [mapG kv_Me39 vv_Me39 g1_0 g1_1, unb, unb]
  | .e1 c1_0, ls => [mapG kv_Me39 vv_Me39 g1_0 g1_1, unb, unb]
def ex_btf_Check_v1_L1 : Ex_btf_Check_v1_L1 → Ex
  | .e0  => (.exit 2)
  | .e1 _ => .ret
theorem go_btf_Check_v1_L1 (g1_0 : Nat) (g1_1 : Nat → Me39) (r2 : Int) (s : Sh_btf_Check_v1_L1) (r : Ex_btf_Check_v1_L1) (h : lpO (st_btf_Check_v1_L1 n0 A0) s = some r) : GoesG Tryd.prog M B0 S (.loop bd_btf_Check_v1_L1) 3 (fr_btf_Check_v1_L1 a0 p0 q0 n0 k0 X0 A0 g1_0 g1_1 r2 s) (Hs_btf_Check_v1_L1 a0 p0 q0 n0 k0 X0 A0 g1_0 g1_1 r2 s) (ex_btf_Check_v1_L1 r) 2 (vf_btf_Check_v1_L1 a0 p0 q0 n0 k0 X0 A0 g1_0 g1_1 r2 r) (Hf_btf_Check_v1_L1 a0 p0 q0 n0 k0 X0 A0 g1_0 g1_1 r2 r) 3 :=
  goes_lpO (fun s q e => by
    cases s with
    | c0 s0_0 =>
      unfold st_btf_Check_v1_L1 at e
      dsimp only at e
      replace e := cond_eq_or e
      rcases e with ⟨hq0, e⟩ | ⟨hq0, e⟩
      · replace e := cond_eq_or e
        rcases e with ⟨hq1, e⟩ | ⟨hq1, e⟩
        · replace e := bindO_eq e
          obtain ⟨rb0, e_rb0, e⟩ := e
          try dsimp only at e
          replace e := cond_eq_or e
          rcases e with ⟨hq2, e⟩ | ⟨hq2, e⟩
          · subst hq2
            cases e; exact ⟨ne_ret, goes_runM hU [.b (z_lssT hq0), .o, .q (ixRo_ok (kd := .i64) (T := 24) (x := s0_0) (sz := 7) rfl (fun w => by kernel_rfl) (RoS.row hR0) hq1), .l (accRo (RoS.row hR0) (rxS_len z_Xs27 X0 (fun i => (A0 i).2) (fun i => (A0 i).1)) (inR_nat hq1) 0 [.int .i64 (((A0 (s0_0).toNat).1).fKind), .string ((A0 (s0_0).toNat).1).fName, .int .i64 (((A0 (s0_0).toNat).1).fSize), .bool (((A0 (s0_0).toNat).1).fSigned), .int .i64 (((A0 (s0_0).toNat).1).fTo), .int .i64 (((A0 (s0_0).toNat).1).fCount), .slice (X0 (s0_0).toNat).a (A0 (s0_0).toNat).2.1 ((A0 (s0_0).toNat).2.1 + (X0 (s0_0).toNat).c)] rfl), .o, .o, .a 3, .o, .a 3, .cg (ok_btf_holdsFunction_v2 hU a0 p0 q0 n0 k0 X0 A0 hR0 ((A0 (s0_0).toNat).1) (X0 (s0_0).toNat).a (X0 (s0_0).toNat).p (X0 (s0_0).toNat).q (A0 (s0_0).toNat).2.1 (X0 (s0_0).toNat).c (A0 (s0_0).toNat).2.2 (RoS.els hR0 (s0_0).toNat (inR_nat hq1)) true e_rb0), .o, .o, .o, .o] [0, 1] (fun b => rfl) (by decide) rfl rfl (fun b => by kernel_rfl)⟩
          · subst hq2
            cases e; exact goes_runM hU [.b (z_lssT hq0), .o, .q (ixRo_ok (kd := .i64) (T := 24) (x := s0_0) (sz := 7) rfl (fun w => by kernel_rfl) (RoS.row hR0) hq1), .l (accRo (RoS.row hR0) (rxS_len z_Xs27 X0 (fun i => (A0 i).2) (fun i => (A0 i).1)) (inR_nat hq1) 0 [.int .i64 (((A0 (s0_0).toNat).1).fKind), .string ((A0 (s0_0).toNat).1).fName, .int .i64 (((A0 (s0_0).toNat).1).fSize), .bool (((A0 (s0_0).toNat).1).fSigned), .int .i64 (((A0 (s0_0).toNat).1).fTo), .int .i64 (((A0 (s0_0).toNat).1).fCount), .slice (X0 (s0_0).toNat).a (A0 (s0_0).toNat).2.1 ((A0 (s0_0).toNat).2.1 + (X0 (s0_0).toNat).c)] rfl), .o, .o, .a 3, .o, .a 3, .cg (ok_btf_holdsFunction_v2 hU a0 p0 q0 n0 k0 X0 A0 hR0 ((A0 (s0_0).toNat).1) (X0 (s0_0).toNat).a (X0 (s0_0).toNat).p (X0 (s0_0).toNat).q (A0 (s0_0).toNat).2.1 (X0 (s0_0).toNat).c (A0 (s0_0).toNat).2.2 (RoS.els hR0 (s0_0).toNat (inR_nat hq1)) false e_rb0), .o, .o] [0, 1] (fun b => rfl) (by decide) rfl rfl (fun b => by kernel_rfl)
        · exact none_some e
      · cases e; exact ⟨ne_exit 2, goes_runM hU [.b (z_lssF hq0)] [0, 1] (fun b => rfl) (by decide) rfl rfl (fun b => by kernel_rfl)⟩) s r h
noncomputable def t0_btf_Check_v1_L1_0 (a0 : Option Addr) (p0 : Nat) (q0 : Nat) (n0 : Nat) (k0 : Nat) (X0 : Nat → RoX) (A0 : Nat → (Xs27 × (Nat × (Nat → Member)))) (g1_0 : Nat) (g1_1 : Nat → Me39) (r2 : Int) (s0_0 : Int) (ls : List L1) : List Value := List.append [.slice a0 n0 (n0 + k0), ((lget ls 1).u 1), .int .i64 (0), .int .i64 (0), .map (some (lget ls 0).n), ((lget ls 1).u 5), ((lget ls 1).u 6), ((lget ls 1).u 7), .int .i64 (r2)] (List.append (jks (lget ls 1).u 9 6) (List.append [.slice a0 n0 (n0 + k0), .int .i64 ((n0 : Int))] (List.append (jks (lget ls 1).u 17 16) (List.append [.slice a0 n0 (n0 + k0), .int .i64 (r2), .int .i64 (r2), .bool false, ((lget ls 1).u 37), .slice a0 n0 (n0 + k0), .int .i64 ((n0 : Int)), .int .i64 (s0_0)] (jks (lget ls 1).u 41 23)))))
def pre_btf_Check_v1_L1_0 (a0 : Option Addr) (p0 : Nat) (q0 : Nat) (n0 : Nat) (k0 : Nat) (X0 : Nat → RoX) (A0 : Nat → (Xs27 × (Nat × (Nat → Member)))) (g1_0 : Nat) (g1_1 : Nat → Me39) (r2 : Int) (s0_0 : Int) (ls : List L1) : List Obj := [mapG kv_Me39 vv_Me39 g1_0 g1_1, unb]
theorem sp0_btf_Check_v1_L1_0_ok (g1_0 : Nat) (g1_1 : Nat → Me39) (r2 : Int) (s0_0 : Int) (h : lpO (st_btf_Check_v1_L1 n0 A0) (.c0 s0_0) = some (.e0 )) : SpcG Tryd.prog M B0 S ⟨fun ls => .code (.loop bd_btf_Check_v1_L1) (t0_btf_Check_v1_L1_0 a0 p0 q0 n0 k0 X0 A0 g1_0 g1_1 r2 s0_0 ls), pre_btf_Check_v1_L1_0 a0 p0 q0 n0 k0 X0 A0 g1_0 g1_1 r2 s0_0, 1, (.exit 2), fun ls => vf_btf_Check_v1_L1 a0 p0 q0 n0 k0 X0 A0 g1_0 g1_1 r2 (.e0 ) (ls.take 2 ++ ls.drop 2), fun ls => (Hf_btf_Check_v1_L1 a0 p0 q0 n0 k0 X0 A0 g1_0 g1_1 r2 (.e0 ) (ls.take 2 ++ ls.drop 2)).take 2 ++ List.replicate 0 unb, fun ls => (Hf_btf_Check_v1_L1 a0 p0 q0 n0 k0 X0 A0 g1_0 g1_1 r2 (.e0 ) (ls.take 2 ++ ls.drop 2)).drop 2⟩ :=
  spc_of_goesM hU 0 (k0 := 2) (go_btf_Check_v1_L1 hU a0 p0 q0 n0 k0 X0 A0 hR0 g1_0 g1_1 r2 _ _ h) (t0_btf_Check_v1_L1_0 a0 p0 q0 n0 k0 X0 A0 g1_0 g1_1 r2 s0_0) (pre_btf_Check_v1_L1_0 a0 p0 q0 n0 k0 X0 A0 g1_0 g1_1 r2 s0_0) (fun _ => rfl) (fun ls h => by match ls, h with | [l0, l1], _ => exact ⟨by kernel_rfl, by kernel_rfl⟩) (fun ls h => by match ls, h with | [l0, l1], _ => rfl) (by decide) (by decide) (fun ls => rfl)
theorem sp1_btf_Check_v1_L1_0_ok (g1_0 : Nat) (g1_1 : Nat → Me39) (r2 : Int) (s0_0 : Int) (c1_0 : Int) (h : lpO (st_btf_Check_v1_L1 n0 A0) (.c0 s0_0) = some (.e1 c1_0)) : SpcG Tryd.prog M B0 S ⟨fun ls => .code (.loop bd_btf_Check_v1_L1) (t0_btf_Check_v1_L1_0 a0 p0 q0 n0 k0 X0 A0 g1_0 g1_1 r2 s0_0 ls), pre_btf_Check_v1_L1_0 a0 p0 q0 n0 k0 X0 A0 g1_0 g1_1 r2 s0_0, 1, .ret, fun ls => vf_btf_Check_v1_L1 a0 p0 q0 n0 k0 X0 A0 g1_0 g1_1 r2 (.e1 c1_0) (ls.take 2 ++ ls.drop 2), fun ls => (Hf_btf_Check_v1_L1 a0 p0 q0 n0 k0 X0 A0 g1_0 g1_1 r2 (.e1 c1_0) (ls.take 2 ++ ls.drop 2)).take 2 ++ List.replicate 0 unb, fun ls => (Hf_btf_Check_v1_L1 a0 p0 q0 n0 k0 X0 A0 g1_0 g1_1 r2 (.e1 c1_0) (ls.take 2 ++ ls.drop 2)).drop 2⟩ :=
  spc_of_goesM hU 0 (k0 := 2) (go_btf_Check_v1_L1 hU a0 p0 q0 n0 k0 X0 A0 hR0 g1_0 g1_1 r2 _ _ h) (t0_btf_Check_v1_L1_0 a0 p0 q0 n0 k0 X0 A0 g1_0 g1_1 r2 s0_0) (pre_btf_Check_v1_L1_0 a0 p0 q0 n0 k0 X0 A0 g1_0 g1_1 r2 s0_0) (fun _ => rfl) (fun ls h => by match ls, h with | [l0, l1], _ => exact ⟨by kernel_rfl, by kernel_rfl⟩) (fun ls h => by match ls, h with | [l0, l1], _ => rfl) (by decide) (by decide) (fun ls => rfl)
inductive Sh_btf_Check_v1_L2 where
  | c0 (s0_0 : Int)
inductive Ex_btf_Check_v1_L2 where
  | e0 
  | e1 (c1_0 : Int)
noncomputable def st_btf_Check_v1_L2 (n0 : Nat) (A0 : Nat → (Xs27 × (Nat × (Nat → Member)))) : Sh_btf_Check_v1_L2 → Option (Sh_btf_Check_v1_L2 ⊕ Ex_btf_Check_v1_L2)
  | .c0 s0_0 =>
    bif decide (s0_0 < (n0 : Int)) then
      ((m_btf_fits_v2 n0 A0 (IntKind.i64.wrap (s0_0 + 1))).bind fun rb0 =>
      bif rb0 then
        (some (.inl (.c0 (IntKind.i64.wrap (s0_0 + 1)))))
      else (some (.inr (.e1 (IntKind.i64.wrap (s0_0 + 1))))))
    else (some (.inr (.e0 )))
noncomputable def bd_btf_Check_v1_L2 : Code := codeOf Tryd.f5 [1, 1, 1, 1, 1, 1, 0, 1, 0, 0]
def fl_btf_Check_v1_L2 (a0 : Option Addr) (p0 : Nat) (q0 : Nat) (n0 : Nat) (k0 : Nat) (X0 : Nat → RoX) (A0 : Nat → (Xs27 × (Nat × (Nat → Member)))) (g1_0 : Nat) (g1_1 : Nat → Me39) (r2 : Int) : Sh_btf_Check_v1_L2 → List L1 → List Value
  | .c0 s0_0, ls => [.slice a0 n0 (n0 + k0), .int .i64 (0), .int .i64 (0), .int .i64 ((n0 : Int)), .int .i64 (s0_0)]
def mf_btf_Check_v1_L2 : Sh_btf_Check_v1_L2 → List (Nat × Nat)
  | .c0 _ => [(1, 1), (2, 48), (2, 10)]
noncomputable def fr_btf_Check_v1_L2 (a0 : Option Addr) (p0 : Nat) (q0 : Nat) (n0 : Nat) (k0 : Nat) (X0 : Nat → RoX) (A0 : Nat → (Xs27 × (Nat × (Nat → Member)))) (g1_0 : Nat) (g1_1 : Nat → Me39) (r2 : Int) (s : Sh_btf_Check_v1_L2) : List L1 → List Value := mrgF (mf_btf_Check_v1_L2 s) (fl_btf_Check_v1_L2 a0 p0 q0 n0 k0 X0 A0 g1_0 g1_1 r2 s) 3
def Hs_btf_Check_v1_L2 (a0 : Option Addr) (p0 : Nat) (q0 : Nat) (n0 : Nat) (k0 : Nat) (X0 : Nat → RoX) (A0 : Nat → (Xs27 × (Nat × (Nat → Member)))) (g1_0 : Nat) (g1_1 : Nat → Me39) (r2 : Int) : Sh_btf_Check_v1_L2 → List L1 → List Obj
  | .c0 s0_0, ls => [mapG kv_Me39 vv_Me39 g1_0 g1_1, unb, unb, unb]
def vl_btf_Check_v1_L2 (a0 : Option Addr) (p0 : Nat) (q0 : Nat) (n0 : Nat) (k0 : Nat) (X0 : Nat → RoX) (A0 : Nat → (Xs27 × (Nat × (Nat → Member)))) (g1_0 : Nat) (g1_1 : Nat → Me39) (r2 : Int) : Ex_btf_Check_v1_L2 → List L1 → List Value
  | .e0 , ls => [.slice a0 n0 (n0 + k0), .int .i64 (0), .int .i64 (0), .int .i64 ((n0 : Int))]
  | .e1 c1_0, ls => [.slice a0 n0 (n0 + k0), .int .i64 (c1_0), .int .i64 (43), .int .i64 ((n0 : Int))]
def mk_btf_Check_v1_L2 : Ex_btf_Check_v1_L2 → List (Nat × Nat)
  | .e0  => [(1, 1), (2, 48), (1, 11)]
  | .e1 _ => [(1, 1), (2, 48), (1, 11)]
noncomputable def vf_btf_Check_v1_L2 (a0 : Option Addr) (p0 : Nat) (q0 : Nat) (n0 : Nat) (k0 : Nat) (X0 : Nat → RoX) (A0 : Nat → (Xs27 × (Nat × (Nat → Member)))) (g1_0 : Nat) (g1_1 : Nat → Me39) (r2 : Int) (r : Ex_btf_Check_v1_L2) : List L1 → List Value := mrgF (mk_btf_Check_v1_L2 r) (vl_btf_Check_v1_L2 a0 p0 q0 n0 k0 X0 A0 g1_0 g1_1 r2 r) 3
def Hf_btf_Check_v1_L2 (a0 : Option Addr) (p0 : Nat) (q0 : Nat) (n0 : Nat) (k0 : Nat) (X0 : Nat → RoX) (A0 : Nat → (Xs27 × (Nat × (Nat → Member)))) (g1_0 : Nat) (g1_1 : Nat → Me39) (r2 : Int) : Ex_btf_Check_v1_L2 → List L1 → List Obj
  | .e0 , ls => [mapG kv_Me39 vv_Me39 g1_0 g1_1, unb, unb, unb]
  | .e1 c1_0, ls => [mapG kv_Me39 vv_Me39 g1_0 g1_1, unb, unb, unb]
def ex_btf_Check_v1_L2 : Ex_btf_Check_v1_L2 → Ex
  | .e0  => (.exit 4)
  | .e1 _ => .ret
theorem go_btf_Check_v1_L2 (g1_0 : Nat) (g1_1 : Nat → Me39) (r2 : Int) (s : Sh_btf_Check_v1_L2) (r : Ex_btf_Check_v1_L2) (h : lpO (st_btf_Check_v1_L2 n0 A0) s = some r) : GoesG Tryd.prog M B0 S (.loop bd_btf_Check_v1_L2) 4 (fr_btf_Check_v1_L2 a0 p0 q0 n0 k0 X0 A0 g1_0 g1_1 r2 s) (Hs_btf_Check_v1_L2 a0 p0 q0 n0 k0 X0 A0 g1_0 g1_1 r2 s) (ex_btf_Check_v1_L2 r) 3 (vf_btf_Check_v1_L2 a0 p0 q0 n0 k0 X0 A0 g1_0 g1_1 r2 r) (Hf_btf_Check_v1_L2 a0 p0 q0 n0 k0 X0 A0 g1_0 g1_1 r2 r) 4 :=
  goes_lpO (fun s q e => by
    cases s with
    | c0 s0_0 =>
      unfold st_btf_Check_v1_L2 at e
      dsimp only at e
      replace e := cond_eq_or e
      rcases e with ⟨hq0, e⟩ | ⟨hq0, e⟩
      · replace e := bindO_eq e
        obtain ⟨rb0, e_rb0, e⟩ := e
        try dsimp only at e
        replace e := cond_eq_or e
        rcases e with ⟨hq1, e⟩ | ⟨hq1, e⟩
        · subst hq1
          cases e; exact goes_runM hU [.b (z_lssT hq0), .o, .o, .o, .o, .o, .cg (ok_btf_fits_v2 hU a0 p0 q0 n0 k0 X0 A0 hR0 (IntKind.i64.wrap (s0_0 + 1)) true e_rb0), .o, .o, .o] [0, 1, 2] (fun b => rfl) (by decide) rfl rfl (fun b => by kernel_rfl)
        · subst hq1
          cases e; exact ⟨ne_ret, goes_runM hU [.b (z_lssT hq0), .o, .o, .o, .o, .o, .cg (ok_btf_fits_v2 hU a0 p0 q0 n0 k0 X0 A0 hR0 (IntKind.i64.wrap (s0_0 + 1)) false e_rb0), .o, .o, .o, .o, .o] [0, 1, 2] (fun b => rfl) (by decide) rfl rfl (fun b => by kernel_rfl)⟩
      · cases e; exact ⟨ne_exit 4, goes_runM hU [.b (z_lssF hq0)] [0, 1, 2] (fun b => rfl) (by decide) rfl rfl (fun b => by kernel_rfl)⟩) s r h
noncomputable def t0_btf_Check_v1_L2_0 (a0 : Option Addr) (p0 : Nat) (q0 : Nat) (n0 : Nat) (k0 : Nat) (X0 : Nat → RoX) (A0 : Nat → (Xs27 × (Nat × (Nat → Member)))) (g1_0 : Nat) (g1_1 : Nat → Me39) (r2 : Int) (s0_0 : Int) (ls : List L1) : List Value := List.append [.slice a0 n0 (n0 + k0), ((lget ls 2).u 1), .int .i64 (0), .int .i64 (0)] (List.append (jks (lget ls 2).u 4 34) (List.append [.slice a0 n0 (n0 + k0), .int .i64 ((n0 : Int))] (List.append (jks (lget ls 2).u 40 11) (List.append [.slice a0 n0 (n0 + k0), .int .i64 ((n0 : Int)), .int .i64 (s0_0)] (jks (lget ls 2).u 54 10)))))
def pre_btf_Check_v1_L2_0 (a0 : Option Addr) (p0 : Nat) (q0 : Nat) (n0 : Nat) (k0 : Nat) (X0 : Nat → RoX) (A0 : Nat → (Xs27 × (Nat × (Nat → Member)))) (g1_0 : Nat) (g1_1 : Nat → Me39) (r2 : Int) (s0_0 : Int) (ls : List L1) : List Obj := [mapG kv_Me39 vv_Me39 g1_0 g1_1, unb, unb]
theorem sp0_btf_Check_v1_L2_0_ok (g1_0 : Nat) (g1_1 : Nat → Me39) (r2 : Int) (s0_0 : Int) (h : lpO (st_btf_Check_v1_L2 n0 A0) (.c0 s0_0) = some (.e0 )) : SpcG Tryd.prog M B0 S ⟨fun ls => .code (.loop bd_btf_Check_v1_L2) (t0_btf_Check_v1_L2_0 a0 p0 q0 n0 k0 X0 A0 g1_0 g1_1 r2 s0_0 ls), pre_btf_Check_v1_L2_0 a0 p0 q0 n0 k0 X0 A0 g1_0 g1_1 r2 s0_0, 1, (.exit 4), fun ls => vf_btf_Check_v1_L2 a0 p0 q0 n0 k0 X0 A0 g1_0 g1_1 r2 (.e0 ) (ls.take 3 ++ ls.drop 3), fun ls => (Hf_btf_Check_v1_L2 a0 p0 q0 n0 k0 X0 A0 g1_0 g1_1 r2 (.e0 ) (ls.take 3 ++ ls.drop 3)).take 3 ++ List.replicate 0 unb, fun ls => (Hf_btf_Check_v1_L2 a0 p0 q0 n0 k0 X0 A0 g1_0 g1_1 r2 (.e0 ) (ls.take 3 ++ ls.drop 3)).drop 3⟩ :=
  spc_of_goesM hU 0 (k0 := 3) (go_btf_Check_v1_L2 hU a0 p0 q0 n0 k0 X0 A0 hR0 g1_0 g1_1 r2 _ _ h) (t0_btf_Check_v1_L2_0 a0 p0 q0 n0 k0 X0 A0 g1_0 g1_1 r2 s0_0) (pre_btf_Check_v1_L2_0 a0 p0 q0 n0 k0 X0 A0 g1_0 g1_1 r2 s0_0) (fun _ => rfl) (fun ls h => by match ls, h with | [l0, l1, l2], _ => exact ⟨by kernel_rfl, by kernel_rfl⟩) (fun ls h => by match ls, h with | [l0, l1, l2], _ => rfl) (by decide) (by decide) (fun ls => rfl)
theorem sp1_btf_Check_v1_L2_0_ok (g1_0 : Nat) (g1_1 : Nat → Me39) (r2 : Int) (s0_0 : Int) (c1_0 : Int) (h : lpO (st_btf_Check_v1_L2 n0 A0) (.c0 s0_0) = some (.e1 c1_0)) : SpcG Tryd.prog M B0 S ⟨fun ls => .code (.loop bd_btf_Check_v1_L2) (t0_btf_Check_v1_L2_0 a0 p0 q0 n0 k0 X0 A0 g1_0 g1_1 r2 s0_0 ls), pre_btf_Check_v1_L2_0 a0 p0 q0 n0 k0 X0 A0 g1_0 g1_1 r2 s0_0, 1, .ret, fun ls => vf_btf_Check_v1_L2 a0 p0 q0 n0 k0 X0 A0 g1_0 g1_1 r2 (.e1 c1_0) (ls.take 3 ++ ls.drop 3), fun ls => (Hf_btf_Check_v1_L2 a0 p0 q0 n0 k0 X0 A0 g1_0 g1_1 r2 (.e1 c1_0) (ls.take 3 ++ ls.drop 3)).take 3 ++ List.replicate 0 unb, fun ls => (Hf_btf_Check_v1_L2 a0 p0 q0 n0 k0 X0 A0 g1_0 g1_1 r2 (.e1 c1_0) (ls.take 3 ++ ls.drop 3)).drop 3⟩ :=
  spc_of_goesM hU 0 (k0 := 3) (go_btf_Check_v1_L2 hU a0 p0 q0 n0 k0 X0 A0 hR0 g1_0 g1_1 r2 _ _ h) (t0_btf_Check_v1_L2_0 a0 p0 q0 n0 k0 X0 A0 g1_0 g1_1 r2 s0_0) (pre_btf_Check_v1_L2_0 a0 p0 q0 n0 k0 X0 A0 g1_0 g1_1 r2 s0_0) (fun _ => rfl) (fun ls h => by match ls, h with | [l0, l1, l2], _ => exact ⟨by kernel_rfl, by kernel_rfl⟩) (fun ls h => by match ls, h with | [l0, l1, l2], _ => rfl) (by decide) (by decide) (fun ls => rfl)
noncomputable def m_btf_Check_v1 (n0 : Nat) (A0 : Nat → (Xs27 × (Nat × (Nat → Member)))) : Option ((Int) × (Int)) :=
  (m_btf_tooMany_v1 n0 A0).bind fun r0 =>
  bif r0 then
    (some (0, 45))
  else ((lpO (st_btf_Check_v1_L0 n0 A0) (.c0 0 (fun _ => (⟨(⟨0, ByteArray.empty⟩ : Named), 0⟩ : Me39)) 0)).bind fun g1 => match g1 with
  | .e0 g1_0 g1_1 => ((m_btf_holdsItself_v1 n0 A0).bind fun r2 =>
    bif r2 == 0 then
      ((lpO (st_btf_Check_v1_L1 n0 A0) (.c0 0)).bind fun g3 => match g3 with
      | .e0  => ((lpO (st_btf_Check_v1_L2 n0 A0) (.c0 0)).bind fun g4 => match g4 with
        | .e0  => (some (0, 0))
        | .e1 g4_0 => (some (g4_0, 43)))
      | .e1 g3_0 => (some (g3_0, 41)))
    else (some (r2, 42)))
  | .e1 g1_0 g1_1 g1_2 g1_3 => (some (g1_2, g1_3)))
theorem ok_btf_Check_v1 (r : (Int) × (Int)) (e : m_btf_Check_v1 n0 A0 = some r) : ConG Tryd.prog S 5 #[.slice a0 n0 (n0 + k0)] (vt2 r) := by
  unfold m_btf_Check_v1 at e
  replace e := bindO_eq e
  obtain ⟨r0, e_r0, e⟩ := e
  try dsimp only at e
  replace e := cond_eq_or e
  rcases e with ⟨hq0, e⟩ | ⟨hq0, e⟩
  · subst hq0
    injection e with e; subst e; exact fn_conG hU (P := Tryd.prog) Tryd.func5 (fun xs w => by kernel_rfl) _ _ [.o, .o, .o, .cg (ok_btf_tooMany_v1 hU a0 p0 q0 n0 k0 X0 A0 hR0 true e_r0), .o, .o] [] (fun b => by kernel_rfl)
  · subst hq0
    replace e := bindO_eq e
    obtain ⟨g1, e_g1, e⟩ := e
    rcases g1 with ⟨g1_0, g1_1⟩ | ⟨g1_0, g1_1, g1_2, g1_3⟩
    · try dsimp only at e
      replace e := bindO_eq e
      obtain ⟨r2, e_r2, e⟩ := e
      try dsimp only at e
      replace e := cond_eq_or e
      rcases e with ⟨hq1, e⟩ | ⟨hq1, e⟩
      · replace e := bindO_eq e
        obtain ⟨g3, e_g3, e⟩ := e
        rcases g3 with _ | ⟨g3_0⟩
        · try dsimp only at e
          replace e := bindO_eq e
          obtain ⟨g4, e_g4, e⟩ := e
          rcases g4 with _ | ⟨g4_0⟩
          · try dsimp only at e
            injection e with e; subst e; exact fn_conG hU (P := Tryd.prog) Tryd.func5 (fun xs w => by kernel_rfl) _ _ [.o, .o, .o, .cg (ok_btf_tooMany_v1 hU a0 p0 q0 n0 k0 X0 A0 hR0 false e_r0), .o, .o, .o, .o, .o, .cp, .cx (sp0_btf_Check_v1_L0_0_ok hU a0 p0 q0 n0 k0 X0 A0 hR0 0 (fun _ => (⟨(⟨0, ByteArray.empty⟩ : Named), 0⟩ : Me39)) 0 g1_0 g1_1 e_g1) [0], .o, .cg (ok_btf_holdsItself_v1 hU a0 p0 q0 n0 k0 X0 A0 hR0 r2 e_r2), .o, .o, .b (z_neqT hq1), .o, .o, .o, .cp, .cx (sp0_btf_Check_v1_L1_0_ok hU a0 p0 q0 n0 k0 X0 A0 hR0 g1_0 g1_1 r2 0  e_g3) [0, 1], .o, .o, .o, .cp, .cx (sp0_btf_Check_v1_L2_0_ok hU a0 p0 q0 n0 k0 X0 A0 hR0 g1_0 g1_1 r2 0  e_g4) [0, 1, 2], .o, .o] [] (fun b => by kernel_rfl)
          · try dsimp only at e
            injection e with e; subst e; exact fn_conG hU (P := Tryd.prog) Tryd.func5 (fun xs w => by kernel_rfl) _ _ [.o, .o, .o, .cg (ok_btf_tooMany_v1 hU a0 p0 q0 n0 k0 X0 A0 hR0 false e_r0), .o, .o, .o, .o, .o, .cp, .cx (sp0_btf_Check_v1_L0_0_ok hU a0 p0 q0 n0 k0 X0 A0 hR0 0 (fun _ => (⟨(⟨0, ByteArray.empty⟩ : Named), 0⟩ : Me39)) 0 g1_0 g1_1 e_g1) [0], .o, .cg (ok_btf_holdsItself_v1 hU a0 p0 q0 n0 k0 X0 A0 hR0 r2 e_r2), .o, .o, .b (z_neqT hq1), .o, .o, .o, .cp, .cx (sp0_btf_Check_v1_L1_0_ok hU a0 p0 q0 n0 k0 X0 A0 hR0 g1_0 g1_1 r2 0  e_g3) [0, 1], .o, .o, .o, .cp, .cx (sp1_btf_Check_v1_L2_0_ok hU a0 p0 q0 n0 k0 X0 A0 hR0 g1_0 g1_1 r2 0 g4_0 e_g4) [0, 1, 2]] [] (fun b => by kernel_rfl)
        · try dsimp only at e
          injection e with e; subst e; exact fn_conG hU (P := Tryd.prog) Tryd.func5 (fun xs w => by kernel_rfl) _ _ [.o, .o, .o, .cg (ok_btf_tooMany_v1 hU a0 p0 q0 n0 k0 X0 A0 hR0 false e_r0), .o, .o, .o, .o, .o, .cp, .cx (sp0_btf_Check_v1_L0_0_ok hU a0 p0 q0 n0 k0 X0 A0 hR0 0 (fun _ => (⟨(⟨0, ByteArray.empty⟩ : Named), 0⟩ : Me39)) 0 g1_0 g1_1 e_g1) [0], .o, .cg (ok_btf_holdsItself_v1 hU a0 p0 q0 n0 k0 X0 A0 hR0 r2 e_r2), .o, .o, .b (z_neqT hq1), .o, .o, .o, .cp, .cx (sp1_btf_Check_v1_L1_0_ok hU a0 p0 q0 n0 k0 X0 A0 hR0 g1_0 g1_1 r2 0 g3_0 e_g3) [0, 1]] [] (fun b => by kernel_rfl)
      · injection e with e; subst e; exact fn_conG hU (P := Tryd.prog) Tryd.func5 (fun xs w => by kernel_rfl) _ _ [.o, .o, .o, .cg (ok_btf_tooMany_v1 hU a0 p0 q0 n0 k0 X0 A0 hR0 false e_r0), .o, .o, .o, .o, .o, .cp, .cx (sp0_btf_Check_v1_L0_0_ok hU a0 p0 q0 n0 k0 X0 A0 hR0 0 (fun _ => (⟨(⟨0, ByteArray.empty⟩ : Named), 0⟩ : Me39)) 0 g1_0 g1_1 e_g1) [0], .o, .cg (ok_btf_holdsItself_v1 hU a0 p0 q0 n0 k0 X0 A0 hR0 r2 e_r2), .o, .o, .b (z_neqF hq1), .o, .o, .o] [] (fun b => by kernel_rfl)
    · try dsimp only at e
      injection e with e; subst e; exact fn_conG hU (P := Tryd.prog) Tryd.func5 (fun xs w => by kernel_rfl) _ _ [.o, .o, .o, .cg (ok_btf_tooMany_v1 hU a0 p0 q0 n0 k0 X0 A0 hR0 false e_r0), .o, .o, .o, .o, .o, .cp, .cx (sp1_btf_Check_v1_L0_0_ok hU a0 p0 q0 n0 k0 X0 A0 hR0 0 (fun _ => (⟨(⟨0, ByteArray.empty⟩ : Named), 0⟩ : Me39)) 0 g1_0 g1_1 g1_2 g1_3 e_g1) [0]] [] (fun b => by kernel_rfl)
inductive Sh_barbicanlaw4_BtfRounds_L0 where
  | c0 
  | c1 (s0_0 : Nat) (s0_1 : Nat → (Xs27 × (Nat × (Nat → Member)))) (s0_2 : Int)
inductive Ex_barbicanlaw4_BtfRounds_L0 where
  | e0 
  | e1 (c1_0 : Nat) (c1_1 : Nat → (Xs27 × (Nat × (Nat → Member))))
noncomputable def st_barbicanlaw4_BtfRounds_L0 (y0 : Int) (n0 : Nat) (A0 : Nat → BitVec 8) (y2 : Int) : Sh_barbicanlaw4_BtfRounds_L0 → Option (Sh_barbicanlaw4_BtfRounds_L0 ⊕ Ex_barbicanlaw4_BtfRounds_L0)
  | .c0  =>
    bif decide (0 < y0) then
      (bif y0 == 0 then
        (none)
      else (bif (0 : Int) == y2 then
        (some (.inl (.c1 1 (fun _ => ((⟨2, (⟨#[]⟩ : ByteArray), 0, false, (IntKind.i64.wrap ((zrem 1 y0) + 1)), 0⟩ : Xs27), 0, fun _ => (⟨ByteArray.empty, 0, 0⟩ : Member))) 1)))
      else (bif inR 0 n0 then
        (bif ((A0 0) % 3#8) == 0#8 then
          (some (.inl (.c1 1 (fun _ => ((⟨5, (⟨#[97]⟩ : ByteArray), 0, false, (IntKind.i64.wrap ((zrem 1 y0) + 1)), 0⟩ : Xs27), 0, fun _ => (⟨ByteArray.empty, 0, 0⟩ : Member))) 1)))
        else (bif ((A0 0) % 3#8) == 1#8 then
          (some (.inl (.c1 1 (fun _ => ((⟨3, (⟨#[]⟩ : ByteArray), 0, false, (IntKind.i64.wrap ((zrem 1 y0) + 1)), 1⟩ : Xs27), 0, fun _ => (⟨ByteArray.empty, 0, 0⟩ : Member))) 1)))
        else (some (.inl (.c1 1 (fun _ => ((⟨4, (⟨#[97]⟩ : ByteArray), 8, false, 0, 0⟩ : Xs27), 1, (fun _ => (⟨(⟨#[109]⟩ : ByteArray), (IntKind.i64.wrap ((zrem 1 y0) + 1)), 0⟩ : Member)))) 1)))))
      else (none))))
    else (some (.inr (.e0 )))
  | .c1 s0_0 s0_1 s0_2 =>
    bif decide (s0_2 < y0) then
      (bif y0 == 0 then
        (none)
      else (bif s0_2 == y2 then
        (bif decide (s0_0 ≤ 1000000) then
          (some (.inl (.c1 (s0_0 + 1) (updF s0_1 s0_0 ((⟨2, (⟨#[]⟩ : ByteArray), 0, false, (IntKind.i64.wrap ((zrem (IntKind.i64.wrap (s0_2 + 1)) y0) + 1)), 0⟩ : Xs27), 0, fun _ => (⟨ByteArray.empty, 0, 0⟩ : Member))) (IntKind.i64.wrap (s0_2 + 1)))))
        else (none))
      else (bif inR s0_2 n0 then
        (bif ((A0 (s0_2).toNat) % 3#8) == 0#8 then
          (bif inR (IntKind.i64.wrap (s0_2 + 1)) (52 + 1) then
            (bif inR s0_2 (((IntKind.i64.wrap (s0_2 + 1))).toNat + 1) then
              (bif decide (s0_0 ≤ 1000000) then
                (some (.inl (.c1 (s0_0 + 1) (updF s0_1 s0_0 ((⟨5, ((⟨#[97, 98, 99, 100, 101, 102, 103, 104, 105, 106, 107, 108, 109, 110, 111, 112, 113, 114, 115, 116, 117, 118, 119, 120, 121, 122, 65, 66, 67, 68, 69, 70, 71, 72, 73, 74, 75, 76, 77, 78, 79, 80, 81, 82, 83, 84, 85, 86, 87, 88, 89, 90]⟩ : ByteArray).extract (s0_2).toNat ((IntKind.i64.wrap (s0_2 + 1))).toNat), 0, false, (IntKind.i64.wrap ((zrem (IntKind.i64.wrap (s0_2 + 1)) y0) + 1)), 0⟩ : Xs27), 0, fun _ => (⟨ByteArray.empty, 0, 0⟩ : Member))) (IntKind.i64.wrap (s0_2 + 1)))))
              else (none))
            else (none))
          else (none))
        else (bif ((A0 (s0_2).toNat) % 3#8) == 1#8 then
          (bif decide (s0_0 ≤ 1000000) then
            (some (.inl (.c1 (s0_0 + 1) (updF s0_1 s0_0 ((⟨3, (⟨#[]⟩ : ByteArray), 0, false, (IntKind.i64.wrap ((zrem (IntKind.i64.wrap (s0_2 + 1)) y0) + 1)), 1⟩ : Xs27), 0, fun _ => (⟨ByteArray.empty, 0, 0⟩ : Member))) (IntKind.i64.wrap (s0_2 + 1)))))
          else (none))
        else (bif inR (IntKind.i64.wrap (s0_2 + 1)) (52 + 1) then
          (bif inR s0_2 (((IntKind.i64.wrap (s0_2 + 1))).toNat + 1) then
            (bif decide (s0_0 ≤ 1000000) then
              (some (.inl (.c1 (s0_0 + 1) (updF s0_1 s0_0 ((⟨4, ((⟨#[97, 98, 99, 100, 101, 102, 103, 104, 105, 106, 107, 108, 109, 110, 111, 112, 113, 114, 115, 116, 117, 118, 119, 120, 121, 122, 65, 66, 67, 68, 69, 70, 71, 72, 73, 74, 75, 76, 77, 78, 79, 80, 81, 82, 83, 84, 85, 86, 87, 88, 89, 90]⟩ : ByteArray).extract (s0_2).toNat ((IntKind.i64.wrap (s0_2 + 1))).toNat), 8, false, 0, 0⟩ : Xs27), 1, (fun _ => (⟨(⟨#[109]⟩ : ByteArray), (IntKind.i64.wrap ((zrem (IntKind.i64.wrap (s0_2 + 1)) y0) + 1)), 0⟩ : Member)))) (IntKind.i64.wrap (s0_2 + 1)))))
            else (none))
          else (none))
        else (none))))
      else (none))))
    else (some (.inr (.e1 s0_0 s0_1)))
noncomputable def bd_barbicanlaw4_BtfRounds_L0 : Code := codeOf Tryd.f3 [1, 1, 1, 1, 1, 0, 1, 0, 0]
def fl_barbicanlaw4_BtfRounds_L0 (y0 : Int) (a0 : Option Addr) (p0 : Nat) (q0 : Nat) (n0 : Nat) (k0 : Nat) (A0 : Nat → BitVec 8) (y2 : Int) : Sh_barbicanlaw4_BtfRounds_L0 → List L1 → List Value
  | .c0 , ls => [.int .i64 (y0), .slice a0 n0 (n0 + k0), .int .i64 (y2), .slice none 0 0, .string (⟨#[97, 98, 99, 100, 101, 102, 103, 104, 105, 106, 107, 108, 109, 110, 111, 112, 113, 114, 115, 116, 117, 118, 119, 120, 121, 122, 65, 66, 67, 68, 69, 70, 71, 72, 73, 74, 75, 76, 77, 78, 79, 80, 81, 82, 83, 84, 85, 86, 87, 88, 89, 90]⟩ : ByteArray), .int .i64 (0)]
  | .c1 s0_0 s0_1 s0_2, ls => [.int .i64 (y0), .slice a0 n0 (n0 + k0), .int .i64 (y2), (rowV (rrL (lget ls 0)) s0_0 7), .string (⟨#[97, 98, 99, 100, 101, 102, 103, 104, 105, 106, 107, 108, 109, 110, 111, 112, 113, 114, 115, 116, 117, 118, 119, 120, 121, 122, 65, 66, 67, 68, 69, 70, 71, 72, 73, 74, 75, 76, 77, 78, 79, 80, 81, 82, 83, 84, 85, 86, 87, 88, 89, 90]⟩ : ByteArray), .int .i64 (s0_2)]
def mf_barbicanlaw4_BtfRounds_L0 : Sh_barbicanlaw4_BtfRounds_L0 → List (Nat × Nat)
  | .c0  => [(3, 4), (3, 101)]
  | .c1 _ _ _ => [(3, 4), (3, 101)]
noncomputable def fr_barbicanlaw4_BtfRounds_L0 (y0 : Int) (a0 : Option Addr) (p0 : Nat) (q0 : Nat) (n0 : Nat) (k0 : Nat) (A0 : Nat → BitVec 8) (y2 : Int) (s : Sh_barbicanlaw4_BtfRounds_L0) : List L1 → List Value := mrgF (mf_barbicanlaw4_BtfRounds_L0 s) (fl_barbicanlaw4_BtfRounds_L0 y0 a0 p0 q0 n0 k0 A0 y2 s) 1
def Hs_barbicanlaw4_BtfRounds_L0 (y0 : Int) (a0 : Option Addr) (p0 : Nat) (q0 : Nat) (n0 : Nat) (k0 : Nat) (A0 : Nat → BitVec 8) (y2 : Int) : Sh_barbicanlaw4_BtfRounds_L0 → List L1 → List Obj
  | .c0 , ls => [unb, unb]
  | .c1 s0_0 s0_1 s0_2, ls => [rsX h_Xs27 t_Xs27 7 (lget ls 0) 27 29 c_Member 3 s0_0 s0_1, unb]
def vl_barbicanlaw4_BtfRounds_L0 (y0 : Int) (a0 : Option Addr) (p0 : Nat) (q0 : Nat) (n0 : Nat) (k0 : Nat) (A0 : Nat → BitVec 8) (y2 : Int) : Ex_barbicanlaw4_BtfRounds_L0 → List L1 → List Value
  | .e0 , ls => [.int .i64 (y0), .slice a0 n0 (n0 + k0), .int .i64 (y2), .slice none 0 0, .string (⟨#[97, 98, 99, 100, 101, 102, 103, 104, 105, 106, 107, 108, 109, 110, 111, 112, 113, 114, 115, 116, 117, 118, 119, 120, 121, 122, 65, 66, 67, 68, 69, 70, 71, 72, 73, 74, 75, 76, 77, 78, 79, 80, 81, 82, 83, 84, 85, 86, 87, 88, 89, 90]⟩ : ByteArray)]
  | .e1 c1_0 c1_1, ls => [.int .i64 (y0), .slice a0 n0 (n0 + k0), .int .i64 (y2), (rowV (rrL (lget ls 0)) c1_0 7), .string (⟨#[97, 98, 99, 100, 101, 102, 103, 104, 105, 106, 107, 108, 109, 110, 111, 112, 113, 114, 115, 116, 117, 118, 119, 120, 121, 122, 65, 66, 67, 68, 69, 70, 71, 72, 73, 74, 75, 76, 77, 78, 79, 80, 81, 82, 83, 84, 85, 86, 87, 88, 89, 90]⟩ : ByteArray)]
def mk_barbicanlaw4_BtfRounds_L0 : Ex_barbicanlaw4_BtfRounds_L0 → List (Nat × Nat)
  | .e0  => [(3, 4), (2, 102)]
  | .e1 _ _ => [(3, 4), (2, 102)]
noncomputable def vf_barbicanlaw4_BtfRounds_L0 (y0 : Int) (a0 : Option Addr) (p0 : Nat) (q0 : Nat) (n0 : Nat) (k0 : Nat) (A0 : Nat → BitVec 8) (y2 : Int) (r : Ex_barbicanlaw4_BtfRounds_L0) : List L1 → List Value := mrgF (mk_barbicanlaw4_BtfRounds_L0 r) (vl_barbicanlaw4_BtfRounds_L0 y0 a0 p0 q0 n0 k0 A0 y2 r) 1
def Hf_barbicanlaw4_BtfRounds_L0 (y0 : Int) (a0 : Option Addr) (p0 : Nat) (q0 : Nat) (n0 : Nat) (k0 : Nat) (A0 : Nat → BitVec 8) (y2 : Int) : Ex_barbicanlaw4_BtfRounds_L0 → List L1 → List Obj
  | .e0 , ls => [unb, unb]
  | .e1 c1_0 c1_1, ls => [rsX h_Xs27 t_Xs27 7 (lget ls 0) 27 29 c_Member 3 c1_0 c1_1, unb]
def ex_barbicanlaw4_BtfRounds_L0 : Ex_barbicanlaw4_BtfRounds_L0 → Ex
  | .e0  => (.exit 0)
  | .e1 _ _ => (.exit 0)
end
section
variable {M : Nat → Prop} {B0 : Nat} {S : World → Prop} (hU : Up M B0 S) (y0 : Int) (a0 : Option Addr) (p0 : Nat) (q0 : Nat) (n0 : Nat) (k0 : Nat) (A0 : Nat → BitVec 8) (hR0 : Ro S cu8 1 a0 p0 q0 n0 A0) (y2 : Int)
include hU y0 a0 p0 q0 n0 k0 A0 hR0 y2
theorem go_barbicanlaw4_BtfRounds_L0 (s : Sh_barbicanlaw4_BtfRounds_L0) (r : Ex_barbicanlaw4_BtfRounds_L0) (h : lpO (st_barbicanlaw4_BtfRounds_L0 y0 n0 A0 y2) s = some r) : GoesG Tryd.prog M B0 S (.loop bd_barbicanlaw4_BtfRounds_L0) 2 (fr_barbicanlaw4_BtfRounds_L0 y0 a0 p0 q0 n0 k0 A0 y2 s) (Hs_barbicanlaw4_BtfRounds_L0 y0 a0 p0 q0 n0 k0 A0 y2 s) (ex_barbicanlaw4_BtfRounds_L0 r) 0 (vf_barbicanlaw4_BtfRounds_L0 y0 a0 p0 q0 n0 k0 A0 y2 r) (Hf_barbicanlaw4_BtfRounds_L0 y0 a0 p0 q0 n0 k0 A0 y2 r) 2 :=
  goes_lpO (fun s q e => by
    cases s with
    | c0  =>
      unfold st_barbicanlaw4_BtfRounds_L0 at e
      dsimp only at e
      replace e := cond_eq_or e
      rcases e with ⟨hq0, e⟩ | ⟨hq0, e⟩
      · replace e := cond_eq_or e
        rcases e with ⟨hq1, e⟩ | ⟨hq1, e⟩
        · exact none_some e
        · replace e := cond_eq_or e
          rcases e with ⟨hq2, e⟩ | ⟨hq2, e⟩
          · cases e; exact goes_runM hU [.o, .o, .b (z_lssT hq0), .o, .o, .o, .ov (z_rem Tryd.prog 3 (.tmp 33) (.tmp 34) 1 y0 (z_nz hq1)), .o, .o, .o, .o, .b (z_eqlT hq2), .o, .o, .o, .o, .o, .xg (sqApXn0_ok (hd := h_Xs27) (tl := t_Xs27) (x0 := (⟨2, (⟨#[]⟩ : ByteArray), 0, false, (IntKind.i64.wrap ((zrem 1 y0) + 1)), 0⟩ : Xs27)) (ty := 24) (T2 := 29) z_Xs27 o1_Xs27 o2_Xs27 rt24 #[false, false] (f := c_Member) (sz := 3) (B := fun _ => (⟨ByteArray.empty, 0, 0⟩ : Member)) (c := 1) (T' := 27) (by decide)) [2], .o, .o, .o, .o] [3] (fun b => rfl) (by decide) rfl rfl (fun b => by kernel_rfl)
          · replace e := cond_eq_or e
            rcases e with ⟨hq3, e⟩ | ⟨hq3, e⟩
            · replace e := cond_eq_or e
              rcases e with ⟨hq4, e⟩ | ⟨hq4, e⟩
              · cases e; exact goes_runM hU [.o, .o, .b (z_lssT hq0), .o, .o, .o, .ov (z_rem Tryd.prog 3 (.tmp 33) (.tmp 34) 1 y0 (z_nz hq1)), .o, .o, .o, .o, .b (z_eqlF hq2), .o, .o, .o, .q (ixRo_ok (kd := .i64) (T := 22) (x := 0) (sz := 1) rfl (fun w => by kernel_rfl) hR0 hq3), .l (accRo hR0 cu8_len (inR_nat hq3) 0 [.int .u8 (nn (A0 0))] rfl), .ov (u8_rem Tryd.prog 5 (.tmp 62) (.const (.int .u8 (3))) (A0 0) (3#8) (by decide)), .t (u_eq ((A0 0) % 3#8) (0#8)) hq4, .o, .o, .o, .o, .o, .o, .o, .o, .o, .o, .xg (sqApXn0_ok (hd := h_Xs27) (tl := t_Xs27) (x0 := (⟨5, (⟨#[97]⟩ : ByteArray), 0, false, (IntKind.i64.wrap ((zrem 1 y0) + 1)), 0⟩ : Xs27)) (ty := 24) (T2 := 29) z_Xs27 o1_Xs27 o2_Xs27 rt24 #[false, false] (f := c_Member) (sz := 3) (B := fun _ => (⟨ByteArray.empty, 0, 0⟩ : Member)) (c := 1) (T' := 27) (by decide)) [2], .o, .o, .o, .o] [3] (fun b => rfl) (by decide) rfl rfl (fun b => by kernel_rfl)
              · replace e := cond_eq_or e
                rcases e with ⟨hq5, e⟩ | ⟨hq5, e⟩
                · cases e; exact goes_runM hU [.o, .o, .b (z_lssT hq0), .o, .o, .o, .ov (z_rem Tryd.prog 3 (.tmp 33) (.tmp 34) 1 y0 (z_nz hq1)), .o, .o, .o, .o, .b (z_eqlF hq2), .o, .o, .o, .q (ixRo_ok (kd := .i64) (T := 22) (x := 0) (sz := 1) rfl (fun w => by kernel_rfl) hR0 hq3), .l (accRo hR0 cu8_len (inR_nat hq3) 0 [.int .u8 (nn (A0 0))] rfl), .ov (u8_rem Tryd.prog 5 (.tmp 62) (.const (.int .u8 (3))) (A0 0) (3#8) (by decide)), .t (u_eq ((A0 0) % 3#8) (0#8)) hq4, .o, .o, .o, .q (ixRo_ok (kd := .i64) (T := 22) (x := 0) (sz := 1) rfl (fun w => by kernel_rfl) hR0 hq3), .l (accRo hR0 cu8_len (inR_nat hq3) 0 [.int .u8 (nn (A0 0))] rfl), .ov (u8_rem Tryd.prog 5 (.tmp 79) (.const (.int .u8 (3))) (A0 0) (3#8) (by decide)), .t (u_eq ((A0 0) % 3#8) (1#8)) hq5, .o, .o, .o, .o, .o, .xg (sqApXn0_ok (hd := h_Xs27) (tl := t_Xs27) (x0 := (⟨3, (⟨#[]⟩ : ByteArray), 0, false, (IntKind.i64.wrap ((zrem 1 y0) + 1)), 1⟩ : Xs27)) (ty := 24) (T2 := 29) z_Xs27 o1_Xs27 o2_Xs27 rt24 #[false, false] (f := c_Member) (sz := 3) (B := fun _ => (⟨ByteArray.empty, 0, 0⟩ : Member)) (c := 1) (T' := 27) (by decide)) [2], .o, .o, .o, .o] [3] (fun b => rfl) (by decide) rfl rfl (fun b => by kernel_rfl)
                · cases e; exact goes_runM hU [.o, .o, .b (z_lssT hq0), .o, .o, .o, .ov (z_rem Tryd.prog 3 (.tmp 33) (.tmp 34) 1 y0 (z_nz hq1)), .o, .o, .o, .o, .b (z_eqlF hq2), .o, .o, .o, .q (ixRo_ok (kd := .i64) (T := 22) (x := 0) (sz := 1) rfl (fun w => by kernel_rfl) hR0 hq3), .l (accRo hR0 cu8_len (inR_nat hq3) 0 [.int .u8 (nn (A0 0))] rfl), .ov (u8_rem Tryd.prog 5 (.tmp 62) (.const (.int .u8 (3))) (A0 0) (3#8) (by decide)), .t (u_eq ((A0 0) % 3#8) (0#8)) hq4, .o, .o, .o, .q (ixRo_ok (kd := .i64) (T := 22) (x := 0) (sz := 1) rfl (fun w => by kernel_rfl) hR0 hq3), .l (accRo hR0 cu8_len (inR_nat hq3) 0 [.int .u8 (nn (A0 0))] rfl), .ov (u8_rem Tryd.prog 5 (.tmp 79) (.const (.int .u8 (3))) (A0 0) (3#8) (by decide)), .t (u_eq ((A0 0) % 3#8) (1#8)) hq5, .o, .o, .o, .o, .o, .o, .o, .o, .o, .o, .o, .o, .xg (sqApX0_ok (hd := h_Xs27) (tl := t_Xs27) (x0 := (⟨4, (⟨#[97]⟩ : ByteArray), 8, false, 0, 0⟩ : Xs27)) (ty := 24) (T2 := 29) z_Xs27 o1_Xs27 o2_Xs27 rt24 #[false, false] .plain (f := c_Member) (sz := 3) (m := 1) (B := (fun _ => (⟨(⟨#[109]⟩ : ByteArray), (IntKind.i64.wrap ((zrem 1 y0) + 1)), 0⟩ : Member))) (c := 1) (T' := 27) (by decide) (by decide) (by decide)) [3, 2], .o, .o, .o, .o] [4] (fun b => rfl) (by decide) rfl rfl (fun b => by kernel_rfl)
            · exact none_some e
      · cases e; exact ⟨ne_exit 0, goes_runM hU [.o, .o, .b (z_lssF hq0)] [0] (fun b => rfl) (by decide) rfl rfl (fun b => by kernel_rfl)⟩
    | c1 s0_0 s0_1 s0_2 =>
      unfold st_barbicanlaw4_BtfRounds_L0 at e
      dsimp only at e
      replace e := cond_eq_or e
      rcases e with ⟨hq0, e⟩ | ⟨hq0, e⟩
      · replace e := cond_eq_or e
        rcases e with ⟨hq1, e⟩ | ⟨hq1, e⟩
        · exact none_some e
        · replace e := cond_eq_or e
          rcases e with ⟨hq2, e⟩ | ⟨hq2, e⟩
          · replace e := cond_eq_or e
            rcases e with ⟨hq3, e⟩ | ⟨hq3, e⟩
            · cases e; exact goes_runM hU [.o, .o, .b (z_lssT hq0), .o, .o, .o, .ov (z_rem Tryd.prog 3 (.tmp 33) (.tmp 34) (IntKind.i64.wrap (s0_2 + 1)) y0 (z_nz hq1)), .o, .o, .o, .o, .b (z_eqlT hq2), .o, .o, .o, .o, .o, .xg (sqApXn_ok (hd := h_Xs27) (tl := t_Xs27) (x0 := (⟨2, (⟨#[]⟩ : ByteArray), 0, false, (IntKind.i64.wrap ((zrem (IntKind.i64.wrap (s0_2 + 1)) y0) + 1)), 0⟩ : Xs27)) (ty := 24) (T2 := 29) z_Xs27 o1_Xs27 o2_Xs27 rt24 #[false, false] (f := c_Member) (sz := 3) (N := s0_0) (X := s0_1) (B := fun _ => (⟨ByteArray.empty, 0, 0⟩ : Member)) (c := 1) (T' := 27) hq3 (by decide)) [0, 2], .o, .o, .o, .o] [3] (fun b => rfl) (by decide) rfl rfl (fun b => by kernel_rfl)
            · exact none_some e
          · replace e := cond_eq_or e
            rcases e with ⟨hq3, e⟩ | ⟨hq3, e⟩
            · replace e := cond_eq_or e
              rcases e with ⟨hq4, e⟩ | ⟨hq4, e⟩
              · replace e := cond_eq_or e
                rcases e with ⟨hq5, e⟩ | ⟨hq5, e⟩
                · replace e := cond_eq_or e
                  rcases e with ⟨hq6, e⟩ | ⟨hq6, e⟩
                  · replace e := cond_eq_or e
                    rcases e with ⟨hq7, e⟩ | ⟨hq7, e⟩
                    · cases e; exact goes_runM hU [.o, .o, .b (z_lssT hq0), .o, .o, .o, .ov (z_rem Tryd.prog 3 (.tmp 33) (.tmp 34) (IntKind.i64.wrap (s0_2 + 1)) y0 (z_nz hq1)), .o, .o, .o, .o, .b (z_eqlF hq2), .o, .o, .o, .q (ixRo_ok (kd := .i64) (T := 22) (x := s0_2) (sz := 1) rfl (fun w => by kernel_rfl) hR0 hq3), .l (accRo hR0 cu8_len (inR_nat hq3) 0 [.int .u8 (nn (A0 (s0_2).toNat))] rfl), .ov (u8_rem Tryd.prog 5 (.tmp 62) (.const (.int .u8 (3))) (A0 (s0_2).toNat) (3#8) (by decide)), .t (u_eq ((A0 (s0_2).toNat) % 3#8) (0#8)) hq4, .o, .o, .o, .o, .o, .o, .ov (slcS_ok (T := 9) (s := (⟨#[97, 98, 99, 100, 101, 102, 103, 104, 105, 106, 107, 108, 109, 110, 111, 112, 113, 114, 115, 116, 117, 118, 119, 120, 121, 122, 65, 66, 67, 68, 69, 70, 71, 72, 73, 74, 75, 76, 77, 78, 79, 80, 81, 82, 83, 84, 85, 86, 87, 88, 89, 90]⟩ : ByteArray)) (x := s0_2) (y := (IntKind.i64.wrap (s0_2 + 1))) (by kernel_rfl) hq6 hq5), .o, .o, .o, .xg (sqApXn_ok (hd := h_Xs27) (tl := t_Xs27) (x0 := (⟨5, ((⟨#[97, 98, 99, 100, 101, 102, 103, 104, 105, 106, 107, 108, 109, 110, 111, 112, 113, 114, 115, 116, 117, 118, 119, 120, 121, 122, 65, 66, 67, 68, 69, 70, 71, 72, 73, 74, 75, 76, 77, 78, 79, 80, 81, 82, 83, 84, 85, 86, 87, 88, 89, 90]⟩ : ByteArray).extract (s0_2).toNat ((IntKind.i64.wrap (s0_2 + 1))).toNat), 0, false, (IntKind.i64.wrap ((zrem (IntKind.i64.wrap (s0_2 + 1)) y0) + 1)), 0⟩ : Xs27)) (ty := 24) (T2 := 29) z_Xs27 o1_Xs27 o2_Xs27 rt24 #[false, false] (f := c_Member) (sz := 3) (N := s0_0) (X := s0_1) (B := fun _ => (⟨ByteArray.empty, 0, 0⟩ : Member)) (c := 1) (T' := 27) hq7 (by decide)) [0, 2], .o, .o, .o, .o] [3] (fun b => rfl) (by decide) rfl rfl (fun b => by kernel_rfl)
                    · exact none_some e
                  · exact none_some e
                · exact none_some e
              · replace e := cond_eq_or e
                rcases e with ⟨hq5, e⟩ | ⟨hq5, e⟩
                · replace e := cond_eq_or e
                  rcases e with ⟨hq6, e⟩ | ⟨hq6, e⟩
                  · cases e; exact goes_runM hU [.o, .o, .b (z_lssT hq0), .o, .o, .o, .ov (z_rem Tryd.prog 3 (.tmp 33) (.tmp 34) (IntKind.i64.wrap (s0_2 + 1)) y0 (z_nz hq1)), .o, .o, .o, .o, .b (z_eqlF hq2), .o, .o, .o, .q (ixRo_ok (kd := .i64) (T := 22) (x := s0_2) (sz := 1) rfl (fun w => by kernel_rfl) hR0 hq3), .l (accRo hR0 cu8_len (inR_nat hq3) 0 [.int .u8 (nn (A0 (s0_2).toNat))] rfl), .ov (u8_rem Tryd.prog 5 (.tmp 62) (.const (.int .u8 (3))) (A0 (s0_2).toNat) (3#8) (by decide)), .t (u_eq ((A0 (s0_2).toNat) % 3#8) (0#8)) hq4, .o, .o, .o, .q (ixRo_ok (kd := .i64) (T := 22) (x := s0_2) (sz := 1) rfl (fun w => by kernel_rfl) hR0 hq3), .l (accRo hR0 cu8_len (inR_nat hq3) 0 [.int .u8 (nn (A0 (s0_2).toNat))] rfl), .ov (u8_rem Tryd.prog 5 (.tmp 79) (.const (.int .u8 (3))) (A0 (s0_2).toNat) (3#8) (by decide)), .t (u_eq ((A0 (s0_2).toNat) % 3#8) (1#8)) hq5, .o, .o, .o, .o, .o, .xg (sqApXn_ok (hd := h_Xs27) (tl := t_Xs27) (x0 := (⟨3, (⟨#[]⟩ : ByteArray), 0, false, (IntKind.i64.wrap ((zrem (IntKind.i64.wrap (s0_2 + 1)) y0) + 1)), 1⟩ : Xs27)) (ty := 24) (T2 := 29) z_Xs27 o1_Xs27 o2_Xs27 rt24 #[false, false] (f := c_Member) (sz := 3) (N := s0_0) (X := s0_1) (B := fun _ => (⟨ByteArray.empty, 0, 0⟩ : Member)) (c := 1) (T' := 27) hq6 (by decide)) [0, 2], .o, .o, .o, .o] [3] (fun b => rfl) (by decide) rfl rfl (fun b => by kernel_rfl)
                  · exact none_some e
                · replace e := cond_eq_or e
                  rcases e with ⟨hq6, e⟩ | ⟨hq6, e⟩
                  · replace e := cond_eq_or e
                    rcases e with ⟨hq7, e⟩ | ⟨hq7, e⟩
                    · replace e := cond_eq_or e
                      rcases e with ⟨hq8, e⟩ | ⟨hq8, e⟩
                      · cases e; exact goes_runM hU [.o, .o, .b (z_lssT hq0), .o, .o, .o, .ov (z_rem Tryd.prog 3 (.tmp 33) (.tmp 34) (IntKind.i64.wrap (s0_2 + 1)) y0 (z_nz hq1)), .o, .o, .o, .o, .b (z_eqlF hq2), .o, .o, .o, .q (ixRo_ok (kd := .i64) (T := 22) (x := s0_2) (sz := 1) rfl (fun w => by kernel_rfl) hR0 hq3), .l (accRo hR0 cu8_len (inR_nat hq3) 0 [.int .u8 (nn (A0 (s0_2).toNat))] rfl), .ov (u8_rem Tryd.prog 5 (.tmp 62) (.const (.int .u8 (3))) (A0 (s0_2).toNat) (3#8) (by decide)), .t (u_eq ((A0 (s0_2).toNat) % 3#8) (0#8)) hq4, .o, .o, .o, .q (ixRo_ok (kd := .i64) (T := 22) (x := s0_2) (sz := 1) rfl (fun w => by kernel_rfl) hR0 hq3), .l (accRo hR0 cu8_len (inR_nat hq3) 0 [.int .u8 (nn (A0 (s0_2).toNat))] rfl), .ov (u8_rem Tryd.prog 5 (.tmp 79) (.const (.int .u8 (3))) (A0 (s0_2).toNat) (3#8) (by decide)), .t (u_eq ((A0 (s0_2).toNat) % 3#8) (1#8)) hq5, .o, .o, .o, .o, .o, .o, .ov (slcS_ok (T := 9) (s := (⟨#[97, 98, 99, 100, 101, 102, 103, 104, 105, 106, 107, 108, 109, 110, 111, 112, 113, 114, 115, 116, 117, 118, 119, 120, 121, 122, 65, 66, 67, 68, 69, 70, 71, 72, 73, 74, 75, 76, 77, 78, 79, 80, 81, 82, 83, 84, 85, 86, 87, 88, 89, 90]⟩ : ByteArray)) (x := s0_2) (y := (IntKind.i64.wrap (s0_2 + 1))) (by kernel_rfl) hq7 hq6), .o, .o, .o, .o, .o, .xg (sqApX_ok (hd := h_Xs27) (tl := t_Xs27) (x0 := (⟨4, ((⟨#[97, 98, 99, 100, 101, 102, 103, 104, 105, 106, 107, 108, 109, 110, 111, 112, 113, 114, 115, 116, 117, 118, 119, 120, 121, 122, 65, 66, 67, 68, 69, 70, 71, 72, 73, 74, 75, 76, 77, 78, 79, 80, 81, 82, 83, 84, 85, 86, 87, 88, 89, 90]⟩ : ByteArray).extract (s0_2).toNat ((IntKind.i64.wrap (s0_2 + 1))).toNat), 8, false, 0, 0⟩ : Xs27)) (ty := 24) (T2 := 29) z_Xs27 o1_Xs27 o2_Xs27 rt24 #[false, false] .plain (f := c_Member) (sz := 3) (N := s0_0) (X := s0_1) (m := 1) (B := (fun _ => (⟨(⟨#[109]⟩ : ByteArray), (IntKind.i64.wrap ((zrem (IntKind.i64.wrap (s0_2 + 1)) y0) + 1)), 0⟩ : Member))) (c := 1) (T' := 27) (by decide) (by decide) hq8 (by decide)) [0, 3, 2], .o, .o, .o, .o] [4] (fun b => rfl) (by decide) rfl rfl (fun b => by kernel_rfl)
                      · exact none_some e
                    · exact none_some e
                  · exact none_some e
            · exact none_some e
      · cases e; exact ⟨ne_exit 0, goes_runM hU [.o, .o, .b (z_lssF hq0)] [0] (fun b => rfl) (by decide) rfl rfl (fun b => by kernel_rfl)⟩) s r h
noncomputable def t0_barbicanlaw4_BtfRounds_L0_0 (y0 : Int) (a0 : Option Addr) (p0 : Nat) (q0 : Nat) (n0 : Nat) (k0 : Nat) (A0 : Nat → BitVec 8) (y2 : Int)  (ls : List L1) : List Value := List.append [.int .i64 (y0), .slice a0 n0 (n0 + k0), .int .i64 (y2), undef, undef, undef, .bool false, .slice none 0 0, .string (⟨#[97, 98, 99, 100, 101, 102, 103, 104, 105, 106, 107, 108, 109, 110, 111, 112, 113, 114, 115, 116, 117, 118, 119, 120, 121, 122, 65, 66, 67, 68, 69, 70, 71, 72, 73, 74, 75, 76, 77, 78, 79, 80, 81, 82, 83, 84, 85, 86, 87, 88, 89, 90]⟩ : ByteArray), .int .i64 (0), undef, undef, undef, .bool true, .bool false, .int .i64 (y0), .bool false, .bool false, .int .i64 (y0), .bool false, .bool false, .bool false, .slice a0 n0 (n0 + k0), .int .i64 ((n0 : Int)), .int .i64 (y0), .bool false, .bool false] (und 84)
def pre_barbicanlaw4_BtfRounds_L0_0 (y0 : Int) (a0 : Option Addr) (p0 : Nat) (q0 : Nat) (n0 : Nat) (k0 : Nat) (A0 : Nat → BitVec 8) (y2 : Int)  (ls : List L1) : List Obj := []
theorem sp0_barbicanlaw4_BtfRounds_L0_0_ok (h : lpO (st_barbicanlaw4_BtfRounds_L0 y0 n0 A0 y2) (.c0) = some (.e0 )) : SpcG Tryd.prog M B0 S ⟨fun ls => .code (.loop bd_barbicanlaw4_BtfRounds_L0) (t0_barbicanlaw4_BtfRounds_L0_0 y0 a0 p0 q0 n0 k0 A0 y2  ls), pre_barbicanlaw4_BtfRounds_L0_0 y0 a0 p0 q0 n0 k0 A0 y2 , 2, (.exit 0), fun ls => vf_barbicanlaw4_BtfRounds_L0 y0 a0 p0 q0 n0 k0 A0 y2 (.e0 ) (ls.take 0 ++ ls.drop 0), fun ls => (Hf_barbicanlaw4_BtfRounds_L0 y0 a0 p0 q0 n0 k0 A0 y2 (.e0 ) (ls.take 0 ++ ls.drop 0)).take 0 ++ List.replicate 0 unb, fun ls => (Hf_barbicanlaw4_BtfRounds_L0 y0 a0 p0 q0 n0 k0 A0 y2 (.e0 ) (ls.take 0 ++ ls.drop 0)).drop 0⟩ :=
  spc_of_goesM hU 1 (k0 := 0) (go_barbicanlaw4_BtfRounds_L0 hU y0 a0 p0 q0 n0 k0 A0 hR0 y2 _ _ h) (t0_barbicanlaw4_BtfRounds_L0_0 y0 a0 p0 q0 n0 k0 A0 y2 ) (pre_barbicanlaw4_BtfRounds_L0_0 y0 a0 p0 q0 n0 k0 A0 y2 ) (fun _ => rfl) (fun ls h => by match ls, h with | [], _ => exact ⟨by kernel_rfl, by kernel_rfl⟩) (fun ls h => by match ls, h with | [], _ => rfl) (by decide) (by decide) (fun ls => rfl)
theorem sp1_barbicanlaw4_BtfRounds_L0_0_ok (c1_0 : Nat) (c1_1 : Nat → (Xs27 × (Nat × (Nat → Member)))) (h : lpO (st_barbicanlaw4_BtfRounds_L0 y0 n0 A0 y2) (.c0) = some (.e1 c1_0 c1_1)) : SpcG Tryd.prog M B0 S ⟨fun ls => .code (.loop bd_barbicanlaw4_BtfRounds_L0) (t0_barbicanlaw4_BtfRounds_L0_0 y0 a0 p0 q0 n0 k0 A0 y2  ls), pre_barbicanlaw4_BtfRounds_L0_0 y0 a0 p0 q0 n0 k0 A0 y2 , 2, (.exit 0), fun ls => vf_barbicanlaw4_BtfRounds_L0 y0 a0 p0 q0 n0 k0 A0 y2 (.e1 c1_0 c1_1) (ls.take 0 ++ ls.drop 0), fun ls => (Hf_barbicanlaw4_BtfRounds_L0 y0 a0 p0 q0 n0 k0 A0 y2 (.e1 c1_0 c1_1) (ls.take 0 ++ ls.drop 0)).take 0 ++ List.replicate 0 unb, fun ls => (Hf_barbicanlaw4_BtfRounds_L0 y0 a0 p0 q0 n0 k0 A0 y2 (.e1 c1_0 c1_1) (ls.take 0 ++ ls.drop 0)).drop 0⟩ :=
  spc_of_goesM hU 1 (k0 := 0) (go_barbicanlaw4_BtfRounds_L0 hU y0 a0 p0 q0 n0 k0 A0 hR0 y2 _ _ h) (t0_barbicanlaw4_BtfRounds_L0_0 y0 a0 p0 q0 n0 k0 A0 y2 ) (pre_barbicanlaw4_BtfRounds_L0_0 y0 a0 p0 q0 n0 k0 A0 y2 ) (fun _ => rfl) (fun ls h => by match ls, h with | [], _ => exact ⟨by kernel_rfl, by kernel_rfl⟩) (fun ls h => by match ls, h with | [], _ => rfl) (by decide) (by decide) (fun ls => rfl)
noncomputable def m_barbicanlaw4_BtfRounds (y0 : Int) (n0 : Nat) (A0 : Nat → BitVec 8) (y2 : Int) : Option (Bool) :=
  bif decide (y0 < 1) then
    (some true)
  else (bif decide (40 < y0) then
    (some true)
  else (bif decide ((n0 : Int) < y0) then
    (some true)
  else ((lpO (st_barbicanlaw4_BtfRounds_L0 y0 n0 A0 y2) (.c0)).bind fun g0 => match g0 with
  | .e0  => ((m_btf_Check_v1 0 (fun _ => ((⟨0, ByteArray.empty, 0, false, 0, 0⟩ : Xs27), 0, fun _ => (⟨ByteArray.empty, 0, 0⟩ : Member)))).bind fun r1 =>
    bif decide (0 ≤ y2) then
      (bif decide (y2 < y0) then
        (bif r1.2 == 0 then
          (some (r1.1 == 0))
        else (some false))
      else (bif r1.2 == 42 then
        (some (r1.1 == 1))
      else (some false)))
    else (bif r1.2 == 42 then
      (some (r1.1 == 1))
    else (some false)))
  | .e1 g0_0 g0_1 => ((m_btf_Check_v1 g0_0 g0_1).bind fun r1 =>
    bif decide (0 ≤ y2) then
      (bif decide (y2 < y0) then
        (bif r1.2 == 0 then
          (some (r1.1 == 0))
        else (some false))
      else (bif r1.2 == 42 then
        (some (r1.1 == 1))
      else (some false)))
    else (bif r1.2 == 42 then
      (some (r1.1 == 1))
    else (some false))))))
theorem ok_barbicanlaw4_BtfRounds (r : Bool) (e : m_barbicanlaw4_BtfRounds y0 n0 A0 y2 = some r) : ConG Tryd.prog S 3 #[.int .i64 (y0), .slice a0 n0 (n0 + k0), .int .i64 (y2)] (.bool (r)) := by
  unfold m_barbicanlaw4_BtfRounds at e
  replace e := cond_eq_or e
  rcases e with ⟨hq0, e⟩ | ⟨hq0, e⟩
  · injection e with e; subst e; exact fn_conG hU (P := Tryd.prog) Tryd.func3 (fun xs w => by kernel_rfl) _ _ [.o, .cg (ok_barbicanlaw4_known hU  ), .o, .o, .b (z_lssT hq0), .o, .o, .o, .o, .o] [] (fun b => by kernel_rfl)
  · replace e := cond_eq_or e
    rcases e with ⟨hq1, e⟩ | ⟨hq1, e⟩
    · injection e with e; subst e; exact fn_conG hU (P := Tryd.prog) Tryd.func3 (fun xs w => by kernel_rfl) _ _ [.o, .cg (ok_barbicanlaw4_known hU  ), .o, .o, .b (z_lssF hq0), .o, .o, .b (z_gtrT hq1), .o, .o, .o, .o] [] (fun b => by kernel_rfl)
    · replace e := cond_eq_or e
      rcases e with ⟨hq2, e⟩ | ⟨hq2, e⟩
      · injection e with e; subst e; exact fn_conG hU (P := Tryd.prog) Tryd.func3 (fun xs w => by kernel_rfl) _ _ [.o, .cg (ok_barbicanlaw4_known hU  ), .o, .o, .b (z_lssF hq0), .o, .o, .b (z_gtrF hq1), .o, .o, .o, .o, .o, .b (z_lssT hq2), .o, .o] [] (fun b => by kernel_rfl)
      · replace e := bindO_eq e
        obtain ⟨g0, e_g0, e⟩ := e
        rcases g0 with _ | ⟨g0_0, g0_1⟩
        · try dsimp only at e
          replace e := bindO_eq e
          obtain ⟨r1, e_r1, e⟩ := e
          try dsimp only at e
          replace e := cond_eq_or e
          rcases e with ⟨hq3, e⟩ | ⟨hq3, e⟩
          · replace e := cond_eq_or e
            rcases e with ⟨hq4, e⟩ | ⟨hq4, e⟩
            · replace e := cond_eq_or e
              rcases e with ⟨hq5, e⟩ | ⟨hq5, e⟩
              · injection e with e; subst e; exact fn_conG hU (P := Tryd.prog) Tryd.func3 (fun xs w => by kernel_rfl) _ _ [.o, .cg (ok_barbicanlaw4_known hU  ), .o, .o, .b (z_lssF hq0), .o, .o, .b (z_gtrF hq1), .o, .o, .o, .o, .o, .b (z_lssF hq2), .o, .o, .o, .o, .cp, .cx (sp0_barbicanlaw4_BtfRounds_L0_0_ok hU y0 a0 p0 q0 n0 k0 A0 hR0 y2   e_g0) [], .o, .cg (ok_btf_Check_v1 hU none 0 0 0 0 (fun _ => ⟨none, 0, 0, 0⟩) (fun _ => ((⟨0, ByteArray.empty, 0, false, 0, 0⟩ : Xs27), 0, fun _ => (⟨ByteArray.empty, 0, 0⟩ : Member))) RoS.nil r1 e_r1), .o, .o, .o, .o, .o, .o, .b (z_geqT hq3), .o, .o, .o, .b (z_lssT hq4), .o, .o, .b (z_eqlT hq5), .o, .o, .o, .o, .o] [] (fun b => by kernel_rfl)
              · injection e with e; subst e; exact fn_conG hU (P := Tryd.prog) Tryd.func3 (fun xs w => by kernel_rfl) _ _ [.o, .cg (ok_barbicanlaw4_known hU  ), .o, .o, .b (z_lssF hq0), .o, .o, .b (z_gtrF hq1), .o, .o, .o, .o, .o, .b (z_lssF hq2), .o, .o, .o, .o, .cp, .cx (sp0_barbicanlaw4_BtfRounds_L0_0_ok hU y0 a0 p0 q0 n0 k0 A0 hR0 y2   e_g0) [], .o, .cg (ok_btf_Check_v1 hU none 0 0 0 0 (fun _ => ⟨none, 0, 0, 0⟩) (fun _ => ((⟨0, ByteArray.empty, 0, false, 0, 0⟩ : Xs27), 0, fun _ => (⟨ByteArray.empty, 0, 0⟩ : Member))) RoS.nil r1 e_r1), .o, .o, .o, .o, .o, .o, .b (z_geqT hq3), .o, .o, .o, .b (z_lssT hq4), .o, .o, .b (z_eqlF hq5), .o, .o, .o] [] (fun b => by kernel_rfl)
            · replace e := cond_eq_or e
              rcases e with ⟨hq5, e⟩ | ⟨hq5, e⟩
              · injection e with e; subst e; exact fn_conG hU (P := Tryd.prog) Tryd.func3 (fun xs w => by kernel_rfl) _ _ [.o, .cg (ok_barbicanlaw4_known hU  ), .o, .o, .b (z_lssF hq0), .o, .o, .b (z_gtrF hq1), .o, .o, .o, .o, .o, .b (z_lssF hq2), .o, .o, .o, .o, .cp, .cx (sp0_barbicanlaw4_BtfRounds_L0_0_ok hU y0 a0 p0 q0 n0 k0 A0 hR0 y2   e_g0) [], .o, .cg (ok_btf_Check_v1 hU none 0 0 0 0 (fun _ => ⟨none, 0, 0, 0⟩) (fun _ => ((⟨0, ByteArray.empty, 0, false, 0, 0⟩ : Xs27), 0, fun _ => (⟨ByteArray.empty, 0, 0⟩ : Member))) RoS.nil r1 e_r1), .o, .o, .o, .o, .o, .o, .b (z_geqT hq3), .o, .o, .o, .b (z_lssF hq4), .o, .o, .b (z_eqlT hq5), .o, .o, .o, .o, .o] [] (fun b => by kernel_rfl)
              · injection e with e; subst e; exact fn_conG hU (P := Tryd.prog) Tryd.func3 (fun xs w => by kernel_rfl) _ _ [.o, .cg (ok_barbicanlaw4_known hU  ), .o, .o, .b (z_lssF hq0), .o, .o, .b (z_gtrF hq1), .o, .o, .o, .o, .o, .b (z_lssF hq2), .o, .o, .o, .o, .cp, .cx (sp0_barbicanlaw4_BtfRounds_L0_0_ok hU y0 a0 p0 q0 n0 k0 A0 hR0 y2   e_g0) [], .o, .cg (ok_btf_Check_v1 hU none 0 0 0 0 (fun _ => ⟨none, 0, 0, 0⟩) (fun _ => ((⟨0, ByteArray.empty, 0, false, 0, 0⟩ : Xs27), 0, fun _ => (⟨ByteArray.empty, 0, 0⟩ : Member))) RoS.nil r1 e_r1), .o, .o, .o, .o, .o, .o, .b (z_geqT hq3), .o, .o, .o, .b (z_lssF hq4), .o, .o, .b (z_eqlF hq5), .o, .o, .o] [] (fun b => by kernel_rfl)
          · replace e := cond_eq_or e
            rcases e with ⟨hq4, e⟩ | ⟨hq4, e⟩
            · injection e with e; subst e; exact fn_conG hU (P := Tryd.prog) Tryd.func3 (fun xs w => by kernel_rfl) _ _ [.o, .cg (ok_barbicanlaw4_known hU  ), .o, .o, .b (z_lssF hq0), .o, .o, .b (z_gtrF hq1), .o, .o, .o, .o, .o, .b (z_lssF hq2), .o, .o, .o, .o, .cp, .cx (sp0_barbicanlaw4_BtfRounds_L0_0_ok hU y0 a0 p0 q0 n0 k0 A0 hR0 y2   e_g0) [], .o, .cg (ok_btf_Check_v1 hU none 0 0 0 0 (fun _ => ⟨none, 0, 0, 0⟩) (fun _ => ((⟨0, ByteArray.empty, 0, false, 0, 0⟩ : Xs27), 0, fun _ => (⟨ByteArray.empty, 0, 0⟩ : Member))) RoS.nil r1 e_r1), .o, .o, .o, .o, .o, .o, .b (z_geqF hq3), .o, .o, .o, .b (z_eqlT hq4), .o, .o, .o, .o, .o] [] (fun b => by kernel_rfl)
            · injection e with e; subst e; exact fn_conG hU (P := Tryd.prog) Tryd.func3 (fun xs w => by kernel_rfl) _ _ [.o, .cg (ok_barbicanlaw4_known hU  ), .o, .o, .b (z_lssF hq0), .o, .o, .b (z_gtrF hq1), .o, .o, .o, .o, .o, .b (z_lssF hq2), .o, .o, .o, .o, .cp, .cx (sp0_barbicanlaw4_BtfRounds_L0_0_ok hU y0 a0 p0 q0 n0 k0 A0 hR0 y2   e_g0) [], .o, .cg (ok_btf_Check_v1 hU none 0 0 0 0 (fun _ => ⟨none, 0, 0, 0⟩) (fun _ => ((⟨0, ByteArray.empty, 0, false, 0, 0⟩ : Xs27), 0, fun _ => (⟨ByteArray.empty, 0, 0⟩ : Member))) RoS.nil r1 e_r1), .o, .o, .o, .o, .o, .o, .b (z_geqF hq3), .o, .o, .o, .b (z_eqlF hq4), .o, .o, .o] [] (fun b => by kernel_rfl)
        · try dsimp only at e
          replace e := bindO_eq e
          obtain ⟨r1, e_r1, e⟩ := e
          try dsimp only at e
          replace e := cond_eq_or e
          rcases e with ⟨hq3, e⟩ | ⟨hq3, e⟩
          · replace e := cond_eq_or e
            rcases e with ⟨hq4, e⟩ | ⟨hq4, e⟩
            · replace e := cond_eq_or e
              rcases e with ⟨hq5, e⟩ | ⟨hq5, e⟩
              · injection e with e; subst e; exact fn_conG hU (P := Tryd.prog) Tryd.func3 (fun xs w => by kernel_rfl) _ _ [.o, .cg (ok_barbicanlaw4_known hU  ), .o, .o, .b (z_lssF hq0), .o, .o, .b (z_gtrF hq1), .o, .o, .o, .o, .o, .b (z_lssF hq2), .o, .o, .o, .o, .cp, .cx (sp1_barbicanlaw4_BtfRounds_L0_0_ok hU y0 a0 p0 q0 n0 k0 A0 hR0 y2  g0_0 g0_1 e_g0) [], .o, .xg (SpcG.ownRSX hU (hd := h_Xs27) (tl := t_Xs27) (zs := 7) z_Xs27 (f := c_Member) (sz := 3) c_Member_len g0_0 g0_1 27 29 _ 0 .normal (by intros; rfl) (by intros; rfl) (fun M0 B0 S0 x0 u0 v0 z0 X0 hU0 hs0 hr0 => ConG.sp (ok_btf_Check_v1 hU0 x0 u0 v0 g0_0 z0 X0 g0_1 hr0 r1 e_r1))) [0], .o, .o, .o, .o, .o, .o, .b (z_geqT hq3), .o, .o, .o, .b (z_lssT hq4), .o, .o, .b (z_eqlT hq5), .o, .o, .o, .o, .o] [] (fun b => by kernel_rfl)
              · injection e with e; subst e; exact fn_conG hU (P := Tryd.prog) Tryd.func3 (fun xs w => by kernel_rfl) _ _ [.o, .cg (ok_barbicanlaw4_known hU  ), .o, .o, .b (z_lssF hq0), .o, .o, .b (z_gtrF hq1), .o, .o, .o, .o, .o, .b (z_lssF hq2), .o, .o, .o, .o, .cp, .cx (sp1_barbicanlaw4_BtfRounds_L0_0_ok hU y0 a0 p0 q0 n0 k0 A0 hR0 y2  g0_0 g0_1 e_g0) [], .o, .xg (SpcG.ownRSX hU (hd := h_Xs27) (tl := t_Xs27) (zs := 7) z_Xs27 (f := c_Member) (sz := 3) c_Member_len g0_0 g0_1 27 29 _ 0 .normal (by intros; rfl) (by intros; rfl) (fun M0 B0 S0 x0 u0 v0 z0 X0 hU0 hs0 hr0 => ConG.sp (ok_btf_Check_v1 hU0 x0 u0 v0 g0_0 z0 X0 g0_1 hr0 r1 e_r1))) [0], .o, .o, .o, .o, .o, .o, .b (z_geqT hq3), .o, .o, .o, .b (z_lssT hq4), .o, .o, .b (z_eqlF hq5), .o, .o, .o] [] (fun b => by kernel_rfl)
            · replace e := cond_eq_or e
              rcases e with ⟨hq5, e⟩ | ⟨hq5, e⟩
              · injection e with e; subst e; exact fn_conG hU (P := Tryd.prog) Tryd.func3 (fun xs w => by kernel_rfl) _ _ [.o, .cg (ok_barbicanlaw4_known hU  ), .o, .o, .b (z_lssF hq0), .o, .o, .b (z_gtrF hq1), .o, .o, .o, .o, .o, .b (z_lssF hq2), .o, .o, .o, .o, .cp, .cx (sp1_barbicanlaw4_BtfRounds_L0_0_ok hU y0 a0 p0 q0 n0 k0 A0 hR0 y2  g0_0 g0_1 e_g0) [], .o, .xg (SpcG.ownRSX hU (hd := h_Xs27) (tl := t_Xs27) (zs := 7) z_Xs27 (f := c_Member) (sz := 3) c_Member_len g0_0 g0_1 27 29 _ 0 .normal (by intros; rfl) (by intros; rfl) (fun M0 B0 S0 x0 u0 v0 z0 X0 hU0 hs0 hr0 => ConG.sp (ok_btf_Check_v1 hU0 x0 u0 v0 g0_0 z0 X0 g0_1 hr0 r1 e_r1))) [0], .o, .o, .o, .o, .o, .o, .b (z_geqT hq3), .o, .o, .o, .b (z_lssF hq4), .o, .o, .b (z_eqlT hq5), .o, .o, .o, .o, .o] [] (fun b => by kernel_rfl)
              · injection e with e; subst e; exact fn_conG hU (P := Tryd.prog) Tryd.func3 (fun xs w => by kernel_rfl) _ _ [.o, .cg (ok_barbicanlaw4_known hU  ), .o, .o, .b (z_lssF hq0), .o, .o, .b (z_gtrF hq1), .o, .o, .o, .o, .o, .b (z_lssF hq2), .o, .o, .o, .o, .cp, .cx (sp1_barbicanlaw4_BtfRounds_L0_0_ok hU y0 a0 p0 q0 n0 k0 A0 hR0 y2  g0_0 g0_1 e_g0) [], .o, .xg (SpcG.ownRSX hU (hd := h_Xs27) (tl := t_Xs27) (zs := 7) z_Xs27 (f := c_Member) (sz := 3) c_Member_len g0_0 g0_1 27 29 _ 0 .normal (by intros; rfl) (by intros; rfl) (fun M0 B0 S0 x0 u0 v0 z0 X0 hU0 hs0 hr0 => ConG.sp (ok_btf_Check_v1 hU0 x0 u0 v0 g0_0 z0 X0 g0_1 hr0 r1 e_r1))) [0], .o, .o, .o, .o, .o, .o, .b (z_geqT hq3), .o, .o, .o, .b (z_lssF hq4), .o, .o, .b (z_eqlF hq5), .o, .o, .o] [] (fun b => by kernel_rfl)
          · replace e := cond_eq_or e
            rcases e with ⟨hq4, e⟩ | ⟨hq4, e⟩
            · injection e with e; subst e; exact fn_conG hU (P := Tryd.prog) Tryd.func3 (fun xs w => by kernel_rfl) _ _ [.o, .cg (ok_barbicanlaw4_known hU  ), .o, .o, .b (z_lssF hq0), .o, .o, .b (z_gtrF hq1), .o, .o, .o, .o, .o, .b (z_lssF hq2), .o, .o, .o, .o, .cp, .cx (sp1_barbicanlaw4_BtfRounds_L0_0_ok hU y0 a0 p0 q0 n0 k0 A0 hR0 y2  g0_0 g0_1 e_g0) [], .o, .xg (SpcG.ownRSX hU (hd := h_Xs27) (tl := t_Xs27) (zs := 7) z_Xs27 (f := c_Member) (sz := 3) c_Member_len g0_0 g0_1 27 29 _ 0 .normal (by intros; rfl) (by intros; rfl) (fun M0 B0 S0 x0 u0 v0 z0 X0 hU0 hs0 hr0 => ConG.sp (ok_btf_Check_v1 hU0 x0 u0 v0 g0_0 z0 X0 g0_1 hr0 r1 e_r1))) [0], .o, .o, .o, .o, .o, .o, .b (z_geqF hq3), .o, .o, .o, .b (z_eqlT hq4), .o, .o, .o, .o, .o] [] (fun b => by kernel_rfl)
            · injection e with e; subst e; exact fn_conG hU (P := Tryd.prog) Tryd.func3 (fun xs w => by kernel_rfl) _ _ [.o, .cg (ok_barbicanlaw4_known hU  ), .o, .o, .b (z_lssF hq0), .o, .o, .b (z_gtrF hq1), .o, .o, .o, .o, .o, .b (z_lssF hq2), .o, .o, .o, .o, .cp, .cx (sp1_barbicanlaw4_BtfRounds_L0_0_ok hU y0 a0 p0 q0 n0 k0 A0 hR0 y2  g0_0 g0_1 e_g0) [], .o, .xg (SpcG.ownRSX hU (hd := h_Xs27) (tl := t_Xs27) (zs := 7) z_Xs27 (f := c_Member) (sz := 3) c_Member_len g0_0 g0_1 27 29 _ 0 .normal (by intros; rfl) (by intros; rfl) (fun M0 B0 S0 x0 u0 v0 z0 X0 hU0 hs0 hr0 => ConG.sp (ok_btf_Check_v1 hU0 x0 u0 v0 g0_0 z0 X0 g0_1 hr0 r1 e_r1))) [0], .o, .o, .o, .o, .o, .o, .b (z_geqF hq3), .o, .o, .o, .b (z_eqlF hq4), .o, .o, .o] [] (fun b => by kernel_rfl)
end

end Go.Proofs.YtnlnldpolaodbaaDoor
