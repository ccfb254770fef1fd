/-
  What the law knows of the program.
-/
import Derived.Test.YtlpjdjbophcomaaDoorBWAb
import Derived.Test.YtlpjdjbophcomaaDoorRyY
import Derived.Test.YtlpjdjbophcomaaDoorRxO
import Derived.Test.YtlpjdjbophcomaaDoorRyK
import Derived.Test.YtlpjdjbophcomaaDoorRyM
import Derived.Test.YtlpjdjbophcomaaDoorProg
namespace Go.Proofs.YtlpjdjbophcomaaDoor
open Go.RowKit
set_option linter.unusedVariables false
set_option linter.unusedSimpArgs false
set_option linter.unusedSectionVars false
set_option maxRecDepth 100000
set_option maxHeartbeats 4000000
section
variable {M : Nat → Prop} {B0 : Nat} {S : World → Prop} (hU : Up M B0 S) (a0 : Option Addr) (p0 : Nat) (q0 : Nat) (n0 : Nat) (k0 : Nat) (X0 : Nat → RoX) (A0 : Nat → (Xs35 × (Nat × (Nat → Member)))) (hR0 : RoS S h_Xs35 t_Xs35 7 c_Member 3 a0 p0 q0 n0 X0 (fun i => (A0 i).2) (fun i => (A0 i).1))
include hU a0 p0 q0 n0 k0 X0 A0 hR0
theorem go_btf_holdsItself_v1_L0 (s : Sh_btf_holdsItself_v1_L0) (r : Ex_btf_holdsItself_v1_L0) (h : lpO (st_btf_holdsItself_v1_L0 n0 A0) s = some r) : GoesG Tryd.prog M B0 S (.loop bd_btf_holdsItself_v1_L0) 3 (fr_btf_holdsItself_v1_L0 a0 p0 q0 n0 k0 X0 A0 s) (Hs_btf_holdsItself_v1_L0 a0 p0 q0 n0 k0 X0 A0 s) (ex_btf_holdsItself_v1_L0 r) 1 (vf_btf_holdsItself_v1_L0 a0 p0 q0 n0 k0 X0 A0 r) (Hf_btf_holdsItself_v1_L0 a0 p0 q0 n0 k0 X0 A0 r) 3 :=
  goes_lpO (fun s q e => by
    cases s with
    | c0 s0_0 =>
      unfold st_btf_holdsItself_v1_L0 at e
      dsimp only at e
      replace e := cond_eq_or e
      rcases e with ⟨hq0, e⟩ | ⟨hq0, e⟩
      · replace e := bindO_eq e
        obtain ⟨gb0, e_gb0, e⟩ := e
        obtain ⟨gb0_0, gb0_1⟩ := gb0
        try dsimp only at e
        replace e := cond_eq_or e
        rcases e with ⟨hq1, e⟩ | ⟨hq1, e⟩
        · subst hq1
          cases e; exact ⟨ne_ret, goes_runM hU [.a 1, .a 0, .o, .b (z_leqT hq0), .o, .o, .o, .a 4, .a 4, .a 1, .xg (ok0_btf_holdsItself_1_v3_F 300 hU s0_0 a0 p0 q0 n0 k0 X0 A0 hR0 s0_0 (fun _ => false) gb0_0 true e_gb0) [0, 1, 3, 4], .a 1, .o] [0, 2] (fun b => rfl) (by decide) rfl rfl (fun b => by kernel_rfl)⟩
        · subst hq1
          cases e; exact goes_runM hU [.a 1, .a 0, .o, .b (z_leqT hq0), .o, .o, .o, .a 4, .a 4, .a 1, .xg (ok0_btf_holdsItself_1_v3_F 300 hU s0_0 a0 p0 q0 n0 k0 X0 A0 hR0 s0_0 (fun _ => false) gb0_0 false e_gb0) [0, 1, 3, 4], .a 1, .o, .a 5, .a 5, .o, .a 5] [0, 5] (fun b => rfl) (by decide) rfl rfl (fun b => by kernel_rfl)
      · cases e; exact ⟨ne_exit 0, goes_runM hU [.a 1, .a 0, .o, .b (z_leqF hq0)] [0, 2] (fun b => rfl) (by decide) rfl rfl (fun b => by kernel_rfl)⟩) s r h
noncomputable def t0_btf_holdsItself_v1_L0_0 (a0 : Option Addr) (p0 : Nat) (q0 : Nat) (n0 : Nat) (k0 : Nat) (X0 : Nat → RoX) (A0 : Nat → (Xs35 × (Nat × (Nat → Member)))) (s0_0 : Int) (ls : List L1) : List Value := List.append [.slice a0 n0 (n0 + k0), .pointer (some ⟨(lget ls 0).n, 0, none⟩), .int .i64 (0), .pointer (some ⟨(lget ls 1).n, 0, none⟩)] (und 14)
def pre_btf_holdsItself_v1_L0_0 (a0 : Option Addr) (p0 : Nat) (q0 : Nat) (n0 : Nat) (k0 : Nat) (X0 : Nat → RoX) (A0 : Nat → (Xs35 × (Nat × (Nat → Member)))) (s0_0 : Int) (ls : List L1) : List Obj := [.cells #[.slice a0 n0 (n0 + k0)] 22, .cells #[.int .i64 (s0_0)] 3]
theorem sp0_btf_holdsItself_v1_L0_0_ok (s0_0 : Int) (h : lpO (st_btf_holdsItself_v1_L0 n0 A0) (.c0 s0_0) = some (.e0 )) : SpcG Tryd.prog M B0 S ⟨fun ls => .code (.loop bd_btf_holdsItself_v1_L0) (t0_btf_holdsItself_v1_L0_0 a0 p0 q0 n0 k0 X0 A0 s0_0 ls), pre_btf_holdsItself_v1_L0_0 a0 p0 q0 n0 k0 X0 A0 s0_0, 2, (.exit 0), fun ls => vf_btf_holdsItself_v1_L0 a0 p0 q0 n0 k0 X0 A0 (.e0 ) (ls.take 1 ++ ls.drop 2), fun ls => (Hf_btf_holdsItself_v1_L0 a0 p0 q0 n0 k0 X0 A0 (.e0 ) (ls.take 1 ++ ls.drop 2)).take 1 ++ List.replicate 1 unb, fun ls => (Hf_btf_holdsItself_v1_L0 a0 p0 q0 n0 k0 X0 A0 (.e0 ) (ls.take 1 ++ ls.drop 2)).drop 1⟩ :=
  spc_of_goesM hU 0 (k0 := 2) (go_btf_holdsItself_v1_L0 hU a0 p0 q0 n0 k0 X0 A0 hR0 _ _ h) (t0_btf_holdsItself_v1_L0_0 a0 p0 q0 n0 k0 X0 A0 s0_0) (pre_btf_holdsItself_v1_L0_0 a0 p0 q0 n0 k0 X0 A0 s0_0) (fun _ => rfl) (fun ls h => by match ls, h with | [l0, l1], _ => exact ⟨by kernel_rfl, by kernel_rfl⟩) (fun ls h => by match ls, h with | [l0, l1], _ => rfl) (by decide) (by decide) (fun ls => rfl)
theorem sp1_btf_holdsItself_v1_L0_0_ok (s0_0 : Int) (c1_0 : Int) (h : lpO (st_btf_holdsItself_v1_L0 n0 A0) (.c0 s0_0) = some (.e1 c1_0)) : SpcG Tryd.prog M B0 S ⟨fun ls => .code (.loop bd_btf_holdsItself_v1_L0) (t0_btf_holdsItself_v1_L0_0 a0 p0 q0 n0 k0 X0 A0 s0_0 ls), pre_btf_holdsItself_v1_L0_0 a0 p0 q0 n0 k0 X0 A0 s0_0, 2, .ret, fun ls => vf_btf_holdsItself_v1_L0 a0 p0 q0 n0 k0 X0 A0 (.e1 c1_0) (ls.take 1 ++ ls.drop 2), fun ls => (Hf_btf_holdsItself_v1_L0 a0 p0 q0 n0 k0 X0 A0 (.e1 c1_0) (ls.take 1 ++ ls.drop 2)).take 1 ++ List.replicate 1 unb, fun ls => (Hf_btf_holdsItself_v1_L0 a0 p0 q0 n0 k0 X0 A0 (.e1 c1_0) (ls.take 1 ++ ls.drop 2)).drop 1⟩ :=
  spc_of_goesM hU 0 (k0 := 2) (go_btf_holdsItself_v1_L0 hU a0 p0 q0 n0 k0 X0 A0 hR0 _ _ h) (t0_btf_holdsItself_v1_L0_0 a0 p0 q0 n0 k0 X0 A0 s0_0) (pre_btf_holdsItself_v1_L0_0 a0 p0 q0 n0 k0 X0 A0 s0_0) (fun _ => rfl) (fun ls h => by match ls, h with | [l0, l1], _ => exact ⟨by kernel_rfl, by kernel_rfl⟩) (fun ls h => by match ls, h with | [l0, l1], _ => rfl) (by decide) (by decide) (fun ls => rfl)
noncomputable def m_btf_holdsItself_v1 (n0 : Nat) (A0 : Nat → (Xs35 × (Nat × (Nat → Member)))) : Option (Int) :=
  (lpO (st_btf_holdsItself_v1_L0 n0 A0) (.c0 1)).bind fun g0 => match g0 with
  | .e0  => (some 0)
  | .e1 g0_0 => (some g0_0)
theorem ok_btf_holdsItself_v1 (r : Int) (e : m_btf_holdsItself_v1 n0 A0 = some r) : ConG Tryd.prog S 18 #[.slice a0 n0 (n0 + k0)] (.int .i64 (r)) := by
  unfold m_btf_holdsItself_v1 at e
  replace e := bindO_eq e
  obtain ⟨g0, e_g0, e⟩ := e
  rcases g0 with _ | ⟨g0_0⟩
  · try dsimp only at e
    injection e with e; subst e; exact fn_conG hU (P := Tryd.prog) Tryd.func18 (fun xs w => by kernel_rfl) _ _ [.o, .o, .o, .a 1, .cp, .cx (sp0_btf_holdsItself_v1_L0_0_ok hU a0 p0 q0 n0 k0 X0 A0 hR0 1  e_g0) [0, 1], .o] [] (fun b => by kernel_rfl)
  · try dsimp only at e
    injection e with e; subst e; exact fn_conG hU (P := Tryd.prog) Tryd.func18 (fun xs w => by kernel_rfl) _ _ [.o, .o, .o, .a 1, .cp, .cx (sp1_btf_holdsItself_v1_L0_0_ok hU a0 p0 q0 n0 k0 X0 A0 hR0 1 g0_0 e_g0) [0, 1]] [] (fun b => by kernel_rfl)
inductive Sh_btf_resolve_v2_L0 where
  | c0 (s0_0 : Int)
inductive Ex_btf_resolve_v2_L0 where
  | e0 (c0_0 : Int)
noncomputable def st_btf_resolve_v2_L0 (n0 : Nat) (A0 : Nat → (Xs35 × (Nat × (Nat → Member)))) : Sh_btf_resolve_v2_L0 → Option (Sh_btf_resolve_v2_L0 ⊕ Ex_btf_resolve_v2_L0)
  | .c0 s0_0 =>
    bif inR (IntKind.i64.wrap (s0_0 - 1)) n0 then
      (bif ((A0 ((IntKind.i64.wrap (s0_0 - 1))).toNat).1).fKind == 5 then
        (some (.inl (.c0 ((A0 ((IntKind.i64.wrap (s0_0 - 1))).toNat).1).fTo)))
      else (some (.inr (.e0 s0_0))))
    else (none)
noncomputable def bd_btf_resolve_v2_L0 : Code := codeOf Tryd.f13 [1, 0, 0, 0]
def fl_btf_resolve_v2_L0 (a0 : Option Addr) (p0 : Nat) (q0 : Nat) (n0 : Nat) (k0 : Nat) (X0 : Nat → RoX) (A0 : Nat → (Xs35 × (Nat × (Nat → Member)))) (y1 : Int) : Sh_btf_resolve_v2_L0 → List L1 → List Value
  | .c0 s0_0, ls => [.slice a0 n0 (n0 + k0), .int .i64 (s0_0)]
def mf_btf_resolve_v2_L0 : Sh_btf_resolve_v2_L0 → List (Nat × Nat)
  | .c0 _ => [(2, 17)]
noncomputable def fr_btf_resolve_v2_L0 (a0 : Option Addr) (p0 : Nat) (q0 : Nat) (n0 : Nat) (k0 : Nat) (X0 : Nat → RoX) (A0 : Nat → (Xs35 × (Nat × (Nat → Member)))) (y1 : Int) (s : Sh_btf_resolve_v2_L0) : List L1 → List Value := mrgF (mf_btf_resolve_v2_L0 s) (fl_btf_resolve_v2_L0 a0 p0 q0 n0 k0 X0 A0 y1 s) 0
def Hs_btf_resolve_v2_L0 (a0 : Option Addr) (p0 : Nat) (q0 : Nat) (n0 : Nat) (k0 : Nat) (X0 : Nat → RoX) (A0 : Nat → (Xs35 × (Nat × (Nat → Member)))) (y1 : Int) : Sh_btf_resolve_v2_L0 → List L1 → List Obj
  | .c0 s0_0, ls => [unb]
def vl_btf_resolve_v2_L0 (a0 : Option Addr) (p0 : Nat) (q0 : Nat) (n0 : Nat) (k0 : Nat) (X0 : Nat → RoX) (A0 : Nat → (Xs35 × (Nat × (Nat → Member)))) (y1 : Int) : Ex_btf_resolve_v2_L0 → List L1 → List Value
  | .e0 c0_0, ls => [.slice a0 n0 (n0 + k0), .int .i64 (c0_0)]
def mk_btf_resolve_v2_L0 : Ex_btf_resolve_v2_L0 → List (Nat × Nat)
  | .e0 _ => [(2, 17)]
noncomputable def vf_btf_resolve_v2_L0 (a0 : Option Addr) (p0 : Nat) (q0 : Nat) (n0 : Nat) (k0 : Nat) (X0 : Nat → RoX) (A0 : Nat → (Xs35 × (Nat × (Nat → Member)))) (y1 : Int) (r : Ex_btf_resolve_v2_L0) : List L1 → List Value := mrgF (mk_btf_resolve_v2_L0 r) (vl_btf_resolve_v2_L0 a0 p0 q0 n0 k0 X0 A0 y1 r) 0
def Hf_btf_resolve_v2_L0 (a0 : Option Addr) (p0 : Nat) (q0 : Nat) (n0 : Nat) (k0 : Nat) (X0 : Nat → RoX) (A0 : Nat → (Xs35 × (Nat × (Nat → Member)))) (y1 : Int) : Ex_btf_resolve_v2_L0 → List L1 → List Obj
  | .e0 c0_0, ls => [unb]
def ex_btf_resolve_v2_L0 : Ex_btf_resolve_v2_L0 → Ex
  | .e0 _ => (.exit 0)
theorem go_btf_resolve_v2_L0 (y1 : Int) (s : Sh_btf_resolve_v2_L0) (r : Ex_btf_resolve_v2_L0) (h : lpO (st_btf_resolve_v2_L0 n0 A0) s = some r) : GoesG Tryd.prog M B0 S (.loop bd_btf_resolve_v2_L0) 1 (fr_btf_resolve_v2_L0 a0 p0 q0 n0 k0 X0 A0 y1 s) (Hs_btf_resolve_v2_L0 a0 p0 q0 n0 k0 X0 A0 y1 s) (ex_btf_resolve_v2_L0 r) 0 (vf_btf_resolve_v2_L0 a0 p0 q0 n0 k0 X0 A0 y1 r) (Hf_btf_resolve_v2_L0 a0 p0 q0 n0 k0 X0 A0 y1 r) 1 :=
  goes_lpO (fun s q e => by
    cases s with
    | c0 s0_0 =>
      unfold st_btf_resolve_v2_L0 at e
      dsimp only at e
      replace e := cond_eq_or e
      rcases e with ⟨hq0, e⟩ | ⟨hq0, e⟩
      · replace e := cond_eq_or e
        rcases e with ⟨hq1, e⟩ | ⟨hq1, e⟩
        · cases e; exact goes_runM hU [.o, .o, .o, .q (ixRo_ok (kd := .i64) (T := 22) (x := (IntKind.i64.wrap (s0_0 - 1))) (sz := 7) rfl (fun w => by kernel_rfl) (RoS.row hR0) hq0), .o, .l (accRo (RoS.row hR0) (rxS_len z_Xs35 X0 (fun i => (A0 i).2) (fun i => (A0 i).1)) (inR_nat hq0) 0 [.int .i64 (((A0 ((IntKind.i64.wrap (s0_0 - 1))).toNat).1).fKind)] rfl), .b (z_eqlT hq1), .o, .o, .o, .q (ixRo_ok (kd := .i64) (T := 22) (x := (IntKind.i64.wrap (s0_0 - 1))) (sz := 7) rfl (fun w => by kernel_rfl) (RoS.row hR0) hq0), .o, .l (accRo (RoS.row hR0) (rxS_len z_Xs35 X0 (fun i => (A0 i).2) (fun i => (A0 i).1)) (inR_nat hq0) 4 [.int .i64 (((A0 ((IntKind.i64.wrap (s0_0 - 1))).toNat).1).fTo)] rfl), .o] [] (fun b => rfl) (by decide) rfl rfl (fun b => by kernel_rfl)
        · cases e; exact ⟨ne_exit 0, goes_runM hU [.o, .o, .o, .q (ixRo_ok (kd := .i64) (T := 22) (x := (IntKind.i64.wrap (s0_0 - 1))) (sz := 7) rfl (fun w => by kernel_rfl) (RoS.row hR0) hq0), .o, .l (accRo (RoS.row hR0) (rxS_len z_Xs35 X0 (fun i => (A0 i).2) (fun i => (A0 i).1)) (inR_nat hq0) 0 [.int .i64 (((A0 ((IntKind.i64.wrap (s0_0 - 1))).toNat).1).fKind)] rfl), .b (z_eqlF hq1)] [] (fun b => rfl) (by decide) rfl rfl (fun b => by kernel_rfl)⟩
      · exact none_some e) s r h
noncomputable def t0_btf_resolve_v2_L0_0 (a0 : Option Addr) (p0 : Nat) (q0 : Nat) (n0 : Nat) (k0 : Nat) (X0 : Nat → RoX) (A0 : Nat → (Xs35 × (Nat × (Nat → Member)))) (y1 : Int) (s0_0 : Int) (ls : List L1) : List Value := List.append [.slice a0 n0 (n0 + k0), .int .i64 (s0_0), undef, undef, .int .i64 (0)] (und 14)
def pre_btf_resolve_v2_L0_0 (a0 : Option Addr) (p0 : Nat) (q0 : Nat) (n0 : Nat) (k0 : Nat) (X0 : Nat → RoX) (A0 : Nat → (Xs35 × (Nat × (Nat → Member)))) (y1 : Int) (s0_0 : Int) (ls : List L1) : List Obj := []
theorem sp0_btf_resolve_v2_L0_0_ok (y1 : Int) (s0_0 : Int) (c0_0 : Int) (h : lpO (st_btf_resolve_v2_L0 n0 A0) (.c0 s0_0) = some (.e0 c0_0)) : SpcG Tryd.prog M B0 S ⟨fun ls => .code (.loop bd_btf_resolve_v2_L0) (t0_btf_resolve_v2_L0_0 a0 p0 q0 n0 k0 X0 A0 y1 s0_0 ls), pre_btf_resolve_v2_L0_0 a0 p0 q0 n0 k0 X0 A0 y1 s0_0, 1, (.exit 0), fun ls => vf_btf_resolve_v2_L0 a0 p0 q0 n0 k0 X0 A0 y1 (.e0 c0_0) (ls.take 0 ++ ls.drop 0), fun ls => (Hf_btf_resolve_v2_L0 a0 p0 q0 n0 k0 X0 A0 y1 (.e0 c0_0) (ls.take 0 ++ ls.drop 0)).take 0 ++ List.replicate 0 unb, fun ls => (Hf_btf_resolve_v2_L0 a0 p0 q0 n0 k0 X0 A0 y1 (.e0 c0_0) (ls.take 0 ++ ls.drop 0)).drop 0⟩ :=
  spc_of_goesM hU 0 (k0 := 0) (go_btf_resolve_v2_L0 hU a0 p0 q0 n0 k0 X0 A0 hR0 y1 _ _ h) (t0_btf_resolve_v2_L0_0 a0 p0 q0 n0 k0 X0 A0 y1 s0_0) (pre_btf_resolve_v2_L0_0 a0 p0 q0 n0 k0 X0 A0 y1 s0_0) (fun _ => rfl) (fun ls h => by match ls, h with | [], _ => exact ⟨by kernel_rfl, by kernel_rfl⟩) (fun ls h => by match ls, h with | [], _ => rfl) (by decide) (by decide) (fun ls => rfl)
noncomputable def m_btf_resolve_v2 (n0 : Nat) (A0 : Nat → (Xs35 × (Nat × (Nat → Member)))) (y1 : Int) : Option (Int) :=
  (lpO (st_btf_resolve_v2_L0 n0 A0) (.c0 y1)).bind fun g0 => match g0 with
  | .e0 g0_0 =>
  some g0_0
theorem ok_btf_resolve_v2 (y1 : Int) (r : Int) (e : m_btf_resolve_v2 n0 A0 y1 = some r) : ConG Tryd.prog S 13 #[.slice a0 n0 (n0 + k0), .int .i64 (y1)] (.int .i64 (r)) := by
  unfold m_btf_resolve_v2 at e
  replace e := bindO_eq e
  obtain ⟨g0, e_g0, e⟩ := e
  obtain ⟨g0_0⟩ := g0
  try dsimp only at e
  injection e with e; subst e; exact fn_conG hU (P := Tryd.prog) Tryd.func13 (fun xs w => by kernel_rfl) _ _ [.o, .cp, .cx (sp0_btf_resolve_v2_L0_0_ok hU a0 p0 q0 n0 k0 X0 A0 hR0 y1 y1 g0_0 e_g0) [], .o, .o] [] (fun b => by kernel_rfl)
noncomputable def m_btf_isFunction_v1 (n0 : Nat) (A0 : Nat → (Xs35 × (Nat × (Nat → Member)))) (y1 : Int) : Option (Bool) :=
  (m_btf_resolve_v2 n0 A0 y1).bind fun r0 =>
  bif inR (IntKind.i64.wrap (r0 - 1)) n0 then
    (some (((A0 ((IntKind.i64.wrap (r0 - 1))).toNat).1).fKind == 6))
  else (none)
theorem ok_btf_isFunction_v1 (y1 : Int) (r : Bool) (e : m_btf_isFunction_v1 n0 A0 y1 = some r) : ConG Tryd.prog S 29 #[.slice a0 n0 (n0 + k0), .int .i64 (y1)] (.bool (r)) := by
  unfold m_btf_isFunction_v1 at e
  replace e := bindO_eq e
  obtain ⟨r0, e_r0, e⟩ := e
  try dsimp only at e
  replace e := cond_eq_or e
  rcases e with ⟨hq0, e⟩ | ⟨hq0, e⟩
  · injection e with e; subst e; exact fn_conG hU (P := Tryd.prog) Tryd.func29 (fun xs w => by kernel_rfl) _ _ [.o, .o, .o, .o, .cg (ok_btf_resolve_v2 hU a0 p0 q0 n0 k0 X0 A0 hR0 y1 r0 e_r0), .o, .q (ixRo_ok (kd := .i64) (T := 22) (x := (IntKind.i64.wrap (r0 - 1))) (sz := 7) rfl (fun w => by kernel_rfl) (RoS.row hR0) hq0), .o, .l (accRo (RoS.row hR0) (rxS_len z_Xs35 X0 (fun i => (A0 i).2) (fun i => (A0 i).1)) (inR_nat hq0) 0 [.int .i64 (((A0 ((IntKind.i64.wrap (r0 - 1))).toNat).1).fKind)] rfl), .o, .o] [] (fun b => by kernel_rfl)
  · exact none_some e
inductive Sh_btf_holdsFunction_v2_L0 where
  | c0 (s0_0 : Int)
inductive Ex_btf_holdsFunction_v2_L0 where
  | e0 
  | e1 
noncomputable def st_btf_holdsFunction_v2_L0 (n0 : Nat) (A0 : Nat → (Xs35 × (Nat × (Nat → Member)))) (n1 : Nat) (A1 : Nat → Member) : Sh_btf_holdsFunction_v2_L0 → Option (Sh_btf_holdsFunction_v2_L0 ⊕ Ex_btf_holdsFunction_v2_L0)
  | .c0 s0_0 =>
    bif decide (s0_0 < (n1 : Int)) then
      (bif inR s0_0 n1 then
        ((m_btf_isFunction_v1 n0 A0 ((A1 (s0_0).toNat)).fType).bind fun rb0 =>
        bif rb0 then
          (some (.inr (.e1 )))
        else (some (.inl (.c0 (IntKind.i64.wrap (s0_0 + 1))))))
      else (none))
    else (some (.inr (.e0 )))
noncomputable def bd_btf_holdsFunction_v2_L0 : Code := codeOf Tryd.f19 [1, 1, 0, 1, 0, 0]
def fl_btf_holdsFunction_v2_L0 (a0 : Option Addr) (p0 : Nat) (q0 : Nat) (n0 : Nat) (k0 : Nat) (X0 : Nat → RoX) (A0 : Nat → (Xs35 × (Nat × (Nat → Member)))) (y1 : Xs35) (a1 : Option Addr) (p1 : Nat) (q1 : Nat) (n1 : Nat) (k1 : Nat) (A1 : Nat → Member) : Sh_btf_holdsFunction_v2_L0 → List L1 → List Value
  | .c0 s0_0, ls => [.slice a0 n0 (n0 + k0), .bool false, .slice a1 n1 (n1 + k1), .int .i64 ((n1 : Int)), .int .i64 (s0_0)]
def mf_btf_holdsFunction_v2_L0 : Sh_btf_holdsFunction_v2_L0 → List (Nat × Nat)
  | .c0 _ => [(1, 3), (1, 12), (3, 8)]
noncomputable def fr_btf_holdsFunction_v2_L0 (a0 : Option Addr) (p0 : Nat) (q0 : Nat) (n0 : Nat) (k0 : Nat) (X0 : Nat → RoX) (A0 : Nat → (Xs35 × (Nat × (Nat → Member)))) (y1 : Xs35) (a1 : Option Addr) (p1 : Nat) (q1 : Nat) (n1 : Nat) (k1 : Nat) (A1 : Nat → Member) (s : Sh_btf_holdsFunction_v2_L0) : List L1 → List Value := mrgF (mf_btf_holdsFunction_v2_L0 s) (fl_btf_holdsFunction_v2_L0 a0 p0 q0 n0 k0 X0 A0 y1 a1 p1 q1 n1 k1 A1 s) 1
def Hs_btf_holdsFunction_v2_L0 (a0 : Option Addr) (p0 : Nat) (q0 : Nat) (n0 : Nat) (k0 : Nat) (X0 : Nat → RoX) (A0 : Nat → (Xs35 × (Nat × (Nat → Member)))) (y1 : Xs35) (a1 : Option Addr) (p1 : Nat) (q1 : Nat) (n1 : Nat) (k1 : Nat) (A1 : Nat → Member) : Sh_btf_holdsFunction_v2_L0 → List L1 → List Obj
  | .c0 s0_0, ls => [.cells #[.int .i64 (y1.fKind), .string y1.fName, .int .i64 (y1.fSize), .bool (y1.fSigned), .int .i64 (y1.fTo), .int .i64 (y1.fCount), .slice a1 n1 (n1 + k1)] 35, unb]
def vl_btf_holdsFunction_v2_L0 (a0 : Option Addr) (p0 : Nat) (q0 : Nat) (n0 : Nat) (k0 : Nat) (X0 : Nat → RoX) (A0 : Nat → (Xs35 × (Nat × (Nat → Member)))) (y1 : Xs35) (a1 : Option Addr) (p1 : Nat) (q1 : Nat) (n1 : Nat) (k1 : Nat) (A1 : Nat → Member) : Ex_btf_holdsFunction_v2_L0 → List L1 → List Value
  | .e0 , ls => [.slice a0 n0 (n0 + k0), .bool false, .slice a1 n1 (n1 + k1), .int .i64 ((n1 : Int))]
  | .e1 , ls => [.slice a0 n0 (n0 + k0), .bool true, .slice a1 n1 (n1 + k1), .int .i64 ((n1 : Int))]
def mk_btf_holdsFunction_v2_L0 : Ex_btf_holdsFunction_v2_L0 → List (Nat × Nat)
  | .e0  => [(1, 3), (1, 12), (2, 9)]
  | .e1  => [(1, 3), (1, 12), (2, 9)]
noncomputable def vf_btf_holdsFunction_v2_L0 (a0 : Option Addr) (p0 : Nat) (q0 : Nat) (n0 : Nat) (k0 : Nat) (X0 : Nat → RoX) (A0 : Nat → (Xs35 × (Nat × (Nat → Member)))) (y1 : Xs35) (a1 : Option Addr) (p1 : Nat) (q1 : Nat) (n1 : Nat) (k1 : Nat) (A1 : Nat → Member) (r : Ex_btf_holdsFunction_v2_L0) : List L1 → List Value := mrgF (mk_btf_holdsFunction_v2_L0 r) (vl_btf_holdsFunction_v2_L0 a0 p0 q0 n0 k0 X0 A0 y1 a1 p1 q1 n1 k1 A1 r) 1
def Hf_btf_holdsFunction_v2_L0 (a0 : Option Addr) (p0 : Nat) (q0 : Nat) (n0 : Nat) (k0 : Nat) (X0 : Nat → RoX) (A0 : Nat → (Xs35 × (Nat × (Nat → Member)))) (y1 : Xs35) (a1 : Option Addr) (p1 : Nat) (q1 : Nat) (n1 : Nat) (k1 : Nat) (A1 : Nat → Member) : Ex_btf_holdsFunction_v2_L0 → List L1 → List Obj
  | .e0 , ls => [.cells #[.int .i64 (y1.fKind), .string y1.fName, .int .i64 (y1.fSize), .bool (y1.fSigned), .int .i64 (y1.fTo), .int .i64 (y1.fCount), .slice a1 n1 (n1 + k1)] 35, unb]
  | .e1 , ls => [.cells #[.int .i64 (y1.fKind), .string y1.fName, .int .i64 (y1.fSize), .bool (y1.fSigned), .int .i64 (y1.fTo), .int .i64 (y1.fCount), .slice a1 n1 (n1 + k1)] 35, unb]
def ex_btf_holdsFunction_v2_L0 : Ex_btf_holdsFunction_v2_L0 → Ex
  | .e0  => (.exit 0)
  | .e1  => .ret
theorem go_btf_holdsFunction_v2_L0 (y1 : Xs35) (a1 : Option Addr) (p1 : Nat) (q1 : Nat) (n1 : Nat) (k1 : Nat) (A1 : Nat → Member) (hR1 : Ro S c_Member 3 a1 p1 q1 n1 A1) (s : Sh_btf_holdsFunction_v2_L0) (r : Ex_btf_holdsFunction_v2_L0) (h : lpO (st_btf_holdsFunction_v2_L0 n0 A0 n1 A1) s = some r) : GoesG Tryd.prog M B0 S (.loop bd_btf_holdsFunction_v2_L0) 2 (fr_btf_holdsFunction_v2_L0 a0 p0 q0 n0 k0 X0 A0 y1 a1 p1 q1 n1 k1 A1 s) (Hs_btf_holdsFunction_v2_L0 a0 p0 q0 n0 k0 X0 A0 y1 a1 p1 q1 n1 k1 A1 s) (ex_btf_holdsFunction_v2_L0 r) 1 (vf_btf_holdsFunction_v2_L0 a0 p0 q0 n0 k0 X0 A0 y1 a1 p1 q1 n1 k1 A1 r) (Hf_btf_holdsFunction_v2_L0 a0 p0 q0 n0 k0 X0 A0 y1 a1 p1 q1 n1 k1 A1 r) 2 :=
  goes_lpO (fun s q e => by
    cases s with
    | c0 s0_0 =>
      unfold st_btf_holdsFunction_v2_L0 at e
      dsimp only at e
      replace e := cond_eq_or e
      rcases e with ⟨hq0, e⟩ | ⟨hq0, e⟩
      · replace e := cond_eq_or e
        rcases e with ⟨hq1, e⟩ | ⟨hq1, e⟩
        · replace e := bindO_eq e
          obtain ⟨rb0, e_rb0, e⟩ := e
          try dsimp only at e
          replace e := cond_eq_or e
          rcases e with ⟨hq2, e⟩ | ⟨hq2, e⟩
          · subst hq2
            cases e; exact ⟨ne_ret, goes_runM hU [.b (z_lssT hq0), .q (ixRo_ok (kd := .i64) (T := 33) (x := s0_0) (sz := 3) rfl (fun w => by kernel_rfl) hR1 hq1), .l (accRo hR1 c_Member_len (inR_nat hq1) 0 [.string ((A1 (s0_0).toNat)).fName, .int .i64 (((A1 (s0_0).toNat)).fType), .int .i64 (((A1 (s0_0).toNat)).fBits)] rfl), .o, .a 2, .o, .o, .a 2, .cg (ok_btf_isFunction_v1 hU a0 p0 q0 n0 k0 X0 A0 hR0 ((A1 (s0_0).toNat)).fType true e_rb0), .o] [0] (fun b => rfl) (by decide) rfl rfl (fun b => by kernel_rfl)⟩
          · subst hq2
            cases e; exact goes_runM hU [.b (z_lssT hq0), .q (ixRo_ok (kd := .i64) (T := 33) (x := s0_0) (sz := 3) rfl (fun w => by kernel_rfl) hR1 hq1), .l (accRo hR1 c_Member_len (inR_nat hq1) 0 [.string ((A1 (s0_0).toNat)).fName, .int .i64 (((A1 (s0_0).toNat)).fType), .int .i64 (((A1 (s0_0).toNat)).fBits)] rfl), .o, .a 2, .o, .o, .a 2, .cg (ok_btf_isFunction_v1 hU a0 p0 q0 n0 k0 X0 A0 hR0 ((A1 (s0_0).toNat)).fType false e_rb0), .o, .o] [0] (fun b => rfl) (by decide) rfl rfl (fun b => by kernel_rfl)
        · exact none_some e
      · cases e; exact ⟨ne_exit 0, goes_runM hU [.b (z_lssF hq0)] [0] (fun b => rfl) (by decide) rfl rfl (fun b => by kernel_rfl)⟩) s r h
noncomputable def t0_btf_holdsFunction_v2_L0_0 (a0 : Option Addr) (p0 : Nat) (q0 : Nat) (n0 : Nat) (k0 : Nat) (X0 : Nat → RoX) (A0 : Nat → (Xs35 × (Nat × (Nat → Member)))) (y1 : Xs35) (a1 : Option Addr) (p1 : Nat) (q1 : Nat) (n1 : Nat) (k1 : Nat) (A1 : Nat → Member) (s0_0 : Int) (ls : List L1) : List Value := List.append [.slice a0 n0 (n0 + k0), .agg #[.int .i64 (y1.fKind), .string y1.fName, .int .i64 (y1.fSize), .bool (y1.fSigned), .int .i64 (y1.fTo), .int .i64 (y1.fCount), .slice a1 n1 (n1 + k1)], undef, .pointer (some ⟨(lget ls 0).n, 0, none⟩), .bool false, undef, undef, .pointer (some ⟨(lget ls 0).n, 0, none⟩), .int .i64 (y1.fKind), .bool true, .bool true, .slice a0 n0 (n0 + k0), .pointer (some ⟨(lget ls 0).n, 4, none⟩), .int .i64 (y1.fTo), .bool false, .bool false, .pointer (some ⟨(lget ls 0).n, 6, none⟩), .slice a1 n1 (n1 + k1), .int .i64 ((n1 : Int)), .int .i64 (s0_0)] (und 8)
def pre_btf_holdsFunction_v2_L0_0 (a0 : Option Addr) (p0 : Nat) (q0 : Nat) (n0 : Nat) (k0 : Nat) (X0 : Nat → RoX) (A0 : Nat → (Xs35 × (Nat × (Nat → Member)))) (y1 : Xs35) (a1 : Option Addr) (p1 : Nat) (q1 : Nat) (n1 : Nat) (k1 : Nat) (A1 : Nat → Member) (s0_0 : Int) (ls : List L1) : List Obj := [.cells #[.int .i64 (y1.fKind), .string y1.fName, .int .i64 (y1.fSize), .bool (y1.fSigned), .int .i64 (y1.fTo), .int .i64 (y1.fCount), .slice a1 n1 (n1 + k1)] 35]
theorem sp0_btf_holdsFunction_v2_L0_0_ok (y1 : Xs35) (a1 : Option Addr) (p1 : Nat) (q1 : Nat) (n1 : Nat) (k1 : Nat) (A1 : Nat → Member) (hR1 : Ro S c_Member 3 a1 p1 q1 n1 A1) (s0_0 : Int) (h : lpO (st_btf_holdsFunction_v2_L0 n0 A0 n1 A1) (.c0 s0_0) = some (.e0 )) : SpcG Tryd.prog M B0 S ⟨fun ls => .code (.loop bd_btf_holdsFunction_v2_L0) (t0_btf_holdsFunction_v2_L0_0 a0 p0 q0 n0 k0 X0 A0 y1 a1 p1 q1 n1 k1 A1 s0_0 ls), pre_btf_holdsFunction_v2_L0_0 a0 p0 q0 n0 k0 X0 A0 y1 a1 p1 q1 n1 k1 A1 s0_0, 1, (.exit 0), fun ls => vf_btf_holdsFunction_v2_L0 a0 p0 q0 n0 k0 X0 A0 y1 a1 p1 q1 n1 k1 A1 (.e0 ) (ls.take 1 ++ ls.drop 1), fun ls => (Hf_btf_holdsFunction_v2_L0 a0 p0 q0 n0 k0 X0 A0 y1 a1 p1 q1 n1 k1 A1 (.e0 ) (ls.take 1 ++ ls.drop 1)).take 1 ++ List.replicate 0 unb, fun ls => (Hf_btf_holdsFunction_v2_L0 a0 p0 q0 n0 k0 X0 A0 y1 a1 p1 q1 n1 k1 A1 (.e0 ) (ls.take 1 ++ ls.drop 1)).drop 1⟩ :=
  spc_of_goesM hU 0 (k0 := 1) (go_btf_holdsFunction_v2_L0 hU a0 p0 q0 n0 k0 X0 A0 hR0 y1 a1 p1 q1 n1 k1 A1 hR1 _ _ h) (t0_btf_holdsFunction_v2_L0_0 a0 p0 q0 n0 k0 X0 A0 y1 a1 p1 q1 n1 k1 A1 s0_0) (pre_btf_holdsFunction_v2_L0_0 a0 p0 q0 n0 k0 X0 A0 y1 a1 p1 q1 n1 k1 A1 s0_0) (fun _ => rfl) (fun ls h => by match ls, h with | [l0], _ => exact ⟨by kernel_rfl, by kernel_rfl⟩) (fun ls h => by match ls, h with | [l0], _ => rfl) (by decide) (by decide) (fun ls => rfl)
theorem sp1_btf_holdsFunction_v2_L0_0_ok (y1 : Xs35) (a1 : Option Addr) (p1 : Nat) (q1 : Nat) (n1 : Nat) (k1 : Nat) (A1 : Nat → Member) (hR1 : Ro S c_Member 3 a1 p1 q1 n1 A1) (s0_0 : Int) (h : lpO (st_btf_holdsFunction_v2_L0 n0 A0 n1 A1) (.c0 s0_0) = some (.e1 )) : SpcG Tryd.prog M B0 S ⟨fun ls => .code (.loop bd_btf_holdsFunction_v2_L0) (t0_btf_holdsFunction_v2_L0_0 a0 p0 q0 n0 k0 X0 A0 y1 a1 p1 q1 n1 k1 A1 s0_0 ls), pre_btf_holdsFunction_v2_L0_0 a0 p0 q0 n0 k0 X0 A0 y1 a1 p1 q1 n1 k1 A1 s0_0, 1, .ret, fun ls => vf_btf_holdsFunction_v2_L0 a0 p0 q0 n0 k0 X0 A0 y1 a1 p1 q1 n1 k1 A1 (.e1 ) (ls.take 1 ++ ls.drop 1), fun ls => (Hf_btf_holdsFunction_v2_L0 a0 p0 q0 n0 k0 X0 A0 y1 a1 p1 q1 n1 k1 A1 (.e1 ) (ls.take 1 ++ ls.drop 1)).take 1 ++ List.replicate 0 unb, fun ls => (Hf_btf_holdsFunction_v2_L0 a0 p0 q0 n0 k0 X0 A0 y1 a1 p1 q1 n1 k1 A1 (.e1 ) (ls.take 1 ++ ls.drop 1)).drop 1⟩ :=
  spc_of_goesM hU 0 (k0 := 1) (go_btf_holdsFunction_v2_L0 hU a0 p0 q0 n0 k0 X0 A0 hR0 y1 a1 p1 q1 n1 k1 A1 hR1 _ _ h) (t0_btf_holdsFunction_v2_L0_0 a0 p0 q0 n0 k0 X0 A0 y1 a1 p1 q1 n1 k1 A1 s0_0) (pre_btf_holdsFunction_v2_L0_0 a0 p0 q0 n0 k0 X0 A0 y1 a1 p1 q1 n1 k1 A1 s0_0) (fun _ => rfl) (fun ls h => by match ls, h with | [l0], _ => exact ⟨by kernel_rfl, by kernel_rfl⟩) (fun ls h => by match ls, h with | [l0], _ => rfl) (by decide) (by decide) (fun ls => rfl)
inductive Sh_btf_holdsFunction_v2_L0v1 where
  | c0 (s0_0 : Int)
inductive Ex_btf_holdsFunction_v2_L0v1 where
  | e0 
  | e1 
noncomputable def st_btf_holdsFunction_v2_L0v1 (n0 : Nat) (A0 : Nat → (Xs35 × (Nat × (Nat → Member)))) (n1 : Nat) (A1 : Nat → Member) : Sh_btf_holdsFunction_v2_L0v1 → Option (Sh_btf_holdsFunction_v2_L0v1 ⊕ Ex_btf_holdsFunction_v2_L0v1)
  | .c0 s0_0 =>
    bif decide (s0_0 < (n1 : Int)) then
      (bif inR s0_0 n1 then
        ((m_btf_isFunction_v1 n0 A0 ((A1 (s0_0).toNat)).fType).bind fun rb0 =>
        bif rb0 then
          (some (.inr (.e1 )))
        else (some (.inl (.c0 (IntKind.i64.wrap (s0_0 + 1))))))
      else (none))
    else (some (.inr (.e0 )))
noncomputable def bd_btf_holdsFunction_v2_L0v1 : Code := codeOf Tryd.f19 [1, 1, 0, 1, 0, 0]
def fl_btf_holdsFunction_v2_L0v1 (a0 : Option Addr) (p0 : Nat) (q0 : Nat) (n0 : Nat) (k0 : Nat) (X0 : Nat → RoX) (A0 : Nat → (Xs35 × (Nat × (Nat → Member)))) (y1 : Xs35) (a1 : Option Addr) (p1 : Nat) (q1 : Nat) (n1 : Nat) (k1 : Nat) (A1 : Nat → Member) : Sh_btf_holdsFunction_v2_L0v1 → List L1 → List Value
  | .c0 s0_0, ls => [.slice a0 n0 (n0 + k0), .bool false, .slice a1 n1 (n1 + k1), .int .i64 ((n1 : Int)), .int .i64 (s0_0)]
def mf_btf_holdsFunction_v2_L0v1 : Sh_btf_holdsFunction_v2_L0v1 → List (Nat × Nat)
  | .c0 _ => [(1, 3), (1, 12), (3, 8)]
noncomputable def fr_btf_holdsFunction_v2_L0v1 (a0 : Option Addr) (p0 : Nat) (q0 : Nat) (n0 : Nat) (k0 : Nat) (X0 : Nat → RoX) (A0 : Nat → (Xs35 × (Nat × (Nat → Member)))) (y1 : Xs35) (a1 : Option Addr) (p1 : Nat) (q1 : Nat) (n1 : Nat) (k1 : Nat) (A1 : Nat → Member) (s : Sh_btf_holdsFunction_v2_L0v1) : List L1 → List Value := mrgF (mf_btf_holdsFunction_v2_L0v1 s) (fl_btf_holdsFunction_v2_L0v1 a0 p0 q0 n0 k0 X0 A0 y1 a1 p1 q1 n1 k1 A1 s) 1
def Hs_btf_holdsFunction_v2_L0v1 (a0 : Option Addr) (p0 : Nat) (q0 : Nat) (n0 : Nat) (k0 : Nat) (X0 : Nat → RoX) (A0 : Nat → (Xs35 × (Nat × (Nat → Member)))) (y1 : Xs35) (a1 : Option Addr) (p1 : Nat) (q1 : Nat) (n1 : Nat) (k1 : Nat) (A1 : Nat → Member) : Sh_btf_holdsFunction_v2_L0v1 → List L1 → List Obj
  | .c0 s0_0, ls => [.cells #[.int .i64 (y1.fKind), .string y1.fName, .int .i64 (y1.fSize), .bool (y1.fSigned), .int .i64 (y1.fTo), .int .i64 (y1.fCount), .slice a1 n1 (n1 + k1)] 35, unb]
def vl_btf_holdsFunction_v2_L0v1 (a0 : Option Addr) (p0 : Nat) (q0 : Nat) (n0 : Nat) (k0 : Nat) (X0 : Nat → RoX) (A0 : Nat → (Xs35 × (Nat × (Nat → Member)))) (y1 : Xs35) (a1 : Option Addr) (p1 : Nat) (q1 : Nat) (n1 : Nat) (k1 : Nat) (A1 : Nat → Member) : Ex_btf_holdsFunction_v2_L0v1 → List L1 → List Value
  | .e0 , ls => [.slice a0 n0 (n0 + k0), .bool false, .slice a1 n1 (n1 + k1), .int .i64 ((n1 : Int))]
  | .e1 , ls => [.slice a0 n0 (n0 + k0), .bool true, .slice a1 n1 (n1 + k1), .int .i64 ((n1 : Int))]
def mk_btf_holdsFunction_v2_L0v1 : Ex_btf_holdsFunction_v2_L0v1 → List (Nat × Nat)
  | .e0  => [(1, 3), (1, 12), (2, 9)]
  | .e1  => [(1, 3), (1, 12), (2, 9)]
noncomputable def vf_btf_holdsFunction_v2_L0v1 (a0 : Option Addr) (p0 : Nat) (q0 : Nat) (n0 : Nat) (k0 : Nat) (X0 : Nat → RoX) (A0 : Nat → (Xs35 × (Nat × (Nat → Member)))) (y1 : Xs35) (a1 : Option Addr) (p1 : Nat) (q1 : Nat) (n1 : Nat) (k1 : Nat) (A1 : Nat → Member) (r : Ex_btf_holdsFunction_v2_L0v1) : List L1 → List Value := mrgF (mk_btf_holdsFunction_v2_L0v1 r) (vl_btf_holdsFunction_v2_L0v1 a0 p0 q0 n0 k0 X0 A0 y1 a1 p1 q1 n1 k1 A1 r) 1
def Hf_btf_holdsFunction_v2_L0v1 (a0 : Option Addr) (p0 : Nat) (q0 : Nat) (n0 : Nat) (k0 : Nat) (X0 : Nat → RoX) (A0 : Nat → (Xs35 × (Nat × (Nat → Member)))) (y1 : Xs35) (a1 : Option Addr) (p1 : Nat) (q1 : Nat) (n1 : Nat) (k1 : Nat) (A1 : Nat → Member) : Ex_btf_holdsFunction_v2_L0v1 → List L1 → List Obj
  | .e0 , ls => [.cells #[.int .i64 (y1.fKind), .string y1.fName, .int .i64 (y1.fSize), .bool (y1.fSigned), .int .i64 (y1.fTo), .int .i64 (y1.fCount), .slice a1 n1 (n1 + k1)] 35, unb]
  | .e1 , ls => [.cells #[.int .i64 (y1.fKind), .string y1.fName, .int .i64 (y1.fSize), .bool (y1.fSigned), .int .i64 (y1.fTo), .int .i64 (y1.fCount), .slice a1 n1 (n1 + k1)] 35, unb]
def ex_btf_holdsFunction_v2_L0v1 : Ex_btf_holdsFunction_v2_L0v1 → Ex
  | .e0  => (.exit 0)
  | .e1  => .ret
theorem go_btf_holdsFunction_v2_L0v1 (y1 : Xs35) (a1 : Option Addr) (p1 : Nat) (q1 : Nat) (n1 : Nat) (k1 : Nat) (A1 : Nat → Member) (hR1 : Ro S c_Member 3 a1 p1 q1 n1 A1) (s : Sh_btf_holdsFunction_v2_L0v1) (r : Ex_btf_holdsFunction_v2_L0v1) (h : lpO (st_btf_holdsFunction_v2_L0v1 n0 A0 n1 A1) s = some r) : GoesG Tryd.prog M B0 S (.loop bd_btf_holdsFunction_v2_L0v1) 2 (fr_btf_holdsFunction_v2_L0v1 a0 p0 q0 n0 k0 X0 A0 y1 a1 p1 q1 n1 k1 A1 s) (Hs_btf_holdsFunction_v2_L0v1 a0 p0 q0 n0 k0 X0 A0 y1 a1 p1 q1 n1 k1 A1 s) (ex_btf_holdsFunction_v2_L0v1 r) 1 (vf_btf_holdsFunction_v2_L0v1 a0 p0 q0 n0 k0 X0 A0 y1 a1 p1 q1 n1 k1 A1 r) (Hf_btf_holdsFunction_v2_L0v1 a0 p0 q0 n0 k0 X0 A0 y1 a1 p1 q1 n1 k1 A1 r) 2 :=
  goes_lpO (fun s q e => by
    cases s with
    | c0 s0_0 =>
      unfold st_btf_holdsFunction_v2_L0v1 at e
      dsimp only at e
      replace e := cond_eq_or e
      rcases e with ⟨hq0, e⟩ | ⟨hq0, e⟩
      · replace e := cond_eq_or e
        rcases e with ⟨hq1, e⟩ | ⟨hq1, e⟩
        · replace e := bindO_eq e
          obtain ⟨rb0, e_rb0, e⟩ := e
          try dsimp only at e
          replace e := cond_eq_or e
          rcases e with ⟨hq2, e⟩ | ⟨hq2, e⟩
          · subst hq2
            cases e; exact ⟨ne_ret, goes_runM hU [.b (z_lssT hq0), .q (ixRo_ok (kd := .i64) (T := 33) (x := s0_0) (sz := 3) rfl (fun w => by kernel_rfl) hR1 hq1), .l (accRo hR1 c_Member_len (inR_nat hq1) 0 [.string ((A1 (s0_0).toNat)).fName, .int .i64 (((A1 (s0_0).toNat)).fType), .int .i64 (((A1 (s0_0).toNat)).fBits)] rfl), .o, .a 2, .o, .o, .a 2, .cg (ok_btf_isFunction_v1 hU a0 p0 q0 n0 k0 X0 A0 hR0 ((A1 (s0_0).toNat)).fType true e_rb0), .o] [0] (fun b => rfl) (by decide) rfl rfl (fun b => by kernel_rfl)⟩
          · subst hq2
            cases e; exact goes_runM hU [.b (z_lssT hq0), .q (ixRo_ok (kd := .i64) (T := 33) (x := s0_0) (sz := 3) rfl (fun w => by kernel_rfl) hR1 hq1), .l (accRo hR1 c_Member_len (inR_nat hq1) 0 [.string ((A1 (s0_0).toNat)).fName, .int .i64 (((A1 (s0_0).toNat)).fType), .int .i64 (((A1 (s0_0).toNat)).fBits)] rfl), .o, .a 2, .o, .o, .a 2, .cg (ok_btf_isFunction_v1 hU a0 p0 q0 n0 k0 X0 A0 hR0 ((A1 (s0_0).toNat)).fType false e_rb0), .o, .o] [0] (fun b => rfl) (by decide) rfl rfl (fun b => by kernel_rfl)
        · exact none_some e
      · cases e; exact ⟨ne_exit 0, goes_runM hU [.b (z_lssF hq0)] [0] (fun b => rfl) (by decide) rfl rfl (fun b => by kernel_rfl)⟩) s r h
noncomputable def t0_btf_holdsFunction_v2_L0v1_0 (a0 : Option Addr) (p0 : Nat) (q0 : Nat) (n0 : Nat) (k0 : Nat) (X0 : Nat → RoX) (A0 : Nat → (Xs35 × (Nat × (Nat → Member)))) (y1 : Xs35) (a1 : Option Addr) (p1 : Nat) (q1 : Nat) (n1 : Nat) (k1 : Nat) (A1 : Nat → Member) (s0_0 : Int) (ls : List L1) : List Value := List.append [.slice a0 n0 (n0 + k0), .agg #[.int .i64 (y1.fKind), .string y1.fName, .int .i64 (y1.fSize), .bool (y1.fSigned), .int .i64 (y1.fTo), .int .i64 (y1.fCount), .slice a1 n1 (n1 + k1)], undef, .pointer (some ⟨(lget ls 0).n, 0, none⟩), .bool false, undef, undef, .pointer (some ⟨(lget ls 0).n, 0, none⟩), .int .i64 (y1.fKind), .bool false, .bool false] (List.append (und 4) (List.append [.bool false, .pointer (some ⟨(lget ls 0).n, 6, none⟩), .slice a1 n1 (n1 + k1), .int .i64 ((n1 : Int)), .int .i64 (s0_0)] (und 8)))
def pre_btf_holdsFunction_v2_L0v1_0 (a0 : Option Addr) (p0 : Nat) (q0 : Nat) (n0 : Nat) (k0 : Nat) (X0 : Nat → RoX) (A0 : Nat → (Xs35 × (Nat × (Nat → Member)))) (y1 : Xs35) (a1 : Option Addr) (p1 : Nat) (q1 : Nat) (n1 : Nat) (k1 : Nat) (A1 : Nat → Member) (s0_0 : Int) (ls : List L1) : List Obj := [.cells #[.int .i64 (y1.fKind), .string y1.fName, .int .i64 (y1.fSize), .bool (y1.fSigned), .int .i64 (y1.fTo), .int .i64 (y1.fCount), .slice a1 n1 (n1 + k1)] 35]
theorem sp0_btf_holdsFunction_v2_L0v1_0_ok (y1 : Xs35) (a1 : Option Addr) (p1 : Nat) (q1 : Nat) (n1 : Nat) (k1 : Nat) (A1 : Nat → Member) (hR1 : Ro S c_Member 3 a1 p1 q1 n1 A1) (s0_0 : Int) (h : lpO (st_btf_holdsFunction_v2_L0v1 n0 A0 n1 A1) (.c0 s0_0) = some (.e0 )) : SpcG Tryd.prog M B0 S ⟨fun ls => .code (.loop bd_btf_holdsFunction_v2_L0v1) (t0_btf_holdsFunction_v2_L0v1_0 a0 p0 q0 n0 k0 X0 A0 y1 a1 p1 q1 n1 k1 A1 s0_0 ls), pre_btf_holdsFunction_v2_L0v1_0 a0 p0 q0 n0 k0 X0 A0 y1 a1 p1 q1 n1 k1 A1 s0_0, 1, (.exit 0), fun ls => vf_btf_holdsFunction_v2_L0v1 a0 p0 q0 n0 k0 X0 A0 y1 a1 p1 q1 n1 k1 A1 (.e0 ) (ls.take 1 ++ ls.drop 1), fun ls => (Hf_btf_holdsFunction_v2_L0v1 a0 p0 q0 n0 k0 X0 A0 y1 a1 p1 q1 n1 k1 A1 (.e0 ) (ls.take 1 ++ ls.drop 1)).take 1 ++ List.replicate 0 unb, fun ls => (Hf_btf_holdsFunction_v2_L0v1 a0 p0 q0 n0 k0 X0 A0 y1 a1 p1 q1 n1 k1 A1 (.e0 ) (ls.take 1 ++ ls.drop 1)).drop 1⟩ :=
  spc_of_goesM hU 0 (k0 := 1) (go_btf_holdsFunction_v2_L0v1 hU a0 p0 q0 n0 k0 X0 A0 hR0 y1 a1 p1 q1 n1 k1 A1 hR1 _ _ h) (t0_btf_holdsFunction_v2_L0v1_0 a0 p0 q0 n0 k0 X0 A0 y1 a1 p1 q1 n1 k1 A1 s0_0) (pre_btf_holdsFunction_v2_L0v1_0 a0 p0 q0 n0 k0 X0 A0 y1 a1 p1 q1 n1 k1 A1 s0_0) (fun _ => rfl) (fun ls h => by match ls, h with | [l0], _ => exact ⟨by kernel_rfl, by kernel_rfl⟩) (fun ls h => by match ls, h with | [l0], _ => rfl) (by decide) (by decide) (fun ls => rfl)
theorem sp1_btf_holdsFunction_v2_L0v1_0_ok (y1 : Xs35) (a1 : Option Addr) (p1 : Nat) (q1 : Nat) (n1 : Nat) (k1 : Nat) (A1 : Nat → Member) (hR1 : Ro S c_Member 3 a1 p1 q1 n1 A1) (s0_0 : Int) (h : lpO (st_btf_holdsFunction_v2_L0v1 n0 A0 n1 A1) (.c0 s0_0) = some (.e1 )) : SpcG Tryd.prog M B0 S ⟨fun ls => .code (.loop bd_btf_holdsFunction_v2_L0v1) (t0_btf_holdsFunction_v2_L0v1_0 a0 p0 q0 n0 k0 X0 A0 y1 a1 p1 q1 n1 k1 A1 s0_0 ls), pre_btf_holdsFunction_v2_L0v1_0 a0 p0 q0 n0 k0 X0 A0 y1 a1 p1 q1 n1 k1 A1 s0_0, 1, .ret, fun ls => vf_btf_holdsFunction_v2_L0v1 a0 p0 q0 n0 k0 X0 A0 y1 a1 p1 q1 n1 k1 A1 (.e1 ) (ls.take 1 ++ ls.drop 1), fun ls => (Hf_btf_holdsFunction_v2_L0v1 a0 p0 q0 n0 k0 X0 A0 y1 a1 p1 q1 n1 k1 A1 (.e1 ) (ls.take 1 ++ ls.drop 1)).take 1 ++ List.replicate 0 unb, fun ls => (Hf_btf_holdsFunction_v2_L0v1 a0 p0 q0 n0 k0 X0 A0 y1 a1 p1 q1 n1 k1 A1 (.e1 ) (ls.take 1 ++ ls.drop 1)).drop 1⟩ :=
  spc_of_goesM hU 0 (k0 := 1) (go_btf_holdsFunction_v2_L0v1 hU a0 p0 q0 n0 k0 X0 A0 hR0 y1 a1 p1 q1 n1 k1 A1 hR1 _ _ h) (t0_btf_holdsFunction_v2_L0v1_0 a0 p0 q0 n0 k0 X0 A0 y1 a1 p1 q1 n1 k1 A1 s0_0) (pre_btf_holdsFunction_v2_L0v1_0 a0 p0 q0 n0 k0 X0 A0 y1 a1 p1 q1 n1 k1 A1 s0_0) (fun _ => rfl) (fun ls h => by match ls, h with | [l0], _ => exact ⟨by kernel_rfl, by kernel_rfl⟩) (fun ls h => by match ls, h with | [l0], _ => rfl) (by decide) (by decide) (fun ls => rfl)
noncomputable def m_btf_holdsFunction_v2 (n0 : Nat) (A0 : Nat → (Xs35 × (Nat × (Nat → Member)))) (y1 : Xs35) (n1 : Nat) (A1 : Nat → Member) : Option (Bool) :=
  bif y1.fKind == 3 then
    ((m_btf_isFunction_v1 n0 A0 y1.fTo).bind fun r0 =>
    bif r0 then
      (some true)
    else ((lpO (st_btf_holdsFunction_v2_L0 n0 A0 n1 A1) (.c0 0)).bind fun g1 => match g1 with
    | .e0  => (some false)
    | .e1  => (some true)))
  else ((lpO (st_btf_holdsFunction_v2_L0v1 n0 A0 n1 A1) (.c0 0)).bind fun g0 => match g0 with
  | .e0  => (some false)
  | .e1  => (some true))
theorem ok_btf_holdsFunction_v2 (y1 : Xs35) (a1 : Option Addr) (p1 : Nat) (q1 : Nat) (n1 : Nat) (k1 : Nat) (A1 : Nat → Member) (hR1 : Ro S c_Member 3 a1 p1 q1 n1 A1) (r : Bool) (e : m_btf_holdsFunction_v2 n0 A0 y1 n1 A1 = some r) : ConG Tryd.prog S 19 #[.slice a0 n0 (n0 + k0), .agg #[.int .i64 (y1.fKind), .string y1.fName, .int .i64 (y1.fSize), .bool (y1.fSigned), .int .i64 (y1.fTo), .int .i64 (y1.fCount), .slice a1 n1 (n1 + k1)]] (.bool (r)) := by
  unfold m_btf_holdsFunction_v2 at e
  replace e := cond_eq_or e
  rcases e with ⟨hq0, e⟩ | ⟨hq0, e⟩
  · replace e := bindO_eq e
    obtain ⟨r0, e_r0, e⟩ := e
    try dsimp only at e
    replace e := cond_eq_or e
    rcases e with ⟨hq1, e⟩ | ⟨hq1, e⟩
    · subst hq1
      injection e with e; subst e; exact fn_conG hU (P := Tryd.prog) Tryd.func19 (fun xs w => by kernel_rfl) _ _ [.o, .o, .o, .a 0, .b (z_eqlT hq0), .o, .o, .o, .a 0, .cg (ok_btf_isFunction_v1 hU a0 p0 q0 n0 k0 X0 A0 hR0 y1.fTo true e_r0), .o, .o] [] (fun b => by kernel_rfl)
    · subst hq1
      replace e := bindO_eq e
      obtain ⟨g1, e_g1, e⟩ := e
      rcases g1 with _ | _
      · try dsimp only at e
        injection e with e; subst e; exact fn_conG hU (P := Tryd.prog) Tryd.func19 (fun xs w => by kernel_rfl) _ _ [.o, .o, .o, .a 0, .b (z_eqlT hq0), .o, .o, .o, .a 0, .cg (ok_btf_isFunction_v1 hU a0 p0 q0 n0 k0 X0 A0 hR0 y1.fTo false e_r0), .o, .o, .a 0, .o, .o, .cp, .cx (sp0_btf_holdsFunction_v2_L0_0_ok hU a0 p0 q0 n0 k0 X0 A0 hR0 y1 a1 p1 q1 n1 k1 A1 hR1 0  e_g1) [0], .o] [] (fun b => by kernel_rfl)
      · try dsimp only at e
        injection e with e; subst e; exact fn_conG hU (P := Tryd.prog) Tryd.func19 (fun xs w => by kernel_rfl) _ _ [.o, .o, .o, .a 0, .b (z_eqlT hq0), .o, .o, .o, .a 0, .cg (ok_btf_isFunction_v1 hU a0 p0 q0 n0 k0 X0 A0 hR0 y1.fTo false e_r0), .o, .o, .a 0, .o, .o, .cp, .cx (sp1_btf_holdsFunction_v2_L0_0_ok hU a0 p0 q0 n0 k0 X0 A0 hR0 y1 a1 p1 q1 n1 k1 A1 hR1 0  e_g1) [0]] [] (fun b => by kernel_rfl)
  · replace e := bindO_eq e
    obtain ⟨g0, e_g0, e⟩ := e
    rcases g0 with _ | _
    · try dsimp only at e
      injection e with e; subst e; exact fn_conG hU (P := Tryd.prog) Tryd.func19 (fun xs w => by kernel_rfl) _ _ [.o, .o, .o, .a 0, .b (z_eqlF hq0), .o, .o, .o, .a 0, .o, .o, .cp, .cx (sp0_btf_holdsFunction_v2_L0v1_0_ok hU a0 p0 q0 n0 k0 X0 A0 hR0 y1 a1 p1 q1 n1 k1 A1 hR1 0  e_g0) [0], .o] [] (fun b => by kernel_rfl)
    · try dsimp only at e
      injection e with e; subst e; exact fn_conG hU (P := Tryd.prog) Tryd.func19 (fun xs w => by kernel_rfl) _ _ [.o, .o, .o, .a 0, .b (z_eqlF hq0), .o, .o, .o, .a 0, .o, .o, .cp, .cx (sp1_btf_holdsFunction_v2_L0v1_0_ok hU a0 p0 q0 n0 k0 X0 A0 hR0 y1 a1 p1 q1 n1 k1 A1 hR1 0  e_g0) [0]] [] (fun b => by kernel_rfl)
noncomputable def m_btf_sizeOf_v2 (n0 : Nat) (A0 : Nat → (Xs35 × (Nat × (Nat → Member)))) (y1 : Int) (mr0 : (Nat) → (Nat → (Xs35 × (Nat × (Nat → Member)))) → (Int) → Option (Int)) : Option (Int) :=
  bif inR (IntKind.i64.wrap (y1 - 1)) n0 then
    (bif ((A0 ((IntKind.i64.wrap (y1 - 1))).toNat).1).fKind == 5 then
      ((mr0 n0 A0 ((A0 ((IntKind.i64.wrap (y1 - 1))).toNat).1).fTo).bind fun r0 =>
      some r0)
    else (bif ((A0 ((IntKind.i64.wrap (y1 - 1))).toNat).1).fKind == 3 then
      ((mr0 n0 A0 ((A0 ((IntKind.i64.wrap (y1 - 1))).toNat).1).fTo).bind fun r0 =>
      some (if 65537 < (IntKind.i64.wrap (((A0 ((IntKind.i64.wrap (y1 - 1))).toNat).1).fCount * r0)) then 65537 else (IntKind.i64.wrap (((A0 ((IntKind.i64.wrap (y1 - 1))).toNat).1).fCount * r0))))
    else (bif ((A0 ((IntKind.i64.wrap (y1 - 1))).toNat).1).fKind == 2 then
      (some 8)
    else (bif ((A0 ((IntKind.i64.wrap (y1 - 1))).toNat).1).fKind == 1 then
      (some ((A0 ((IntKind.i64.wrap (y1 - 1))).toNat).1).fSize)
    else (bif ((A0 ((IntKind.i64.wrap (y1 - 1))).toNat).1).fKind == 4 then
      (some ((A0 ((IntKind.i64.wrap (y1 - 1))).toNat).1).fSize)
    else (some 0))))))
  else (none)
theorem ok_btf_sizeOf_v2 (y1 : Int) (mr0 : (Nat) → (Nat → (Xs35 × (Nat × (Nat → Member)))) → (Int) → Option (Int)) (ih0 : ∀ {M : Nat → Prop} {B0 : Nat} {S : World → Prop} (hU : Up M B0 S) (a0 : Option Addr) (p0 : Nat) (q0 : Nat) (n0 : Nat) (k0 : Nat) (X0 : Nat → RoX) (A0 : Nat → (Xs35 × (Nat × (Nat → Member)))) (hR0 : RoS S h_Xs35 t_Xs35 7 c_Member 3 a0 p0 q0 n0 X0 (fun i => (A0 i).2) (fun i => (A0 i).1)) (y1 : Int) (r : Int), mr0 n0 A0 y1 = some r → ConG Tryd.prog S 10 #[.slice a0 n0 (n0 + k0), .int .i64 (y1)] (.int .i64 (r))) (r : Int) (e : m_btf_sizeOf_v2 n0 A0 y1 mr0 = some r) : ConG Tryd.prog S 10 #[.slice a0 n0 (n0 + k0), .int .i64 (y1)] (.int .i64 (r)) := by
  unfold m_btf_sizeOf_v2 at e
  replace e := cond_eq_or e
  rcases e with ⟨hq0, e⟩ | ⟨hq0, e⟩
  · replace e := cond_eq_or e
    rcases e with ⟨hq1, e⟩ | ⟨hq1, e⟩
    · replace e := bindO_eq e
      obtain ⟨r0, e_r0, e⟩ := e
      try dsimp only at e
      injection e with e; subst e; exact fn_conG hU (P := Tryd.prog) Tryd.func10 (fun xs w => by kernel_rfl) _ _ [.o, .o, .o, .o, .q (ixRo_ok (kd := .i64) (T := 22) (x := (IntKind.i64.wrap (y1 - 1))) (sz := 7) rfl (fun w => by kernel_rfl) (RoS.row hR0) hq0), .l (accRo (RoS.row hR0) (rxS_len z_Xs35 X0 (fun i => (A0 i).2) (fun i => (A0 i).1)) (inR_nat hq0) 0 [.int .i64 (((A0 ((IntKind.i64.wrap (y1 - 1))).toNat).1).fKind), .string ((A0 ((IntKind.i64.wrap (y1 - 1))).toNat).1).fName, .int .i64 (((A0 ((IntKind.i64.wrap (y1 - 1))).toNat).1).fSize), .bool (((A0 ((IntKind.i64.wrap (y1 - 1))).toNat).1).fSigned), .int .i64 (((A0 ((IntKind.i64.wrap (y1 - 1))).toNat).1).fTo), .int .i64 (((A0 ((IntKind.i64.wrap (y1 - 1))).toNat).1).fCount), .slice (X0 ((IntKind.i64.wrap (y1 - 1))).toNat).a (A0 ((IntKind.i64.wrap (y1 - 1))).toNat).2.1 ((A0 ((IntKind.i64.wrap (y1 - 1))).toNat).2.1 + (X0 ((IntKind.i64.wrap (y1 - 1))).toNat).c)] rfl), .o, .a 0, .o, .a 0, .b (z_eqlT hq1), .o, .o, .o, .a 0, .cg (ih0 hU a0 p0 q0 n0 k0 X0 A0 hR0 ((A0 ((IntKind.i64.wrap (y1 - 1))).toNat).1).fTo r0 e_r0), .o] [] (fun b => by kernel_rfl)
    · replace e := cond_eq_or e
      rcases e with ⟨hq2, e⟩ | ⟨hq2, e⟩
      · replace e := bindO_eq e
        obtain ⟨r0, e_r0, e⟩ := e
        try dsimp only at e
        injection e with e; subst e; exact fn_conG hU (P := Tryd.prog) Tryd.func10 (fun xs w => by kernel_rfl) _ _ [.o, .o, .o, .o, .q (ixRo_ok (kd := .i64) (T := 22) (x := (IntKind.i64.wrap (y1 - 1))) (sz := 7) rfl (fun w => by kernel_rfl) (RoS.row hR0) hq0), .l (accRo (RoS.row hR0) (rxS_len z_Xs35 X0 (fun i => (A0 i).2) (fun i => (A0 i).1)) (inR_nat hq0) 0 [.int .i64 (((A0 ((IntKind.i64.wrap (y1 - 1))).toNat).1).fKind), .string ((A0 ((IntKind.i64.wrap (y1 - 1))).toNat).1).fName, .int .i64 (((A0 ((IntKind.i64.wrap (y1 - 1))).toNat).1).fSize), .bool (((A0 ((IntKind.i64.wrap (y1 - 1))).toNat).1).fSigned), .int .i64 (((A0 ((IntKind.i64.wrap (y1 - 1))).toNat).1).fTo), .int .i64 (((A0 ((IntKind.i64.wrap (y1 - 1))).toNat).1).fCount), .slice (X0 ((IntKind.i64.wrap (y1 - 1))).toNat).a (A0 ((IntKind.i64.wrap (y1 - 1))).toNat).2.1 ((A0 ((IntKind.i64.wrap (y1 - 1))).toNat).2.1 + (X0 ((IntKind.i64.wrap (y1 - 1))).toNat).c)] rfl), .o, .a 0, .o, .a 0, .b (z_eqlF hq1), .o, .b (z_eqlT hq2), .o, .r [0, 1, 2, 3, 4] [] [5, 6, 7, 8], .o, .a 0, .o, .o, .a 0, .cg (ih0 hU a0 p0 q0 n0 k0 X0 A0 hR0 ((A0 ((IntKind.i64.wrap (y1 - 1))).toNat).1).fTo r0 e_r0), .o, .o, .o] [] (fun b => by kernel_rfl)
      · replace e := cond_eq_or e
        rcases e with ⟨hq3, e⟩ | ⟨hq3, e⟩
        · injection e with e; subst e; exact fn_conG hU (P := Tryd.prog) Tryd.func10 (fun xs w => by kernel_rfl) _ _ [.o, .o, .o, .o, .q (ixRo_ok (kd := .i64) (T := 22) (x := (IntKind.i64.wrap (y1 - 1))) (sz := 7) rfl (fun w => by kernel_rfl) (RoS.row hR0) hq0), .l (accRo (RoS.row hR0) (rxS_len z_Xs35 X0 (fun i => (A0 i).2) (fun i => (A0 i).1)) (inR_nat hq0) 0 [.int .i64 (((A0 ((IntKind.i64.wrap (y1 - 1))).toNat).1).fKind), .string ((A0 ((IntKind.i64.wrap (y1 - 1))).toNat).1).fName, .int .i64 (((A0 ((IntKind.i64.wrap (y1 - 1))).toNat).1).fSize), .bool (((A0 ((IntKind.i64.wrap (y1 - 1))).toNat).1).fSigned), .int .i64 (((A0 ((IntKind.i64.wrap (y1 - 1))).toNat).1).fTo), .int .i64 (((A0 ((IntKind.i64.wrap (y1 - 1))).toNat).1).fCount), .slice (X0 ((IntKind.i64.wrap (y1 - 1))).toNat).a (A0 ((IntKind.i64.wrap (y1 - 1))).toNat).2.1 ((A0 ((IntKind.i64.wrap (y1 - 1))).toNat).2.1 + (X0 ((IntKind.i64.wrap (y1 - 1))).toNat).c)] rfl), .o, .a 0, .o, .a 0, .b (z_eqlF hq1), .o, .b (z_eqlF hq2), .o, .b (z_eqlT hq3), .o, .o] [] (fun b => by kernel_rfl)
        · replace e := cond_eq_or e
          rcases e with ⟨hq4, e⟩ | ⟨hq4, e⟩
          · injection e with e; subst e; exact fn_conG hU (P := Tryd.prog) Tryd.func10 (fun xs w => by kernel_rfl) _ _ [.o, .o, .o, .o, .q (ixRo_ok (kd := .i64) (T := 22) (x := (IntKind.i64.wrap (y1 - 1))) (sz := 7) rfl (fun w => by kernel_rfl) (RoS.row hR0) hq0), .l (accRo (RoS.row hR0) (rxS_len z_Xs35 X0 (fun i => (A0 i).2) (fun i => (A0 i).1)) (inR_nat hq0) 0 [.int .i64 (((A0 ((IntKind.i64.wrap (y1 - 1))).toNat).1).fKind), .string ((A0 ((IntKind.i64.wrap (y1 - 1))).toNat).1).fName, .int .i64 (((A0 ((IntKind.i64.wrap (y1 - 1))).toNat).1).fSize), .bool (((A0 ((IntKind.i64.wrap (y1 - 1))).toNat).1).fSigned), .int .i64 (((A0 ((IntKind.i64.wrap (y1 - 1))).toNat).1).fTo), .int .i64 (((A0 ((IntKind.i64.wrap (y1 - 1))).toNat).1).fCount), .slice (X0 ((IntKind.i64.wrap (y1 - 1))).toNat).a (A0 ((IntKind.i64.wrap (y1 - 1))).toNat).2.1 ((A0 ((IntKind.i64.wrap (y1 - 1))).toNat).2.1 + (X0 ((IntKind.i64.wrap (y1 - 1))).toNat).c)] rfl), .o, .a 0, .o, .a 0, .b (z_eqlF hq1), .o, .b (z_eqlF hq2), .o, .b (z_eqlF hq3), .o, .b (z_eqlT hq4), .o, .o, .a 0, .o] [] (fun b => by kernel_rfl)
          · replace e := cond_eq_or e
            rcases e with ⟨hq5, e⟩ | ⟨hq5, e⟩
            · injection e with e; subst e; exact fn_conG hU (P := Tryd.prog) Tryd.func10 (fun xs w => by kernel_rfl) _ _ [.o, .o, .o, .o, .q (ixRo_ok (kd := .i64) (T := 22) (x := (IntKind.i64.wrap (y1 - 1))) (sz := 7) rfl (fun w => by kernel_rfl) (RoS.row hR0) hq0), .l (accRo (RoS.row hR0) (rxS_len z_Xs35 X0 (fun i => (A0 i).2) (fun i => (A0 i).1)) (inR_nat hq0) 0 [.int .i64 (((A0 ((IntKind.i64.wrap (y1 - 1))).toNat).1).fKind), .string ((A0 ((IntKind.i64.wrap (y1 - 1))).toNat).1).fName, .int .i64 (((A0 ((IntKind.i64.wrap (y1 - 1))).toNat).1).fSize), .bool (((A0 ((IntKind.i64.wrap (y1 - 1))).toNat).1).fSigned), .int .i64 (((A0 ((IntKind.i64.wrap (y1 - 1))).toNat).1).fTo), .int .i64 (((A0 ((IntKind.i64.wrap (y1 - 1))).toNat).1).fCount), .slice (X0 ((IntKind.i64.wrap (y1 - 1))).toNat).a (A0 ((IntKind.i64.wrap (y1 - 1))).toNat).2.1 ((A0 ((IntKind.i64.wrap (y1 - 1))).toNat).2.1 + (X0 ((IntKind.i64.wrap (y1 - 1))).toNat).c)] rfl), .o, .a 0, .o, .a 0, .b (z_eqlF hq1), .o, .b (z_eqlF hq2), .o, .b (z_eqlF hq3), .o, .b (z_eqlF hq4), .o, .b (z_eqlT hq5), .o, .o, .a 0, .o] [] (fun b => by kernel_rfl)
            · injection e with e; subst e; exact fn_conG hU (P := Tryd.prog) Tryd.func10 (fun xs w => by kernel_rfl) _ _ [.o, .o, .o, .o, .q (ixRo_ok (kd := .i64) (T := 22) (x := (IntKind.i64.wrap (y1 - 1))) (sz := 7) rfl (fun w => by kernel_rfl) (RoS.row hR0) hq0), .l (accRo (RoS.row hR0) (rxS_len z_Xs35 X0 (fun i => (A0 i).2) (fun i => (A0 i).1)) (inR_nat hq0) 0 [.int .i64 (((A0 ((IntKind.i64.wrap (y1 - 1))).toNat).1).fKind), .string ((A0 ((IntKind.i64.wrap (y1 - 1))).toNat).1).fName, .int .i64 (((A0 ((IntKind.i64.wrap (y1 - 1))).toNat).1).fSize), .bool (((A0 ((IntKind.i64.wrap (y1 - 1))).toNat).1).fSigned), .int .i64 (((A0 ((IntKind.i64.wrap (y1 - 1))).toNat).1).fTo), .int .i64 (((A0 ((IntKind.i64.wrap (y1 - 1))).toNat).1).fCount), .slice (X0 ((IntKind.i64.wrap (y1 - 1))).toNat).a (A0 ((IntKind.i64.wrap (y1 - 1))).toNat).2.1 ((A0 ((IntKind.i64.wrap (y1 - 1))).toNat).2.1 + (X0 ((IntKind.i64.wrap (y1 - 1))).toNat).c)] rfl), .o, .a 0, .o, .a 0, .b (z_eqlF hq1), .o, .b (z_eqlF hq2), .o, .b (z_eqlF hq3), .o, .b (z_eqlF hq4), .o, .b (z_eqlF hq5), .o, .o] [] (fun b => by kernel_rfl)
  · exact none_some e
noncomputable def m_btf_sizeOf_v2_F : Nat → (Nat) → (Nat → (Xs35 × (Nat × (Nat → Member)))) → (Int) → Option (Int)
  | 0 => fun _ _ _ => none
  | k + 1 => fun n0 A0 y1 => m_btf_sizeOf_v2 n0 A0 y1 (m_btf_sizeOf_v2_F k)
end
theorem ok_btf_sizeOf_v2_F (k : Nat) : ∀ {M : Nat → Prop} {B0 : Nat} {S : World → Prop} (hU : Up M B0 S) (a0 : Option Addr) (p0 : Nat) (q0 : Nat) (n0 : Nat) (k0 : Nat) (X0 : Nat → RoX) (A0 : Nat → (Xs35 × (Nat × (Nat → Member)))) (hR0 : RoS S h_Xs35 t_Xs35 7 c_Member 3 a0 p0 q0 n0 X0 (fun i => (A0 i).2) (fun i => (A0 i).1)) (y1 : Int) (r : Int) (e : m_btf_sizeOf_v2_F k n0 A0 y1 = some r), ConG Tryd.prog S 10 #[.slice a0 n0 (n0 + k0), .int .i64 (y1)] (.int .i64 (r)) := by
  induction k with
  | zero => intro M B0 S hU a0 p0 q0 n0 k0 X0 A0 hR0 y1 r e; cases e
  | succ k ih => intro M B0 S hU a0 p0 q0 n0 k0 X0 A0 hR0 y1 r e; exact ok_btf_sizeOf_v2 hU a0 p0 q0 n0 k0 X0 A0 hR0 y1 (m_btf_sizeOf_v2_F k) (fun hU a0 p0 q0 n0 k0 X0 A0 hR0 y1 r e => ih hU a0 p0 q0 n0 k0 X0 A0 hR0 y1 r e) r e
inductive Sh_btf_fits_v2_L0 where
  | c0 (s0_0 : Int) (s0_1 : Int)
inductive Ex_btf_fits_v2_L0 where
  | e0 (c0_0 : Int) (c0_1 : ByteArray) (c0_2 : Int) (c0_3 : Bool) (c0_4 : Int) (c0_5 : Int)
  | e1 (c1_0 : Int) (c1_1 : ByteArray) (c1_2 : Int) (c1_3 : Bool) (c1_4 : Int) (c1_5 : Int)
noncomputable def st_btf_fits_v2_L0 (n0 : Nat) (A0 : Nat → (Xs35 × (Nat × (Nat → Member)))) (y1 : Int) : Sh_btf_fits_v2_L0 → Option (Sh_btf_fits_v2_L0 ⊕ Ex_btf_fits_v2_L0)
  | .c0 s0_0 s0_1 =>
    bif decide (s0_1 < ((A0 ((IntKind.i64.wrap (y1 - 1))).toNat).2.1 : Int)) then
      (bif inR s0_1 (A0 ((IntKind.i64.wrap (y1 - 1))).toNat).2.1 then
        (bif inR (IntKind.i64.wrap (y1 - 1)) n0 then
          (bif decide ((((A0 ((IntKind.i64.wrap (y1 - 1))).toNat).2.2 (s0_1).toNat)).fBits < 0) then
            (some (.inr (.e1 ((A0 ((IntKind.i64.wrap (y1 - 1))).toNat).1).fKind ((A0 ((IntKind.i64.wrap (y1 - 1))).toNat).1).fName ((A0 ((IntKind.i64.wrap (y1 - 1))).toNat).1).fSize ((A0 ((IntKind.i64.wrap (y1 - 1))).toNat).1).fSigned ((A0 ((IntKind.i64.wrap (y1 - 1))).toNat).1).fTo ((A0 ((IntKind.i64.wrap (y1 - 1))).toNat).1).fCount)))
          else (bif (zrem (((A0 ((IntKind.i64.wrap (y1 - 1))).toNat).2.2 (s0_1).toNat)).fBits 8) == 0 then
            (bif decide ((zquo (((A0 ((IntKind.i64.wrap (y1 - 1))).toNat).2.2 (s0_1).toNat)).fBits 8) < s0_0) then
              (some (.inr (.e1 ((A0 ((IntKind.i64.wrap (y1 - 1))).toNat).1).fKind ((A0 ((IntKind.i64.wrap (y1 - 1))).toNat).1).fName ((A0 ((IntKind.i64.wrap (y1 - 1))).toNat).1).fSize ((A0 ((IntKind.i64.wrap (y1 - 1))).toNat).1).fSigned ((A0 ((IntKind.i64.wrap (y1 - 1))).toNat).1).fTo ((A0 ((IntKind.i64.wrap (y1 - 1))).toNat).1).fCount)))
            else ((m_btf_sizeOf_v2_F 300 n0 A0 (((A0 ((IntKind.i64.wrap (y1 - 1))).toNat).2.2 (s0_1).toNat)).fType).bind fun rb0 =>
            bif decide (((A0 ((IntKind.i64.wrap (y1 - 1))).toNat).1).fSize < (IntKind.i64.wrap ((zquo (((A0 ((IntKind.i64.wrap (y1 - 1))).toNat).2.2 (s0_1).toNat)).fBits 8) + rb0))) then
              (some (.inr (.e1 ((A0 ((IntKind.i64.wrap (y1 - 1))).toNat).1).fKind ((A0 ((IntKind.i64.wrap (y1 - 1))).toNat).1).fName ((A0 ((IntKind.i64.wrap (y1 - 1))).toNat).1).fSize ((A0 ((IntKind.i64.wrap (y1 - 1))).toNat).1).fSigned ((A0 ((IntKind.i64.wrap (y1 - 1))).toNat).1).fTo ((A0 ((IntKind.i64.wrap (y1 - 1))).toNat).1).fCount)))
            else (some (.inl (.c0 (IntKind.i64.wrap ((zquo (((A0 ((IntKind.i64.wrap (y1 - 1))).toNat).2.2 (s0_1).toNat)).fBits 8) + rb0)) (IntKind.i64.wrap (s0_1 + 1)))))))
          else (some (.inr (.e1 ((A0 ((IntKind.i64.wrap (y1 - 1))).toNat).1).fKind ((A0 ((IntKind.i64.wrap (y1 - 1))).toNat).1).fName ((A0 ((IntKind.i64.wrap (y1 - 1))).toNat).1).fSize ((A0 ((IntKind.i64.wrap (y1 - 1))).toNat).1).fSigned ((A0 ((IntKind.i64.wrap (y1 - 1))).toNat).1).fTo ((A0 ((IntKind.i64.wrap (y1 - 1))).toNat).1).fCount)))))
        else (none))
      else (none))
    else (some (.inr (.e0 ((A0 ((IntKind.i64.wrap (y1 - 1))).toNat).1).fKind ((A0 ((IntKind.i64.wrap (y1 - 1))).toNat).1).fName ((A0 ((IntKind.i64.wrap (y1 - 1))).toNat).1).fSize ((A0 ((IntKind.i64.wrap (y1 - 1))).toNat).1).fSigned ((A0 ((IntKind.i64.wrap (y1 - 1))).toNat).1).fTo ((A0 ((IntKind.i64.wrap (y1 - 1))).toNat).1).fCount)))
noncomputable def bd_btf_fits_v2_L0 : Code := codeOf Tryd.f20 [1, 1, 0, 1, 0, 1, 1, 1, 0, 1, 1, 0, 0]
def fl_btf_fits_v2_L0 (a0 : Option Addr) (p0 : Nat) (q0 : Nat) (n0 : Nat) (k0 : Nat) (X0 : Nat → RoX) (A0 : Nat → (Xs35 × (Nat × (Nat → Member)))) (y1 : Int) : Sh_btf_fits_v2_L0 → List L1 → List Value
  | .c0 s0_0 s0_1, ls => [.slice a0 n0 (n0 + k0), .bool false, .pointer (some ⟨(lget ls 0).n, 0, none⟩), .int .i64 (s0_0), .slice (X0 ((IntKind.i64.wrap (y1 - 1))).toNat).a (A0 ((IntKind.i64.wrap (y1 - 1))).toNat).2.1 ((A0 ((IntKind.i64.wrap (y1 - 1))).toNat).2.1 + (X0 ((IntKind.i64.wrap (y1 - 1))).toNat).c), .int .i64 (((A0 ((IntKind.i64.wrap (y1 - 1))).toNat).2.1 : Int)), .int .i64 (s0_1)]
def mf_btf_fits_v2_L0 : Sh_btf_fits_v2_L0 → List (Nat × Nat)
  | .c0 _ _ => [(1, 3), (3, 18), (3, 32)]
noncomputable def fr_btf_fits_v2_L0 (a0 : Option Addr) (p0 : Nat) (q0 : Nat) (n0 : Nat) (k0 : Nat) (X0 : Nat → RoX) (A0 : Nat → (Xs35 × (Nat × (Nat → Member)))) (y1 : Int) (s : Sh_btf_fits_v2_L0) : List L1 → List Value := mrgF (mf_btf_fits_v2_L0 s) (fl_btf_fits_v2_L0 a0 p0 q0 n0 k0 X0 A0 y1 s) 1
def Hs_btf_fits_v2_L0 (a0 : Option Addr) (p0 : Nat) (q0 : Nat) (n0 : Nat) (k0 : Nat) (X0 : Nat → RoX) (A0 : Nat → (Xs35 × (Nat × (Nat → Member)))) (y1 : Int) : Sh_btf_fits_v2_L0 → List L1 → List Obj
  | .c0 s0_0 s0_1, ls => [.cells #[.int .i64 (((A0 ((IntKind.i64.wrap (y1 - 1))).toNat).1).fKind), .string ((A0 ((IntKind.i64.wrap (y1 - 1))).toNat).1).fName, .int .i64 (((A0 ((IntKind.i64.wrap (y1 - 1))).toNat).1).fSize), .bool (((A0 ((IntKind.i64.wrap (y1 - 1))).toNat).1).fSigned), .int .i64 (((A0 ((IntKind.i64.wrap (y1 - 1))).toNat).1).fTo), .int .i64 (((A0 ((IntKind.i64.wrap (y1 - 1))).toNat).1).fCount), .slice (X0 ((IntKind.i64.wrap (y1 - 1))).toNat).a (A0 ((IntKind.i64.wrap (y1 - 1))).toNat).2.1 ((A0 ((IntKind.i64.wrap (y1 - 1))).toNat).2.1 + (X0 ((IntKind.i64.wrap (y1 - 1))).toNat).c)] 35, unb]
def vl_btf_fits_v2_L0 (a0 : Option Addr) (p0 : Nat) (q0 : Nat) (n0 : Nat) (k0 : Nat) (X0 : Nat → RoX) (A0 : Nat → (Xs35 × (Nat × (Nat → Member)))) (y1 : Int) : Ex_btf_fits_v2_L0 → List L1 → List Value
  | .e0 c0_0 c0_1 c0_2 c0_3 c0_4 c0_5, ls => [.slice a0 n0 (n0 + k0), .bool false, .pointer (some ⟨(lget ls 0).n, 0, none⟩), .slice (X0 ((IntKind.i64.wrap (y1 - 1))).toNat).a (A0 ((IntKind.i64.wrap (y1 - 1))).toNat).2.1 ((A0 ((IntKind.i64.wrap (y1 - 1))).toNat).2.1 + (X0 ((IntKind.i64.wrap (y1 - 1))).toNat).c), .int .i64 (((A0 ((IntKind.i64.wrap (y1 - 1))).toNat).2.1 : Int))]
  | .e1 c1_0 c1_1 c1_2 c1_3 c1_4 c1_5, ls => [.slice a0 n0 (n0 + k0), .bool false, .pointer (some ⟨(lget ls 0).n, 0, none⟩), .slice (X0 ((IntKind.i64.wrap (y1 - 1))).toNat).a (A0 ((IntKind.i64.wrap (y1 - 1))).toNat).2.1 ((A0 ((IntKind.i64.wrap (y1 - 1))).toNat).2.1 + (X0 ((IntKind.i64.wrap (y1 - 1))).toNat).c), .int .i64 (((A0 ((IntKind.i64.wrap (y1 - 1))).toNat).2.1 : Int))]
def mk_btf_fits_v2_L0 : Ex_btf_fits_v2_L0 → List (Nat × Nat)
  | .e0 _ _ _ _ _ _ => [(1, 3), (2, 19), (2, 33)]
  | .e1 _ _ _ _ _ _ => [(1, 3), (2, 19), (2, 33)]
noncomputable def vf_btf_fits_v2_L0 (a0 : Option Addr) (p0 : Nat) (q0 : Nat) (n0 : Nat) (k0 : Nat) (X0 : Nat → RoX) (A0 : Nat → (Xs35 × (Nat × (Nat → Member)))) (y1 : Int) (r : Ex_btf_fits_v2_L0) : List L1 → List Value := mrgF (mk_btf_fits_v2_L0 r) (vl_btf_fits_v2_L0 a0 p0 q0 n0 k0 X0 A0 y1 r) 1
def Hf_btf_fits_v2_L0 (a0 : Option Addr) (p0 : Nat) (q0 : Nat) (n0 : Nat) (k0 : Nat) (X0 : Nat → RoX) (A0 : Nat → (Xs35 × (Nat × (Nat → Member)))) (y1 : Int) : Ex_btf_fits_v2_L0 → List L1 → List Obj
  | .e0 c0_0 c0_1 c0_2 c0_3 c0_4 c0_5, ls => [.cells #[.int .i64 (c0_0), .string c0_1, .int .i64 (c0_2), .bool (c0_3), .int .i64 (c0_4), .int .i64 (c0_5), .slice (X0 ((IntKind.i64.wrap (y1 - 1))).toNat).a (A0 ((IntKind.i64.wrap (y1 - 1))).toNat).2.1 ((A0 ((IntKind.i64.wrap (y1 - 1))).toNat).2.1 + (X0 ((IntKind.i64.wrap (y1 - 1))).toNat).c)] 35, unb]
  | .e1 c1_0 c1_1 c1_2 c1_3 c1_4 c1_5, ls => [.cells #[.int .i64 (c1_0), .string c1_1, .int .i64 (c1_2), .bool (c1_3), .int .i64 (c1_4), .int .i64 (c1_5), .slice (X0 ((IntKind.i64.wrap (y1 - 1))).toNat).a (A0 ((IntKind.i64.wrap (y1 - 1))).toNat).2.1 ((A0 ((IntKind.i64.wrap (y1 - 1))).toNat).2.1 + (X0 ((IntKind.i64.wrap (y1 - 1))).toNat).c)] 35, unb]
def ex_btf_fits_v2_L0 : Ex_btf_fits_v2_L0 → Ex
  | .e0 _ _ _ _ _ _ => (.exit 1)
  | .e1 _ _ _ _ _ _ => .ret
section
variable {M : Nat → Prop} {B0 : Nat} {S : World → Prop} (hU : Up M B0 S) (a0 : Option Addr) (p0 : Nat) (q0 : Nat) (n0 : Nat) (k0 : Nat) (X0 : Nat → RoX) (A0 : Nat → (Xs35 × (Nat × (Nat → Member)))) (hR0 : RoS S h_Xs35 t_Xs35 7 c_Member 3 a0 p0 q0 n0 X0 (fun i => (A0 i).2) (fun i => (A0 i).1)) (y1 : Int)
include hU a0 p0 q0 n0 k0 X0 A0 hR0 y1
theorem go_btf_fits_v2_L0 (s : Sh_btf_fits_v2_L0) (r : Ex_btf_fits_v2_L0) (h : lpO (st_btf_fits_v2_L0 n0 A0 y1) s = some r) : GoesG Tryd.prog M B0 S (.loop bd_btf_fits_v2_L0) 2 (fr_btf_fits_v2_L0 a0 p0 q0 n0 k0 X0 A0 y1 s) (Hs_btf_fits_v2_L0 a0 p0 q0 n0 k0 X0 A0 y1 s) (ex_btf_fits_v2_L0 r) 1 (vf_btf_fits_v2_L0 a0 p0 q0 n0 k0 X0 A0 y1 r) (Hf_btf_fits_v2_L0 a0 p0 q0 n0 k0 X0 A0 y1 r) 2 :=
  goes_lpO (fun s q e => by
    cases s with
    | c0 s0_0 s0_1 =>
      unfold st_btf_fits_v2_L0 at e
      dsimp only at e
      replace e := cond_eq_or e
      rcases e with ⟨hq0, e⟩ | ⟨hq0, e⟩
      · replace e := cond_eq_or e
        rcases e with ⟨hq1, e⟩ | ⟨hq1, e⟩
        · replace e := cond_eq_or e
          rcases e with ⟨hq2, e⟩ | ⟨hq2, e⟩
          · replace e := cond_eq_or e
            rcases e with ⟨hq3, e⟩ | ⟨hq3, e⟩
            · cases e; exact ⟨ne_ret, goes_runM hU [.b (z_lssT hq0), .q (ixRo_ok (kd := .i64) (T := 33) (x := s0_1) (sz := 3) rfl (fun w => by kernel_rfl) (RoS.els hR0 ((IntKind.i64.wrap (y1 - 1))).toNat (inR_nat hq2)) hq1), .l (accRo (RoS.els hR0 ((IntKind.i64.wrap (y1 - 1))).toNat (inR_nat hq2)) c_Member_len (inR_nat hq1) 0 [.string (((A0 ((IntKind.i64.wrap (y1 - 1))).toNat).2.2 (s0_1).toNat)).fName, .int .i64 ((((A0 ((IntKind.i64.wrap (y1 - 1))).toNat).2.2 (s0_1).toNat)).fType), .int .i64 ((((A0 ((IntKind.i64.wrap (y1 - 1))).toNat).2.2 (s0_1).toNat)).fBits)] rfl), .o, .a 2, .o, .a 2, .b (z_lssT hq3), .o, .o, .o, .o, .o] [0] (fun b => rfl) (by decide) rfl rfl (fun b => by kernel_rfl)⟩
            · replace e := cond_eq_or e
              rcases e with ⟨hq4, e⟩ | ⟨hq4, e⟩
              · replace e := cond_eq_or e
                rcases e with ⟨hq5, e⟩ | ⟨hq5, e⟩
                · cases e; exact ⟨ne_ret, goes_runM hU [.b (z_lssT hq0), .q (ixRo_ok (kd := .i64) (T := 33) (x := s0_1) (sz := 3) rfl (fun w => by kernel_rfl) (RoS.els hR0 ((IntKind.i64.wrap (y1 - 1))).toNat (inR_nat hq2)) hq1), .l (accRo (RoS.els hR0 ((IntKind.i64.wrap (y1 - 1))).toNat (inR_nat hq2)) c_Member_len (inR_nat hq1) 0 [.string (((A0 ((IntKind.i64.wrap (y1 - 1))).toNat).2.2 (s0_1).toNat)).fName, .int .i64 ((((A0 ((IntKind.i64.wrap (y1 - 1))).toNat).2.2 (s0_1).toNat)).fType), .int .i64 ((((A0 ((IntKind.i64.wrap (y1 - 1))).toNat).2.2 (s0_1).toNat)).fBits)] rfl), .o, .a 2, .o, .a 2, .b (z_lssF hq3), .o, .o, .a 2, .ov (z_rem Tryd.prog 3 (.tmp 36) (.const (.int .i64 (8))) (((A0 ((IntKind.i64.wrap (y1 - 1))).toNat).2.2 (s0_1).toNat)).fBits 8 (by decide)), .b (z_neqT hq4), .o, .o, .o, .a 2, .ov (z_quo Tryd.prog 3 (.tmp 42) (.const (.int .i64 (8))) (((A0 ((IntKind.i64.wrap (y1 - 1))).toNat).2.2 (s0_1).toNat)).fBits 8 (by decide)), .o, .b (z_lssT hq5), .o, .o] [0] (fun b => rfl) (by decide) rfl rfl (fun b => by kernel_rfl)⟩
                · replace e := bindO_eq e
                  obtain ⟨rb0, e_rb0, e⟩ := e
                  try dsimp only at e
                  replace e := cond_eq_or e
                  rcases e with ⟨hq6, e⟩ | ⟨hq6, e⟩
                  · cases e; exact ⟨ne_ret, goes_runM hU [.b (z_lssT hq0), .q (ixRo_ok (kd := .i64) (T := 33) (x := s0_1) (sz := 3) rfl (fun w => by kernel_rfl) (RoS.els hR0 ((IntKind.i64.wrap (y1 - 1))).toNat (inR_nat hq2)) hq1), .l (accRo (RoS.els hR0 ((IntKind.i64.wrap (y1 - 1))).toNat (inR_nat hq2)) c_Member_len (inR_nat hq1) 0 [.string (((A0 ((IntKind.i64.wrap (y1 - 1))).toNat).2.2 (s0_1).toNat)).fName, .int .i64 ((((A0 ((IntKind.i64.wrap (y1 - 1))).toNat).2.2 (s0_1).toNat)).fType), .int .i64 ((((A0 ((IntKind.i64.wrap (y1 - 1))).toNat).2.2 (s0_1).toNat)).fBits)] rfl), .o, .a 2, .o, .a 2, .b (z_lssF hq3), .o, .o, .a 2, .ov (z_rem Tryd.prog 3 (.tmp 36) (.const (.int .i64 (8))) (((A0 ((IntKind.i64.wrap (y1 - 1))).toNat).2.2 (s0_1).toNat)).fBits 8 (by decide)), .b (z_neqT hq4), .o, .o, .o, .a 2, .ov (z_quo Tryd.prog 3 (.tmp 42) (.const (.int .i64 (8))) (((A0 ((IntKind.i64.wrap (y1 - 1))).toNat).2.2 (s0_1).toNat)).fBits 8 (by decide)), .o, .b (z_lssF hq5), .o, .r [0, 1, 2, 3, 4, 5] [] [6, 7, 8], .o, .a 2, .ov (z_quo Tryd.prog 3 (.tmp 48) (.const (.int .i64 (8))) (((A0 ((IntKind.i64.wrap (y1 - 1))).toNat).2.2 (s0_1).toNat)).fBits 8 (by decide)), .o, .o, .a 2, .cg (ok_btf_sizeOf_v2_F 300 hU a0 p0 q0 n0 k0 X0 A0 hR0 (((A0 ((IntKind.i64.wrap (y1 - 1))).toNat).2.2 (s0_1).toNat)).fType rb0 e_rb0), .o, .o, .o, .o, .a 0, .b (z_gtrT hq6), .o] [0] (fun b => rfl) (by decide) rfl rfl (fun b => by kernel_rfl)⟩
                  · cases e; exact goes_runM hU [.b (z_lssT hq0), .q (ixRo_ok (kd := .i64) (T := 33) (x := s0_1) (sz := 3) rfl (fun w => by kernel_rfl) (RoS.els hR0 ((IntKind.i64.wrap (y1 - 1))).toNat (inR_nat hq2)) hq1), .l (accRo (RoS.els hR0 ((IntKind.i64.wrap (y1 - 1))).toNat (inR_nat hq2)) c_Member_len (inR_nat hq1) 0 [.string (((A0 ((IntKind.i64.wrap (y1 - 1))).toNat).2.2 (s0_1).toNat)).fName, .int .i64 ((((A0 ((IntKind.i64.wrap (y1 - 1))).toNat).2.2 (s0_1).toNat)).fType), .int .i64 ((((A0 ((IntKind.i64.wrap (y1 - 1))).toNat).2.2 (s0_1).toNat)).fBits)] rfl), .o, .a 2, .o, .a 2, .b (z_lssF hq3), .o, .o, .a 2, .ov (z_rem Tryd.prog 3 (.tmp 36) (.const (.int .i64 (8))) (((A0 ((IntKind.i64.wrap (y1 - 1))).toNat).2.2 (s0_1).toNat)).fBits 8 (by decide)), .b (z_neqT hq4), .o, .o, .o, .a 2, .ov (z_quo Tryd.prog 3 (.tmp 42) (.const (.int .i64 (8))) (((A0 ((IntKind.i64.wrap (y1 - 1))).toNat).2.2 (s0_1).toNat)).fBits 8 (by decide)), .o, .b (z_lssF hq5), .o, .r [0, 1, 2, 3, 4, 5] [] [6, 7, 8], .o, .a 2, .ov (z_quo Tryd.prog 3 (.tmp 48) (.const (.int .i64 (8))) (((A0 ((IntKind.i64.wrap (y1 - 1))).toNat).2.2 (s0_1).toNat)).fBits 8 (by decide)), .o, .o, .a 2, .cg (ok_btf_sizeOf_v2_F 300 hU a0 p0 q0 n0 k0 X0 A0 hR0 (((A0 ((IntKind.i64.wrap (y1 - 1))).toNat).2.2 (s0_1).toNat)).fType rb0 e_rb0), .o, .o, .o, .o, .a 0, .b (z_gtrF hq6), .o, .o] [0] (fun b => rfl) (by decide) rfl rfl (fun b => by kernel_rfl)
              · cases e; exact ⟨ne_ret, goes_runM hU [.b (z_lssT hq0), .q (ixRo_ok (kd := .i64) (T := 33) (x := s0_1) (sz := 3) rfl (fun w => by kernel_rfl) (RoS.els hR0 ((IntKind.i64.wrap (y1 - 1))).toNat (inR_nat hq2)) hq1), .l (accRo (RoS.els hR0 ((IntKind.i64.wrap (y1 - 1))).toNat (inR_nat hq2)) c_Member_len (inR_nat hq1) 0 [.string (((A0 ((IntKind.i64.wrap (y1 - 1))).toNat).2.2 (s0_1).toNat)).fName, .int .i64 ((((A0 ((IntKind.i64.wrap (y1 - 1))).toNat).2.2 (s0_1).toNat)).fType), .int .i64 ((((A0 ((IntKind.i64.wrap (y1 - 1))).toNat).2.2 (s0_1).toNat)).fBits)] rfl), .o, .a 2, .o, .a 2, .b (z_lssF hq3), .o, .o, .a 2, .ov (z_rem Tryd.prog 3 (.tmp 36) (.const (.int .i64 (8))) (((A0 ((IntKind.i64.wrap (y1 - 1))).toNat).2.2 (s0_1).toNat)).fBits 8 (by decide)), .b (z_neqF hq4), .o, .o, .o, .o] [0] (fun b => rfl) (by decide) rfl rfl (fun b => by kernel_rfl)⟩
          · exact none_some e
        · exact none_some e
      · cases e; exact ⟨ne_exit 1, goes_runM hU [.b (z_lssF hq0)] [0] (fun b => rfl) (by decide) rfl rfl (fun b => by kernel_rfl)⟩) s r h
noncomputable def t0_btf_fits_v2_L0_0 (a0 : Option Addr) (p0 : Nat) (q0 : Nat) (n0 : Nat) (k0 : Nat) (X0 : Nat → RoX) (A0 : Nat → (Xs35 × (Nat × (Nat → Member)))) (y1 : Int) (s0_0 : Int) (s0_1 : Int) (ls : List L1) : List Value := List.append [.slice a0 n0 (n0 + k0), .int .i64 (y1), undef, undef, .bool false, .pointer (some ⟨(lget ls 0).n, 0, none⟩), .int .i64 (s0_0), undef, undef, .slice a0 n0 (n0 + k0), .int .i64 (y1), .int .i64 ((IntKind.i64.wrap (y1 - 1))), .pointer (some ⟨p0, q0 + ((IntKind.i64.wrap (y1 - 1))).toNat * 7, none⟩), .agg #[.int .i64 (((A0 ((IntKind.i64.wrap (y1 - 1))).toNat).1).fKind), .string ((A0 ((IntKind.i64.wrap (y1 - 1))).toNat).1).fName, .int .i64 (((A0 ((IntKind.i64.wrap (y1 - 1))).toNat).1).fSize), .bool (((A0 ((IntKind.i64.wrap (y1 - 1))).toNat).1).fSigned), .int .i64 (((A0 ((IntKind.i64.wrap (y1 - 1))).toNat).1).fTo), .int .i64 (((A0 ((IntKind.i64.wrap (y1 - 1))).toNat).1).fCount), .slice (X0 ((IntKind.i64.wrap (y1 - 1))).toNat).a (A0 ((IntKind.i64.wrap (y1 - 1))).toNat).2.1 ((A0 ((IntKind.i64.wrap (y1 - 1))).toNat).2.1 + (X0 ((IntKind.i64.wrap (y1 - 1))).toNat).c)], .pointer (some ⟨(lget ls 0).n, 0, none⟩), .int .i64 (((A0 ((IntKind.i64.wrap (y1 - 1))).toNat).1).fKind), .bool false, .bool false] (List.append (und 4) (List.append [.bool true, .bool true, .pointer (some ⟨(lget ls 0).n, 6, none⟩), .slice (X0 ((IntKind.i64.wrap (y1 - 1))).toNat).a (A0 ((IntKind.i64.wrap (y1 - 1))).toNat).2.1 ((A0 ((IntKind.i64.wrap (y1 - 1))).toNat).2.1 + (X0 ((IntKind.i64.wrap (y1 - 1))).toNat).c), .int .i64 (((A0 ((IntKind.i64.wrap (y1 - 1))).toNat).2.1 : Int)), .int .i64 (s0_1)] (und 32)))
def pre_btf_fits_v2_L0_0 (a0 : Option Addr) (p0 : Nat) (q0 : Nat) (n0 : Nat) (k0 : Nat) (X0 : Nat → RoX) (A0 : Nat → (Xs35 × (Nat × (Nat → Member)))) (y1 : Int) (s0_0 : Int) (s0_1 : Int) (ls : List L1) : List Obj := [.cells #[.int .i64 (((A0 ((IntKind.i64.wrap (y1 - 1))).toNat).1).fKind), .string ((A0 ((IntKind.i64.wrap (y1 - 1))).toNat).1).fName, .int .i64 (((A0 ((IntKind.i64.wrap (y1 - 1))).toNat).1).fSize), .bool (((A0 ((IntKind.i64.wrap (y1 - 1))).toNat).1).fSigned), .int .i64 (((A0 ((IntKind.i64.wrap (y1 - 1))).toNat).1).fTo), .int .i64 (((A0 ((IntKind.i64.wrap (y1 - 1))).toNat).1).fCount), .slice (X0 ((IntKind.i64.wrap (y1 - 1))).toNat).a (A0 ((IntKind.i64.wrap (y1 - 1))).toNat).2.1 ((A0 ((IntKind.i64.wrap (y1 - 1))).toNat).2.1 + (X0 ((IntKind.i64.wrap (y1 - 1))).toNat).c)] 35]
theorem sp0_btf_fits_v2_L0_0_ok (s0_0 : Int) (s0_1 : Int) (c0_0 : Int) (c0_1 : ByteArray) (c0_2 : Int) (c0_3 : Bool) (c0_4 : Int) (c0_5 : Int) (h : lpO (st_btf_fits_v2_L0 n0 A0 y1) (.c0 s0_0 s0_1) = some (.e0 c0_0 c0_1 c0_2 c0_3 c0_4 c0_5)) : SpcG Tryd.prog M B0 S ⟨fun ls => .code (.loop bd_btf_fits_v2_L0) (t0_btf_fits_v2_L0_0 a0 p0 q0 n0 k0 X0 A0 y1 s0_0 s0_1 ls), pre_btf_fits_v2_L0_0 a0 p0 q0 n0 k0 X0 A0 y1 s0_0 s0_1, 1, (.exit 1), fun ls => vf_btf_fits_v2_L0 a0 p0 q0 n0 k0 X0 A0 y1 (.e0 c0_0 c0_1 c0_2 c0_3 c0_4 c0_5) (ls.take 1 ++ ls.drop 1), fun ls => (Hf_btf_fits_v2_L0 a0 p0 q0 n0 k0 X0 A0 y1 (.e0 c0_0 c0_1 c0_2 c0_3 c0_4 c0_5) (ls.take 1 ++ ls.drop 1)).take 1 ++ List.replicate 0 unb, fun ls => (Hf_btf_fits_v2_L0 a0 p0 q0 n0 k0 X0 A0 y1 (.e0 c0_0 c0_1 c0_2 c0_3 c0_4 c0_5) (ls.take 1 ++ ls.drop 1)).drop 1⟩ :=
  spc_of_goesM hU 0 (k0 := 1) (go_btf_fits_v2_L0 hU a0 p0 q0 n0 k0 X0 A0 hR0 y1 _ _ h) (t0_btf_fits_v2_L0_0 a0 p0 q0 n0 k0 X0 A0 y1 s0_0 s0_1) (pre_btf_fits_v2_L0_0 a0 p0 q0 n0 k0 X0 A0 y1 s0_0 s0_1) (fun _ => rfl) (fun ls h => by match ls, h with | [l0], _ => exact ⟨by kernel_rfl, by kernel_rfl⟩) (fun ls h => by match ls, h with | [l0], _ => rfl) (by decide) (by decide) (fun ls => rfl)
theorem sp1_btf_fits_v2_L0_0_ok (s0_0 : Int) (s0_1 : Int) (c1_0 : Int) (c1_1 : ByteArray) (c1_2 : Int) (c1_3 : Bool) (c1_4 : Int) (c1_5 : Int) (h : lpO (st_btf_fits_v2_L0 n0 A0 y1) (.c0 s0_0 s0_1) = some (.e1 c1_0 c1_1 c1_2 c1_3 c1_4 c1_5)) : SpcG Tryd.prog M B0 S ⟨fun ls => .code (.loop bd_btf_fits_v2_L0) (t0_btf_fits_v2_L0_0 a0 p0 q0 n0 k0 X0 A0 y1 s0_0 s0_1 ls), pre_btf_fits_v2_L0_0 a0 p0 q0 n0 k0 X0 A0 y1 s0_0 s0_1, 1, .ret, fun ls => vf_btf_fits_v2_L0 a0 p0 q0 n0 k0 X0 A0 y1 (.e1 c1_0 c1_1 c1_2 c1_3 c1_4 c1_5) (ls.take 1 ++ ls.drop 1), fun ls => (Hf_btf_fits_v2_L0 a0 p0 q0 n0 k0 X0 A0 y1 (.e1 c1_0 c1_1 c1_2 c1_3 c1_4 c1_5) (ls.take 1 ++ ls.drop 1)).take 1 ++ List.replicate 0 unb, fun ls => (Hf_btf_fits_v2_L0 a0 p0 q0 n0 k0 X0 A0 y1 (.e1 c1_0 c1_1 c1_2 c1_3 c1_4 c1_5) (ls.take 1 ++ ls.drop 1)).drop 1⟩ :=
  spc_of_goesM hU 0 (k0 := 1) (go_btf_fits_v2_L0 hU a0 p0 q0 n0 k0 X0 A0 hR0 y1 _ _ h) (t0_btf_fits_v2_L0_0 a0 p0 q0 n0 k0 X0 A0 y1 s0_0 s0_1) (pre_btf_fits_v2_L0_0 a0 p0 q0 n0 k0 X0 A0 y1 s0_0 s0_1) (fun _ => rfl) (fun ls h => by match ls, h with | [l0], _ => exact ⟨by kernel_rfl, by kernel_rfl⟩) (fun ls h => by match ls, h with | [l0], _ => rfl) (by decide) (by decide) (fun ls => rfl)
noncomputable def m_btf_fits_v2 (n0 : Nat) (A0 : Nat → (Xs35 × (Nat × (Nat → Member)))) (y1 : Int) : Option (Bool) :=
  bif inR (IntKind.i64.wrap (y1 - 1)) n0 then
    (bif ((A0 ((IntKind.i64.wrap (y1 - 1))).toNat).1).fKind == 3 then
      ((m_btf_sizeOf_v2_F 300 n0 A0 y1).bind fun r0 =>
      some (decide (r0 ≤ 65536)))
    else (bif ((A0 ((IntKind.i64.wrap (y1 - 1))).toNat).1).fKind == 4 then
      ((lpO (st_btf_fits_v2_L0 n0 A0 y1) (.c0 0 0)).bind fun g0 => match g0 with
      | .e0 g0_0 g0_1 g0_2 g0_3 g0_4 g0_5 => (some true)
      | .e1 g0_0 g0_1 g0_2 g0_3 g0_4 g0_5 => (some false))
    else (some true)))
  else (none)
theorem ok_btf_fits_v2 (r : Bool) (e : m_btf_fits_v2 n0 A0 y1 = some r) : ConG Tryd.prog S 20 #[.slice a0 n0 (n0 + k0), .int .i64 (y1)] (.bool (r)) := by
  unfold m_btf_fits_v2 at e
  replace e := cond_eq_or e
  rcases e with ⟨hq0, e⟩ | ⟨hq0, e⟩
  · replace e := cond_eq_or e
    rcases e with ⟨hq1, e⟩ | ⟨hq1, e⟩
    · replace e := bindO_eq e
      obtain ⟨r0, e_r0, e⟩ := e
      try dsimp only at e
      injection e with e; subst e; exact fn_conG hU (P := Tryd.prog) Tryd.func20 (fun xs w => by kernel_rfl) _ _ [.o, .o, .o, .o, .q (ixRo_ok (kd := .i64) (T := 22) (x := (IntKind.i64.wrap (y1 - 1))) (sz := 7) rfl (fun w => by kernel_rfl) (RoS.row hR0) hq0), .l (accRo (RoS.row hR0) (rxS_len z_Xs35 X0 (fun i => (A0 i).2) (fun i => (A0 i).1)) (inR_nat hq0) 0 [.int .i64 (((A0 ((IntKind.i64.wrap (y1 - 1))).toNat).1).fKind), .string ((A0 ((IntKind.i64.wrap (y1 - 1))).toNat).1).fName, .int .i64 (((A0 ((IntKind.i64.wrap (y1 - 1))).toNat).1).fSize), .bool (((A0 ((IntKind.i64.wrap (y1 - 1))).toNat).1).fSigned), .int .i64 (((A0 ((IntKind.i64.wrap (y1 - 1))).toNat).1).fTo), .int .i64 (((A0 ((IntKind.i64.wrap (y1 - 1))).toNat).1).fCount), .slice (X0 ((IntKind.i64.wrap (y1 - 1))).toNat).a (A0 ((IntKind.i64.wrap (y1 - 1))).toNat).2.1 ((A0 ((IntKind.i64.wrap (y1 - 1))).toNat).2.1 + (X0 ((IntKind.i64.wrap (y1 - 1))).toNat).c)] rfl), .o, .a 0, .o, .a 0, .b (z_eqlT hq1), .o, .o, .o, .cg (ok_btf_sizeOf_v2_F 300 hU a0 p0 q0 n0 k0 X0 A0 hR0 y1 r0 e_r0), .o, .o] [] (fun b => by kernel_rfl)
    · replace e := cond_eq_or e
      rcases e with ⟨hq2, e⟩ | ⟨hq2, e⟩
      · replace e := bindO_eq e
        obtain ⟨g0, e_g0, e⟩ := e
        rcases g0 with ⟨g0_0, g0_1, g0_2, g0_3, g0_4, g0_5⟩ | ⟨g0_0, g0_1, g0_2, g0_3, g0_4, g0_5⟩
        · try dsimp only at e
          injection e with e; subst e; exact fn_conG hU (P := Tryd.prog) Tryd.func20 (fun xs w => by kernel_rfl) _ _ [.o, .o, .o, .o, .q (ixRo_ok (kd := .i64) (T := 22) (x := (IntKind.i64.wrap (y1 - 1))) (sz := 7) rfl (fun w => by kernel_rfl) (RoS.row hR0) hq0), .l (accRo (RoS.row hR0) (rxS_len z_Xs35 X0 (fun i => (A0 i).2) (fun i => (A0 i).1)) (inR_nat hq0) 0 [.int .i64 (((A0 ((IntKind.i64.wrap (y1 - 1))).toNat).1).fKind), .string ((A0 ((IntKind.i64.wrap (y1 - 1))).toNat).1).fName, .int .i64 (((A0 ((IntKind.i64.wrap (y1 - 1))).toNat).1).fSize), .bool (((A0 ((IntKind.i64.wrap (y1 - 1))).toNat).1).fSigned), .int .i64 (((A0 ((IntKind.i64.wrap (y1 - 1))).toNat).1).fTo), .int .i64 (((A0 ((IntKind.i64.wrap (y1 - 1))).toNat).1).fCount), .slice (X0 ((IntKind.i64.wrap (y1 - 1))).toNat).a (A0 ((IntKind.i64.wrap (y1 - 1))).toNat).2.1 ((A0 ((IntKind.i64.wrap (y1 - 1))).toNat).2.1 + (X0 ((IntKind.i64.wrap (y1 - 1))).toNat).c)] rfl), .o, .a 0, .o, .a 0, .b (z_eqlF hq1), .o, .b (z_eqlT hq2), .o, .o, .o, .a 0, .o, .o, .cp, .cx (sp0_btf_fits_v2_L0_0_ok hU a0 p0 q0 n0 k0 X0 A0 hR0 y1 0 0 g0_0 g0_1 g0_2 g0_3 g0_4 g0_5 e_g0) [0], .o] [] (fun b => by kernel_rfl)
        · try dsimp only at e
          injection e with e; subst e; exact fn_conG hU (P := Tryd.prog) Tryd.func20 (fun xs w => by kernel_rfl) _ _ [.o, .o, .o, .o, .q (ixRo_ok (kd := .i64) (T := 22) (x := (IntKind.i64.wrap (y1 - 1))) (sz := 7) rfl (fun w => by kernel_rfl) (RoS.row hR0) hq0), .l (accRo (RoS.row hR0) (rxS_len z_Xs35 X0 (fun i => (A0 i).2) (fun i => (A0 i).1)) (inR_nat hq0) 0 [.int .i64 (((A0 ((IntKind.i64.wrap (y1 - 1))).toNat).1).fKind), .string ((A0 ((IntKind.i64.wrap (y1 - 1))).toNat).1).fName, .int .i64 (((A0 ((IntKind.i64.wrap (y1 - 1))).toNat).1).fSize), .bool (((A0 ((IntKind.i64.wrap (y1 - 1))).toNat).1).fSigned), .int .i64 (((A0 ((IntKind.i64.wrap (y1 - 1))).toNat).1).fTo), .int .i64 (((A0 ((IntKind.i64.wrap (y1 - 1))).toNat).1).fCount), .slice (X0 ((IntKind.i64.wrap (y1 - 1))).toNat).a (A0 ((IntKind.i64.wrap (y1 - 1))).toNat).2.1 ((A0 ((IntKind.i64.wrap (y1 - 1))).toNat).2.1 + (X0 ((IntKind.i64.wrap (y1 - 1))).toNat).c)] rfl), .o, .a 0, .o, .a 0, .b (z_eqlF hq1), .o, .b (z_eqlT hq2), .o, .o, .o, .a 0, .o, .o, .cp, .cx (sp1_btf_fits_v2_L0_0_ok hU a0 p0 q0 n0 k0 X0 A0 hR0 y1 0 0 g0_0 g0_1 g0_2 g0_3 g0_4 g0_5 e_g0) [0]] [] (fun b => by kernel_rfl)
      · injection e with e; subst e; exact fn_conG hU (P := Tryd.prog) Tryd.func20 (fun xs w => by kernel_rfl) _ _ [.o, .o, .o, .o, .q (ixRo_ok (kd := .i64) (T := 22) (x := (IntKind.i64.wrap (y1 - 1))) (sz := 7) rfl (fun w => by kernel_rfl) (RoS.row hR0) hq0), .l (accRo (RoS.row hR0) (rxS_len z_Xs35 X0 (fun i => (A0 i).2) (fun i => (A0 i).1)) (inR_nat hq0) 0 [.int .i64 (((A0 ((IntKind.i64.wrap (y1 - 1))).toNat).1).fKind), .string ((A0 ((IntKind.i64.wrap (y1 - 1))).toNat).1).fName, .int .i64 (((A0 ((IntKind.i64.wrap (y1 - 1))).toNat).1).fSize), .bool (((A0 ((IntKind.i64.wrap (y1 - 1))).toNat).1).fSigned), .int .i64 (((A0 ((IntKind.i64.wrap (y1 - 1))).toNat).1).fTo), .int .i64 (((A0 ((IntKind.i64.wrap (y1 - 1))).toNat).1).fCount), .slice (X0 ((IntKind.i64.wrap (y1 - 1))).toNat).a (A0 ((IntKind.i64.wrap (y1 - 1))).toNat).2.1 ((A0 ((IntKind.i64.wrap (y1 - 1))).toNat).2.1 + (X0 ((IntKind.i64.wrap (y1 - 1))).toNat).c)] rfl), .o, .a 0, .o, .a 0, .b (z_eqlF hq1), .o, .b (z_eqlF hq2), .o, .o] [] (fun b => by kernel_rfl)
  · exact none_some e
inductive Sh_btf_Check_v1_L0 where
  | c0 (s0_0 : Nat) (s0_1 : Nat → Me45) (s0_2 : Int)
inductive Ex_btf_Check_v1_L0 where
  | e0 (c0_0 : Nat) (c0_1 : Nat → Me45)
  | e1 (c1_0 : Nat) (c1_1 : Nat → Me45) (c1_2 : Int) (c1_3 : Int)
noncomputable def st_btf_Check_v1_L0 (n0 : Nat) (A0 : Nat → (Xs35 × (Nat × (Nat → Member)))) : Sh_btf_Check_v1_L0 → Option (Sh_btf_Check_v1_L0 ⊕ Ex_btf_Check_v1_L0)
  | .c0 s0_0 s0_1 s0_2 =>
    bif decide (s0_2 < (n0 : Int)) then
      (bif inR s0_2 n0 then
        ((m_btf_checkType_v2 ((A0 (s0_2).toNat).1) (A0 (s0_2).toNat).2.1 (A0 (s0_2).toNat).2.2 (n0 : Int) s0_0 s0_1).bind fun gb0 => match gb0 with
        | .e0 gb0_0 gb0_1 gb0_2 =>
        bif gb0_2 == 0 then
          (some (.inl (.c0 gb0_0 gb0_1 (IntKind.i64.wrap (s0_2 + 1)))))
        else (some (.inr (.e1 gb0_0 gb0_1 (IntKind.i64.wrap (s0_2 + 1)) gb0_2))))
      else (none))
    else (some (.inr (.e0 s0_0 s0_1)))
noncomputable def bd_btf_Check_v1_L0 : Code := codeOf Tryd.f12 [1, 1, 1, 0, 1, 0, 0]
def fl_btf_Check_v1_L0 (a0 : Option Addr) (p0 : Nat) (q0 : Nat) (n0 : Nat) (k0 : Nat) (X0 : Nat → RoX) (A0 : Nat → (Xs35 × (Nat × (Nat → Member)))) : Sh_btf_Check_v1_L0 → List L1 → List Value
  | .c0 s0_0 s0_1 s0_2, ls => [.slice a0 n0 (n0 + k0), .int .i64 (0), .int .i64 (0), .map (some (lget ls 0).n), .slice a0 n0 (n0 + k0), .int .i64 ((n0 : Int)), .int .i64 (s0_2)]
def mf_btf_Check_v1_L0 : Sh_btf_Check_v1_L0 → List (Nat × Nat)
  | .c0 _ _ _ => [(1, 1), (3, 10), (3, 46)]
noncomputable def fr_btf_Check_v1_L0 (a0 : Option Addr) (p0 : Nat) (q0 : Nat) (n0 : Nat) (k0 : Nat) (X0 : Nat → RoX) (A0 : Nat → (Xs35 × (Nat × (Nat → Member)))) (s : Sh_btf_Check_v1_L0) : List L1 → List Value := mrgF (mf_btf_Check_v1_L0 s) (fl_btf_Check_v1_L0 a0 p0 q0 n0 k0 X0 A0 s) 1
def Hs_btf_Check_v1_L0 (a0 : Option Addr) (p0 : Nat) (q0 : Nat) (n0 : Nat) (k0 : Nat) (X0 : Nat → RoX) (A0 : Nat → (Xs35 × (Nat × (Nat → Member)))) : Sh_btf_Check_v1_L0 → List L1 → List Obj
  | .c0 s0_0 s0_1 s0_2, ls => [mapG kv_Me45 vv_Me45 s0_0 s0_1, unb]
def vl_btf_Check_v1_L0 (a0 : Option Addr) (p0 : Nat) (q0 : Nat) (n0 : Nat) (k0 : Nat) (X0 : Nat → RoX) (A0 : Nat → (Xs35 × (Nat × (Nat → Member)))) : Ex_btf_Check_v1_L0 → List L1 → List Value
  | .e0 c0_0 c0_1, ls => [.slice a0 n0 (n0 + k0), .int .i64 (0), .int .i64 (0), .map (some (lget ls 0).n), .slice a0 n0 (n0 + k0), .int .i64 ((n0 : Int))]
  | .e1 c1_0 c1_1 c1_2 c1_3, ls => [.slice a0 n0 (n0 + k0), .int .i64 (c1_2), .int .i64 (c1_3), .map (some (lget ls 0).n), .slice a0 n0 (n0 + k0), .int .i64 ((n0 : Int))]
def mk_btf_Check_v1_L0 : Ex_btf_Check_v1_L0 → List (Nat × Nat)
  | .e0 _ _ => [(1, 1), (3, 10), (2, 47)]
  | .e1 _ _ _ _ => [(1, 1), (3, 10), (2, 47)]
noncomputable def vf_btf_Check_v1_L0 (a0 : Option Addr) (p0 : Nat) (q0 : Nat) (n0 : Nat) (k0 : Nat) (X0 : Nat → RoX) (A0 : Nat → (Xs35 × (Nat × (Nat → Member)))) (r : Ex_btf_Check_v1_L0) : List L1 → List Value := mrgF (mk_btf_Check_v1_L0 r) (vl_btf_Check_v1_L0 a0 p0 q0 n0 k0 X0 A0 r) 1
def Hf_btf_Check_v1_L0 (a0 : Option Addr) (p0 : Nat) (q0 : Nat) (n0 : Nat) (k0 : Nat) (X0 : Nat → RoX) (A0 : Nat → (Xs35 × (Nat × (Nat → Member)))) : Ex_btf_Check_v1_L0 → List L1 → List Obj
  | .e0 c0_0 c0_1, ls => [mapG kv_Me45 vv_Me45 c0_0 c0_1, unb]
  | .e1 c1_0 c1_1 c1_2 c1_3, ls => [mapG kv_Me45 vv_Me45 c1_0 c1_1, unb]
def ex_btf_Check_v1_L0 : Ex_btf_Check_v1_L0 → Ex
  | .e0 _ _ => (.exit 0)
  | .e1 _ _ _ _ => .ret
end
section
variable {M : Nat → Prop} {B0 : Nat} {S : World → Prop} (hU : Up M B0 S) (a0 : Option Addr) (p0 : Nat) (q0 : Nat) (n0 : Nat) (k0 : Nat) (X0 : Nat → RoX) (A0 : Nat → (Xs35 × (Nat × (Nat → Member)))) (hR0 : RoS S h_Xs35 t_Xs35 7 c_Member 3 a0 p0 q0 n0 X0 (fun i => (A0 i).2) (fun i => (A0 i).1))
include hU a0 p0 q0 n0 k0 X0 A0 hR0
theorem go_btf_Check_v1_L0 (s : Sh_btf_Check_v1_L0) (r : Ex_btf_Check_v1_L0) (h : lpO (st_btf_Check_v1_L0 n0 A0) s = some r) : GoesG Tryd.prog M B0 S (.loop bd_btf_Check_v1_L0) 2 (fr_btf_Check_v1_L0 a0 p0 q0 n0 k0 X0 A0 s) (Hs_btf_Check_v1_L0 a0 p0 q0 n0 k0 X0 A0 s) (ex_btf_Check_v1_L0 r) 1 (vf_btf_Check_v1_L0 a0 p0 q0 n0 k0 X0 A0 r) (Hf_btf_Check_v1_L0 a0 p0 q0 n0 k0 X0 A0 r) 2 :=
  goes_lpO (fun s q e => by
    cases s with
    | c0 s0_0 s0_1 s0_2 =>
      unfold st_btf_Check_v1_L0 at e
      dsimp only at e
      replace e := cond_eq_or e
      rcases e with ⟨hq0, e⟩ | ⟨hq0, e⟩
      · replace e := cond_eq_or e
        rcases e with ⟨hq1, e⟩ | ⟨hq1, e⟩
        · replace e := bindO_eq e
          obtain ⟨gb0, e_gb0, e⟩ := e
          obtain ⟨gb0_0, gb0_1, gb0_2⟩ := gb0
          try dsimp only at e
          replace e := cond_eq_or e
          rcases e with ⟨hq2, e⟩ | ⟨hq2, e⟩
          · cases e; exact goes_runM hU [.b (z_lssT hq0), .o, .q (ixRo_ok (kd := .i64) (T := 22) (x := s0_2) (sz := 7) rfl (fun w => by kernel_rfl) (RoS.row hR0) hq1), .l (accRo (RoS.row hR0) (rxS_len z_Xs35 X0 (fun i => (A0 i).2) (fun i => (A0 i).1)) (inR_nat hq1) 0 [.int .i64 (((A0 (s0_2).toNat).1).fKind), .string ((A0 (s0_2).toNat).1).fName, .int .i64 (((A0 (s0_2).toNat).1).fSize), .bool (((A0 (s0_2).toNat).1).fSigned), .int .i64 (((A0 (s0_2).toNat).1).fTo), .int .i64 (((A0 (s0_2).toNat).1).fCount), .slice (X0 (s0_2).toNat).a (A0 (s0_2).toNat).2.1 ((A0 (s0_2).toNat).2.1 + (X0 (s0_2).toNat).c)] rfl), .o, .o, .a 2, .a 2, .o, .o, .o, .xg (ok0_btf_checkType_v2 hU ((A0 (s0_2).toNat).1) (X0 (s0_2).toNat).a (X0 (s0_2).toNat).p (X0 (s0_2).toNat).q (A0 (s0_2).toNat).2.1 (X0 (s0_2).toNat).c (A0 (s0_2).toNat).2.2 (RoS.els hR0 (s0_2).toNat (inR_nat hq1)) (n0 : Int) s0_0 s0_1 gb0_0 gb0_1 gb0_2 e_gb0) [0], .o, .o, .b (z_neqT hq2), .o, .o] [0] (fun b => rfl) (by decide) rfl rfl (fun b => by kernel_rfl)
          · cases e; exact ⟨ne_ret, goes_runM hU [.b (z_lssT hq0), .o, .q (ixRo_ok (kd := .i64) (T := 22) (x := s0_2) (sz := 7) rfl (fun w => by kernel_rfl) (RoS.row hR0) hq1), .l (accRo (RoS.row hR0) (rxS_len z_Xs35 X0 (fun i => (A0 i).2) (fun i => (A0 i).1)) (inR_nat hq1) 0 [.int .i64 (((A0 (s0_2).toNat).1).fKind), .string ((A0 (s0_2).toNat).1).fName, .int .i64 (((A0 (s0_2).toNat).1).fSize), .bool (((A0 (s0_2).toNat).1).fSigned), .int .i64 (((A0 (s0_2).toNat).1).fTo), .int .i64 (((A0 (s0_2).toNat).1).fCount), .slice (X0 (s0_2).toNat).a (A0 (s0_2).toNat).2.1 ((A0 (s0_2).toNat).2.1 + (X0 (s0_2).toNat).c)] rfl), .o, .o, .a 2, .a 2, .o, .o, .o, .xg (ok0_btf_checkType_v2 hU ((A0 (s0_2).toNat).1) (X0 (s0_2).toNat).a (X0 (s0_2).toNat).p (X0 (s0_2).toNat).q (A0 (s0_2).toNat).2.1 (X0 (s0_2).toNat).c (A0 (s0_2).toNat).2.2 (RoS.els hR0 (s0_2).toNat (inR_nat hq1)) (n0 : Int) s0_0 s0_1 gb0_0 gb0_1 gb0_2 e_gb0) [0], .o, .o, .b (z_neqF hq2), .o, .o, .o, .o, .o] [0] (fun b => rfl) (by decide) rfl rfl (fun b => by kernel_rfl)⟩
        · exact none_some e
      · cases e; exact ⟨ne_exit 0, goes_runM hU [.b (z_lssF hq0)] [0] (fun b => rfl) (by decide) rfl rfl (fun b => by kernel_rfl)⟩) s r h
noncomputable def t0_btf_Check_v1_L0_0 (a0 : Option Addr) (p0 : Nat) (q0 : Nat) (n0 : Nat) (k0 : Nat) (X0 : Nat → RoX) (A0 : Nat → (Xs35 × (Nat × (Nat → Member)))) (s0_0 : Nat) (s0_1 : Nat → Me45) (s0_2 : Int) (ls : List L1) : List Value := List.append [.slice a0 n0 (n0 + k0), undef, .int .i64 (0), .int .i64 (0), .map (some (lget ls 0).n)] (List.append (und 7) (List.append [.slice a0 n0 (n0 + k0), .bool false, .map (some (lget ls 0).n), .slice a0 n0 (n0 + k0), .int .i64 ((n0 : Int)), .int .i64 (s0_2)] (und 46)))
def pre_btf_Check_v1_L0_0 (a0 : Option Addr) (p0 : Nat) (q0 : Nat) (n0 : Nat) (k0 : Nat) (X0 : Nat → RoX) (A0 : Nat → (Xs35 × (Nat × (Nat → Member)))) (s0_0 : Nat) (s0_1 : Nat → Me45) (s0_2 : Int) (ls : List L1) : List Obj := [mapG kv_Me45 vv_Me45 s0_0 s0_1]
theorem sp0_btf_Check_v1_L0_0_ok (s0_0 : Nat) (s0_1 : Nat → Me45) (s0_2 : Int) (c0_0 : Nat) (c0_1 : Nat → Me45) (h : lpO (st_btf_Check_v1_L0 n0 A0) (.c0 s0_0 s0_1 s0_2) = some (.e0 c0_0 c0_1)) : SpcG Tryd.prog M B0 S ⟨fun ls => .code (.loop bd_btf_Check_v1_L0) (t0_btf_Check_v1_L0_0 a0 p0 q0 n0 k0 X0 A0 s0_0 s0_1 s0_2 ls), pre_btf_Check_v1_L0_0 a0 p0 q0 n0 k0 X0 A0 s0_0 s0_1 s0_2, 1, (.exit 0), fun ls => vf_btf_Check_v1_L0 a0 p0 q0 n0 k0 X0 A0 (.e0 c0_0 c0_1) (ls.take 1 ++ ls.drop 1), fun ls => (Hf_btf_Check_v1_L0 a0 p0 q0 n0 k0 X0 A0 (.e0 c0_0 c0_1) (ls.take 1 ++ ls.drop 1)).take 1 ++ List.replicate 0 unb, fun ls => (Hf_btf_Check_v1_L0 a0 p0 q0 n0 k0 X0 A0 (.e0 c0_0 c0_1) (ls.take 1 ++ ls.drop 1)).drop 1⟩ :=
  spc_of_goesM hU 0 (k0 := 1) (go_btf_Check_v1_L0 hU a0 p0 q0 n0 k0 X0 A0 hR0 _ _ h) (t0_btf_Check_v1_L0_0 a0 p0 q0 n0 k0 X0 A0 s0_0 s0_1 s0_2) (pre_btf_Check_v1_L0_0 a0 p0 q0 n0 k0 X0 A0 s0_0 s0_1 s0_2) (fun _ => rfl) (fun ls h => by match ls, h with | [l0], _ => exact ⟨by kernel_rfl, by kernel_rfl⟩) (fun ls h => by match ls, h with | [l0], _ => rfl) (by decide) (by decide) (fun ls => rfl)
theorem sp1_btf_Check_v1_L0_0_ok (s0_0 : Nat) (s0_1 : Nat → Me45) (s0_2 : Int) (c1_0 : Nat) (c1_1 : Nat → Me45) (c1_2 : Int) (c1_3 : Int) (h : lpO (st_btf_Check_v1_L0 n0 A0) (.c0 s0_0 s0_1 s0_2) = some (.e1 c1_0 c1_1 c1_2 c1_3)) : SpcG Tryd.prog M B0 S ⟨fun ls => .code (.loop bd_btf_Check_v1_L0) (t0_btf_Check_v1_L0_0 a0 p0 q0 n0 k0 X0 A0 s0_0 s0_1 s0_2 ls), pre_btf_Check_v1_L0_0 a0 p0 q0 n0 k0 X0 A0 s0_0 s0_1 s0_2, 1, .ret, fun ls => vf_btf_Check_v1_L0 a0 p0 q0 n0 k0 X0 A0 (.e1 c1_0 c1_1 c1_2 c1_3) (ls.take 1 ++ ls.drop 1), fun ls => (Hf_btf_Check_v1_L0 a0 p0 q0 n0 k0 X0 A0 (.e1 c1_0 c1_1 c1_2 c1_3) (ls.take 1 ++ ls.drop 1)).take 1 ++ List.replicate 0 unb, fun ls => (Hf_btf_Check_v1_L0 a0 p0 q0 n0 k0 X0 A0 (.e1 c1_0 c1_1 c1_2 c1_3) (ls.take 1 ++ ls.drop 1)).drop 1⟩ :=
  spc_of_goesM hU 0 (k0 := 1) (go_btf_Check_v1_L0 hU a0 p0 q0 n0 k0 X0 A0 hR0 _ _ h) (t0_btf_Check_v1_L0_0 a0 p0 q0 n0 k0 X0 A0 s0_0 s0_1 s0_2) (pre_btf_Check_v1_L0_0 a0 p0 q0 n0 k0 X0 A0 s0_0 s0_1 s0_2) (fun _ => rfl) (fun ls h => by match ls, h with | [l0], _ => exact ⟨by kernel_rfl, by kernel_rfl⟩) (fun ls h => by match ls, h with | [l0], _ => rfl) (by decide) (by decide) (fun ls => rfl)
inductive Sh_btf_Check_v1_L1 where
  | c0 (s0_0 : Int)
inductive Ex_btf_Check_v1_L1 where
  | e0 
  | e1 (c1_0 : Int)
noncomputable def st_btf_Check_v1_L1 (n0 : Nat) (A0 : Nat → (Xs35 × (Nat × (Nat → Member)))) : Sh_btf_Check_v1_L1 → Option (Sh_btf_Check_v1_L1 ⊕ Ex_btf_Check_v1_L1)
  | .c0 s0_0 =>
    bif decide (s0_0 < (n0 : Int)) then
      (bif inR s0_0 n0 then
        ((m_btf_holdsFunction_v2 n0 A0 ((A0 (s0_0).toNat).1) (A0 (s0_0).toNat).2.1 (A0 (s0_0).toNat).2.2).bind fun rb0 =>
        bif rb0 then
          (some (.inr (.e1 (IntKind.i64.wrap (s0_0 + 1)))))
        else (some (.inl (.c0 (IntKind.i64.wrap (s0_0 + 1))))))
      else (none))
    else (some (.inr (.e0 )))
noncomputable def bd_btf_Check_v1_L1 : Code := codeOf Tryd.f12 [1, 1, 1, 1, 1, 0, 1, 0, 0]
def fl_btf_Check_v1_L1 (a0 : Option Addr) (p0 : Nat) (q0 : Nat) (n0 : Nat) (k0 : Nat) (X0 : Nat → RoX) (A0 : Nat → (Xs35 × (Nat × (Nat → Member)))) (g1_0 : Nat) (g1_1 : Nat → Me45) (r2 : Int) : Sh_btf_Check_v1_L1 → List L1 → List Value
  | .c0 s0_0, ls => [.slice a0 n0 (n0 + k0), .int .i64 (0), .int .i64 (0), .slice a0 n0 (n0 + k0), .int .i64 ((n0 : Int)), .int .i64 (s0_0)]
def mf_btf_Check_v1_L1 : Sh_btf_Check_v1_L1 → List (Nat × Nat)
  | .c0 _ => [(1, 1), (2, 34), (3, 23)]
noncomputable def fr_btf_Check_v1_L1 (a0 : Option Addr) (p0 : Nat) (q0 : Nat) (n0 : Nat) (k0 : Nat) (X0 : Nat → RoX) (A0 : Nat → (Xs35 × (Nat × (Nat → Member)))) (g1_0 : Nat) (g1_1 : Nat → Me45) (r2 : Int) (s : Sh_btf_Check_v1_L1) : List L1 → List Value := mrgF (mf_btf_Check_v1_L1 s) (fl_btf_Check_v1_L1 a0 p0 q0 n0 k0 X0 A0 g1_0 g1_1 r2 s) 2
def Hs_btf_Check_v1_L1 (a0 : Option Addr) (p0 : Nat) (q0 : Nat) (n0 : Nat) (k0 : Nat) (X0 : Nat → RoX) (A0 : Nat → (Xs35 × (Nat × (Nat → Member)))) (g1_0 : Nat) (g1_1 : Nat → Me45) (r2 : Int) : Sh_btf_Check_v1_L1 → List L1 → List Obj
  | .c0 s0_0, ls => [mapG kv_Me45 vv_Me45 g1_0 g1_1, unb, unb]
def vl_btf_Check_v1_L1 (a0 : Option Addr) (p0 : Nat) (q0 : Nat) (n0 : Nat) (k0 : Nat) (X0 : Nat → RoX) (A0 : Nat → (Xs35 × (Nat × (Nat → Member)))) (g1_0 : Nat) (g1_1 : Nat → Me45) (r2 : Int) : Ex_btf_Check_v1_L1 → List L1 → List Value
  | .e0 , ls => [.slice a0 n0 (n0 + k0), .int .i64 (0), .int .i64 (0), .slice a0 n0 (n0 + k0), .int .i64 ((n0 : Int))]
  | .e1 c1_0, ls => [.slice a0 n0 (n0 + k0), .int .i64 (c1_0), .int .i64 (41), .slice a0 n0 (n0 + k0), .int .i64 ((n0 : Int))]
def mk_btf_Check_v1_L1 : Ex_btf_Check_v1_L1 → List (Nat × Nat)
  | .e0  => [(1, 1), (2, 34), (2, 24)]
  | .e1 _ => [(1, 1), (2, 34), (2, 24)]
noncomputable def vf_btf_Check_v1_L1 (a0 : Option Addr) (p0 : Nat) (q0 : Nat) (n0 : Nat) (k0 : Nat) (X0 : Nat → RoX) (A0 : Nat → (Xs35 × (Nat × (Nat → Member)))) (g1_0 : Nat) (g1_1 : Nat → Me45) (r2 : Int) (r : Ex_btf_Check_v1_L1) : List L1 → List Value := mrgF (mk_btf_Check_v1_L1 r) (vl_btf_Check_v1_L1 a0 p0 q0 n0 k0 X0 A0 g1_0 g1_1 r2 r) 2
def Hf_btf_Check_v1_L1 (a0 : Option Addr) (p0 : Nat) (q0 : Nat) (n0 : Nat) (k0 : Nat) (X0 : Nat → RoX) (A0 : Nat → (Xs35 × (Nat × (Nat → Member)))) (g1_0 : Nat) (g1_1 : Nat → Me45) (r2 : Int) : Ex_btf_Check_v1_L1 → List L1 → List Obj
  | .e0 , ls => [mapG kv_Me45 vv_Me45 g1_0 g1_1, unb, unb]
  | .e1 c1_0, ls => [mapG kv_Me45 vv_Me45 g1_0 g1_1, unb, unb]
def ex_btf_Check_v1_L1 : Ex_btf_Check_v1_L1 → Ex
  | .e0  => (.exit 2)
  | .e1 _ => .ret
theorem go_btf_Check_v1_L1 (g1_0 : Nat) (g1_1 : Nat → Me45) (r2 : Int) (s : Sh_btf_Check_v1_L1) (r : Ex_btf_Check_v1_L1) (h : lpO (st_btf_Check_v1_L1 n0 A0) s = some r) : GoesG Tryd.prog M B0 S (.loop bd_btf_Check_v1_L1) 3 (fr_btf_Check_v1_L1 a0 p0 q0 n0 k0 X0 A0 g1_0 g1_1 r2 s) (Hs_btf_Check_v1_L1 a0 p0 q0 n0 k0 X0 A0 g1_0 g1_1 r2 s) (ex_btf_Check_v1_L1 r) 2 (vf_btf_Check_v1_L1 a0 p0 q0 n0 k0 X0 A0 g1_0 g1_1 r2 r) (Hf_btf_Check_v1_L1 a0 p0 q0 n0 k0 X0 A0 g1_0 g1_1 r2 r) 3 :=
  goes_lpO (fun s q e => by
    cases s with
    | c0 s0_0 =>
      unfold st_btf_Check_v1_L1 at e
      dsimp only at e
      replace e := cond_eq_or e
      rcases e with ⟨hq0, e⟩ | ⟨hq0, e⟩
      · replace e := cond_eq_or e
        rcases e with ⟨hq1, e⟩ | ⟨hq1, e⟩
        · replace e := bindO_eq e
          obtain ⟨rb0, e_rb0, e⟩ := e
          try dsimp only at e
          replace e := cond_eq_or e
          rcases e with ⟨hq2, e⟩ | ⟨hq2, e⟩
          · subst hq2
            cases e; exact ⟨ne_ret, goes_runM hU [.b (z_lssT hq0), .o, .q (ixRo_ok (kd := .i64) (T := 22) (x := s0_0) (sz := 7) rfl (fun w => by kernel_rfl) (RoS.row hR0) hq1), .l (accRo (RoS.row hR0) (rxS_len z_Xs35 X0 (fun i => (A0 i).2) (fun i => (A0 i).1)) (inR_nat hq1) 0 [.int .i64 (((A0 (s0_0).toNat).1).fKind), .string ((A0 (s0_0).toNat).1).fName, .int .i64 (((A0 (s0_0).toNat).1).fSize), .bool (((A0 (s0_0).toNat).1).fSigned), .int .i64 (((A0 (s0_0).toNat).1).fTo), .int .i64 (((A0 (s0_0).toNat).1).fCount), .slice (X0 (s0_0).toNat).a (A0 (s0_0).toNat).2.1 ((A0 (s0_0).toNat).2.1 + (X0 (s0_0).toNat).c)] rfl), .o, .o, .a 3, .o, .a 3, .cg (ok_btf_holdsFunction_v2 hU a0 p0 q0 n0 k0 X0 A0 hR0 ((A0 (s0_0).toNat).1) (X0 (s0_0).toNat).a (X0 (s0_0).toNat).p (X0 (s0_0).toNat).q (A0 (s0_0).toNat).2.1 (X0 (s0_0).toNat).c (A0 (s0_0).toNat).2.2 (RoS.els hR0 (s0_0).toNat (inR_nat hq1)) true e_rb0), .o, .o, .o, .o] [0, 1] (fun b => rfl) (by decide) rfl rfl (fun b => by kernel_rfl)⟩
          · subst hq2
            cases e; exact goes_runM hU [.b (z_lssT hq0), .o, .q (ixRo_ok (kd := .i64) (T := 22) (x := s0_0) (sz := 7) rfl (fun w => by kernel_rfl) (RoS.row hR0) hq1), .l (accRo (RoS.row hR0) (rxS_len z_Xs35 X0 (fun i => (A0 i).2) (fun i => (A0 i).1)) (inR_nat hq1) 0 [.int .i64 (((A0 (s0_0).toNat).1).fKind), .string ((A0 (s0_0).toNat).1).fName, .int .i64 (((A0 (s0_0).toNat).1).fSize), .bool (((A0 (s0_0).toNat).1).fSigned), .int .i64 (((A0 (s0_0).toNat).1).fTo), .int .i64 (((A0 (s0_0).toNat).1).fCount), .slice (X0 (s0_0).toNat).a (A0 (s0_0).toNat).2.1 ((A0 (s0_0).toNat).2.1 + (X0 (s0_0).toNat).c)] rfl), .o, .o, .a 3, .o, .a 3, .cg (ok_btf_holdsFunction_v2 hU a0 p0 q0 n0 k0 X0 A0 hR0 ((A0 (s0_0).toNat).1) (X0 (s0_0).toNat).a (X0 (s0_0).toNat).p (X0 (s0_0).toNat).q (A0 (s0_0).toNat).2.1 (X0 (s0_0).toNat).c (A0 (s0_0).toNat).2.2 (RoS.els hR0 (s0_0).toNat (inR_nat hq1)) false e_rb0), .o, .o] [0, 1] (fun b => rfl) (by decide) rfl rfl (fun b => by kernel_rfl)
        · exact none_some e
      · cases e; exact ⟨ne_exit 2, goes_runM hU [.b (z_lssF hq0)] [0, 1] (fun b => rfl) (by decide) rfl rfl (fun b => by kernel_rfl)⟩) s r h
noncomputable def t0_btf_Check_v1_L1_0 (a0 : Option Addr) (p0 : Nat) (q0 : Nat) (n0 : Nat) (k0 : Nat) (X0 : Nat → RoX) (A0 : Nat → (Xs35 × (Nat × (Nat → Member)))) (g1_0 : Nat) (g1_1 : Nat → Me45) (r2 : Int) (s0_0 : Int) (ls : List L1) : List Value := List.append [.slice a0 n0 (n0 + k0), ((lget ls 1).u 1), .int .i64 (0), .int .i64 (0), .map (some (lget ls 0).n), ((lget ls 1).u 5), ((lget ls 1).u 6), ((lget ls 1).u 7), .int .i64 (r2)] (List.append (jks (lget ls 1).u 9 6) (List.append [.slice a0 n0 (n0 + k0), .int .i64 ((n0 : Int))] (List.append (jks (lget ls 1).u 17 16) (List.append [.slice a0 n0 (n0 + k0), .int .i64 (r2), .int .i64 (r2), .bool false, ((lget ls 1).u 37), .slice a0 n0 (n0 + k0), .int .i64 ((n0 : Int)), .int .i64 (s0_0)] (jks (lget ls 1).u 41 23)))))
def pre_btf_Check_v1_L1_0 (a0 : Option Addr) (p0 : Nat) (q0 : Nat) (n0 : Nat) (k0 : Nat) (X0 : Nat → RoX) (A0 : Nat → (Xs35 × (Nat × (Nat → Member)))) (g1_0 : Nat) (g1_1 : Nat → Me45) (r2 : Int) (s0_0 : Int) (ls : List L1) : List Obj := [mapG kv_Me45 vv_Me45 g1_0 g1_1, unb]
theorem sp0_btf_Check_v1_L1_0_ok (g1_0 : Nat) (g1_1 : Nat → Me45) (r2 : Int) (s0_0 : Int) (h : lpO (st_btf_Check_v1_L1 n0 A0) (.c0 s0_0) = some (.e0 )) : SpcG Tryd.prog M B0 S ⟨fun ls => .code (.loop bd_btf_Check_v1_L1) (t0_btf_Check_v1_L1_0 a0 p0 q0 n0 k0 X0 A0 g1_0 g1_1 r2 s0_0 ls), pre_btf_Check_v1_L1_0 a0 p0 q0 n0 k0 X0 A0 g1_0 g1_1 r2 s0_0, 1, (.exit 2), fun ls => vf_btf_Check_v1_L1 a0 p0 q0 n0 k0 X0 A0 g1_0 g1_1 r2 (.e0 ) (ls.take 2 ++ ls.drop 2), fun ls => (Hf_btf_Check_v1_L1 a0 p0 q0 n0 k0 X0 A0 g1_0 g1_1 r2 (.e0 ) (ls.take 2 ++ ls.drop 2)).take 2 ++ List.replicate 0 unb, fun ls => (Hf_btf_Check_v1_L1 a0 p0 q0 n0 k0 X0 A0 g1_0 g1_1 r2 (.e0 ) (ls.take 2 ++ ls.drop 2)).drop 2⟩ :=
  spc_of_goesM hU 0 (k0 := 2) (go_btf_Check_v1_L1 hU a0 p0 q0 n0 k0 X0 A0 hR0 g1_0 g1_1 r2 _ _ h) (t0_btf_Check_v1_L1_0 a0 p0 q0 n0 k0 X0 A0 g1_0 g1_1 r2 s0_0) (pre_btf_Check_v1_L1_0 a0 p0 q0 n0 k0 X0 A0 g1_0 g1_1 r2 s0_0) (fun _ => rfl) (fun ls h => by match ls, h with | [l0, l1], _ => exact ⟨by kernel_rfl, by kernel_rfl⟩) (fun ls h => by match ls, h with | [l0, l1], _ => rfl) (by decide) (by decide) (fun ls => rfl)
theorem sp1_btf_Check_v1_L1_0_ok (g1_0 : Nat) (g1_1 : Nat → Me45) (r2 : Int) (s0_0 : Int) (c1_0 : Int) (h : lpO (st_btf_Check_v1_L1 n0 A0) (.c0 s0_0) = some (.e1 c1_0)) : SpcG Tryd.prog M B0 S ⟨fun ls => .code (.loop bd_btf_Check_v1_L1) (t0_btf_Check_v1_L1_0 a0 p0 q0 n0 k0 X0 A0 g1_0 g1_1 r2 s0_0 ls), pre_btf_Check_v1_L1_0 a0 p0 q0 n0 k0 X0 A0 g1_0 g1_1 r2 s0_0, 1, .ret, fun ls => vf_btf_Check_v1_L1 a0 p0 q0 n0 k0 X0 A0 g1_0 g1_1 r2 (.e1 c1_0) (ls.take 2 ++ ls.drop 2), fun ls => (Hf_btf_Check_v1_L1 a0 p0 q0 n0 k0 X0 A0 g1_0 g1_1 r2 (.e1 c1_0) (ls.take 2 ++ ls.drop 2)).take 2 ++ List.replicate 0 unb, fun ls => (Hf_btf_Check_v1_L1 a0 p0 q0 n0 k0 X0 A0 g1_0 g1_1 r2 (.e1 c1_0) (ls.take 2 ++ ls.drop 2)).drop 2⟩ :=
  spc_of_goesM hU 0 (k0 := 2) (go_btf_Check_v1_L1 hU a0 p0 q0 n0 k0 X0 A0 hR0 g1_0 g1_1 r2 _ _ h) (t0_btf_Check_v1_L1_0 a0 p0 q0 n0 k0 X0 A0 g1_0 g1_1 r2 s0_0) (pre_btf_Check_v1_L1_0 a0 p0 q0 n0 k0 X0 A0 g1_0 g1_1 r2 s0_0) (fun _ => rfl) (fun ls h => by match ls, h with | [l0, l1], _ => exact ⟨by kernel_rfl, by kernel_rfl⟩) (fun ls h => by match ls, h with | [l0, l1], _ => rfl) (by decide) (by decide) (fun ls => rfl)
inductive Sh_btf_Check_v1_L2 where
  | c0 (s0_0 : Int)
inductive Ex_btf_Check_v1_L2 where
  | e0 
  | e1 (c1_0 : Int)
noncomputable def st_btf_Check_v1_L2 (n0 : Nat) (A0 : Nat → (Xs35 × (Nat × (Nat → Member)))) : Sh_btf_Check_v1_L2 → Option (Sh_btf_Check_v1_L2 ⊕ Ex_btf_Check_v1_L2)
  | .c0 s0_0 =>
    bif decide (s0_0 < (n0 : Int)) then
      ((m_btf_fits_v2 n0 A0 (IntKind.i64.wrap (s0_0 + 1))).bind fun rb0 =>
      bif rb0 then
        (some (.inl (.c0 (IntKind.i64.wrap (s0_0 + 1)))))
      else (some (.inr (.e1 (IntKind.i64.wrap (s0_0 + 1))))))
    else (some (.inr (.e0 )))
noncomputable def bd_btf_Check_v1_L2 : Code := codeOf Tryd.f12 [1, 1, 1, 1, 1, 1, 0, 1, 0, 0]
def fl_btf_Check_v1_L2 (a0 : Option Addr) (p0 : Nat) (q0 : Nat) (n0 : Nat) (k0 : Nat) (X0 : Nat → RoX) (A0 : Nat → (Xs35 × (Nat × (Nat → Member)))) (g1_0 : Nat) (g1_1 : Nat → Me45) (r2 : Int) : Sh_btf_Check_v1_L2 → List L1 → List Value
  | .c0 s0_0, ls => [.slice a0 n0 (n0 + k0), .int .i64 (0), .int .i64 (0), .int .i64 ((n0 : Int)), .int .i64 (s0_0)]
def mf_btf_Check_v1_L2 : Sh_btf_Check_v1_L2 → List (Nat × Nat)
  | .c0 _ => [(1, 1), (2, 48), (2, 10)]
noncomputable def fr_btf_Check_v1_L2 (a0 : Option Addr) (p0 : Nat) (q0 : Nat) (n0 : Nat) (k0 : Nat) (X0 : Nat → RoX) (A0 : Nat → (Xs35 × (Nat × (Nat → Member)))) (g1_0 : Nat) (g1_1 : Nat → Me45) (r2 : Int) (s : Sh_btf_Check_v1_L2) : List L1 → List Value := mrgF (mf_btf_Check_v1_L2 s) (fl_btf_Check_v1_L2 a0 p0 q0 n0 k0 X0 A0 g1_0 g1_1 r2 s) 3
def Hs_btf_Check_v1_L2 (a0 : Option Addr) (p0 : Nat) (q0 : Nat) (n0 : Nat) (k0 : Nat) (X0 : Nat → RoX) (A0 : Nat → (Xs35 × (Nat × (Nat → Member)))) (g1_0 : Nat) (g1_1 : Nat → Me45) (r2 : Int) : Sh_btf_Check_v1_L2 → List L1 → List Obj
  | .c0 s0_0, ls => [mapG kv_Me45 vv_Me45 g1_0 g1_1, unb, unb, unb]
def vl_btf_Check_v1_L2 (a0 : Option Addr) (p0 : Nat) (q0 : Nat) (n0 : Nat) (k0 : Nat) (X0 : Nat → RoX) (A0 : Nat → (Xs35 × (Nat × (Nat → Member)))) (g1_0 : Nat) (g1_1 : Nat → Me45) (r2 : Int) : Ex_btf_Check_v1_L2 → List L1 → List Value
  | .e0 , ls => [.slice a0 n0 (n0 + k0), .int .i64 (0), .int .i64 (0), .int .i64 ((n0 : Int))]
  | .e1 c1_0, ls => [.slice a0 n0 (n0 + k0), .int .i64 (c1_0), .int .i64 (43), .int .i64 ((n0 : Int))]
def mk_btf_Check_v1_L2 : Ex_btf_Check_v1_L2 → List (Nat × Nat)
  | .e0  => [(1, 1), (2, 48), (1, 11)]
  | .e1 _ => [(1, 1), (2, 48), (1, 11)]
noncomputable def vf_btf_Check_v1_L2 (a0 : Option Addr) (p0 : Nat) (q0 : Nat) (n0 : Nat) (k0 : Nat) (X0 : Nat → RoX) (A0 : Nat → (Xs35 × (Nat × (Nat → Member)))) (g1_0 : Nat) (g1_1 : Nat → Me45) (r2 : Int) (r : Ex_btf_Check_v1_L2) : List L1 → List Value := mrgF (mk_btf_Check_v1_L2 r) (vl_btf_Check_v1_L2 a0 p0 q0 n0 k0 X0 A0 g1_0 g1_1 r2 r) 3
def Hf_btf_Check_v1_L2 (a0 : Option Addr) (p0 : Nat) (q0 : Nat) (n0 : Nat) (k0 : Nat) (X0 : Nat → RoX) (A0 : Nat → (Xs35 × (Nat × (Nat → Member)))) (g1_0 : Nat) (g1_1 : Nat → Me45) (r2 : Int) : Ex_btf_Check_v1_L2 → List L1 → List Obj
  | .e0 , ls => [mapG kv_Me45 vv_Me45 g1_0 g1_1, unb, unb, unb]
  | .e1 c1_0, ls => [mapG kv_Me45 vv_Me45 g1_0 g1_1, unb, unb, unb]
def ex_btf_Check_v1_L2 : Ex_btf_Check_v1_L2 → Ex
  | .e0  => (.exit 4)
  | .e1 _ => .ret
theorem go_btf_Check_v1_L2 (g1_0 : Nat) (g1_1 : Nat → Me45) (r2 : Int) (s : Sh_btf_Check_v1_L2) (r : Ex_btf_Check_v1_L2) (h : lpO (st_btf_Check_v1_L2 n0 A0) s = some r) : GoesG Tryd.prog M B0 S (.loop bd_btf_Check_v1_L2) 4 (fr_btf_Check_v1_L2 a0 p0 q0 n0 k0 X0 A0 g1_0 g1_1 r2 s) (Hs_btf_Check_v1_L2 a0 p0 q0 n0 k0 X0 A0 g1_0 g1_1 r2 s) (ex_btf_Check_v1_L2 r) 3 (vf_btf_Check_v1_L2 a0 p0 q0 n0 k0 X0 A0 g1_0 g1_1 r2 r) (Hf_btf_Check_v1_L2 a0 p0 q0 n0 k0 X0 A0 g1_0 g1_1 r2 r) 4 :=
  goes_lpO (fun s q e => by
    cases s with
    | c0 s0_0 =>
      unfold st_btf_Check_v1_L2 at e
      dsimp only at e
      replace e := cond_eq_or e
      rcases e with ⟨hq0, e⟩ | ⟨hq0, e⟩
      · replace e := bindO_eq e
        obtain ⟨rb0, e_rb0, e⟩ := e
        try dsimp only at e
        replace e := cond_eq_or e
        rcases e with ⟨hq1, e⟩ | ⟨hq1, e⟩
        · subst hq1
          cases e; exact goes_runM hU [.b (z_lssT hq0), .o, .o, .o, .o, .o, .cg (ok_btf_fits_v2 hU a0 p0 q0 n0 k0 X0 A0 hR0 (IntKind.i64.wrap (s0_0 + 1)) true e_rb0), .o, .o, .o] [0, 1, 2] (fun b => rfl) (by decide) rfl rfl (fun b => by kernel_rfl)
        · subst hq1
          cases e; exact ⟨ne_ret, goes_runM hU [.b (z_lssT hq0), .o, .o, .o, .o, .o, .cg (ok_btf_fits_v2 hU a0 p0 q0 n0 k0 X0 A0 hR0 (IntKind.i64.wrap (s0_0 + 1)) false e_rb0), .o, .o, .o, .o, .o] [0, 1, 2] (fun b => rfl) (by decide) rfl rfl (fun b => by kernel_rfl)⟩
      · cases e; exact ⟨ne_exit 4, goes_runM hU [.b (z_lssF hq0)] [0, 1, 2] (fun b => rfl) (by decide) rfl rfl (fun b => by kernel_rfl)⟩) s r h
noncomputable def t0_btf_Check_v1_L2_0 (a0 : Option Addr) (p0 : Nat) (q0 : Nat) (n0 : Nat) (k0 : Nat) (X0 : Nat → RoX) (A0 : Nat → (Xs35 × (Nat × (Nat → Member)))) (g1_0 : Nat) (g1_1 : Nat → Me45) (r2 : Int) (s0_0 : Int) (ls : List L1) : List Value := List.append [.slice a0 n0 (n0 + k0), ((lget ls 2).u 1), .int .i64 (0), .int .i64 (0)] (List.append (jks (lget ls 2).u 4 34) (List.append [.slice a0 n0 (n0 + k0), .int .i64 ((n0 : Int))] (List.append (jks (lget ls 2).u 40 11) (List.append [.slice a0 n0 (n0 + k0), .int .i64 ((n0 : Int)), .int .i64 (s0_0)] (jks (lget ls 2).u 54 10)))))
def pre_btf_Check_v1_L2_0 (a0 : Option Addr) (p0 : Nat) (q0 : Nat) (n0 : Nat) (k0 : Nat) (X0 : Nat → RoX) (A0 : Nat → (Xs35 × (Nat × (Nat → Member)))) (g1_0 : Nat) (g1_1 : Nat → Me45) (r2 : Int) (s0_0 : Int) (ls : List L1) : List Obj := [mapG kv_Me45 vv_Me45 g1_0 g1_1, unb, unb]
theorem sp0_btf_Check_v1_L2_0_ok (g1_0 : Nat) (g1_1 : Nat → Me45) (r2 : Int) (s0_0 : Int) (h : lpO (st_btf_Check_v1_L2 n0 A0) (.c0 s0_0) = some (.e0 )) : SpcG Tryd.prog M B0 S ⟨fun ls => .code (.loop bd_btf_Check_v1_L2) (t0_btf_Check_v1_L2_0 a0 p0 q0 n0 k0 X0 A0 g1_0 g1_1 r2 s0_0 ls), pre_btf_Check_v1_L2_0 a0 p0 q0 n0 k0 X0 A0 g1_0 g1_1 r2 s0_0, 1, (.exit 4), fun ls => vf_btf_Check_v1_L2 a0 p0 q0 n0 k0 X0 A0 g1_0 g1_1 r2 (.e0 ) (ls.take 3 ++ ls.drop 3), fun ls => (Hf_btf_Check_v1_L2 a0 p0 q0 n0 k0 X0 A0 g1_0 g1_1 r2 (.e0 ) (ls.take 3 ++ ls.drop 3)).take 3 ++ List.replicate 0 unb, fun ls => (Hf_btf_Check_v1_L2 a0 p0 q0 n0 k0 X0 A0 g1_0 g1_1 r2 (.e0 ) (ls.take 3 ++ ls.drop 3)).drop 3⟩ :=
  spc_of_goesM hU 0 (k0 := 3) (go_btf_Check_v1_L2 hU a0 p0 q0 n0 k0 X0 A0 hR0 g1_0 g1_1 r2 _ _ h) (t0_btf_Check_v1_L2_0 a0 p0 q0 n0 k0 X0 A0 g1_0 g1_1 r2 s0_0) (pre_btf_Check_v1_L2_0 a0 p0 q0 n0 k0 X0 A0 g1_0 g1_1 r2 s0_0) (fun _ => rfl) (fun ls h => by match ls, h with | [l0, l1, l2], _ => exact ⟨by kernel_rfl, by kernel_rfl⟩) (fun ls h => by match ls, h with | [l0, l1, l2], _ => rfl) (by decide) (by decide) (fun ls => rfl)
theorem sp1_btf_Check_v1_L2_0_ok (g1_0 : Nat) (g1_1 : Nat → Me45) (r2 : Int) (s0_0 : Int) (c1_0 : Int) (h : lpO (st_btf_Check_v1_L2 n0 A0) (.c0 s0_0) = some (.e1 c1_0)) : SpcG Tryd.prog M B0 S ⟨fun ls => .code (.loop bd_btf_Check_v1_L2) (t0_btf_Check_v1_L2_0 a0 p0 q0 n0 k0 X0 A0 g1_0 g1_1 r2 s0_0 ls), pre_btf_Check_v1_L2_0 a0 p0 q0 n0 k0 X0 A0 g1_0 g1_1 r2 s0_0, 1, .ret, fun ls => vf_btf_Check_v1_L2 a0 p0 q0 n0 k0 X0 A0 g1_0 g1_1 r2 (.e1 c1_0) (ls.take 3 ++ ls.drop 3), fun ls => (Hf_btf_Check_v1_L2 a0 p0 q0 n0 k0 X0 A0 g1_0 g1_1 r2 (.e1 c1_0) (ls.take 3 ++ ls.drop 3)).take 3 ++ List.replicate 0 unb, fun ls => (Hf_btf_Check_v1_L2 a0 p0 q0 n0 k0 X0 A0 g1_0 g1_1 r2 (.e1 c1_0) (ls.take 3 ++ ls.drop 3)).drop 3⟩ :=
  spc_of_goesM hU 0 (k0 := 3) (go_btf_Check_v1_L2 hU a0 p0 q0 n0 k0 X0 A0 hR0 g1_0 g1_1 r2 _ _ h) (t0_btf_Check_v1_L2_0 a0 p0 q0 n0 k0 X0 A0 g1_0 g1_1 r2 s0_0) (pre_btf_Check_v1_L2_0 a0 p0 q0 n0 k0 X0 A0 g1_0 g1_1 r2 s0_0) (fun _ => rfl) (fun ls h => by match ls, h with | [l0, l1, l2], _ => exact ⟨by kernel_rfl, by kernel_rfl⟩) (fun ls h => by match ls, h with | [l0, l1, l2], _ => rfl) (by decide) (by decide) (fun ls => rfl)
noncomputable def m_btf_Check_v1 (n0 : Nat) (A0 : Nat → (Xs35 × (Nat × (Nat → Member)))) : Option ((Int) × (Int)) :=
  (m_btf_tooMany_v1 n0 A0).bind fun r0 =>
  bif r0 then
    (some (0, 45))
  else ((lpO (st_btf_Check_v1_L0 n0 A0) (.c0 0 (fun _ => (⟨(⟨0, ByteArray.empty⟩ : Named), 0⟩ : Me45)) 0)).bind fun g1 => match g1 with
  | .e0 g1_0 g1_1 => ((m_btf_holdsItself_v1 n0 A0).bind fun r2 =>
    bif r2 == 0 then
      ((lpO (st_btf_Check_v1_L1 n0 A0) (.c0 0)).bind fun g3 => match g3 with
      | .e0  => ((lpO (st_btf_Check_v1_L2 n0 A0) (.c0 0)).bind fun g4 => match g4 with
        | .e0  => (some (0, 0))
        | .e1 g4_0 => (some (g4_0, 43)))
      | .e1 g3_0 => (some (g3_0, 41)))
    else (some (r2, 42)))
  | .e1 g1_0 g1_1 g1_2 g1_3 => (some (g1_2, g1_3)))
theorem ok_btf_Check_v1 (r : (Int) × (Int)) (e : m_btf_Check_v1 n0 A0 = some r) : ConG Tryd.prog S 12 #[.slice a0 n0 (n0 + k0)] (vt1 r) := by
  unfold m_btf_Check_v1 at e
  replace e := bindO_eq e
  obtain ⟨r0, e_r0, e⟩ := e
  try dsimp only at e
  replace e := cond_eq_or e
  rcases e with ⟨hq0, e⟩ | ⟨hq0, e⟩
  · subst hq0
    injection e with e; subst e; exact fn_conG hU (P := Tryd.prog) Tryd.func12 (fun xs w => by kernel_rfl) _ _ [.o, .o, .o, .cg (ok_btf_tooMany_v1 hU a0 p0 q0 n0 k0 X0 A0 hR0 true e_r0), .o, .o] [] (fun b => by kernel_rfl)
  · subst hq0
    replace e := bindO_eq e
    obtain ⟨g1, e_g1, e⟩ := e
    rcases g1 with ⟨g1_0, g1_1⟩ | ⟨g1_0, g1_1, g1_2, g1_3⟩
    · try dsimp only at e
      replace e := bindO_eq e
      obtain ⟨r2, e_r2, e⟩ := e
      try dsimp only at e
      replace e := cond_eq_or e
      rcases e with ⟨hq1, e⟩ | ⟨hq1, e⟩
      · replace e := bindO_eq e
        obtain ⟨g3, e_g3, e⟩ := e
        rcases g3 with _ | ⟨g3_0⟩
        · try dsimp only at e
          replace e := bindO_eq e
          obtain ⟨g4, e_g4, e⟩ := e
          rcases g4 with _ | ⟨g4_0⟩
          · try dsimp only at e
            injection e with e; subst e; exact fn_conG hU (P := Tryd.prog) Tryd.func12 (fun xs w => by kernel_rfl) _ _ [.o, .o, .o, .cg (ok_btf_tooMany_v1 hU a0 p0 q0 n0 k0 X0 A0 hR0 false e_r0), .o, .o, .o, .o, .o, .cp, .cx (sp0_btf_Check_v1_L0_0_ok hU a0 p0 q0 n0 k0 X0 A0 hR0 0 (fun _ => (⟨(⟨0, ByteArray.empty⟩ : Named), 0⟩ : Me45)) 0 g1_0 g1_1 e_g1) [0], .o, .cg (ok_btf_holdsItself_v1 hU a0 p0 q0 n0 k0 X0 A0 hR0 r2 e_r2), .o, .o, .b (z_neqT hq1), .o, .o, .o, .cp, .cx (sp0_btf_Check_v1_L1_0_ok hU a0 p0 q0 n0 k0 X0 A0 hR0 g1_0 g1_1 r2 0  e_g3) [0, 1], .o, .o, .o, .cp, .cx (sp0_btf_Check_v1_L2_0_ok hU a0 p0 q0 n0 k0 X0 A0 hR0 g1_0 g1_1 r2 0  e_g4) [0, 1, 2], .o, .o] [] (fun b => by kernel_rfl)
          · try dsimp only at e
            injection e with e; subst e; exact fn_conG hU (P := Tryd.prog) Tryd.func12 (fun xs w => by kernel_rfl) _ _ [.o, .o, .o, .cg (ok_btf_tooMany_v1 hU a0 p0 q0 n0 k0 X0 A0 hR0 false e_r0), .o, .o, .o, .o, .o, .cp, .cx (sp0_btf_Check_v1_L0_0_ok hU a0 p0 q0 n0 k0 X0 A0 hR0 0 (fun _ => (⟨(⟨0, ByteArray.empty⟩ : Named), 0⟩ : Me45)) 0 g1_0 g1_1 e_g1) [0], .o, .cg (ok_btf_holdsItself_v1 hU a0 p0 q0 n0 k0 X0 A0 hR0 r2 e_r2), .o, .o, .b (z_neqT hq1), .o, .o, .o, .cp, .cx (sp0_btf_Check_v1_L1_0_ok hU a0 p0 q0 n0 k0 X0 A0 hR0 g1_0 g1_1 r2 0  e_g3) [0, 1], .o, .o, .o, .cp, .cx (sp1_btf_Check_v1_L2_0_ok hU a0 p0 q0 n0 k0 X0 A0 hR0 g1_0 g1_1 r2 0 g4_0 e_g4) [0, 1, 2]] [] (fun b => by kernel_rfl)
        · try dsimp only at e
          injection e with e; subst e; exact fn_conG hU (P := Tryd.prog) Tryd.func12 (fun xs w => by kernel_rfl) _ _ [.o, .o, .o, .cg (ok_btf_tooMany_v1 hU a0 p0 q0 n0 k0 X0 A0 hR0 false e_r0), .o, .o, .o, .o, .o, .cp, .cx (sp0_btf_Check_v1_L0_0_ok hU a0 p0 q0 n0 k0 X0 A0 hR0 0 (fun _ => (⟨(⟨0, ByteArray.empty⟩ : Named), 0⟩ : Me45)) 0 g1_0 g1_1 e_g1) [0], .o, .cg (ok_btf_holdsItself_v1 hU a0 p0 q0 n0 k0 X0 A0 hR0 r2 e_r2), .o, .o, .b (z_neqT hq1), .o, .o, .o, .cp, .cx (sp1_btf_Check_v1_L1_0_ok hU a0 p0 q0 n0 k0 X0 A0 hR0 g1_0 g1_1 r2 0 g3_0 e_g3) [0, 1]] [] (fun b => by kernel_rfl)
      · injection e with e; subst e; exact fn_conG hU (P := Tryd.prog) Tryd.func12 (fun xs w => by kernel_rfl) _ _ [.o, .o, .o, .cg (ok_btf_tooMany_v1 hU a0 p0 q0 n0 k0 X0 A0 hR0 false e_r0), .o, .o, .o, .o, .o, .cp, .cx (sp0_btf_Check_v1_L0_0_ok hU a0 p0 q0 n0 k0 X0 A0 hR0 0 (fun _ => (⟨(⟨0, ByteArray.empty⟩ : Named), 0⟩ : Me45)) 0 g1_0 g1_1 e_g1) [0], .o, .cg (ok_btf_holdsItself_v1 hU a0 p0 q0 n0 k0 X0 A0 hR0 r2 e_r2), .o, .o, .b (z_neqF hq1), .o, .o, .o] [] (fun b => by kernel_rfl)
    · try dsimp only at e
      injection e with e; subst e; exact fn_conG hU (P := Tryd.prog) Tryd.func12 (fun xs w => by kernel_rfl) _ _ [.o, .o, .o, .cg (ok_btf_tooMany_v1 hU a0 p0 q0 n0 k0 X0 A0 hR0 false e_r0), .o, .o, .o, .o, .o, .cp, .cx (sp1_btf_Check_v1_L0_0_ok hU a0 p0 q0 n0 k0 X0 A0 hR0 0 (fun _ => (⟨(⟨0, ByteArray.empty⟩ : Named), 0⟩ : Me45)) 0 g1_0 g1_1 g1_2 g1_3 e_g1) [0]] [] (fun b => by kernel_rfl)
noncomputable def m_btf_Resolve_v1 (n0 : Nat) (A0 : Nat → (Xs35 × (Nat × (Nat → Member)))) (y1 : Int) : Option ((Int) × (Int)) :=
  (m_btf_Check_v1 n0 A0).bind fun r0 =>
  bif r0.2 == 0 then
    (bif decide (y1 < 1) then
      (some (0, 41))
    else (bif decide ((n0 : Int) < y1) then
      (some (0, 41))
    else ((m_btf_resolve_v2 n0 A0 y1).bind fun r1 =>
    some (r1, 0))))
  else (some (0, r0.2))
theorem ok_btf_Resolve_v1 (y1 : Int) (r : (Int) × (Int)) (e : m_btf_Resolve_v1 n0 A0 y1 = some r) : ConG Tryd.prog S 9 #[.slice a0 n0 (n0 + k0), .int .i64 (y1)] (vt1 r) := by
  unfold m_btf_Resolve_v1 at e
  replace e := bindO_eq e
  obtain ⟨r0, e_r0, e⟩ := e
  try dsimp only at e
  replace e := cond_eq_or e
  rcases e with ⟨hq0, e⟩ | ⟨hq0, e⟩
  · replace e := cond_eq_or e
    rcases e with ⟨hq1, e⟩ | ⟨hq1, e⟩
    · injection e with e; subst e; exact fn_conG hU (P := Tryd.prog) Tryd.func9 (fun xs w => by kernel_rfl) _ _ [.o, .o, .o, .cg (ok_btf_Check_v1 hU a0 p0 q0 n0 k0 X0 A0 hR0 r0 e_r0), .o, .o, .o, .o, .o, .o, .b (z_neqT hq0), .o, .b (z_lssT hq1), .o, .o, .o, .o] [] (fun b => by kernel_rfl)
    · replace e := cond_eq_or e
      rcases e with ⟨hq2, e⟩ | ⟨hq2, e⟩
      · injection e with e; subst e; exact fn_conG hU (P := Tryd.prog) Tryd.func9 (fun xs w => by kernel_rfl) _ _ [.o, .o, .o, .cg (ok_btf_Check_v1 hU a0 p0 q0 n0 k0 X0 A0 hR0 r0 e_r0), .o, .o, .o, .o, .o, .o, .b (z_neqT hq0), .o, .b (z_lssF hq1), .o, .o, .o, .o, .b (z_gtrT hq2), .o, .o, .o] [] (fun b => by kernel_rfl)
      · replace e := bindO_eq e
        obtain ⟨r1, e_r1, e⟩ := e
        try dsimp only at e
        injection e with e; subst e; exact fn_conG hU (P := Tryd.prog) Tryd.func9 (fun xs w => by kernel_rfl) _ _ [.o, .o, .o, .cg (ok_btf_Check_v1 hU a0 p0 q0 n0 k0 X0 A0 hR0 r0 e_r0), .o, .o, .o, .o, .o, .o, .b (z_neqT hq0), .o, .b (z_lssF hq1), .o, .o, .o, .o, .b (z_gtrF hq2), .o, .o, .o, .cg (ok_btf_resolve_v2 hU a0 p0 q0 n0 k0 X0 A0 hR0 y1 r1 e_r1), .o, .o] [] (fun b => by kernel_rfl)
  · injection e with e; subst e; exact fn_conG hU (P := Tryd.prog) Tryd.func9 (fun xs w => by kernel_rfl) _ _ [.o, .o, .o, .cg (ok_btf_Check_v1 hU a0 p0 q0 n0 k0 X0 A0 hR0 r0 e_r0), .o, .o, .o, .o, .o, .o, .b (z_neqF hq0), .o, .o, .o] [] (fun b => by kernel_rfl)
noncomputable def m_btf_Size_v1 (n0 : Nat) (A0 : Nat → (Xs35 × (Nat × (Nat → Member)))) (y1 : Int) : Option ((Int) × (Int)) :=
  (m_btf_Resolve_v1 n0 A0 y1).bind fun r0 =>
  bif r0.2 == 0 then
    (bif inR (IntKind.i64.wrap (r0.1 - 1)) n0 then
      (bif ((A0 ((IntKind.i64.wrap (r0.1 - 1))).toNat).1).fKind == 6 then
        (some (0, 41))
      else ((m_btf_sizeOf_v2_F 300 n0 A0 r0.1).bind fun r1 =>
      some (r1, 0)))
    else (none))
  else (some (0, r0.2))
theorem ok_btf_Size_v1 (y1 : Int) (r : (Int) × (Int)) (e : m_btf_Size_v1 n0 A0 y1 = some r) : ConG Tryd.prog S 5 #[.slice a0 n0 (n0 + k0), .int .i64 (y1)] (vt1 r) := by
  unfold m_btf_Size_v1 at e
  replace e := bindO_eq e
  obtain ⟨r0, e_r0, e⟩ := e
  try dsimp only at e
  replace e := cond_eq_or e
  rcases e with ⟨hq0, e⟩ | ⟨hq0, e⟩
  · replace e := cond_eq_or e
    rcases e with ⟨hq1, e⟩ | ⟨hq1, e⟩
    · replace e := cond_eq_or e
      rcases e with ⟨hq2, e⟩ | ⟨hq2, e⟩
      · injection e with e; subst e; exact fn_conG hU (P := Tryd.prog) Tryd.func5 (fun xs w => by kernel_rfl) _ _ [.o, .o, .o, .o, .cg (ok_btf_Resolve_v1 hU a0 p0 q0 n0 k0 X0 A0 hR0 y1 r0 e_r0), .o, .o, .o, .o, .o, .o, .b (z_neqT hq0), .o, .o, .o, .q (ixRo_ok (kd := .i64) (T := 22) (x := (IntKind.i64.wrap (r0.1 - 1))) (sz := 7) rfl (fun w => by kernel_rfl) (RoS.row hR0) hq1), .o, .l (accRo (RoS.row hR0) (rxS_len z_Xs35 X0 (fun i => (A0 i).2) (fun i => (A0 i).1)) (inR_nat hq1) 0 [.int .i64 (((A0 ((IntKind.i64.wrap (r0.1 - 1))).toNat).1).fKind)] rfl), .b (z_eqlT hq2), .o, .o] [] (fun b => by kernel_rfl)
      · replace e := bindO_eq e
        obtain ⟨r1, e_r1, e⟩ := e
        try dsimp only at e
        injection e with e; subst e; exact fn_conG hU (P := Tryd.prog) Tryd.func5 (fun xs w => by kernel_rfl) _ _ [.o, .o, .o, .o, .cg (ok_btf_Resolve_v1 hU a0 p0 q0 n0 k0 X0 A0 hR0 y1 r0 e_r0), .o, .o, .o, .o, .o, .o, .b (z_neqT hq0), .o, .o, .o, .q (ixRo_ok (kd := .i64) (T := 22) (x := (IntKind.i64.wrap (r0.1 - 1))) (sz := 7) rfl (fun w => by kernel_rfl) (RoS.row hR0) hq1), .o, .l (accRo (RoS.row hR0) (rxS_len z_Xs35 X0 (fun i => (A0 i).2) (fun i => (A0 i).1)) (inR_nat hq1) 0 [.int .i64 (((A0 ((IntKind.i64.wrap (r0.1 - 1))).toNat).1).fKind)] rfl), .b (z_eqlF hq2), .o, .o, .cg (ok_btf_sizeOf_v2_F 300 hU a0 p0 q0 n0 k0 X0 A0 hR0 r0.1 r1 e_r1), .o, .o] [] (fun b => by kernel_rfl)
    · exact none_some e
  · injection e with e; subst e; exact fn_conG hU (P := Tryd.prog) Tryd.func5 (fun xs w => by kernel_rfl) _ _ [.o, .o, .o, .o, .cg (ok_btf_Resolve_v1 hU a0 p0 q0 n0 k0 X0 A0 hR0 y1 r0 e_r0), .o, .o, .o, .o, .o, .o, .b (z_neqF hq0), .o, .o, .o] [] (fun b => by kernel_rfl)
inductive Sh_barbicanlaw4_few_L0 where
  | c0 (s0_0 : Int) (s0_1 : Int)
inductive Ex_barbicanlaw4_few_L0 where
  | e0 (c0_0 : Int)
noncomputable def st_barbicanlaw4_few_L0 (n0 : Nat) (A0 : Nat → (Xs35 × (Nat × (Nat → Member)))) : Sh_barbicanlaw4_few_L0 → Option (Sh_barbicanlaw4_few_L0 ⊕ Ex_barbicanlaw4_few_L0)
  | .c0 s0_0 s0_1 =>
    bif decide (s0_1 < (n0 : Int)) then
      (bif decide (s0_0 ≤ 400) then
        (bif inR s0_1 n0 then
          (some (.inl (.c0 (IntKind.i64.wrap ((IntKind.i64.wrap ((IntKind.i64.wrap (s0_0 + 1)) + ((A0 (s0_1).toNat).2.1 : Int))) + (zquo (((A0 (s0_1).toNat).1).fName.size : Int) 20))) (IntKind.i64.wrap (s0_1 + 1)))))
        else (none))
      else (some (.inr (.e0 s0_0))))
    else (some (.inr (.e0 s0_0)))
noncomputable def bd_barbicanlaw4_few_L0 : Code := codeOf Tryd.f6 [1, 1, 0, 1, 0, 0]
def fl_barbicanlaw4_few_L0 (a0 : Option Addr) (p0 : Nat) (q0 : Nat) (n0 : Nat) (k0 : Nat) (X0 : Nat → RoX) (A0 : Nat → (Xs35 × (Nat × (Nat → Member)))) : Sh_barbicanlaw4_few_L0 → List L1 → List Value
  | .c0 s0_0 s0_1, ls => [.slice a0 n0 (n0 + k0), .int .i64 (s0_0), .int .i64 (s0_1)]
def mf_barbicanlaw4_few_L0 : Sh_barbicanlaw4_few_L0 → List (Nat × Nat)
  | .c0 _ _ => [(1, 2), (2, 29)]
noncomputable def fr_barbicanlaw4_few_L0 (a0 : Option Addr) (p0 : Nat) (q0 : Nat) (n0 : Nat) (k0 : Nat) (X0 : Nat → RoX) (A0 : Nat → (Xs35 × (Nat × (Nat → Member)))) (s : Sh_barbicanlaw4_few_L0) : List L1 → List Value := mrgF (mf_barbicanlaw4_few_L0 s) (fl_barbicanlaw4_few_L0 a0 p0 q0 n0 k0 X0 A0 s) 0
def Hs_barbicanlaw4_few_L0 (a0 : Option Addr) (p0 : Nat) (q0 : Nat) (n0 : Nat) (k0 : Nat) (X0 : Nat → RoX) (A0 : Nat → (Xs35 × (Nat × (Nat → Member)))) : Sh_barbicanlaw4_few_L0 → List L1 → List Obj
  | .c0 s0_0 s0_1, ls => [unb]
def vl_barbicanlaw4_few_L0 (a0 : Option Addr) (p0 : Nat) (q0 : Nat) (n0 : Nat) (k0 : Nat) (X0 : Nat → RoX) (A0 : Nat → (Xs35 × (Nat × (Nat → Member)))) : Ex_barbicanlaw4_few_L0 → List L1 → List Value
  | .e0 c0_0, ls => [.slice a0 n0 (n0 + k0), .int .i64 (c0_0)]
def mk_barbicanlaw4_few_L0 : Ex_barbicanlaw4_few_L0 → List (Nat × Nat)
  | .e0 _ => [(1, 2), (1, 30)]
noncomputable def vf_barbicanlaw4_few_L0 (a0 : Option Addr) (p0 : Nat) (q0 : Nat) (n0 : Nat) (k0 : Nat) (X0 : Nat → RoX) (A0 : Nat → (Xs35 × (Nat × (Nat → Member)))) (r : Ex_barbicanlaw4_few_L0) : List L1 → List Value := mrgF (mk_barbicanlaw4_few_L0 r) (vl_barbicanlaw4_few_L0 a0 p0 q0 n0 k0 X0 A0 r) 0
def Hf_barbicanlaw4_few_L0 (a0 : Option Addr) (p0 : Nat) (q0 : Nat) (n0 : Nat) (k0 : Nat) (X0 : Nat → RoX) (A0 : Nat → (Xs35 × (Nat × (Nat → Member)))) : Ex_barbicanlaw4_few_L0 → List L1 → List Obj
  | .e0 c0_0, ls => [unb]
def ex_barbicanlaw4_few_L0 : Ex_barbicanlaw4_few_L0 → Ex
  | .e0 _ => (.exit 0)
theorem go_barbicanlaw4_few_L0 (s : Sh_barbicanlaw4_few_L0) (r : Ex_barbicanlaw4_few_L0) (h : lpO (st_barbicanlaw4_few_L0 n0 A0) s = some r) : GoesG Tryd.prog M B0 S (.loop bd_barbicanlaw4_few_L0) 1 (fr_barbicanlaw4_few_L0 a0 p0 q0 n0 k0 X0 A0 s) (Hs_barbicanlaw4_few_L0 a0 p0 q0 n0 k0 X0 A0 s) (ex_barbicanlaw4_few_L0 r) 0 (vf_barbicanlaw4_few_L0 a0 p0 q0 n0 k0 X0 A0 r) (Hf_barbicanlaw4_few_L0 a0 p0 q0 n0 k0 X0 A0 r) 1 :=
  goes_lpO (fun s q e => by
    cases s with
    | c0 s0_0 s0_1 =>
      unfold st_barbicanlaw4_few_L0 at e
      dsimp only at e
      replace e := cond_eq_or e
      rcases e with ⟨hq0, e⟩ | ⟨hq0, e⟩
      · replace e := cond_eq_or e
        rcases e with ⟨hq1, e⟩ | ⟨hq1, e⟩
        · replace e := cond_eq_or e
          rcases e with ⟨hq2, e⟩ | ⟨hq2, e⟩
          · cases e; exact goes_runM hU [.o, .o, .o, .b (z_lssT hq0), .o, .o, .b (z_leqT hq1), .o, .r [0, 1, 2, 3, 4, 5, 6, 7, 8, 9, 10, 11, 12, 13, 14, 15, 16, 17] [] [], .o, .o, .o, .o, .q (ixRo_ok (kd := .i64) (T := 22) (x := s0_1) (sz := 7) rfl (fun w => by kernel_rfl) (RoS.row hR0) hq2), .o, .l (accRo (RoS.row hR0) (rxS_len z_Xs35 X0 (fun i => (A0 i).2) (fun i => (A0 i).1)) (inR_nat hq2) 6 [.slice (X0 (s0_1).toNat).a (A0 (s0_1).toNat).2.1 ((A0 (s0_1).toNat).2.1 + (X0 (s0_1).toNat).c)] rfl), .o, .o, .o, .o, .q (ixRo_ok (kd := .i64) (T := 22) (x := s0_1) (sz := 7) rfl (fun w => by kernel_rfl) (RoS.row hR0) hq2), .o, .l (accRo (RoS.row hR0) (rxS_len z_Xs35 X0 (fun i => (A0 i).2) (fun i => (A0 i).1)) (inR_nat hq2) 1 [.string ((A0 (s0_1).toNat).1).fName] rfl), .o, .ov (z_quo Tryd.prog 3 (.tmp 29) (.const (.int .i64 (20))) (((A0 (s0_1).toNat).1).fName.size : Int) 20 (by decide)), .o, .o, .o, .o, .o] [] (fun b => rfl) (by decide) rfl rfl (fun b => by kernel_rfl)
          · exact none_some e
        · cases e; exact ⟨ne_exit 0, goes_runM hU [.o, .o, .o, .b (z_lssT hq0), .o, .o, .b (z_leqF hq1), .o] [] (fun b => rfl) (by decide) rfl rfl (fun b => by kernel_rfl)⟩
      · cases e; exact ⟨ne_exit 0, goes_runM hU [.o, .o, .o, .b (z_lssF hq0), .o, .o] [] (fun b => rfl) (by decide) rfl rfl (fun b => by kernel_rfl)⟩) s r h
noncomputable def t0_barbicanlaw4_few_L0_0 (a0 : Option Addr) (p0 : Nat) (q0 : Nat) (n0 : Nat) (k0 : Nat) (X0 : Nat → RoX) (A0 : Nat → (Xs35 × (Nat × (Nat → Member)))) (s0_0 : Int) (s0_1 : Int) (ls : List L1) : List Value := List.append [.slice a0 n0 (n0 + k0), undef, .bool false, .int .i64 (s0_0), .int .i64 (s0_1)] (und 29)
def pre_barbicanlaw4_few_L0_0 (a0 : Option Addr) (p0 : Nat) (q0 : Nat) (n0 : Nat) (k0 : Nat) (X0 : Nat → RoX) (A0 : Nat → (Xs35 × (Nat × (Nat → Member)))) (s0_0 : Int) (s0_1 : Int) (ls : List L1) : List Obj := []
theorem sp0_barbicanlaw4_few_L0_0_ok (s0_0 : Int) (s0_1 : Int) (c0_0 : Int) (h : lpO (st_barbicanlaw4_few_L0 n0 A0) (.c0 s0_0 s0_1) = some (.e0 c0_0)) : SpcG Tryd.prog M B0 S ⟨fun ls => .code (.loop bd_barbicanlaw4_few_L0) (t0_barbicanlaw4_few_L0_0 a0 p0 q0 n0 k0 X0 A0 s0_0 s0_1 ls), pre_barbicanlaw4_few_L0_0 a0 p0 q0 n0 k0 X0 A0 s0_0 s0_1, 1, (.exit 0), fun ls => vf_barbicanlaw4_few_L0 a0 p0 q0 n0 k0 X0 A0 (.e0 c0_0) (ls.take 0 ++ ls.drop 0), fun ls => (Hf_barbicanlaw4_few_L0 a0 p0 q0 n0 k0 X0 A0 (.e0 c0_0) (ls.take 0 ++ ls.drop 0)).take 0 ++ List.replicate 0 unb, fun ls => (Hf_barbicanlaw4_few_L0 a0 p0 q0 n0 k0 X0 A0 (.e0 c0_0) (ls.take 0 ++ ls.drop 0)).drop 0⟩ :=
  spc_of_goesM hU 0 (k0 := 0) (go_barbicanlaw4_few_L0 hU a0 p0 q0 n0 k0 X0 A0 hR0 _ _ h) (t0_barbicanlaw4_few_L0_0 a0 p0 q0 n0 k0 X0 A0 s0_0 s0_1) (pre_barbicanlaw4_few_L0_0 a0 p0 q0 n0 k0 X0 A0 s0_0 s0_1) (fun _ => rfl) (fun ls h => by match ls, h with | [], _ => exact ⟨by kernel_rfl, by kernel_rfl⟩) (fun ls h => by match ls, h with | [], _ => rfl) (by decide) (by decide) (fun ls => rfl)
noncomputable def m_barbicanlaw4_few (n0 : Nat) (A0 : Nat → (Xs35 × (Nat × (Nat → Member)))) : Option (Bool) :=
  (lpO (st_barbicanlaw4_few_L0 n0 A0) (.c0 0 0)).bind fun g0 => match g0 with
  | .e0 g0_0 =>
  some (decide (g0_0 ≤ 400))
theorem ok_barbicanlaw4_few (r : Bool) (e : m_barbicanlaw4_few n0 A0 = some r) : ConG Tryd.prog S 6 #[.slice a0 n0 (n0 + k0)] (.bool (r)) := by
  unfold m_barbicanlaw4_few at e
  replace e := bindO_eq e
  obtain ⟨g0, e_g0, e⟩ := e
  obtain ⟨g0_0⟩ := g0
  try dsimp only at e
  injection e with e; subst e; exact fn_conG hU (P := Tryd.prog) Tryd.func6 (fun xs w => by kernel_rfl) _ _ [.o, .o, .o, .cp, .cx (sp0_barbicanlaw4_few_L0_0_ok hU a0 p0 q0 n0 k0 X0 A0 hR0 0 0 g0_0 e_g0) [], .o, .o, .o] [] (fun b => by kernel_rfl)
noncomputable def m_internal_strconv_small (y0 : Int) : Option (ByteArray) :=
  bif decide (y0 < 10) then
    (bif inR (IntKind.i64.wrap (y0 + 1)) (36 + 1) then
      (bif inR y0 (((IntKind.i64.wrap (y0 + 1))).toNat + 1) then
        (some ((⟨#[48, 49, 50, 51, 52, 53, 54, 55, 56, 57, 97, 98, 99, 100, 101, 102, 103, 104, 105, 106, 107, 108, 109, 110, 111, 112, 113, 114, 115, 116, 117, 118, 119, 120, 121, 122]⟩ : ByteArray).extract (y0).toNat ((IntKind.i64.wrap (y0 + 1))).toNat))
      else (none))
    else (none))
  else (bif inR (IntKind.i64.wrap ((IntKind.i64.wrap (y0 * 2)) + 2)) (200 + 1) then
    (bif inR (IntKind.i64.wrap (y0 * 2)) (((IntKind.i64.wrap ((IntKind.i64.wrap (y0 * 2)) + 2))).toNat + 1) then
      (some ((⟨#[48, 48, 48, 49, 48, 50, 48, 51, 48, 52, 48, 53, 48, 54, 48, 55, 48, 56, 48, 57, 49, 48, 49, 49, 49, 50, 49, 51, 49, 52, 49, 53, 49, 54, 49, 55, 49, 56, 49, 57, 50, 48, 50, 49, 50, 50, 50, 51, 50, 52, 50, 53, 50, 54, 50, 55, 50, 56, 50, 57, 51, 48, 51, 49, 51, 50, 51, 51, 51, 52, 51, 53, 51, 54, 51, 55, 51, 56, 51, 57, 52, 48, 52, 49, 52, 50, 52, 51, 52, 52, 52, 53, 52, 54, 52, 55, 52, 56, 52, 57, 53, 48, 53, 49, 53, 50, 53, 51, 53, 52, 53, 53, 53, 54, 53, 55, 53, 56, 53, 57, 54, 48, 54, 49, 54, 50, 54, 51, 54, 52, 54, 53, 54, 54, 54, 55, 54, 56, 54, 57, 55, 48, 55, 49, 55, 50, 55, 51, 55, 52, 55, 53, 55, 54, 55, 55, 55, 56, 55, 57, 56, 48, 56, 49, 56, 50, 56, 51, 56, 52, 56, 53, 56, 54, 56, 55, 56, 56, 56, 57, 57, 48, 57, 49, 57, 50, 57, 51, 57, 52, 57, 53, 57, 54, 57, 55, 57, 56, 57, 57]⟩ : ByteArray).extract ((IntKind.i64.wrap (y0 * 2))).toNat ((IntKind.i64.wrap ((IntKind.i64.wrap (y0 * 2)) + 2))).toNat))
    else (none))
  else (none))
end
section
variable {M : Nat → Prop} {B0 : Nat} {S : World → Prop} (hU : Up M B0 S) (y0 : Int) (r : ByteArray)
include hU y0 r
theorem ok_internal_strconv_small (e : m_internal_strconv_small y0 = some r) : ConG Tryd.prog S 32 #[.int .i64 (y0)] (.string r) := by
  unfold m_internal_strconv_small at e
  replace e := cond_eq_or e
  rcases e with ⟨hq0, e⟩ | ⟨hq0, e⟩
  · replace e := cond_eq_or e
    rcases e with ⟨hq1, e⟩ | ⟨hq1, e⟩
    · replace e := cond_eq_or e
      rcases e with ⟨hq2, e⟩ | ⟨hq2, e⟩
      · injection e with e; subst e; exact fn_conG hU (P := Tryd.prog) Tryd.func32 (fun xs w => by kernel_rfl) _ _ [.o, .o, .b (z_lssT hq0), .o, .o, .o, .ov (slcS_ok (T := 9) (s := (⟨#[48, 49, 50, 51, 52, 53, 54, 55, 56, 57, 97, 98, 99, 100, 101, 102, 103, 104, 105, 106, 107, 108, 109, 110, 111, 112, 113, 114, 115, 116, 117, 118, 119, 120, 121, 122]⟩ : ByteArray)) (x := y0) (y := (IntKind.i64.wrap (y0 + 1))) (by kernel_rfl) hq2 hq1), .o] [] (fun b => by kernel_rfl)
      · exact none_some e
    · exact none_some e
  · replace e := cond_eq_or e
    rcases e with ⟨hq1, e⟩ | ⟨hq1, e⟩
    · replace e := cond_eq_or e
      rcases e with ⟨hq2, e⟩ | ⟨hq2, e⟩
      · injection e with e; subst e; exact fn_conG hU (P := Tryd.prog) Tryd.func32 (fun xs w => by kernel_rfl) _ _ [.o, .o, .b (z_lssF hq0), .o, .o, .o, .o, .o, .ov (slcS_ok (T := 9) (s := (⟨#[48, 48, 48, 49, 48, 50, 48, 51, 48, 52, 48, 53, 48, 54, 48, 55, 48, 56, 48, 57, 49, 48, 49, 49, 49, 50, 49, 51, 49, 52, 49, 53, 49, 54, 49, 55, 49, 56, 49, 57, 50, 48, 50, 49, 50, 50, 50, 51, 50, 52, 50, 53, 50, 54, 50, 55, 50, 56, 50, 57, 51, 48, 51, 49, 51, 50, 51, 51, 51, 52, 51, 53, 51, 54, 51, 55, 51, 56, 51, 57, 52, 48, 52, 49, 52, 50, 52, 51, 52, 52, 52, 53, 52, 54, 52, 55, 52, 56, 52, 57, 53, 48, 53, 49, 53, 50, 53, 51, 53, 52, 53, 53, 53, 54, 53, 55, 53, 56, 53, 57, 54, 48, 54, 49, 54, 50, 54, 51, 54, 52, 54, 53, 54, 54, 54, 55, 54, 56, 54, 57, 55, 48, 55, 49, 55, 50, 55, 51, 55, 52, 55, 53, 55, 54, 55, 55, 55, 56, 55, 57, 56, 48, 56, 49, 56, 50, 56, 51, 56, 52, 56, 53, 56, 54, 56, 55, 56, 56, 56, 57, 57, 48, 57, 49, 57, 50, 57, 51, 57, 52, 57, 53, 57, 54, 57, 55, 57, 56, 57, 57]⟩ : ByteArray)) (x := (IntKind.i64.wrap (y0 * 2))) (y := (IntKind.i64.wrap ((IntKind.i64.wrap (y0 * 2)) + 2))) (by kernel_rfl) hq2 hq1), .o] [] (fun b => by kernel_rfl)
      · exact none_some e
    · exact none_some e
noncomputable def m_internal_strconv_FormatInt (y0 : Int) : Option (ByteArray) :=
  bif decide (0 ≤ y0) then
    (bif decide (y0 < 100) then
      ((m_internal_strconv_small y0).bind fun r0 =>
      some r0)
    else (none))
  else (none)
theorem ok_internal_strconv_FormatInt (e : m_internal_strconv_FormatInt y0 = some r) : ConG Tryd.prog S 30 #[.int .i64 (y0), .int .i64 (10)] (.string r) := by
  unfold m_internal_strconv_FormatInt at e
  replace e := cond_eq_or e
  rcases e with ⟨hq0, e⟩ | ⟨hq0, e⟩
  · replace e := cond_eq_or e
    rcases e with ⟨hq1, e⟩ | ⟨hq1, e⟩
    · replace e := bindO_eq e
      obtain ⟨r0, e_r0, e⟩ := e
      try dsimp only at e
      injection e with e; subst e; exact fn_conG hU (P := Tryd.prog) Tryd.func30 (fun xs w => by kernel_rfl) _ _ [.o, .o, .o, .o, .b (z_leqT hq0), .o, .o, .b (z_lssT hq1), .o, .o, .cg (ok_internal_strconv_small hU y0 r0 e_r0), .o] [] (fun b => by kernel_rfl)
    · exact none_some e
  · exact none_some e
noncomputable def m_internal_strconv_Itoa (y0 : Int) : Option (ByteArray) :=
  (m_internal_strconv_FormatInt y0).bind fun r0 =>
  some r0
theorem ok_internal_strconv_Itoa (e : m_internal_strconv_Itoa y0 = some r) : ConG Tryd.prog S 21 #[.int .i64 (y0)] (.string r) := by
  unfold m_internal_strconv_Itoa at e
  replace e := bindO_eq e
  obtain ⟨r0, e_r0, e⟩ := e
  try dsimp only at e
  injection e with e; subst e; exact fn_conG hU (P := Tryd.prog) Tryd.func21 (fun xs w => by kernel_rfl) _ _ [.o, .o, .cg (ok_internal_strconv_FormatInt hU y0 r0 e_r0), .o] [] (fun b => by kernel_rfl)
noncomputable def m_strconv_Itoa (y0 : Int) : Option (ByteArray) :=
  (m_internal_strconv_Itoa y0).bind fun r0 =>
  some r0
theorem ok_strconv_Itoa (e : m_strconv_Itoa y0 = some r) : ConG Tryd.prog S 14 #[.int .i64 (y0)] (.string r) := by
  unfold m_strconv_Itoa at e
  replace e := bindO_eq e
  obtain ⟨r0, e_r0, e⟩ := e
  try dsimp only at e
  injection e with e; subst e; exact fn_conG hU (P := Tryd.prog) Tryd.func14 (fun xs w => by kernel_rfl) _ _ [.o, .o, .cg (ok_internal_strconv_Itoa hU y0 r0 e_r0), .o] [] (fun b => by kernel_rfl)
inductive Sh_btf_memberAt_v2_L0 where
  | c0 (s0_0 : Int)
inductive Ex_btf_memberAt_v2_L0 where
  | e0 
  | e1 (c1_0 : ByteArray) (c1_1 : Int) (c1_2 : Int)
noncomputable def st_btf_memberAt_v2_L0 (n0 : Nat) (A0 : Nat → (Xs35 × (Nat × (Nat → Member)))) (n1 : Nat) (A1 : Nat → Member) (y2 : Int) : Sh_btf_memberAt_v2_L0 → Option (Sh_btf_memberAt_v2_L0 ⊕ Ex_btf_memberAt_v2_L0)
  | .c0 s0_0 =>
    bif decide (s0_0 < (n1 : Int)) then
      (bif inR s0_0 n1 then
        (bif decide ((zquo ((A1 (s0_0).toNat)).fBits 8) ≤ y2) then
          ((m_btf_sizeOf_v2_F 300 n0 A0 ((A1 (s0_0).toNat)).fType).bind fun rb0 =>
          bif decide (y2 < (IntKind.i64.wrap ((zquo ((A1 (s0_0).toNat)).fBits 8) + rb0))) then
            (some (.inr (.e1 ((A1 (s0_0).toNat)).fName ((A1 (s0_0).toNat)).fType ((A1 (s0_0).toNat)).fBits)))
          else (some (.inl (.c0 (IntKind.i64.wrap (s0_0 + 1))))))
        else (some (.inl (.c0 (IntKind.i64.wrap (s0_0 + 1))))))
      else (none))
    else (some (.inr (.e0 )))
noncomputable def bd_btf_memberAt_v2_L0 : Code := codeOf Tryd.f15 [1, 0, 1, 0, 0]
def fl_btf_memberAt_v2_L0 (a0 : Option Addr) (p0 : Nat) (q0 : Nat) (n0 : Nat) (k0 : Nat) (X0 : Nat → RoX) (A0 : Nat → (Xs35 × (Nat × (Nat → Member)))) (y1 : Xs35) (a1 : Option Addr) (p1 : Nat) (q1 : Nat) (n1 : Nat) (k1 : Nat) (A1 : Nat → Member) (y2 : Int) : Sh_btf_memberAt_v2_L0 → List L1 → List Value
  | .c0 s0_0, ls => [.slice a0 n0 (n0 + k0), .int .i64 (y2), .pointer (some ⟨(lget ls 1).n, 0, none⟩), .bool false, .slice a1 n1 (n1 + k1), .int .i64 ((n1 : Int)), .int .i64 (s0_0)]
def mf_btf_memberAt_v2_L0 : Sh_btf_memberAt_v2_L0 → List (Nat × Nat)
  | .c0 _ => [(1, 1), (1, 3), (2, 4), (3, 22)]
noncomputable def fr_btf_memberAt_v2_L0 (a0 : Option Addr) (p0 : Nat) (q0 : Nat) (n0 : Nat) (k0 : Nat) (X0 : Nat → RoX) (A0 : Nat → (Xs35 × (Nat × (Nat → Member)))) (y1 : Xs35) (a1 : Option Addr) (p1 : Nat) (q1 : Nat) (n1 : Nat) (k1 : Nat) (A1 : Nat → Member) (y2 : Int) (s : Sh_btf_memberAt_v2_L0) : List L1 → List Value := mrgF (mf_btf_memberAt_v2_L0 s) (fl_btf_memberAt_v2_L0 a0 p0 q0 n0 k0 X0 A0 y1 a1 p1 q1 n1 k1 A1 y2 s) 2
def Hs_btf_memberAt_v2_L0 (a0 : Option Addr) (p0 : Nat) (q0 : Nat) (n0 : Nat) (k0 : Nat) (X0 : Nat → RoX) (A0 : Nat → (Xs35 × (Nat × (Nat → Member)))) (y1 : Xs35) (a1 : Option Addr) (p1 : Nat) (q1 : Nat) (n1 : Nat) (k1 : Nat) (A1 : Nat → Member) (y2 : Int) : Sh_btf_memberAt_v2_L0 → List L1 → List Obj
  | .c0 s0_0, ls => [.cells #[.int .i64 (y1.fKind), .string y1.fName, .int .i64 (y1.fSize), .bool (y1.fSigned), .int .i64 (y1.fTo), .int .i64 (y1.fCount), .slice a1 n1 (n1 + k1)] 35, .cells #[.string (⟨#[]⟩ : ByteArray), .int .i64 (0), .int .i64 (0)] 40, unb]
def vl_btf_memberAt_v2_L0 (a0 : Option Addr) (p0 : Nat) (q0 : Nat) (n0 : Nat) (k0 : Nat) (X0 : Nat → RoX) (A0 : Nat → (Xs35 × (Nat × (Nat → Member)))) (y1 : Xs35) (a1 : Option Addr) (p1 : Nat) (q1 : Nat) (n1 : Nat) (k1 : Nat) (A1 : Nat → Member) (y2 : Int) : Ex_btf_memberAt_v2_L0 → List L1 → List Value
  | .e0 , ls => [.slice a0 n0 (n0 + k0), .int .i64 (y2), .pointer (some ⟨(lget ls 1).n, 0, none⟩), .bool false, .slice a1 n1 (n1 + k1), .int .i64 ((n1 : Int))]
  | .e1 c1_0 c1_1 c1_2, ls => [.slice a0 n0 (n0 + k0), .int .i64 (y2), .pointer (some ⟨(lget ls 1).n, 0, none⟩), .bool true, .slice a1 n1 (n1 + k1), .int .i64 ((n1 : Int))]
def mk_btf_memberAt_v2_L0 : Ex_btf_memberAt_v2_L0 → List (Nat × Nat)
  | .e0  => [(1, 1), (1, 3), (2, 4), (2, 23)]
  | .e1 _ _ _ => [(1, 1), (1, 3), (2, 4), (2, 23)]
noncomputable def vf_btf_memberAt_v2_L0 (a0 : Option Addr) (p0 : Nat) (q0 : Nat) (n0 : Nat) (k0 : Nat) (X0 : Nat → RoX) (A0 : Nat → (Xs35 × (Nat × (Nat → Member)))) (y1 : Xs35) (a1 : Option Addr) (p1 : Nat) (q1 : Nat) (n1 : Nat) (k1 : Nat) (A1 : Nat → Member) (y2 : Int) (r : Ex_btf_memberAt_v2_L0) : List L1 → List Value := mrgF (mk_btf_memberAt_v2_L0 r) (vl_btf_memberAt_v2_L0 a0 p0 q0 n0 k0 X0 A0 y1 a1 p1 q1 n1 k1 A1 y2 r) 2
def Hf_btf_memberAt_v2_L0 (a0 : Option Addr) (p0 : Nat) (q0 : Nat) (n0 : Nat) (k0 : Nat) (X0 : Nat → RoX) (A0 : Nat → (Xs35 × (Nat × (Nat → Member)))) (y1 : Xs35) (a1 : Option Addr) (p1 : Nat) (q1 : Nat) (n1 : Nat) (k1 : Nat) (A1 : Nat → Member) (y2 : Int) : Ex_btf_memberAt_v2_L0 → List L1 → List Obj
  | .e0 , ls => [.cells #[.int .i64 (y1.fKind), .string y1.fName, .int .i64 (y1.fSize), .bool (y1.fSigned), .int .i64 (y1.fTo), .int .i64 (y1.fCount), .slice a1 n1 (n1 + k1)] 35, .cells #[.string (⟨#[]⟩ : ByteArray), .int .i64 (0), .int .i64 (0)] 40, unb]
  | .e1 c1_0 c1_1 c1_2, ls => [.cells #[.int .i64 (y1.fKind), .string y1.fName, .int .i64 (y1.fSize), .bool (y1.fSigned), .int .i64 (y1.fTo), .int .i64 (y1.fCount), .slice a1 n1 (n1 + k1)] 35, .cells #[.string c1_0, .int .i64 (c1_1), .int .i64 (c1_2)] 40, unb]
def ex_btf_memberAt_v2_L0 : Ex_btf_memberAt_v2_L0 → Ex
  | .e0  => (.exit 0)
  | .e1 _ _ _ => .ret
end
section
variable {M : Nat → Prop} {B0 : Nat} {S : World → Prop} (hU : Up M B0 S) (a0 : Option Addr) (p0 : Nat) (q0 : Nat) (n0 : Nat) (k0 : Nat) (X0 : Nat → RoX) (A0 : Nat → (Xs35 × (Nat × (Nat → Member)))) (hR0 : RoS S h_Xs35 t_Xs35 7 c_Member 3 a0 p0 q0 n0 X0 (fun i => (A0 i).2) (fun i => (A0 i).1)) (y1 : Xs35) (a1 : Option Addr) (p1 : Nat) (q1 : Nat) (n1 : Nat) (k1 : Nat) (A1 : Nat → Member) (hR1 : Ro S c_Member 3 a1 p1 q1 n1 A1) (y2 : Int)
include hU a0 p0 q0 n0 k0 X0 A0 hR0 y1 a1 p1 q1 n1 k1 A1 hR1 y2
theorem go_btf_memberAt_v2_L0 (s : Sh_btf_memberAt_v2_L0) (r : Ex_btf_memberAt_v2_L0) (h : lpO (st_btf_memberAt_v2_L0 n0 A0 n1 A1 y2) s = some r) : GoesG Tryd.prog M B0 S (.loop bd_btf_memberAt_v2_L0) 3 (fr_btf_memberAt_v2_L0 a0 p0 q0 n0 k0 X0 A0 y1 a1 p1 q1 n1 k1 A1 y2 s) (Hs_btf_memberAt_v2_L0 a0 p0 q0 n0 k0 X0 A0 y1 a1 p1 q1 n1 k1 A1 y2 s) (ex_btf_memberAt_v2_L0 r) 2 (vf_btf_memberAt_v2_L0 a0 p0 q0 n0 k0 X0 A0 y1 a1 p1 q1 n1 k1 A1 y2 r) (Hf_btf_memberAt_v2_L0 a0 p0 q0 n0 k0 X0 A0 y1 a1 p1 q1 n1 k1 A1 y2 r) 3 :=
  goes_lpO (fun s q e => by
    cases s with
    | c0 s0_0 =>
      unfold st_btf_memberAt_v2_L0 at e
      dsimp only at e
      replace e := cond_eq_or e
      rcases e with ⟨hq0, e⟩ | ⟨hq0, e⟩
      · replace e := cond_eq_or e
        rcases e with ⟨hq1, e⟩ | ⟨hq1, e⟩
        · replace e := cond_eq_or e
          rcases e with ⟨hq2, e⟩ | ⟨hq2, e⟩
          · replace e := bindO_eq e
            obtain ⟨rb0, e_rb0, e⟩ := e
            try dsimp only at e
            replace e := cond_eq_or e
            rcases e with ⟨hq3, e⟩ | ⟨hq3, e⟩
            · cases e; exact ⟨ne_ret, goes_runM hU [.b (z_lssT hq0), .q (ixRo_ok (kd := .i64) (T := 33) (x := s0_0) (sz := 3) rfl (fun w => by kernel_rfl) hR1 hq1), .l (accRo hR1 c_Member_len (inR_nat hq1) 0 [.string ((A1 (s0_0).toNat)).fName, .int .i64 (((A1 (s0_0).toNat)).fType), .int .i64 (((A1 (s0_0).toNat)).fBits)] rfl), .o, .a 3, .o, .a 3, .ov (z_quo Tryd.prog 3 (.tmp 19) (.const (.int .i64 (8))) ((A1 (s0_0).toNat)).fBits 8 (by decide)), .o, .o, .o, .b (z_geqT hq2), .o, .o, .o, .o, .o, .a 3, .cg (ok_btf_sizeOf_v2_F 300 hU a0 p0 q0 n0 k0 X0 A0 hR0 ((A1 (s0_0).toNat)).fType rb0 e_rb0), .o, .b (z_lssT hq3), .o, .a 3, .a 1, .o] [0, 1] (fun b => rfl) (by decide) rfl rfl (fun b => by kernel_rfl)⟩
            · cases e; exact goes_runM hU [.b (z_lssT hq0), .q (ixRo_ok (kd := .i64) (T := 33) (x := s0_0) (sz := 3) rfl (fun w => by kernel_rfl) hR1 hq1), .l (accRo hR1 c_Member_len (inR_nat hq1) 0 [.string ((A1 (s0_0).toNat)).fName, .int .i64 (((A1 (s0_0).toNat)).fType), .int .i64 (((A1 (s0_0).toNat)).fBits)] rfl), .o, .a 3, .o, .a 3, .ov (z_quo Tryd.prog 3 (.tmp 19) (.const (.int .i64 (8))) ((A1 (s0_0).toNat)).fBits 8 (by decide)), .o, .o, .o, .b (z_geqT hq2), .o, .o, .o, .o, .o, .a 3, .cg (ok_btf_sizeOf_v2_F 300 hU a0 p0 q0 n0 k0 X0 A0 hR0 ((A1 (s0_0).toNat)).fType rb0 e_rb0), .o, .b (z_lssF hq3), .o, .o, .o] [0, 1] (fun b => rfl) (by decide) rfl rfl (fun b => by kernel_rfl)
          · cases e; exact goes_runM hU [.b (z_lssT hq0), .q (ixRo_ok (kd := .i64) (T := 33) (x := s0_0) (sz := 3) rfl (fun w => by kernel_rfl) hR1 hq1), .l (accRo hR1 c_Member_len (inR_nat hq1) 0 [.string ((A1 (s0_0).toNat)).fName, .int .i64 (((A1 (s0_0).toNat)).fType), .int .i64 (((A1 (s0_0).toNat)).fBits)] rfl), .o, .a 3, .o, .a 3, .ov (z_quo Tryd.prog 3 (.tmp 19) (.const (.int .i64 (8))) ((A1 (s0_0).toNat)).fBits 8 (by decide)), .o, .o, .o, .b (z_geqF hq2), .o, .o, .o, .o] [0, 1] (fun b => rfl) (by decide) rfl rfl (fun b => by kernel_rfl)
        · exact none_some e
      · cases e; exact ⟨ne_exit 0, goes_runM hU [.b (z_lssF hq0)] [0, 1] (fun b => rfl) (by decide) rfl rfl (fun b => by kernel_rfl)⟩) s r h
noncomputable def t0_btf_memberAt_v2_L0_0 (a0 : Option Addr) (p0 : Nat) (q0 : Nat) (n0 : Nat) (k0 : Nat) (X0 : Nat → RoX) (A0 : Nat → (Xs35 × (Nat × (Nat → Member)))) (y1 : Xs35) (a1 : Option Addr) (p1 : Nat) (q1 : Nat) (n1 : Nat) (k1 : Nat) (A1 : Nat → Member) (y2 : Int) (s0_0 : Int) (ls : List L1) : List Value := List.append [.slice a0 n0 (n0 + k0), .agg #[.int .i64 (y1.fKind), .string y1.fName, .int .i64 (y1.fSize), .bool (y1.fSigned), .int .i64 (y1.fTo), .int .i64 (y1.fCount), .slice a1 n1 (n1 + k1)], .int .i64 (y2), undef, .pointer (some ⟨(lget ls 0).n, 0, none⟩), undef, .pointer (some ⟨(lget ls 1).n, 0, none⟩), .bool false, undef, undef, undef, .pointer (some ⟨(lget ls 0).n, 6, none⟩), .slice a1 n1 (n1 + k1), .int .i64 ((n1 : Int)), .int .i64 (s0_0)] (und 22)
def pre_btf_memberAt_v2_L0_0 (a0 : Option Addr) (p0 : Nat) (q0 : Nat) (n0 : Nat) (k0 : Nat) (X0 : Nat → RoX) (A0 : Nat → (Xs35 × (Nat × (Nat → Member)))) (y1 : Xs35) (a1 : Option Addr) (p1 : Nat) (q1 : Nat) (n1 : Nat) (k1 : Nat) (A1 : Nat → Member) (y2 : Int) (s0_0 : Int) (ls : List L1) : List Obj := [.cells #[.int .i64 (y1.fKind), .string y1.fName, .int .i64 (y1.fSize), .bool (y1.fSigned), .int .i64 (y1.fTo), .int .i64 (y1.fCount), .slice a1 n1 (n1 + k1)] 35, .cells #[.string (⟨#[]⟩ : ByteArray), .int .i64 (0), .int .i64 (0)] 40]
theorem sp0_btf_memberAt_v2_L0_0_ok (s0_0 : Int) (h : lpO (st_btf_memberAt_v2_L0 n0 A0 n1 A1 y2) (.c0 s0_0) = some (.e0 )) : SpcG Tryd.prog M B0 S ⟨fun ls => .code (.loop bd_btf_memberAt_v2_L0) (t0_btf_memberAt_v2_L0_0 a0 p0 q0 n0 k0 X0 A0 y1 a1 p1 q1 n1 k1 A1 y2 s0_0 ls), pre_btf_memberAt_v2_L0_0 a0 p0 q0 n0 k0 X0 A0 y1 a1 p1 q1 n1 k1 A1 y2 s0_0, 1, (.exit 0), fun ls => vf_btf_memberAt_v2_L0 a0 p0 q0 n0 k0 X0 A0 y1 a1 p1 q1 n1 k1 A1 y2 (.e0 ) (ls.take 2 ++ ls.drop 2), fun ls => (Hf_btf_memberAt_v2_L0 a0 p0 q0 n0 k0 X0 A0 y1 a1 p1 q1 n1 k1 A1 y2 (.e0 ) (ls.take 2 ++ ls.drop 2)).take 2 ++ List.replicate 0 unb, fun ls => (Hf_btf_memberAt_v2_L0 a0 p0 q0 n0 k0 X0 A0 y1 a1 p1 q1 n1 k1 A1 y2 (.e0 ) (ls.take 2 ++ ls.drop 2)).drop 2⟩ :=
  spc_of_goesM hU 0 (k0 := 2) (go_btf_memberAt_v2_L0 hU a0 p0 q0 n0 k0 X0 A0 hR0 y1 a1 p1 q1 n1 k1 A1 hR1 y2 _ _ h) (t0_btf_memberAt_v2_L0_0 a0 p0 q0 n0 k0 X0 A0 y1 a1 p1 q1 n1 k1 A1 y2 s0_0) (pre_btf_memberAt_v2_L0_0 a0 p0 q0 n0 k0 X0 A0 y1 a1 p1 q1 n1 k1 A1 y2 s0_0) (fun _ => rfl) (fun ls h => by match ls, h with | [l0, l1], _ => exact ⟨by kernel_rfl, by kernel_rfl⟩) (fun ls h => by match ls, h with | [l0, l1], _ => rfl) (by decide) (by decide) (fun ls => rfl)
theorem sp1_btf_memberAt_v2_L0_0_ok (s0_0 : Int) (c1_0 : ByteArray) (c1_1 : Int) (c1_2 : Int) (h : lpO (st_btf_memberAt_v2_L0 n0 A0 n1 A1 y2) (.c0 s0_0) = some (.e1 c1_0 c1_1 c1_2)) : SpcG Tryd.prog M B0 S ⟨fun ls => .code (.loop bd_btf_memberAt_v2_L0) (t0_btf_memberAt_v2_L0_0 a0 p0 q0 n0 k0 X0 A0 y1 a1 p1 q1 n1 k1 A1 y2 s0_0 ls), pre_btf_memberAt_v2_L0_0 a0 p0 q0 n0 k0 X0 A0 y1 a1 p1 q1 n1 k1 A1 y2 s0_0, 1, .ret, fun ls => vf_btf_memberAt_v2_L0 a0 p0 q0 n0 k0 X0 A0 y1 a1 p1 q1 n1 k1 A1 y2 (.e1 c1_0 c1_1 c1_2) (ls.take 2 ++ ls.drop 2), fun ls => (Hf_btf_memberAt_v2_L0 a0 p0 q0 n0 k0 X0 A0 y1 a1 p1 q1 n1 k1 A1 y2 (.e1 c1_0 c1_1 c1_2) (ls.take 2 ++ ls.drop 2)).take 2 ++ List.replicate 0 unb, fun ls => (Hf_btf_memberAt_v2_L0 a0 p0 q0 n0 k0 X0 A0 y1 a1 p1 q1 n1 k1 A1 y2 (.e1 c1_0 c1_1 c1_2) (ls.take 2 ++ ls.drop 2)).drop 2⟩ :=
  spc_of_goesM hU 0 (k0 := 2) (go_btf_memberAt_v2_L0 hU a0 p0 q0 n0 k0 X0 A0 hR0 y1 a1 p1 q1 n1 k1 A1 hR1 y2 _ _ h) (t0_btf_memberAt_v2_L0_0 a0 p0 q0 n0 k0 X0 A0 y1 a1 p1 q1 n1 k1 A1 y2 s0_0) (pre_btf_memberAt_v2_L0_0 a0 p0 q0 n0 k0 X0 A0 y1 a1 p1 q1 n1 k1 A1 y2 s0_0) (fun _ => rfl) (fun ls h => by match ls, h with | [l0, l1], _ => exact ⟨by kernel_rfl, by kernel_rfl⟩) (fun ls h => by match ls, h with | [l0, l1], _ => rfl) (by decide) (by decide) (fun ls => rfl)
noncomputable def m_btf_memberAt_v2 (n0 : Nat) (A0 : Nat → (Xs35 × (Nat × (Nat → Member)))) (y1 : Xs35) (n1 : Nat) (A1 : Nat → Member) (y2 : Int) : Option ((Member) × (Bool)) :=
  (lpO (st_btf_memberAt_v2_L0 n0 A0 n1 A1 y2) (.c0 0)).bind fun g0 => match g0 with
  | .e0  => (some ((⟨(⟨#[]⟩ : ByteArray), 0, 0⟩ : Member), false))
  | .e1 g0_0 g0_1 g0_2 => (some ((⟨g0_0, g0_1, g0_2⟩ : Member), true))
theorem ok_btf_memberAt_v2 (r : (Member) × (Bool)) (e : m_btf_memberAt_v2 n0 A0 y1 n1 A1 y2 = some r) : ConG Tryd.prog S 15 #[.slice a0 n0 (n0 + k0), .agg #[.int .i64 (y1.fKind), .string y1.fName, .int .i64 (y1.fSize), .bool (y1.fSigned), .int .i64 (y1.fTo), .int .i64 (y1.fCount), .slice a1 n1 (n1 + k1)], .int .i64 (y2)] (vt2 r) := by
  unfold m_btf_memberAt_v2 at e
  replace e := bindO_eq e
  obtain ⟨g0, e_g0, e⟩ := e
  rcases g0 with _ | ⟨g0_0, g0_1, g0_2⟩
  · try dsimp only at e
    injection e with e; subst e; exact fn_conG hU (P := Tryd.prog) Tryd.func15 (fun xs w => by kernel_rfl) _ _ [.o, .o, .o, .o, .a 0, .o, .o, .cp, .cx (sp0_btf_memberAt_v2_L0_0_ok hU a0 p0 q0 n0 k0 X0 A0 hR0 y1 a1 p1 q1 n1 k1 A1 hR1 y2 0  e_g0) [0, 1], .o, .a 1, .o] [1, 1, 1] (fun b => by kernel_rfl)
  · try dsimp only at e
    injection e with e; subst e; exact fn_conG hU (P := Tryd.prog) Tryd.func15 (fun xs w => by kernel_rfl) _ _ [.o, .o, .o, .o, .a 0, .o, .o, .cp, .cx (sp1_btf_memberAt_v2_L0_0_ok hU a0 p0 q0 n0 k0 X0 A0 hR0 y1 a1 p1 q1 n1 k1 A1 hR1 y2 0 g0_0 g0_1 g0_2 e_g0) [0, 1]] [1, 1, 1] (fun b => by kernel_rfl)
inductive Sh_btf_wayTo_v2_L0 where
  | c0 (s0_0 : Int) (s0_1 : Int) (s0_2 : ByteArray)
inductive Ex_btf_wayTo_v2_L0 where
  | e0 (c0_0 : ByteArray) (c0_1 : Bool)
noncomputable def st_btf_wayTo_v2_L0 (n0 : Nat) (A0 : Nat → (Xs35 × (Nat × (Nat → Member)))) (y3 : Int) : Sh_btf_wayTo_v2_L0 → Option (Sh_btf_wayTo_v2_L0 ⊕ Ex_btf_wayTo_v2_L0)
  | .c0 s0_0 s0_1 s0_2 =>
    bif inR (IntKind.i64.wrap (s0_0 - 1)) n0 then
      (bif ((A0 ((IntKind.i64.wrap (s0_0 - 1))).toNat).1).fKind == 5 then
        (some (.inl (.c0 ((A0 ((IntKind.i64.wrap (s0_0 - 1))).toNat).1).fTo s0_1 s0_2)))
      else (bif ((A0 ((IntKind.i64.wrap (s0_0 - 1))).toNat).1).fKind == 3 then
        ((m_btf_sizeOf_v2_F 300 n0 A0 ((A0 ((IntKind.i64.wrap (s0_0 - 1))).toNat).1).fTo).bind fun rb0 =>
        bif rb0 == 0 then
          (none)
        else ((m_strconv_Itoa (zquo s0_1 rb0)).bind fun rb1 =>
        bif decide ((⟨#[91]⟩ : ByteArray).size + rb1.size ≤ 9223372036854775807) then
          (bif decide (((⟨#[91]⟩ : ByteArray) ++ rb1).size + (⟨#[93]⟩ : ByteArray).size ≤ 9223372036854775807) then
            (bif decide (s0_2.size + (((⟨#[91]⟩ : ByteArray) ++ rb1) ++ (⟨#[93]⟩ : ByteArray)).size ≤ 9223372036854775807) then
              (some (.inl (.c0 ((A0 ((IntKind.i64.wrap (s0_0 - 1))).toNat).1).fTo (zrem s0_1 rb0) (s0_2 ++ (((⟨#[91]⟩ : ByteArray) ++ rb1) ++ (⟨#[93]⟩ : ByteArray))))))
            else (none))
          else (none))
        else (none)))
      else (bif ((A0 ((IntKind.i64.wrap (s0_0 - 1))).toNat).1).fKind == 4 then
        ((m_btf_memberAt_v2 n0 A0 ((A0 ((IntKind.i64.wrap (s0_0 - 1))).toNat).1) (A0 ((IntKind.i64.wrap (s0_0 - 1))).toNat).2.1 (A0 ((IntKind.i64.wrap (s0_0 - 1))).toNat).2.2 s0_1).bind fun rb0 =>
        bif rb0.2 then
          (bif decide ((⟨#[46]⟩ : ByteArray).size + rb0.1.fName.size ≤ 9223372036854775807) then
            (bif decide (s0_2.size + ((⟨#[46]⟩ : ByteArray) ++ rb0.1.fName).size ≤ 9223372036854775807) then
              (some (.inl (.c0 rb0.1.fType (IntKind.i64.wrap (s0_1 - (zquo rb0.1.fBits 8))) (s0_2 ++ ((⟨#[46]⟩ : ByteArray) ++ rb0.1.fName)))))
            else (none))
          else (none))
        else (some (.inr (.e0 (⟨#[]⟩ : ByteArray) false))))
      else ((m_btf_sizeOf_v2_F 300 n0 A0 s0_0).bind fun rb0 =>
      some (.inr (.e0 s0_2 (decide ((IntKind.i64.wrap (s0_1 + y3)) ≤ rb0))))))))
    else (none)
noncomputable def bd_btf_wayTo_v2_L0 : Code := codeOf Tryd.f11 [1, 1, 0, 0]
def fl_btf_wayTo_v2_L0 (a0 : Option Addr) (p0 : Nat) (q0 : Nat) (n0 : Nat) (k0 : Nat) (X0 : Nat → RoX) (A0 : Nat → (Xs35 × (Nat × (Nat → Member)))) (y1 : Int) (y2 : Int) (y3 : Int) : Sh_btf_wayTo_v2_L0 → List L1 → List Value
  | .c0 s0_0 s0_1 s0_2, ls => [.slice a0 n0 (n0 + k0), .int .i64 (s0_0), .int .i64 (s0_1), .int .i64 (y3), .string (⟨#[]⟩ : ByteArray), .bool false, .string s0_2]
def mf_btf_wayTo_v2_L0 : Sh_btf_wayTo_v2_L0 → List (Nat × Nat)
  | .c0 _ _ _ => [(4, 4), (3, 65)]
noncomputable def fr_btf_wayTo_v2_L0 (a0 : Option Addr) (p0 : Nat) (q0 : Nat) (n0 : Nat) (k0 : Nat) (X0 : Nat → RoX) (A0 : Nat → (Xs35 × (Nat × (Nat → Member)))) (y1 : Int) (y2 : Int) (y3 : Int) (s : Sh_btf_wayTo_v2_L0) : List L1 → List Value := mrgF (mf_btf_wayTo_v2_L0 s) (fl_btf_wayTo_v2_L0 a0 p0 q0 n0 k0 X0 A0 y1 y2 y3 s) 0
def Hs_btf_wayTo_v2_L0 (a0 : Option Addr) (p0 : Nat) (q0 : Nat) (n0 : Nat) (k0 : Nat) (X0 : Nat → RoX) (A0 : Nat → (Xs35 × (Nat × (Nat → Member)))) (y1 : Int) (y2 : Int) (y3 : Int) : Sh_btf_wayTo_v2_L0 → List L1 → List Obj
  | .c0 s0_0 s0_1 s0_2, ls => [unb]
def vl_btf_wayTo_v2_L0 (a0 : Option Addr) (p0 : Nat) (q0 : Nat) (n0 : Nat) (k0 : Nat) (X0 : Nat → RoX) (A0 : Nat → (Xs35 × (Nat × (Nat → Member)))) (y1 : Int) (y2 : Int) (y3 : Int) : Ex_btf_wayTo_v2_L0 → List L1 → List Value
  | .e0 c0_0 c0_1, ls => [.slice a0 n0 (n0 + k0), .int .i64 (y3), .string c0_0, .bool (c0_1)]
def mk_btf_wayTo_v2_L0 : Ex_btf_wayTo_v2_L0 → List (Nat × Nat)
  | .e0 _ _ => [(1, 2), (1, 4), (2, 66)]
noncomputable def vf_btf_wayTo_v2_L0 (a0 : Option Addr) (p0 : Nat) (q0 : Nat) (n0 : Nat) (k0 : Nat) (X0 : Nat → RoX) (A0 : Nat → (Xs35 × (Nat × (Nat → Member)))) (y1 : Int) (y2 : Int) (y3 : Int) (r : Ex_btf_wayTo_v2_L0) : List L1 → List Value := mrgF (mk_btf_wayTo_v2_L0 r) (vl_btf_wayTo_v2_L0 a0 p0 q0 n0 k0 X0 A0 y1 y2 y3 r) 0
def Hf_btf_wayTo_v2_L0 (a0 : Option Addr) (p0 : Nat) (q0 : Nat) (n0 : Nat) (k0 : Nat) (X0 : Nat → RoX) (A0 : Nat → (Xs35 × (Nat × (Nat → Member)))) (y1 : Int) (y2 : Int) (y3 : Int) : Ex_btf_wayTo_v2_L0 → List L1 → List Obj
  | .e0 c0_0 c0_1, ls => [unb]
def ex_btf_wayTo_v2_L0 : Ex_btf_wayTo_v2_L0 → Ex
  | .e0 _ _ => .ret
end
section
variable {M : Nat → Prop} {B0 : Nat} {S : World → Prop} (hU : Up M B0 S) (a0 : Option Addr) (p0 : Nat) (q0 : Nat) (n0 : Nat) (k0 : Nat) (X0 : Nat → RoX) (A0 : Nat → (Xs35 × (Nat × (Nat → Member)))) (hR0 : RoS S h_Xs35 t_Xs35 7 c_Member 3 a0 p0 q0 n0 X0 (fun i => (A0 i).2) (fun i => (A0 i).1)) (y1 : Int) (y2 : Int) (y3 : Int)
include hU a0 p0 q0 n0 k0 X0 A0 hR0 y1 y2 y3
theorem go_btf_wayTo_v2_L0 (s : Sh_btf_wayTo_v2_L0) (r : Ex_btf_wayTo_v2_L0) (h : lpO (st_btf_wayTo_v2_L0 n0 A0 y3) s = some r) : GoesG Tryd.prog M B0 S (.loop bd_btf_wayTo_v2_L0) 1 (fr_btf_wayTo_v2_L0 a0 p0 q0 n0 k0 X0 A0 y1 y2 y3 s) (Hs_btf_wayTo_v2_L0 a0 p0 q0 n0 k0 X0 A0 y1 y2 y3 s) (ex_btf_wayTo_v2_L0 r) 0 (vf_btf_wayTo_v2_L0 a0 p0 q0 n0 k0 X0 A0 y1 y2 y3 r) (Hf_btf_wayTo_v2_L0 a0 p0 q0 n0 k0 X0 A0 y1 y2 y3 r) 1 :=
  goes_lpO (fun s q e => by
    cases s with
    | c0 s0_0 s0_1 s0_2 =>
      unfold st_btf_wayTo_v2_L0 at e
      dsimp only at e
      replace e := cond_eq_or e
      rcases e with ⟨hq0, e⟩ | ⟨hq0, e⟩
      · replace e := cond_eq_or e
        rcases e with ⟨hq1, e⟩ | ⟨hq1, e⟩
        · cases e; exact goes_runM hU [.o, .o, .o, .q (ixRo_ok (kd := .i64) (T := 22) (x := (IntKind.i64.wrap (s0_0 - 1))) (sz := 7) rfl (fun w => by kernel_rfl) (RoS.row hR0) hq0), .l (accRo (RoS.row hR0) (rxS_len z_Xs35 X0 (fun i => (A0 i).2) (fun i => (A0 i).1)) (inR_nat hq0) 0 [.int .i64 (((A0 ((IntKind.i64.wrap (s0_0 - 1))).toNat).1).fKind), .string ((A0 ((IntKind.i64.wrap (s0_0 - 1))).toNat).1).fName, .int .i64 (((A0 ((IntKind.i64.wrap (s0_0 - 1))).toNat).1).fSize), .bool (((A0 ((IntKind.i64.wrap (s0_0 - 1))).toNat).1).fSigned), .int .i64 (((A0 ((IntKind.i64.wrap (s0_0 - 1))).toNat).1).fTo), .int .i64 (((A0 ((IntKind.i64.wrap (s0_0 - 1))).toNat).1).fCount), .slice (X0 ((IntKind.i64.wrap (s0_0 - 1))).toNat).a (A0 ((IntKind.i64.wrap (s0_0 - 1))).toNat).2.1 ((A0 ((IntKind.i64.wrap (s0_0 - 1))).toNat).2.1 + (X0 ((IntKind.i64.wrap (s0_0 - 1))).toNat).c)] rfl), .o, .a 1, .o, .a 1, .b (z_eqlT hq1), .o, .o, .a 1, .o] [] (fun b => rfl) (by decide) rfl rfl (fun b => by kernel_rfl)
        · replace e := cond_eq_or e
          rcases e with ⟨hq2, e⟩ | ⟨hq2, e⟩
          · replace e := bindO_eq e
            obtain ⟨rb0, e_rb0, e⟩ := e
            try dsimp only at e
            replace e := cond_eq_or e
            rcases e with ⟨hq3, e⟩ | ⟨hq3, e⟩
            · exact none_some e
            · replace e := bindO_eq e
              obtain ⟨rb1, e_rb1, e⟩ := e
              try dsimp only at e
              replace e := cond_eq_or e
              rcases e with ⟨hq4, e⟩ | ⟨hq4, e⟩
              · replace e := cond_eq_or e
                rcases e with ⟨hq5, e⟩ | ⟨hq5, e⟩
                · replace e := cond_eq_or e
                  rcases e with ⟨hq6, e⟩ | ⟨hq6, e⟩
                  · cases e; exact goes_runM hU [.o, .o, .o, .q (ixRo_ok (kd := .i64) (T := 22) (x := (IntKind.i64.wrap (s0_0 - 1))) (sz := 7) rfl (fun w => by kernel_rfl) (RoS.row hR0) hq0), .l (accRo (RoS.row hR0) (rxS_len z_Xs35 X0 (fun i => (A0 i).2) (fun i => (A0 i).1)) (inR_nat hq0) 0 [.int .i64 (((A0 ((IntKind.i64.wrap (s0_0 - 1))).toNat).1).fKind), .string ((A0 ((IntKind.i64.wrap (s0_0 - 1))).toNat).1).fName, .int .i64 (((A0 ((IntKind.i64.wrap (s0_0 - 1))).toNat).1).fSize), .bool (((A0 ((IntKind.i64.wrap (s0_0 - 1))).toNat).1).fSigned), .int .i64 (((A0 ((IntKind.i64.wrap (s0_0 - 1))).toNat).1).fTo), .int .i64 (((A0 ((IntKind.i64.wrap (s0_0 - 1))).toNat).1).fCount), .slice (X0 ((IntKind.i64.wrap (s0_0 - 1))).toNat).a (A0 ((IntKind.i64.wrap (s0_0 - 1))).toNat).2.1 ((A0 ((IntKind.i64.wrap (s0_0 - 1))).toNat).2.1 + (X0 ((IntKind.i64.wrap (s0_0 - 1))).toNat).c)] rfl), .o, .a 1, .o, .a 1, .b (z_eqlF hq1), .o, .b (z_eqlT hq2), .o, .o, .o, .a 1, .cg (ok_btf_sizeOf_v2_F 300 hU a0 p0 q0 n0 k0 X0 A0 hR0 ((A0 ((IntKind.i64.wrap (s0_0 - 1))).toNat).1).fTo rb0 e_rb0), .o, .o, .o, .o, .ov (z_quo Tryd.prog 3 (.tmp 41) (.tmp 42) s0_1 rb0 (z_nz hq3)), .cg (ok_strconv_Itoa hU (zquo s0_1 rb0) rb1 e_rb1), .ov (catS_ok 9 (⟨#[91]⟩ : ByteArray) rb1 (.const (.string (⟨#[91]⟩ : ByteArray))) (.tmp 44) (by kernel_rfl) hq4), .ov (catS_ok 9 ((⟨#[91]⟩ : ByteArray) ++ rb1) (⟨#[93]⟩ : ByteArray) (.tmp 45) (.const (.string (⟨#[93]⟩ : ByteArray))) (by kernel_rfl) hq5), .ov (catS_ok 9 s0_2 (((⟨#[91]⟩ : ByteArray) ++ rb1) ++ (⟨#[93]⟩ : ByteArray)) (.tmp 40) (.tmp 46) (by kernel_rfl) hq6), .o, .r [0, 1, 2, 3, 4, 5, 6] [] [], .o, .a 1, .o, .o, .ov (z_rem Tryd.prog 3 (.tmp 50) (.tmp 51) s0_1 rb0 (z_nz hq3)), .o, .o] [] (fun b => rfl) (by decide) rfl rfl (fun b => by kernel_rfl)
                  · exact none_some e
                · exact none_some e
              · exact none_some e
          · replace e := cond_eq_or e
            rcases e with ⟨hq3, e⟩ | ⟨hq3, e⟩
            · replace e := bindO_eq e
              obtain ⟨rb0, e_rb0, e⟩ := e
              try dsimp only at e
              replace e := cond_eq_or e
              rcases e with ⟨hq4, e⟩ | ⟨hq4, e⟩
              · replace e := cond_eq_or e
                rcases e with ⟨hq5, e⟩ | ⟨hq5, e⟩
                · replace e := cond_eq_or e
                  rcases e with ⟨hq6, e⟩ | ⟨hq6, e⟩
                  · cases e; exact goes_runM hU [.o, .o, .o, .q (ixRo_ok (kd := .i64) (T := 22) (x := (IntKind.i64.wrap (s0_0 - 1))) (sz := 7) rfl (fun w => by kernel_rfl) (RoS.row hR0) hq0), .l (accRo (RoS.row hR0) (rxS_len z_Xs35 X0 (fun i => (A0 i).2) (fun i => (A0 i).1)) (inR_nat hq0) 0 [.int .i64 (((A0 ((IntKind.i64.wrap (s0_0 - 1))).toNat).1).fKind), .string ((A0 ((IntKind.i64.wrap (s0_0 - 1))).toNat).1).fName, .int .i64 (((A0 ((IntKind.i64.wrap (s0_0 - 1))).toNat).1).fSize), .bool (((A0 ((IntKind.i64.wrap (s0_0 - 1))).toNat).1).fSigned), .int .i64 (((A0 ((IntKind.i64.wrap (s0_0 - 1))).toNat).1).fTo), .int .i64 (((A0 ((IntKind.i64.wrap (s0_0 - 1))).toNat).1).fCount), .slice (X0 ((IntKind.i64.wrap (s0_0 - 1))).toNat).a (A0 ((IntKind.i64.wrap (s0_0 - 1))).toNat).2.1 ((A0 ((IntKind.i64.wrap (s0_0 - 1))).toNat).2.1 + (X0 ((IntKind.i64.wrap (s0_0 - 1))).toNat).c)] rfl), .o, .a 1, .o, .a 1, .b (z_eqlF hq1), .o, .b (z_eqlF hq2), .o, .b (z_eqlT hq3), .o, .o, .a 1, .o, .cg (ok_btf_memberAt_v2 hU a0 p0 q0 n0 k0 X0 A0 hR0 ((A0 ((IntKind.i64.wrap (s0_0 - 1))).toNat).1) (X0 ((IntKind.i64.wrap (s0_0 - 1))).toNat).a (X0 ((IntKind.i64.wrap (s0_0 - 1))).toNat).p (X0 ((IntKind.i64.wrap (s0_0 - 1))).toNat).q (A0 ((IntKind.i64.wrap (s0_0 - 1))).toNat).2.1 (X0 ((IntKind.i64.wrap (s0_0 - 1))).toNat).c (A0 ((IntKind.i64.wrap (s0_0 - 1))).toNat).2.2 (RoS.els hR0 ((IntKind.i64.wrap (s0_0 - 1))).toNat (inR_nat hq0)) s0_1 rb0 e_rb0), .o, .o, .b hq4, .o, .a 2, .o, .o, .o, .o, .o, .a 2, .ov (catS_ok 9 (⟨#[46]⟩ : ByteArray) rb0.1.fName (.const (.string (⟨#[46]⟩ : ByteArray))) (.tmp 66) (by kernel_rfl) hq5), .ov (catS_ok 9 s0_2 ((⟨#[46]⟩ : ByteArray) ++ rb0.1.fName) (.tmp 64) (.tmp 67) (by kernel_rfl) hq6), .o, .r [0, 1, 2, 3, 4, 5, 6, 7, 8] [] [], .o, .a 2, .o, .o, .a 2, .ov (z_quo Tryd.prog 3 (.tmp 73) (.const (.int .i64 (8))) rb0.1.fBits 8 (by decide)), .o, .o, .o] [] (fun b => rfl) (by decide) rfl rfl (fun b => by kernel_rfl)
                  · exact none_some e
                · exact none_some e
              · cases e; exact ⟨ne_ret, goes_runM hU [.o, .o, .o, .q (ixRo_ok (kd := .i64) (T := 22) (x := (IntKind.i64.wrap (s0_0 - 1))) (sz := 7) rfl (fun w => by kernel_rfl) (RoS.row hR0) hq0), .l (accRo (RoS.row hR0) (rxS_len z_Xs35 X0 (fun i => (A0 i).2) (fun i => (A0 i).1)) (inR_nat hq0) 0 [.int .i64 (((A0 ((IntKind.i64.wrap (s0_0 - 1))).toNat).1).fKind), .string ((A0 ((IntKind.i64.wrap (s0_0 - 1))).toNat).1).fName, .int .i64 (((A0 ((IntKind.i64.wrap (s0_0 - 1))).toNat).1).fSize), .bool (((A0 ((IntKind.i64.wrap (s0_0 - 1))).toNat).1).fSigned), .int .i64 (((A0 ((IntKind.i64.wrap (s0_0 - 1))).toNat).1).fTo), .int .i64 (((A0 ((IntKind.i64.wrap (s0_0 - 1))).toNat).1).fCount), .slice (X0 ((IntKind.i64.wrap (s0_0 - 1))).toNat).a (A0 ((IntKind.i64.wrap (s0_0 - 1))).toNat).2.1 ((A0 ((IntKind.i64.wrap (s0_0 - 1))).toNat).2.1 + (X0 ((IntKind.i64.wrap (s0_0 - 1))).toNat).c)] rfl), .o, .a 1, .o, .a 1, .b (z_eqlF hq1), .o, .b (z_eqlF hq2), .o, .b (z_eqlT hq3), .o, .o, .a 1, .o, .cg (ok_btf_memberAt_v2 hU a0 p0 q0 n0 k0 X0 A0 hR0 ((A0 ((IntKind.i64.wrap (s0_0 - 1))).toNat).1) (X0 ((IntKind.i64.wrap (s0_0 - 1))).toNat).a (X0 ((IntKind.i64.wrap (s0_0 - 1))).toNat).p (X0 ((IntKind.i64.wrap (s0_0 - 1))).toNat).q (A0 ((IntKind.i64.wrap (s0_0 - 1))).toNat).2.1 (X0 ((IntKind.i64.wrap (s0_0 - 1))).toNat).c (A0 ((IntKind.i64.wrap (s0_0 - 1))).toNat).2.2 (RoS.els hR0 ((IntKind.i64.wrap (s0_0 - 1))).toNat (inR_nat hq0)) s0_1 rb0 e_rb0), .o, .o, .b hq4, .o, .a 2, .o, .o, .o, .o, .o] [] (fun b => rfl) (by decide) rfl rfl (fun b => by kernel_rfl)⟩
            · replace e := bindO_eq e
              obtain ⟨rb0, e_rb0, e⟩ := e
              try dsimp only at e
              cases e; exact ⟨ne_ret, goes_runM hU [.o, .o, .o, .q (ixRo_ok (kd := .i64) (T := 22) (x := (IntKind.i64.wrap (s0_0 - 1))) (sz := 7) rfl (fun w => by kernel_rfl) (RoS.row hR0) hq0), .l (accRo (RoS.row hR0) (rxS_len z_Xs35 X0 (fun i => (A0 i).2) (fun i => (A0 i).1)) (inR_nat hq0) 0 [.int .i64 (((A0 ((IntKind.i64.wrap (s0_0 - 1))).toNat).1).fKind), .string ((A0 ((IntKind.i64.wrap (s0_0 - 1))).toNat).1).fName, .int .i64 (((A0 ((IntKind.i64.wrap (s0_0 - 1))).toNat).1).fSize), .bool (((A0 ((IntKind.i64.wrap (s0_0 - 1))).toNat).1).fSigned), .int .i64 (((A0 ((IntKind.i64.wrap (s0_0 - 1))).toNat).1).fTo), .int .i64 (((A0 ((IntKind.i64.wrap (s0_0 - 1))).toNat).1).fCount), .slice (X0 ((IntKind.i64.wrap (s0_0 - 1))).toNat).a (A0 ((IntKind.i64.wrap (s0_0 - 1))).toNat).2.1 ((A0 ((IntKind.i64.wrap (s0_0 - 1))).toNat).2.1 + (X0 ((IntKind.i64.wrap (s0_0 - 1))).toNat).c)] rfl), .o, .a 1, .o, .a 1, .b (z_eqlF hq1), .o, .b (z_eqlF hq2), .o, .b (z_eqlF hq3), .o, .o, .o, .o, .o, .o, .o, .cg (ok_btf_sizeOf_v2_F 300 hU a0 p0 q0 n0 k0 X0 A0 hR0 s0_0 rb0 e_rb0), .o, .o, .o] [] (fun b => rfl) (by decide) rfl rfl (fun b => by kernel_rfl)⟩
      · exact none_some e) s r h
noncomputable def t0_btf_wayTo_v2_L0_0 (a0 : Option Addr) (p0 : Nat) (q0 : Nat) (n0 : Nat) (k0 : Nat) (X0 : Nat → RoX) (A0 : Nat → (Xs35 × (Nat × (Nat → Member)))) (y1 : Int) (y2 : Int) (y3 : Int) (s0_0 : Int) (s0_1 : Int) (s0_2 : ByteArray) (ls : List L1) : List Value := List.append [.slice a0 n0 (n0 + k0), .int .i64 (s0_0), .int .i64 (s0_1), .int .i64 (y3)] (List.append (und 4) (List.append [.string (⟨#[]⟩ : ByteArray), .bool false, .string s0_2] (und 65)))
def pre_btf_wayTo_v2_L0_0 (a0 : Option Addr) (p0 : Nat) (q0 : Nat) (n0 : Nat) (k0 : Nat) (X0 : Nat → RoX) (A0 : Nat → (Xs35 × (Nat × (Nat → Member)))) (y1 : Int) (y2 : Int) (y3 : Int) (s0_0 : Int) (s0_1 : Int) (s0_2 : ByteArray) (ls : List L1) : List Obj := []
theorem sp0_btf_wayTo_v2_L0_0_ok (s0_0 : Int) (s0_1 : Int) (s0_2 : ByteArray) (c0_0 : ByteArray) (c0_1 : Bool) (h : lpO (st_btf_wayTo_v2_L0 n0 A0 y3) (.c0 s0_0 s0_1 s0_2) = some (.e0 c0_0 c0_1)) : SpcG Tryd.prog M B0 S ⟨fun ls => .code (.loop bd_btf_wayTo_v2_L0) (t0_btf_wayTo_v2_L0_0 a0 p0 q0 n0 k0 X0 A0 y1 y2 y3 s0_0 s0_1 s0_2 ls), pre_btf_wayTo_v2_L0_0 a0 p0 q0 n0 k0 X0 A0 y1 y2 y3 s0_0 s0_1 s0_2, 1, .ret, fun ls => vf_btf_wayTo_v2_L0 a0 p0 q0 n0 k0 X0 A0 y1 y2 y3 (.e0 c0_0 c0_1) (ls.take 0 ++ ls.drop 0), fun ls => (Hf_btf_wayTo_v2_L0 a0 p0 q0 n0 k0 X0 A0 y1 y2 y3 (.e0 c0_0 c0_1) (ls.take 0 ++ ls.drop 0)).take 0 ++ List.replicate 0 unb, fun ls => (Hf_btf_wayTo_v2_L0 a0 p0 q0 n0 k0 X0 A0 y1 y2 y3 (.e0 c0_0 c0_1) (ls.take 0 ++ ls.drop 0)).drop 0⟩ :=
  spc_of_goesM hU 0 (k0 := 0) (go_btf_wayTo_v2_L0 hU a0 p0 q0 n0 k0 X0 A0 hR0 y1 y2 y3 _ _ h) (t0_btf_wayTo_v2_L0_0 a0 p0 q0 n0 k0 X0 A0 y1 y2 y3 s0_0 s0_1 s0_2) (pre_btf_wayTo_v2_L0_0 a0 p0 q0 n0 k0 X0 A0 y1 y2 y3 s0_0 s0_1 s0_2) (fun _ => rfl) (fun ls h => by match ls, h with | [], _ => exact ⟨by kernel_rfl, by kernel_rfl⟩) (fun ls h => by match ls, h with | [], _ => rfl) (by decide) (by decide) (fun ls => rfl)
noncomputable def m_btf_wayTo_v2 (n0 : Nat) (A0 : Nat → (Xs35 × (Nat × (Nat → Member)))) (y1 : Int) (y2 : Int) (y3 : Int) : Option ((ByteArray) × (Bool)) :=
  (lpO (st_btf_wayTo_v2_L0 n0 A0 y3) (.c0 y1 y2 (⟨#[]⟩ : ByteArray))).bind fun g0 => match g0 with
  | .e0 g0_0 g0_1 =>
  some (g0_0, g0_1)
theorem ok_btf_wayTo_v2 (r : (ByteArray) × (Bool)) (e : m_btf_wayTo_v2 n0 A0 y1 y2 y3 = some r) : ConG Tryd.prog S 11 #[.slice a0 n0 (n0 + k0), .int .i64 (y1), .int .i64 (y2), .int .i64 (y3)] (vt3 r) := by
  unfold m_btf_wayTo_v2 at e
  replace e := bindO_eq e
  obtain ⟨g0, e_g0, e⟩ := e
  obtain ⟨g0_0, g0_1⟩ := g0
  try dsimp only at e
  injection e with e; subst e; exact fn_conG hU (P := Tryd.prog) Tryd.func11 (fun xs w => by kernel_rfl) _ _ [.o, .o, .o, .cp, .cx (sp0_btf_wayTo_v2_L0_0_ok hU a0 p0 q0 n0 k0 X0 A0 hR0 y1 y2 y3 y1 y2 (⟨#[]⟩ : ByteArray) g0_0 g0_1 e_g0) []] [] (fun b => by kernel_rfl)
noncomputable def m_btf_Field_v2 (n0 : Nat) (A0 : Nat → (Xs35 × (Nat × (Nat → Member)))) (y1 : Int) (y2 : Int) (y3 : Int) : Option ((ByteArray) × (Int)) :=
  (m_btf_Size_v1 n0 A0 y1).bind fun r0 =>
  bif r0.2 == 0 then
    (bif y3 == 1 then
      (bif decide (y2 < 0) then
        (some ((⟨#[]⟩ : ByteArray), 43))
      else (bif decide ((IntKind.i64.wrap (r0.1 - y3)) < y2) then
        (some ((⟨#[]⟩ : ByteArray), 43))
      else ((m_btf_wayTo_v2 n0 A0 y1 y2 y3).bind fun r1 =>
      bif r1.2 then
        (some (r1.1, 0))
      else (some ((⟨#[]⟩ : ByteArray), 41)))))
    else (bif y3 == 2 then
      (bif decide (y2 < 0) then
        (some ((⟨#[]⟩ : ByteArray), 43))
      else (bif decide ((IntKind.i64.wrap (r0.1 - y3)) < y2) then
        (some ((⟨#[]⟩ : ByteArray), 43))
      else ((m_btf_wayTo_v2 n0 A0 y1 y2 y3).bind fun r1 =>
      bif r1.2 then
        (some (r1.1, 0))
      else (some ((⟨#[]⟩ : ByteArray), 41)))))
    else (bif y3 == 4 then
      (bif decide (y2 < 0) then
        (some ((⟨#[]⟩ : ByteArray), 43))
      else (bif decide ((IntKind.i64.wrap (r0.1 - y3)) < y2) then
        (some ((⟨#[]⟩ : ByteArray), 43))
      else ((m_btf_wayTo_v2 n0 A0 y1 y2 y3).bind fun r1 =>
      bif r1.2 then
        (some (r1.1, 0))
      else (some ((⟨#[]⟩ : ByteArray), 41)))))
    else (bif y3 == 8 then
      (bif decide (y2 < 0) then
        (some ((⟨#[]⟩ : ByteArray), 43))
      else (bif decide ((IntKind.i64.wrap (r0.1 - y3)) < y2) then
        (some ((⟨#[]⟩ : ByteArray), 43))
      else ((m_btf_wayTo_v2 n0 A0 y1 y2 y3).bind fun r1 =>
      bif r1.2 then
        (some (r1.1, 0))
      else (some ((⟨#[]⟩ : ByteArray), 41)))))
    else (some ((⟨#[]⟩ : ByteArray), 43))))))
  else (some ((⟨#[]⟩ : ByteArray), r0.2))
theorem ok_btf_Field_v2 (r : (ByteArray) × (Int)) (e : m_btf_Field_v2 n0 A0 y1 y2 y3 = some r) : ConG Tryd.prog S 7 #[.slice a0 n0 (n0 + k0), .int .i64 (y1), .int .i64 (y2), .int .i64 (y3)] (vt4 r) := by
  unfold m_btf_Field_v2 at e
  replace e := bindO_eq e
  obtain ⟨r0, e_r0, e⟩ := e
  try dsimp only at e
  replace e := cond_eq_or e
  rcases e with ⟨hq0, e⟩ | ⟨hq0, e⟩
  · replace e := cond_eq_or e
    rcases e with ⟨hq1, e⟩ | ⟨hq1, e⟩
    · replace e := cond_eq_or e
      rcases e with ⟨hq2, e⟩ | ⟨hq2, e⟩
      · injection e with e; subst e; exact fn_conG hU (P := Tryd.prog) Tryd.func7 (fun xs w => by kernel_rfl) _ _ [.o, .o, .o, .o, .cg (ok_btf_Size_v1 hU a0 p0 q0 n0 k0 X0 A0 hR0 y1 r0 e_r0), .o, .o, .o, .o, .o, .o, .b (z_neqT hq0), .o, .b (z_eqlT hq1), .o, .o, .b (z_lssT hq2), .o, .o, .o, .o] [] (fun b => by kernel_rfl)
      · replace e := cond_eq_or e
        rcases e with ⟨hq3, e⟩ | ⟨hq3, e⟩
        · injection e with e; subst e; exact fn_conG hU (P := Tryd.prog) Tryd.func7 (fun xs w => by kernel_rfl) _ _ [.o, .o, .o, .o, .cg (ok_btf_Size_v1 hU a0 p0 q0 n0 k0 X0 A0 hR0 y1 r0 e_r0), .o, .o, .o, .o, .o, .o, .b (z_neqT hq0), .o, .b (z_eqlT hq1), .o, .o, .b (z_lssF hq2), .o, .o, .o, .o, .o, .b (z_gtrT hq3), .o, .o, .o] [] (fun b => by kernel_rfl)
        · replace e := bindO_eq e
          obtain ⟨r1, e_r1, e⟩ := e
          try dsimp only at e
          replace e := cond_eq_or e
          rcases e with ⟨hq4, e⟩ | ⟨hq4, e⟩
          · injection e with e; subst e; exact fn_conG hU (P := Tryd.prog) Tryd.func7 (fun xs w => by kernel_rfl) _ _ [.o, .o, .o, .o, .cg (ok_btf_Size_v1 hU a0 p0 q0 n0 k0 X0 A0 hR0 y1 r0 e_r0), .o, .o, .o, .o, .o, .o, .b (z_neqT hq0), .o, .b (z_eqlT hq1), .o, .o, .b (z_lssF hq2), .o, .o, .o, .o, .o, .b (z_gtrF hq3), .o, .o, .o, .o, .o, .cg (ok_btf_wayTo_v2 hU a0 p0 q0 n0 k0 X0 A0 hR0 y1 y2 y3 r1 e_r1), .o, .o, .b hq4, .o, .o, .o, .o, .o, .o, .o] [] (fun b => by kernel_rfl)
          · injection e with e; subst e; exact fn_conG hU (P := Tryd.prog) Tryd.func7 (fun xs w => by kernel_rfl) _ _ [.o, .o, .o, .o, .cg (ok_btf_Size_v1 hU a0 p0 q0 n0 k0 X0 A0 hR0 y1 r0 e_r0), .o, .o, .o, .o, .o, .o, .b (z_neqT hq0), .o, .b (z_eqlT hq1), .o, .o, .b (z_lssF hq2), .o, .o, .o, .o, .o, .b (z_gtrF hq3), .o, .o, .o, .o, .o, .cg (ok_btf_wayTo_v2 hU a0 p0 q0 n0 k0 X0 A0 hR0 y1 y2 y3 r1 e_r1), .o, .o, .b hq4, .o, .o, .o, .o, .o, .o] [] (fun b => by kernel_rfl)
    · replace e := cond_eq_or e
      rcases e with ⟨hq2, e⟩ | ⟨hq2, e⟩
      · replace e := cond_eq_or e
        rcases e with ⟨hq3, e⟩ | ⟨hq3, e⟩
        · injection e with e; subst e; exact fn_conG hU (P := Tryd.prog) Tryd.func7 (fun xs w => by kernel_rfl) _ _ [.o, .o, .o, .o, .cg (ok_btf_Size_v1 hU a0 p0 q0 n0 k0 X0 A0 hR0 y1 r0 e_r0), .o, .o, .o, .o, .o, .o, .b (z_neqT hq0), .o, .b (z_eqlF hq1), .o, .b (z_eqlT hq2), .o, .o, .b (z_lssT hq3), .o, .o, .o, .o] [] (fun b => by kernel_rfl)
        · replace e := cond_eq_or e
          rcases e with ⟨hq4, e⟩ | ⟨hq4, e⟩
          · injection e with e; subst e; exact fn_conG hU (P := Tryd.prog) Tryd.func7 (fun xs w => by kernel_rfl) _ _ [.o, .o, .o, .o, .cg (ok_btf_Size_v1 hU a0 p0 q0 n0 k0 X0 A0 hR0 y1 r0 e_r0), .o, .o, .o, .o, .o, .o, .b (z_neqT hq0), .o, .b (z_eqlF hq1), .o, .b (z_eqlT hq2), .o, .o, .b (z_lssF hq3), .o, .o, .o, .o, .o, .b (z_gtrT hq4), .o, .o, .o] [] (fun b => by kernel_rfl)
          · replace e := bindO_eq e
            obtain ⟨r1, e_r1, e⟩ := e
            try dsimp only at e
            replace e := cond_eq_or e
            rcases e with ⟨hq5, e⟩ | ⟨hq5, e⟩
            · injection e with e; subst e; exact fn_conG hU (P := Tryd.prog) Tryd.func7 (fun xs w => by kernel_rfl) _ _ [.o, .o, .o, .o, .cg (ok_btf_Size_v1 hU a0 p0 q0 n0 k0 X0 A0 hR0 y1 r0 e_r0), .o, .o, .o, .o, .o, .o, .b (z_neqT hq0), .o, .b (z_eqlF hq1), .o, .b (z_eqlT hq2), .o, .o, .b (z_lssF hq3), .o, .o, .o, .o, .o, .b (z_gtrF hq4), .o, .o, .o, .o, .o, .cg (ok_btf_wayTo_v2 hU a0 p0 q0 n0 k0 X0 A0 hR0 y1 y2 y3 r1 e_r1), .o, .o, .b hq5, .o, .o, .o, .o, .o, .o, .o] [] (fun b => by kernel_rfl)
            · injection e with e; subst e; exact fn_conG hU (P := Tryd.prog) Tryd.func7 (fun xs w => by kernel_rfl) _ _ [.o, .o, .o, .o, .cg (ok_btf_Size_v1 hU a0 p0 q0 n0 k0 X0 A0 hR0 y1 r0 e_r0), .o, .o, .o, .o, .o, .o, .b (z_neqT hq0), .o, .b (z_eqlF hq1), .o, .b (z_eqlT hq2), .o, .o, .b (z_lssF hq3), .o, .o, .o, .o, .o, .b (z_gtrF hq4), .o, .o, .o, .o, .o, .cg (ok_btf_wayTo_v2 hU a0 p0 q0 n0 k0 X0 A0 hR0 y1 y2 y3 r1 e_r1), .o, .o, .b hq5, .o, .o, .o, .o, .o, .o] [] (fun b => by kernel_rfl)
      · replace e := cond_eq_or e
        rcases e with ⟨hq3, e⟩ | ⟨hq3, e⟩
        · replace e := cond_eq_or e
          rcases e with ⟨hq4, e⟩ | ⟨hq4, e⟩
          · injection e with e; subst e; exact fn_conG hU (P := Tryd.prog) Tryd.func7 (fun xs w => by kernel_rfl) _ _ [.o, .o, .o, .o, .cg (ok_btf_Size_v1 hU a0 p0 q0 n0 k0 X0 A0 hR0 y1 r0 e_r0), .o, .o, .o, .o, .o, .o, .b (z_neqT hq0), .o, .b (z_eqlF hq1), .o, .b (z_eqlF hq2), .o, .b (z_eqlT hq3), .o, .o, .b (z_lssT hq4), .o, .o, .o, .o] [] (fun b => by kernel_rfl)
          · replace e := cond_eq_or e
            rcases e with ⟨hq5, e⟩ | ⟨hq5, e⟩
            · injection e with e; subst e; exact fn_conG hU (P := Tryd.prog) Tryd.func7 (fun xs w => by kernel_rfl) _ _ [.o, .o, .o, .o, .cg (ok_btf_Size_v1 hU a0 p0 q0 n0 k0 X0 A0 hR0 y1 r0 e_r0), .o, .o, .o, .o, .o, .o, .b (z_neqT hq0), .o, .b (z_eqlF hq1), .o, .b (z_eqlF hq2), .o, .b (z_eqlT hq3), .o, .o, .b (z_lssF hq4), .o, .o, .o, .o, .o, .b (z_gtrT hq5), .o, .o, .o] [] (fun b => by kernel_rfl)
            · replace e := bindO_eq e
              obtain ⟨r1, e_r1, e⟩ := e
              try dsimp only at e
              replace e := cond_eq_or e
              rcases e with ⟨hq6, e⟩ | ⟨hq6, e⟩
              · injection e with e; subst e; exact fn_conG hU (P := Tryd.prog) Tryd.func7 (fun xs w => by kernel_rfl) _ _ [.o, .o, .o, .o, .cg (ok_btf_Size_v1 hU a0 p0 q0 n0 k0 X0 A0 hR0 y1 r0 e_r0), .o, .o, .o, .o, .o, .o, .b (z_neqT hq0), .o, .b (z_eqlF hq1), .o, .b (z_eqlF hq2), .o, .b (z_eqlT hq3), .o, .o, .b (z_lssF hq4), .o, .o, .o, .o, .o, .b (z_gtrF hq5), .o, .o, .o, .o, .o, .cg (ok_btf_wayTo_v2 hU a0 p0 q0 n0 k0 X0 A0 hR0 y1 y2 y3 r1 e_r1), .o, .o, .b hq6, .o, .o, .o, .o, .o, .o, .o] [] (fun b => by kernel_rfl)
              · injection e with e; subst e; exact fn_conG hU (P := Tryd.prog) Tryd.func7 (fun xs w => by kernel_rfl) _ _ [.o, .o, .o, .o, .cg (ok_btf_Size_v1 hU a0 p0 q0 n0 k0 X0 A0 hR0 y1 r0 e_r0), .o, .o, .o, .o, .o, .o, .b (z_neqT hq0), .o, .b (z_eqlF hq1), .o, .b (z_eqlF hq2), .o, .b (z_eqlT hq3), .o, .o, .b (z_lssF hq4), .o, .o, .o, .o, .o, .b (z_gtrF hq5), .o, .o, .o, .o, .o, .cg (ok_btf_wayTo_v2 hU a0 p0 q0 n0 k0 X0 A0 hR0 y1 y2 y3 r1 e_r1), .o, .o, .b hq6, .o, .o, .o, .o, .o, .o] [] (fun b => by kernel_rfl)
        · replace e := cond_eq_or e
          rcases e with ⟨hq4, e⟩ | ⟨hq4, e⟩
          · replace e := cond_eq_or e
            rcases e with ⟨hq5, e⟩ | ⟨hq5, e⟩
            · injection e with e; subst e; exact fn_conG hU (P := Tryd.prog) Tryd.func7 (fun xs w => by kernel_rfl) _ _ [.o, .o, .o, .o, .cg (ok_btf_Size_v1 hU a0 p0 q0 n0 k0 X0 A0 hR0 y1 r0 e_r0), .o, .o, .o, .o, .o, .o, .b (z_neqT hq0), .o, .b (z_eqlF hq1), .o, .b (z_eqlF hq2), .o, .b (z_eqlF hq3), .o, .b (z_eqlT hq4), .o, .o, .b (z_lssT hq5), .o, .o, .o, .o] [] (fun b => by kernel_rfl)
            · replace e := cond_eq_or e
              rcases e with ⟨hq6, e⟩ | ⟨hq6, e⟩
              · injection e with e; subst e; exact fn_conG hU (P := Tryd.prog) Tryd.func7 (fun xs w => by kernel_rfl) _ _ [.o, .o, .o, .o, .cg (ok_btf_Size_v1 hU a0 p0 q0 n0 k0 X0 A0 hR0 y1 r0 e_r0), .o, .o, .o, .o, .o, .o, .b (z_neqT hq0), .o, .b (z_eqlF hq1), .o, .b (z_eqlF hq2), .o, .b (z_eqlF hq3), .o, .b (z_eqlT hq4), .o, .o, .b (z_lssF hq5), .o, .o, .o, .o, .o, .b (z_gtrT hq6), .o, .o, .o] [] (fun b => by kernel_rfl)
              · replace e := bindO_eq e
                obtain ⟨r1, e_r1, e⟩ := e
                try dsimp only at e
                replace e := cond_eq_or e
                rcases e with ⟨hq7, e⟩ | ⟨hq7, e⟩
                · injection e with e; subst e; exact fn_conG hU (P := Tryd.prog) Tryd.func7 (fun xs w => by kernel_rfl) _ _ [.o, .o, .o, .o, .cg (ok_btf_Size_v1 hU a0 p0 q0 n0 k0 X0 A0 hR0 y1 r0 e_r0), .o, .o, .o, .o, .o, .o, .b (z_neqT hq0), .o, .b (z_eqlF hq1), .o, .b (z_eqlF hq2), .o, .b (z_eqlF hq3), .o, .b (z_eqlT hq4), .o, .o, .b (z_lssF hq5), .o, .o, .o, .o, .o, .b (z_gtrF hq6), .o, .o, .o, .o, .o, .cg (ok_btf_wayTo_v2 hU a0 p0 q0 n0 k0 X0 A0 hR0 y1 y2 y3 r1 e_r1), .o, .o, .b hq7, .o, .o, .o, .o, .o, .o, .o] [] (fun b => by kernel_rfl)
                · injection e with e; subst e; exact fn_conG hU (P := Tryd.prog) Tryd.func7 (fun xs w => by kernel_rfl) _ _ [.o, .o, .o, .o, .cg (ok_btf_Size_v1 hU a0 p0 q0 n0 k0 X0 A0 hR0 y1 r0 e_r0), .o, .o, .o, .o, .o, .o, .b (z_neqT hq0), .o, .b (z_eqlF hq1), .o, .b (z_eqlF hq2), .o, .b (z_eqlF hq3), .o, .b (z_eqlT hq4), .o, .o, .b (z_lssF hq5), .o, .o, .o, .o, .o, .b (z_gtrF hq6), .o, .o, .o, .o, .o, .cg (ok_btf_wayTo_v2 hU a0 p0 q0 n0 k0 X0 A0 hR0 y1 y2 y3 r1 e_r1), .o, .o, .b hq7, .o, .o, .o, .o, .o, .o] [] (fun b => by kernel_rfl)
          · injection e with e; subst e; exact fn_conG hU (P := Tryd.prog) Tryd.func7 (fun xs w => by kernel_rfl) _ _ [.o, .o, .o, .o, .cg (ok_btf_Size_v1 hU a0 p0 q0 n0 k0 X0 A0 hR0 y1 r0 e_r0), .o, .o, .o, .o, .o, .o, .b (z_neqT hq0), .o, .b (z_eqlF hq1), .o, .b (z_eqlF hq2), .o, .b (z_eqlF hq3), .o, .b (z_eqlF hq4), .o, .o, .o] [] (fun b => by kernel_rfl)
  · injection e with e; subst e; exact fn_conG hU (P := Tryd.prog) Tryd.func7 (fun xs w => by kernel_rfl) _ _ [.o, .o, .o, .o, .cg (ok_btf_Size_v1 hU a0 p0 q0 n0 k0 X0 A0 hR0 y1 r0 e_r0), .o, .o, .o, .o, .o, .o, .b (z_neqF hq0), .o, .o, .o] [] (fun b => by kernel_rfl)
inductive Sh_barbicanlaw4_BtfWays_L0 where
  | c0 (s0_0 : Int)
  | c1 (s0_0 : Nat) (s0_1 : Nat → ByteArray) (s0_2 : Int)
inductive Ex_barbicanlaw4_BtfWays_L0 where
  | e0 
  | e1 (c1_0 : Nat) (c1_1 : Nat → ByteArray)
noncomputable def st_barbicanlaw4_BtfWays_L0 (n0 : Nat) (A0 : Nat → (Xs35 × (Nat × (Nat → Member)))) (y1 : Int) (y2 : Int) (r0 : (Int) × (Int)) : Sh_barbicanlaw4_BtfWays_L0 → Option (Sh_barbicanlaw4_BtfWays_L0 ⊕ Ex_barbicanlaw4_BtfWays_L0)
  | .c0 s0_0 =>
    bif decide (s0_0 < r0.1) then
      ((m_btf_Field_v2 n0 A0 y1 s0_0 y2).bind fun rb0 =>
      bif rb0.2 == 0 then
        (bif decide (1 < y2) then
          (some (.inl (.c1 1 (fun _ => rb0.1) (IntKind.i64.wrap (s0_0 + 1)))))
        else (some (.inl (.c1 1 (fun _ => rb0.1) (IntKind.i64.wrap (s0_0 + 1))))))
      else (some (.inl (.c0 (IntKind.i64.wrap (s0_0 + 1))))))
    else (some (.inr (.e0 )))
  | .c1 s0_0 s0_1 s0_2 =>
    bif decide (s0_2 < r0.1) then
      ((m_btf_Field_v2 n0 A0 y1 s0_2 y2).bind fun rb0 =>
      bif rb0.2 == 0 then
        (bif decide (1 < y2) then
          (bif decide (s0_0 ≤ 1000000) then
            (some (.inl (.c1 (s0_0 + 1) (updF s0_1 s0_0 rb0.1) (IntKind.i64.wrap (s0_2 + 1)))))
          else (none))
        else (bif decide (s0_0 ≤ 1000000) then
          (some (.inl (.c1 (s0_0 + 1) (updF s0_1 s0_0 rb0.1) (IntKind.i64.wrap (s0_2 + 1)))))
        else (none)))
      else (some (.inl (.c1 s0_0 s0_1 (IntKind.i64.wrap (s0_2 + 1))))))
    else (some (.inr (.e1 s0_0 s0_1)))
noncomputable def bd_barbicanlaw4_BtfWays_L0 : Code := codeOf Tryd.f3 [1, 1, 1, 1, 1, 0, 1, 0, 0]
def fl_barbicanlaw4_BtfWays_L0 (a0 : Option Addr) (p0 : Nat) (q0 : Nat) (n0 : Nat) (k0 : Nat) (X0 : Nat → RoX) (A0 : Nat → (Xs35 × (Nat × (Nat → Member)))) (y1 : Int) (y2 : Int) (r0 : (Int) × (Int)) : Sh_barbicanlaw4_BtfWays_L0 → List L1 → List Value
  | .c0 s0_0, ls => [.slice a0 n0 (n0 + k0), .int .i64 (y1), .int .i64 (y2), .int .i64 (r0.1), .slice none 0 0, .int .i64 (s0_0)]
  | .c1 s0_0 s0_1 s0_2, ls => [.slice a0 n0 (n0 + k0), .int .i64 (y1), .int .i64 (y2), .int .i64 (r0.1), (rowV (lget ls 0) s0_0 1), .int .i64 (s0_2)]
def mf_barbicanlaw4_BtfWays_L0 : Sh_barbicanlaw4_BtfWays_L0 → List (Nat × Nat)
  | .c0 _ => [(3, 4), (1, 1), (2, 83)]
  | .c1 _ _ _ => [(3, 4), (1, 1), (2, 83)]
noncomputable def fr_barbicanlaw4_BtfWays_L0 (a0 : Option Addr) (p0 : Nat) (q0 : Nat) (n0 : Nat) (k0 : Nat) (X0 : Nat → RoX) (A0 : Nat → (Xs35 × (Nat × (Nat → Member)))) (y1 : Int) (y2 : Int) (r0 : (Int) × (Int)) (s : Sh_barbicanlaw4_BtfWays_L0) : List L1 → List Value := mrgF (mf_barbicanlaw4_BtfWays_L0 s) (fl_barbicanlaw4_BtfWays_L0 a0 p0 q0 n0 k0 X0 A0 y1 y2 r0 s) 1
def Hs_barbicanlaw4_BtfWays_L0 (a0 : Option Addr) (p0 : Nat) (q0 : Nat) (n0 : Nat) (k0 : Nat) (X0 : Nat → RoX) (A0 : Nat → (Xs35 × (Nat × (Nat → Member)))) (y1 : Int) (y2 : Int) (r0 : (Int) × (Int)) : Sh_barbicanlaw4_BtfWays_L0 → List L1 → List Obj
  | .c0 s0_0, ls => [unb, unb]
  | .c1 s0_0 s0_1 s0_2, ls => [rowO (lget ls 0) (esG cS s0_0 s0_1) 9 s0_0 1, unb]
def vl_barbicanlaw4_BtfWays_L0 (a0 : Option Addr) (p0 : Nat) (q0 : Nat) (n0 : Nat) (k0 : Nat) (X0 : Nat → RoX) (A0 : Nat → (Xs35 × (Nat × (Nat → Member)))) (y1 : Int) (y2 : Int) (r0 : (Int) × (Int)) : Ex_barbicanlaw4_BtfWays_L0 → List L1 → List Value
  | .e0 , ls => [.slice a0 n0 (n0 + k0), .int .i64 (y1), .int .i64 (y2), .int .i64 (r0.1), .slice none 0 0]
  | .e1 c1_0 c1_1, ls => [.slice a0 n0 (n0 + k0), .int .i64 (y1), .int .i64 (y2), .int .i64 (r0.1), (rowV (lget ls 0) c1_0 1)]
def mk_barbicanlaw4_BtfWays_L0 : Ex_barbicanlaw4_BtfWays_L0 → List (Nat × Nat)
  | .e0  => [(3, 4), (1, 1), (1, 84)]
  | .e1 _ _ => [(3, 4), (1, 1), (1, 84)]
noncomputable def vf_barbicanlaw4_BtfWays_L0 (a0 : Option Addr) (p0 : Nat) (q0 : Nat) (n0 : Nat) (k0 : Nat) (X0 : Nat → RoX) (A0 : Nat → (Xs35 × (Nat × (Nat → Member)))) (y1 : Int) (y2 : Int) (r0 : (Int) × (Int)) (r : Ex_barbicanlaw4_BtfWays_L0) : List L1 → List Value := mrgF (mk_barbicanlaw4_BtfWays_L0 r) (vl_barbicanlaw4_BtfWays_L0 a0 p0 q0 n0 k0 X0 A0 y1 y2 r0 r) 1
def Hf_barbicanlaw4_BtfWays_L0 (a0 : Option Addr) (p0 : Nat) (q0 : Nat) (n0 : Nat) (k0 : Nat) (X0 : Nat → RoX) (A0 : Nat → (Xs35 × (Nat × (Nat → Member)))) (y1 : Int) (y2 : Int) (r0 : (Int) × (Int)) : Ex_barbicanlaw4_BtfWays_L0 → List L1 → List Obj
  | .e0 , ls => [unb, unb]
  | .e1 c1_0 c1_1, ls => [rowO (lget ls 0) (esG cS c1_0 c1_1) 9 c1_0 1, unb]
def ex_barbicanlaw4_BtfWays_L0 : Ex_barbicanlaw4_BtfWays_L0 → Ex
  | .e0  => (.exit 0)
  | .e1 _ _ => (.exit 0)
end
section
variable {M : Nat → Prop} {B0 : Nat} {S : World → Prop} (hU : Up M B0 S) (a0 : Option Addr) (p0 : Nat) (q0 : Nat) (n0 : Nat) (k0 : Nat) (X0 : Nat → RoX) (A0 : Nat → (Xs35 × (Nat × (Nat → Member)))) (hR0 : RoS S h_Xs35 t_Xs35 7 c_Member 3 a0 p0 q0 n0 X0 (fun i => (A0 i).2) (fun i => (A0 i).1)) (y1 : Int) (y2 : Int) (r0 : (Int) × (Int))
include hU a0 p0 q0 n0 k0 X0 A0 hR0 y1 y2 r0
theorem go_barbicanlaw4_BtfWays_L0 (s : Sh_barbicanlaw4_BtfWays_L0) (r : Ex_barbicanlaw4_BtfWays_L0) (h : lpO (st_barbicanlaw4_BtfWays_L0 n0 A0 y1 y2 r0) s = some r) : GoesG Tryd.prog M B0 S (.loop bd_barbicanlaw4_BtfWays_L0) 2 (fr_barbicanlaw4_BtfWays_L0 a0 p0 q0 n0 k0 X0 A0 y1 y2 r0 s) (Hs_barbicanlaw4_BtfWays_L0 a0 p0 q0 n0 k0 X0 A0 y1 y2 r0 s) (ex_barbicanlaw4_BtfWays_L0 r) 0 (vf_barbicanlaw4_BtfWays_L0 a0 p0 q0 n0 k0 X0 A0 y1 y2 r0 r) (Hf_barbicanlaw4_BtfWays_L0 a0 p0 q0 n0 k0 X0 A0 y1 y2 r0 r) 2 :=
  goes_lpO (fun s q e => by
    cases s with
    | c0 s0_0 =>
      unfold st_barbicanlaw4_BtfWays_L0 at e
      dsimp only at e
      replace e := cond_eq_or e
      rcases e with ⟨hq0, e⟩ | ⟨hq0, e⟩
      · replace e := bindO_eq e
        obtain ⟨rb0, e_rb0, e⟩ := e
        try dsimp only at e
        replace e := cond_eq_or e
        rcases e with ⟨hq1, e⟩ | ⟨hq1, e⟩
        · replace e := cond_eq_or e
          rcases e with ⟨hq2, e⟩ | ⟨hq2, e⟩
          · cases e; exact goes_runM hU [.o, .o, .b (z_lssT hq0), .o, .o, .o, .o, .cg (ok_btf_Field_v2 hU a0 p0 q0 n0 k0 X0 A0 hR0 y1 s0_0 y2 rb0 e_rb0), .o, .o, .o, .o, .o, .o, .b (z_neqT hq1), .o, .b (z_gtrT hq2), .o, .o, .o, .x (sqAppL1_ok (ty := 28) rt28 #[false, false] (f := cS) (c := 1) rb0.1 (T' := 9) cS_len cS_one (by decide)) [2], .o, .o, .o, .o] [3] (fun b => rfl) (by decide) rfl rfl (fun b => by kernel_rfl)
          · cases e; exact goes_runM hU [.o, .o, .b (z_lssT hq0), .o, .o, .o, .o, .cg (ok_btf_Field_v2 hU a0 p0 q0 n0 k0 X0 A0 hR0 y1 s0_0 y2 rb0 e_rb0), .o, .o, .o, .o, .o, .o, .b (z_neqT hq1), .o, .b (z_gtrF hq2), .o, .o, .o, .x (sqAppL1_ok (ty := 28) rt28 #[false, false] (f := cS) (c := 1) rb0.1 (T' := 9) cS_len cS_one (by decide)) [2], .o, .o, .o, .o] [3] (fun b => rfl) (by decide) rfl rfl (fun b => by kernel_rfl)
        · cases e; exact goes_runM hU [.o, .o, .b (z_lssT hq0), .o, .o, .o, .o, .cg (ok_btf_Field_v2 hU a0 p0 q0 n0 k0 X0 A0 hR0 y1 s0_0 y2 rb0 e_rb0), .o, .o, .o, .o, .o, .o, .b (z_neqF hq1), .o, .o, .o] [0] (fun b => rfl) (by decide) rfl rfl (fun b => by kernel_rfl)
      · cases e; exact ⟨ne_exit 0, goes_runM hU [.o, .o, .b (z_lssF hq0)] [0] (fun b => rfl) (by decide) rfl rfl (fun b => by kernel_rfl)⟩
    | c1 s0_0 s0_1 s0_2 =>
      unfold st_barbicanlaw4_BtfWays_L0 at e
      dsimp only at e
      replace e := cond_eq_or e
      rcases e with ⟨hq0, e⟩ | ⟨hq0, e⟩
      · replace e := bindO_eq e
        obtain ⟨rb0, e_rb0, e⟩ := e
        try dsimp only at e
        replace e := cond_eq_or e
        rcases e with ⟨hq1, e⟩ | ⟨hq1, e⟩
        · replace e := cond_eq_or e
          rcases e with ⟨hq2, e⟩ | ⟨hq2, e⟩
          · replace e := cond_eq_or e
            rcases e with ⟨hq3, e⟩ | ⟨hq3, e⟩
            · cases e; exact goes_runM hU [.o, .o, .b (z_lssT hq0), .o, .o, .o, .o, .cg (ok_btf_Field_v2 hU a0 p0 q0 n0 k0 X0 A0 hR0 y1 s0_2 y2 rb0 e_rb0), .o, .o, .o, .o, .o, .o, .b (z_neqT hq1), .o, .b (z_gtrT hq2), .o, .o, .o, .x (sqAppL_ok (ty := 28) rt28 #[false, false] (f := cS) (N := s0_0) (A := s0_1) (c := 1) [rb0.1] (T' := 9) .row cS_len cS_one hq3 rfl (by decide)) [0, 2], .o, .o, .o, .o] [3] (fun b => rfl) (by decide) rfl rfl (fun b => by kernel_rfl)
            · exact none_some e
          · replace e := cond_eq_or e
            rcases e with ⟨hq3, e⟩ | ⟨hq3, e⟩
            · cases e; exact goes_runM hU [.o, .o, .b (z_lssT hq0), .o, .o, .o, .o, .cg (ok_btf_Field_v2 hU a0 p0 q0 n0 k0 X0 A0 hR0 y1 s0_2 y2 rb0 e_rb0), .o, .o, .o, .o, .o, .o, .b (z_neqT hq1), .o, .b (z_gtrF hq2), .o, .o, .o, .x (sqAppL_ok (ty := 28) rt28 #[false, false] (f := cS) (N := s0_0) (A := s0_1) (c := 1) [rb0.1] (T' := 9) .row cS_len cS_one hq3 rfl (by decide)) [0, 2], .o, .o, .o, .o] [3] (fun b => rfl) (by decide) rfl rfl (fun b => by kernel_rfl)
            · exact none_some e
        · cases e; exact goes_runM hU [.o, .o, .b (z_lssT hq0), .o, .o, .o, .o, .cg (ok_btf_Field_v2 hU a0 p0 q0 n0 k0 X0 A0 hR0 y1 s0_2 y2 rb0 e_rb0), .o, .o, .o, .o, .o, .o, .b (z_neqF hq1), .o, .o, .o] [0] (fun b => rfl) (by decide) rfl rfl (fun b => by kernel_rfl)
      · cases e; exact ⟨ne_exit 0, goes_runM hU [.o, .o, .b (z_lssF hq0)] [0] (fun b => rfl) (by decide) rfl rfl (fun b => by kernel_rfl)⟩) s r h
noncomputable def t0_barbicanlaw4_BtfWays_L0_0 (a0 : Option Addr) (p0 : Nat) (q0 : Nat) (n0 : Nat) (k0 : Nat) (X0 : Nat → RoX) (A0 : Nat → (Xs35 × (Nat × (Nat → Member)))) (y1 : Int) (y2 : Int) (r0 : (Int) × (Int)) (s0_0 : Int) (ls : List L1) : List Value := List.append [.slice a0 n0 (n0 + k0), .int .i64 (y1), .int .i64 (y2), undef, undef, undef, .bool false, .int .i64 (r0.1), .int .i64 (r0.2), .slice none 0 0, .int .i64 (s0_0)] (List.append (und 7) (List.append [.bool true, .bool false, .tuple #[.int .i64 (r0.1), .int .i64 (r0.2)], .slice a0 n0 (n0 + k0), .int .i64 (y1), .tuple #[.int .i64 (r0.1), .int .i64 (r0.2)], .int .i64 (r0.1), .int .i64 (r0.2), .slice a0 n0 (n0 + k0), .bool true, .bool false, .bool false, .int .i64 (r0.2), .bool false, .bool false, .bool false, .int .i64 (r0.1), .bool false, .bool false] (und 57)))
def pre_barbicanlaw4_BtfWays_L0_0 (a0 : Option Addr) (p0 : Nat) (q0 : Nat) (n0 : Nat) (k0 : Nat) (X0 : Nat → RoX) (A0 : Nat → (Xs35 × (Nat × (Nat → Member)))) (y1 : Int) (y2 : Int) (r0 : (Int) × (Int)) (s0_0 : Int) (ls : List L1) : List Obj := []
theorem sp0_barbicanlaw4_BtfWays_L0_0_ok (s0_0 : Int) (h : lpO (st_barbicanlaw4_BtfWays_L0 n0 A0 y1 y2 r0) (.c0 s0_0) = some (.e0 )) : SpcG Tryd.prog M B0 S ⟨fun ls => .code (.loop bd_barbicanlaw4_BtfWays_L0) (t0_barbicanlaw4_BtfWays_L0_0 a0 p0 q0 n0 k0 X0 A0 y1 y2 r0 s0_0 ls), pre_barbicanlaw4_BtfWays_L0_0 a0 p0 q0 n0 k0 X0 A0 y1 y2 r0 s0_0, 2, (.exit 0), fun ls => vf_barbicanlaw4_BtfWays_L0 a0 p0 q0 n0 k0 X0 A0 y1 y2 r0 (.e0 ) (ls.take 0 ++ ls.drop 0), fun ls => (Hf_barbicanlaw4_BtfWays_L0 a0 p0 q0 n0 k0 X0 A0 y1 y2 r0 (.e0 ) (ls.take 0 ++ ls.drop 0)).take 0 ++ List.replicate 0 unb, fun ls => (Hf_barbicanlaw4_BtfWays_L0 a0 p0 q0 n0 k0 X0 A0 y1 y2 r0 (.e0 ) (ls.take 0 ++ ls.drop 0)).drop 0⟩ :=
  spc_of_goesM hU 1 (k0 := 0) (go_barbicanlaw4_BtfWays_L0 hU a0 p0 q0 n0 k0 X0 A0 hR0 y1 y2 r0 _ _ h) (t0_barbicanlaw4_BtfWays_L0_0 a0 p0 q0 n0 k0 X0 A0 y1 y2 r0 s0_0) (pre_barbicanlaw4_BtfWays_L0_0 a0 p0 q0 n0 k0 X0 A0 y1 y2 r0 s0_0) (fun _ => rfl) (fun ls h => by match ls, h with | [], _ => exact ⟨by kernel_rfl, by kernel_rfl⟩) (fun ls h => by match ls, h with | [], _ => rfl) (by decide) (by decide) (fun ls => rfl)
theorem sp1_barbicanlaw4_BtfWays_L0_0_ok (s0_0 : Int) (c1_0 : Nat) (c1_1 : Nat → ByteArray) (h : lpO (st_barbicanlaw4_BtfWays_L0 n0 A0 y1 y2 r0) (.c0 s0_0) = some (.e1 c1_0 c1_1)) : SpcG Tryd.prog M B0 S ⟨fun ls => .code (.loop bd_barbicanlaw4_BtfWays_L0) (t0_barbicanlaw4_BtfWays_L0_0 a0 p0 q0 n0 k0 X0 A0 y1 y2 r0 s0_0 ls), pre_barbicanlaw4_BtfWays_L0_0 a0 p0 q0 n0 k0 X0 A0 y1 y2 r0 s0_0, 2, (.exit 0), fun ls => vf_barbicanlaw4_BtfWays_L0 a0 p0 q0 n0 k0 X0 A0 y1 y2 r0 (.e1 c1_0 c1_1) (ls.take 0 ++ ls.drop 0), fun ls => (Hf_barbicanlaw4_BtfWays_L0 a0 p0 q0 n0 k0 X0 A0 y1 y2 r0 (.e1 c1_0 c1_1) (ls.take 0 ++ ls.drop 0)).take 0 ++ List.replicate 0 unb, fun ls => (Hf_barbicanlaw4_BtfWays_L0 a0 p0 q0 n0 k0 X0 A0 y1 y2 r0 (.e1 c1_0 c1_1) (ls.take 0 ++ ls.drop 0)).drop 0⟩ :=
  spc_of_goesM hU 1 (k0 := 0) (go_barbicanlaw4_BtfWays_L0 hU a0 p0 q0 n0 k0 X0 A0 hR0 y1 y2 r0 _ _ h) (t0_barbicanlaw4_BtfWays_L0_0 a0 p0 q0 n0 k0 X0 A0 y1 y2 r0 s0_0) (pre_barbicanlaw4_BtfWays_L0_0 a0 p0 q0 n0 k0 X0 A0 y1 y2 r0 s0_0) (fun _ => rfl) (fun ls h => by match ls, h with | [], _ => exact ⟨by kernel_rfl, by kernel_rfl⟩) (fun ls h => by match ls, h with | [], _ => rfl) (by decide) (by decide) (fun ls => rfl)
inductive Sh_barbicanlaw4_BtfWays_L1_L2v1 where
  | c0 
inductive Ex_barbicanlaw4_BtfWays_L1_L2v1 where
  | e0 
noncomputable def st_barbicanlaw4_BtfWays_L1_L2v1 (s0_0 : Int) : Sh_barbicanlaw4_BtfWays_L1_L2v1 → Option (Sh_barbicanlaw4_BtfWays_L1_L2v1 ⊕ Ex_barbicanlaw4_BtfWays_L1_L2v1)
  | .c0  =>
    bif decide (0 < s0_0) then
      (none)
    else (some (.inr (.e0 )))
noncomputable def bd_barbicanlaw4_BtfWays_L1_L2v1 : Code := codeOf Tryd.f3 [1, 1, 1, 1, 1, 1, 1, 0, 1, 0, 0, 1, 0, 0, 1, 1, 0, 1, 0, 0]
def fl_barbicanlaw4_BtfWays_L1_L2v1 (a0 : Option Addr) (p0 : Nat) (q0 : Nat) (n0 : Nat) (k0 : Nat) (X0 : Nat → RoX) (A0 : Nat → (Xs35 × (Nat × (Nat → Member)))) (y1 : Int) (y2 : Int) (r0 : (Int) × (Int)) (s0_0 : Int) (s0_1 : Int) (rb0 : (ByteArray) × (Int)) : Sh_barbicanlaw4_BtfWays_L1_L2v1 → List L1 → List Value
  | .c0 , ls => [.slice a0 n0 (n0 + k0), .int .i64 (y1), .int .i64 (y2), .int .i64 (r0.1), .slice none 0 0, .int .i64 (s0_0), .int .i64 (s0_1), .string rb0.1, .int .i64 (0)]
def mf_barbicanlaw4_BtfWays_L1_L2v1 : Sh_barbicanlaw4_BtfWays_L1_L2v1 → List (Nat × Nat)
  | .c0  => [(3, 4), (1, 1), (1, 3), (3, 1), (1, 76)]
noncomputable def fr_barbicanlaw4_BtfWays_L1_L2v1 (a0 : Option Addr) (p0 : Nat) (q0 : Nat) (n0 : Nat) (k0 : Nat) (X0 : Nat → RoX) (A0 : Nat → (Xs35 × (Nat × (Nat → Member)))) (y1 : Int) (y2 : Int) (r0 : (Int) × (Int)) (s0_0 : Int) (s0_1 : Int) (rb0 : (ByteArray) × (Int)) (s : Sh_barbicanlaw4_BtfWays_L1_L2v1) : List L1 → List Value := mrgF (mf_barbicanlaw4_BtfWays_L1_L2v1 s) (fl_barbicanlaw4_BtfWays_L1_L2v1 a0 p0 q0 n0 k0 X0 A0 y1 y2 r0 s0_0 s0_1 rb0 s) 3
def Hs_barbicanlaw4_BtfWays_L1_L2v1 (a0 : Option Addr) (p0 : Nat) (q0 : Nat) (n0 : Nat) (k0 : Nat) (X0 : Nat → RoX) (A0 : Nat → (Xs35 × (Nat × (Nat → Member)))) (y1 : Int) (y2 : Int) (r0 : (Int) × (Int)) (s0_0 : Int) (s0_1 : Int) (rb0 : (ByteArray) × (Int)) : Sh_barbicanlaw4_BtfWays_L1_L2v1 → List L1 → List Obj
  | .c0 , ls => [unb, unb, unb, unb]
def vl_barbicanlaw4_BtfWays_L1_L2v1 (a0 : Option Addr) (p0 : Nat) (q0 : Nat) (n0 : Nat) (k0 : Nat) (X0 : Nat → RoX) (A0 : Nat → (Xs35 × (Nat × (Nat → Member)))) (y1 : Int) (y2 : Int) (r0 : (Int) × (Int)) (s0_0 : Int) (s0_1 : Int) (rb0 : (ByteArray) × (Int)) : Ex_barbicanlaw4_BtfWays_L1_L2v1 → List L1 → List Value
  | .e0 , ls => [.slice a0 n0 (n0 + k0), .int .i64 (y1), .int .i64 (y2), .int .i64 (r0.1), .slice none 0 0, .int .i64 (s0_0), .int .i64 (s0_1), .string rb0.1]
def mk_barbicanlaw4_BtfWays_L1_L2v1 : Ex_barbicanlaw4_BtfWays_L1_L2v1 → List (Nat × Nat)
  | .e0  => [(3, 4), (1, 1), (1, 3), (3, 78)]
noncomputable def vf_barbicanlaw4_BtfWays_L1_L2v1 (a0 : Option Addr) (p0 : Nat) (q0 : Nat) (n0 : Nat) (k0 : Nat) (X0 : Nat → RoX) (A0 : Nat → (Xs35 × (Nat × (Nat → Member)))) (y1 : Int) (y2 : Int) (r0 : (Int) × (Int)) (s0_0 : Int) (s0_1 : Int) (rb0 : (ByteArray) × (Int)) (r : Ex_barbicanlaw4_BtfWays_L1_L2v1) : List L1 → List Value := mrgF (mk_barbicanlaw4_BtfWays_L1_L2v1 r) (vl_barbicanlaw4_BtfWays_L1_L2v1 a0 p0 q0 n0 k0 X0 A0 y1 y2 r0 s0_0 s0_1 rb0 r) 3
def Hf_barbicanlaw4_BtfWays_L1_L2v1 (a0 : Option Addr) (p0 : Nat) (q0 : Nat) (n0 : Nat) (k0 : Nat) (X0 : Nat → RoX) (A0 : Nat → (Xs35 × (Nat × (Nat → Member)))) (y1 : Int) (y2 : Int) (r0 : (Int) × (Int)) (s0_0 : Int) (s0_1 : Int) (rb0 : (ByteArray) × (Int)) : Ex_barbicanlaw4_BtfWays_L1_L2v1 → List L1 → List Obj
  | .e0 , ls => [unb, unb, unb, unb]
def ex_barbicanlaw4_BtfWays_L1_L2v1 : Ex_barbicanlaw4_BtfWays_L1_L2v1 → Ex
  | .e0  => (.exit 4)
theorem go_barbicanlaw4_BtfWays_L1_L2v1 (s0_0 : Int) (s0_1 : Int) (rb0 : (ByteArray) × (Int)) (s : Sh_barbicanlaw4_BtfWays_L1_L2v1) (r : Ex_barbicanlaw4_BtfWays_L1_L2v1) (h : lpO (st_barbicanlaw4_BtfWays_L1_L2v1 s0_0) s = some r) : GoesG Tryd.prog M B0 S (.loop bd_barbicanlaw4_BtfWays_L1_L2v1) 4 (fr_barbicanlaw4_BtfWays_L1_L2v1 a0 p0 q0 n0 k0 X0 A0 y1 y2 r0 s0_0 s0_1 rb0 s) (Hs_barbicanlaw4_BtfWays_L1_L2v1 a0 p0 q0 n0 k0 X0 A0 y1 y2 r0 s0_0 s0_1 rb0 s) (ex_barbicanlaw4_BtfWays_L1_L2v1 r) 3 (vf_barbicanlaw4_BtfWays_L1_L2v1 a0 p0 q0 n0 k0 X0 A0 y1 y2 r0 s0_0 s0_1 rb0 r) (Hf_barbicanlaw4_BtfWays_L1_L2v1 a0 p0 q0 n0 k0 X0 A0 y1 y2 r0 s0_0 s0_1 rb0 r) 4 :=
  goes_lpO (fun s q e => by
    cases s with
    | c0  =>
      unfold st_barbicanlaw4_BtfWays_L1_L2v1 at e
      dsimp only at e
      replace e := cond_eq_or e
      rcases e with ⟨hq0, e⟩ | ⟨hq0, e⟩
      · exact none_some e
      · cases e; exact ⟨ne_exit 4, goes_runM hU [.o, .o, .b (z_lssF hq0)] [0, 1, 2] (fun b => rfl) (by decide) rfl rfl (fun b => by kernel_rfl)⟩) s r h
noncomputable def t0_barbicanlaw4_BtfWays_L1_L2v1_0 (a0 : Option Addr) (p0 : Nat) (q0 : Nat) (n0 : Nat) (k0 : Nat) (X0 : Nat → RoX) (A0 : Nat → (Xs35 × (Nat × (Nat → Member)))) (y1 : Int) (y2 : Int) (r0 : (Int) × (Int)) (s0_0 : Int) (s0_1 : Int) (rb0 : (ByteArray) × (Int))  (ls : List L1) : List Value := List.append [.slice a0 n0 (n0 + k0), .int .i64 (y1), .int .i64 (y2)] (List.append (jks (lget ls 2).u 3 4) (List.append [.int .i64 (r0.1), ((lget ls 2).u 8), .slice none 0 0, ((lget ls 2).u 10), ((lget ls 2).u 11), ((lget ls 2).u 12), .int .i64 (s0_0), .int .i64 (s0_1), .string rb0.1, .int .i64 (rb0.2), .int .i64 (0)] (List.append (jks (lget ls 2).u 18 44) (List.append [.int .i64 (s0_1), .int .i64 (r0.1), .bool true, ((lget ls 2).u 65), ((lget ls 2).u 66), .tuple #[.string rb0.1, .int .i64 (rb0.2)], .slice a0 n0 (n0 + k0), .int .i64 (y1), .int .i64 (s0_1), .int .i64 (y2), .tuple #[.string rb0.1, .int .i64 (rb0.2)], .string rb0.1, .int .i64 (rb0.2), .int .i64 (rb0.2), .bool false] (jks (lget ls 2).u 77 17)))))
def pre_barbicanlaw4_BtfWays_L1_L2v1_0 (a0 : Option Addr) (p0 : Nat) (q0 : Nat) (n0 : Nat) (k0 : Nat) (X0 : Nat → RoX) (A0 : Nat → (Xs35 × (Nat × (Nat → Member)))) (y1 : Int) (y2 : Int) (r0 : (Int) × (Int)) (s0_0 : Int) (s0_1 : Int) (rb0 : (ByteArray) × (Int))  (ls : List L1) : List Obj := [unb, unb, unb]
theorem sp0_barbicanlaw4_BtfWays_L1_L2v1_0_ok (s0_0 : Int) (s0_1 : Int) (rb0 : (ByteArray) × (Int)) (h : lpO (st_barbicanlaw4_BtfWays_L1_L2v1 s0_0) (.c0) = some (.e0 )) : SpcG Tryd.prog M B0 S ⟨fun ls => .code (.loop bd_barbicanlaw4_BtfWays_L1_L2v1) (t0_barbicanlaw4_BtfWays_L1_L2v1_0 a0 p0 q0 n0 k0 X0 A0 y1 y2 r0 s0_0 s0_1 rb0  ls), pre_barbicanlaw4_BtfWays_L1_L2v1_0 a0 p0 q0 n0 k0 X0 A0 y1 y2 r0 s0_0 s0_1 rb0 , 1, (.exit 4), fun ls => vf_barbicanlaw4_BtfWays_L1_L2v1 a0 p0 q0 n0 k0 X0 A0 y1 y2 r0 s0_0 s0_1 rb0 (.e0 ) (ls.take 3 ++ ls.drop 3), fun ls => (Hf_barbicanlaw4_BtfWays_L1_L2v1 a0 p0 q0 n0 k0 X0 A0 y1 y2 r0 s0_0 s0_1 rb0 (.e0 ) (ls.take 3 ++ ls.drop 3)).take 3 ++ List.replicate 0 unb, fun ls => (Hf_barbicanlaw4_BtfWays_L1_L2v1 a0 p0 q0 n0 k0 X0 A0 y1 y2 r0 s0_0 s0_1 rb0 (.e0 ) (ls.take 3 ++ ls.drop 3)).drop 3⟩ :=
  spc_of_goesM hU 0 (k0 := 3) (go_barbicanlaw4_BtfWays_L1_L2v1 hU a0 p0 q0 n0 k0 X0 A0 hR0 y1 y2 r0 s0_0 s0_1 rb0 _ _ h) (t0_barbicanlaw4_BtfWays_L1_L2v1_0 a0 p0 q0 n0 k0 X0 A0 y1 y2 r0 s0_0 s0_1 rb0 ) (pre_barbicanlaw4_BtfWays_L1_L2v1_0 a0 p0 q0 n0 k0 X0 A0 y1 y2 r0 s0_0 s0_1 rb0 ) (fun _ => rfl) (fun ls h => by match ls, h with | [l0, l1, l2], _ => exact ⟨by kernel_rfl, by kernel_rfl⟩) (fun ls h => by match ls, h with | [l0, l1, l2], _ => rfl) (by decide) (by decide) (fun ls => rfl)
inductive Sh_barbicanlaw4_BtfWays_L1 where
  | c0 (s0_0 : Int) (s0_1 : Int)
inductive Ex_barbicanlaw4_BtfWays_L1 where
  | e0 
noncomputable def st_barbicanlaw4_BtfWays_L1 (n0 : Nat) (A0 : Nat → (Xs35 × (Nat × (Nat → Member)))) (y1 : Int) (y2 : Int) (r0 : (Int) × (Int)) : Sh_barbicanlaw4_BtfWays_L1 → Option (Sh_barbicanlaw4_BtfWays_L1 ⊕ Ex_barbicanlaw4_BtfWays_L1)
  | .c0 s0_0 s0_1 =>
    bif decide (s0_1 < r0.1) then
      ((m_btf_Field_v2 n0 A0 y1 s0_1 y2).bind fun rb0 =>
      bif rb0.2 == 0 then
        ((lpO (st_barbicanlaw4_BtfWays_L1_L2v1 s0_0) (.c0)).bind fun gb1 => match gb1 with
        | .e0 =>
        some (.inl (.c0 (IntKind.i64.wrap (s0_0 + 1)) (IntKind.i64.wrap (s0_1 + 1)))))
      else (some (.inl (.c0 s0_0 (IntKind.i64.wrap (s0_1 + 1))))))
    else (some (.inr (.e0 )))
noncomputable def bd_barbicanlaw4_BtfWays_L1 : Code := codeOf Tryd.f3 [1, 1, 1, 1, 1, 1, 1, 0, 1, 0, 0]
def fl_barbicanlaw4_BtfWays_L1 (a0 : Option Addr) (p0 : Nat) (q0 : Nat) (n0 : Nat) (k0 : Nat) (X0 : Nat → RoX) (A0 : Nat → (Xs35 × (Nat × (Nat → Member)))) (y1 : Int) (y2 : Int) (r0 : (Int) × (Int)) : Sh_barbicanlaw4_BtfWays_L1 → List L1 → List Value
  | .c0 s0_0 s0_1, ls => [.slice a0 n0 (n0 + k0), .int .i64 (y1), .int .i64 (y2), .int .i64 (r0.1), .slice none 0 0, .int .i64 (s0_0), .int .i64 (s0_1)]
def mf_barbicanlaw4_BtfWays_L1 : Sh_barbicanlaw4_BtfWays_L1 → List (Nat × Nat)
  | .c0 _ _ => [(3, 4), (1, 1), (1, 3), (2, 79)]
noncomputable def fr_barbicanlaw4_BtfWays_L1 (a0 : Option Addr) (p0 : Nat) (q0 : Nat) (n0 : Nat) (k0 : Nat) (X0 : Nat → RoX) (A0 : Nat → (Xs35 × (Nat × (Nat → Member)))) (y1 : Int) (y2 : Int) (r0 : (Int) × (Int)) (s : Sh_barbicanlaw4_BtfWays_L1) : List L1 → List Value := mrgF (mf_barbicanlaw4_BtfWays_L1 s) (fl_barbicanlaw4_BtfWays_L1 a0 p0 q0 n0 k0 X0 A0 y1 y2 r0 s) 2
def Hs_barbicanlaw4_BtfWays_L1 (a0 : Option Addr) (p0 : Nat) (q0 : Nat) (n0 : Nat) (k0 : Nat) (X0 : Nat → RoX) (A0 : Nat → (Xs35 × (Nat × (Nat → Member)))) (y1 : Int) (y2 : Int) (r0 : (Int) × (Int)) : Sh_barbicanlaw4_BtfWays_L1 → List L1 → List Obj
  | .c0 s0_0 s0_1, ls => [unb, unb, unb]
def vl_barbicanlaw4_BtfWays_L1 (a0 : Option Addr) (p0 : Nat) (q0 : Nat) (n0 : Nat) (k0 : Nat) (X0 : Nat → RoX) (A0 : Nat → (Xs35 × (Nat × (Nat → Member)))) (y1 : Int) (y2 : Int) (r0 : (Int) × (Int)) : Ex_barbicanlaw4_BtfWays_L1 → List L1 → List Value
  | .e0 , ls => [.slice a0 n0 (n0 + k0), .int .i64 (y1), .int .i64 (y2), .int .i64 (r0.1), .slice none 0 0]
def mk_barbicanlaw4_BtfWays_L1 : Ex_barbicanlaw4_BtfWays_L1 → List (Nat × Nat)
  | .e0  => [(3, 4), (1, 1), (1, 84)]
noncomputable def vf_barbicanlaw4_BtfWays_L1 (a0 : Option Addr) (p0 : Nat) (q0 : Nat) (n0 : Nat) (k0 : Nat) (X0 : Nat → RoX) (A0 : Nat → (Xs35 × (Nat × (Nat → Member)))) (y1 : Int) (y2 : Int) (r0 : (Int) × (Int)) (r : Ex_barbicanlaw4_BtfWays_L1) : List L1 → List Value := mrgF (mk_barbicanlaw4_BtfWays_L1 r) (vl_barbicanlaw4_BtfWays_L1 a0 p0 q0 n0 k0 X0 A0 y1 y2 r0 r) 2
def Hf_barbicanlaw4_BtfWays_L1 (a0 : Option Addr) (p0 : Nat) (q0 : Nat) (n0 : Nat) (k0 : Nat) (X0 : Nat → RoX) (A0 : Nat → (Xs35 × (Nat × (Nat → Member)))) (y1 : Int) (y2 : Int) (r0 : (Int) × (Int)) : Ex_barbicanlaw4_BtfWays_L1 → List L1 → List Obj
  | .e0 , ls => [unb, unb, unb]
def ex_barbicanlaw4_BtfWays_L1 : Ex_barbicanlaw4_BtfWays_L1 → Ex
  | .e0  => (.exit 2)
theorem go_barbicanlaw4_BtfWays_L1 (s : Sh_barbicanlaw4_BtfWays_L1) (r : Ex_barbicanlaw4_BtfWays_L1) (h : lpO (st_barbicanlaw4_BtfWays_L1 n0 A0 y1 y2 r0) s = some r) : GoesG Tryd.prog M B0 S (.loop bd_barbicanlaw4_BtfWays_L1) 3 (fr_barbicanlaw4_BtfWays_L1 a0 p0 q0 n0 k0 X0 A0 y1 y2 r0 s) (Hs_barbicanlaw4_BtfWays_L1 a0 p0 q0 n0 k0 X0 A0 y1 y2 r0 s) (ex_barbicanlaw4_BtfWays_L1 r) 2 (vf_barbicanlaw4_BtfWays_L1 a0 p0 q0 n0 k0 X0 A0 y1 y2 r0 r) (Hf_barbicanlaw4_BtfWays_L1 a0 p0 q0 n0 k0 X0 A0 y1 y2 r0 r) 3 :=
  goes_lpO (fun s q e => by
    cases s with
    | c0 s0_0 s0_1 =>
      unfold st_barbicanlaw4_BtfWays_L1 at e
      dsimp only at e
      replace e := cond_eq_or e
      rcases e with ⟨hq0, e⟩ | ⟨hq0, e⟩
      · replace e := bindO_eq e
        obtain ⟨rb0, e_rb0, e⟩ := e
        try dsimp only at e
        replace e := cond_eq_or e
        rcases e with ⟨hq1, e⟩ | ⟨hq1, e⟩
        · replace e := bindO_eq e
          obtain ⟨gb1, e_gb1, e⟩ := e
          cases gb1
          try dsimp only at e
          cases e; exact goes_runM hU [.o, .o, .b (z_lssT hq0), .o, .o, .o, .o, .cg (ok_btf_Field_v2 hU a0 p0 q0 n0 k0 X0 A0 hR0 y1 s0_1 y2 rb0 e_rb0), .o, .o, .o, .o, .o, .o, .b (z_neqT hq1), .o, .cp, .cx (sp0_barbicanlaw4_BtfWays_L1_L2v1_0_ok hU a0 p0 q0 n0 k0 X0 A0 hR0 y1 y2 r0 s0_0 s0_1 rb0   e_gb1) [0, 1, 2], .o, .o, .o, .o, .o, .o] [0, 1] (fun b => rfl) (by decide) rfl rfl (fun b => by kernel_rfl)
        · cases e; exact goes_runM hU [.o, .o, .b (z_lssT hq0), .o, .o, .o, .o, .cg (ok_btf_Field_v2 hU a0 p0 q0 n0 k0 X0 A0 hR0 y1 s0_1 y2 rb0 e_rb0), .o, .o, .o, .o, .o, .o, .b (z_neqF hq1), .o, .o, .o] [0, 1] (fun b => rfl) (by decide) rfl rfl (fun b => by kernel_rfl)
      · cases e; exact ⟨ne_exit 2, goes_runM hU [.o, .o, .b (z_lssF hq0)] [0, 1] (fun b => rfl) (by decide) rfl rfl (fun b => by kernel_rfl)⟩) s r h
noncomputable def t0_barbicanlaw4_BtfWays_L1_0 (a0 : Option Addr) (p0 : Nat) (q0 : Nat) (n0 : Nat) (k0 : Nat) (X0 : Nat → RoX) (A0 : Nat → (Xs35 × (Nat × (Nat → Member)))) (y1 : Int) (y2 : Int) (r0 : (Int) × (Int)) (s0_0 : Int) (s0_1 : Int) (ls : List L1) : List Value := List.append [.slice a0 n0 (n0 + k0), .int .i64 (y1), .int .i64 (y2)] (List.append (jks (lget ls 1).u 3 4) (List.append [.int .i64 (r0.1), ((lget ls 1).u 8), .slice none 0 0, ((lget ls 1).u 10), ((lget ls 1).u 11), ((lget ls 1).u 12), .int .i64 (s0_0), .int .i64 (s0_1)] (jks (lget ls 1).u 15 79)))
def pre_barbicanlaw4_BtfWays_L1_0 (a0 : Option Addr) (p0 : Nat) (q0 : Nat) (n0 : Nat) (k0 : Nat) (X0 : Nat → RoX) (A0 : Nat → (Xs35 × (Nat × (Nat → Member)))) (y1 : Int) (y2 : Int) (r0 : (Int) × (Int)) (s0_0 : Int) (s0_1 : Int) (ls : List L1) : List Obj := [unb, unb]
theorem sp0_barbicanlaw4_BtfWays_L1_0_ok (s0_0 : Int) (s0_1 : Int) (h : lpO (st_barbicanlaw4_BtfWays_L1 n0 A0 y1 y2 r0) (.c0 s0_0 s0_1) = some (.e0 )) : SpcG Tryd.prog M B0 S ⟨fun ls => .code (.loop bd_barbicanlaw4_BtfWays_L1) (t0_barbicanlaw4_BtfWays_L1_0 a0 p0 q0 n0 k0 X0 A0 y1 y2 r0 s0_0 s0_1 ls), pre_barbicanlaw4_BtfWays_L1_0 a0 p0 q0 n0 k0 X0 A0 y1 y2 r0 s0_0 s0_1, 1, (.exit 2), fun ls => vf_barbicanlaw4_BtfWays_L1 a0 p0 q0 n0 k0 X0 A0 y1 y2 r0 (.e0 ) (ls.take 2 ++ ls.drop 2), fun ls => (Hf_barbicanlaw4_BtfWays_L1 a0 p0 q0 n0 k0 X0 A0 y1 y2 r0 (.e0 ) (ls.take 2 ++ ls.drop 2)).take 2 ++ List.replicate 0 unb, fun ls => (Hf_barbicanlaw4_BtfWays_L1 a0 p0 q0 n0 k0 X0 A0 y1 y2 r0 (.e0 ) (ls.take 2 ++ ls.drop 2)).drop 2⟩ :=
  spc_of_goesM hU 0 (k0 := 2) (go_barbicanlaw4_BtfWays_L1 hU a0 p0 q0 n0 k0 X0 A0 hR0 y1 y2 r0 _ _ h) (t0_barbicanlaw4_BtfWays_L1_0 a0 p0 q0 n0 k0 X0 A0 y1 y2 r0 s0_0 s0_1) (pre_barbicanlaw4_BtfWays_L1_0 a0 p0 q0 n0 k0 X0 A0 y1 y2 r0 s0_0 s0_1) (fun _ => rfl) (fun ls h => by match ls, h with | [l0, l1], _ => exact ⟨by kernel_rfl, by kernel_rfl⟩) (fun ls h => by match ls, h with | [l0, l1], _ => rfl) (by decide) (by decide) (fun ls => rfl)
inductive Sh_barbicanlaw4_BtfWays_L1v1_L2v1 where
  | c0 (sb0_0 : Int)
inductive Ex_barbicanlaw4_BtfWays_L1v1_L2v1 where
  | e0 
  | e1 
noncomputable def st_barbicanlaw4_BtfWays_L1v1_L2v1 (y2 : Int) (g2_0 : Nat) (g2_1 : Nat → ByteArray) (s0_0 : Int) (rb0 : (ByteArray) × (Int)) : Sh_barbicanlaw4_BtfWays_L1v1_L2v1 → Option (Sh_barbicanlaw4_BtfWays_L1v1_L2v1 ⊕ Ex_barbicanlaw4_BtfWays_L1v1_L2v1)
  | .c0 sb0_0 =>
    bif decide (sb0_0 < s0_0) then
      (bif inR sb0_0 g2_0 then
        (bif (g2_1 (sb0_0).toNat) == rb0.1 then
          (bif y2 == 8 then
            (some (.inr (.e1 )))
          else (some (.inl (.c0 (IntKind.i64.wrap (sb0_0 + 1))))))
        else (some (.inl (.c0 (IntKind.i64.wrap (sb0_0 + 1))))))
      else (none))
    else (some (.inr (.e0 )))
noncomputable def bd_barbicanlaw4_BtfWays_L1v1_L2v1 : Code := codeOf Tryd.f3 [1, 1, 1, 1, 1, 1, 1, 0, 1, 0, 0, 1, 0, 0, 1, 1, 0, 1, 0, 0]
def fl_barbicanlaw4_BtfWays_L1v1_L2v1 (a0 : Option Addr) (p0 : Nat) (q0 : Nat) (n0 : Nat) (k0 : Nat) (X0 : Nat → RoX) (A0 : Nat → (Xs35 × (Nat × (Nat → Member)))) (y1 : Int) (y2 : Int) (r0 : (Int) × (Int)) (g2_0 : Nat) (g2_1 : Nat → ByteArray) (s0_0 : Int) (s0_1 : Int) (rb0 : (ByteArray) × (Int)) : Sh_barbicanlaw4_BtfWays_L1v1_L2v1 → List L1 → List Value
  | .c0 sb0_0, ls => [.slice a0 n0 (n0 + k0), .int .i64 (y1), .int .i64 (y2), .int .i64 (r0.1), (rowV (lget ls 0) g2_0 1), .int .i64 (s0_0), .int .i64 (s0_1), .string rb0.1, .int .i64 (sb0_0)]
def mf_barbicanlaw4_BtfWays_L1v1_L2v1 : Sh_barbicanlaw4_BtfWays_L1v1_L2v1 → List (Nat × Nat)
  | .c0 _ => [(3, 4), (1, 1), (1, 3), (3, 1), (1, 76)]
noncomputable def fr_barbicanlaw4_BtfWays_L1v1_L2v1 (a0 : Option Addr) (p0 : Nat) (q0 : Nat) (n0 : Nat) (k0 : Nat) (X0 : Nat → RoX) (A0 : Nat → (Xs35 × (Nat × (Nat → Member)))) (y1 : Int) (y2 : Int) (r0 : (Int) × (Int)) (g2_0 : Nat) (g2_1 : Nat → ByteArray) (s0_0 : Int) (s0_1 : Int) (rb0 : (ByteArray) × (Int)) (s : Sh_barbicanlaw4_BtfWays_L1v1_L2v1) : List L1 → List Value := mrgF (mf_barbicanlaw4_BtfWays_L1v1_L2v1 s) (fl_barbicanlaw4_BtfWays_L1v1_L2v1 a0 p0 q0 n0 k0 X0 A0 y1 y2 r0 g2_0 g2_1 s0_0 s0_1 rb0 s) 3
def Hs_barbicanlaw4_BtfWays_L1v1_L2v1 (a0 : Option Addr) (p0 : Nat) (q0 : Nat) (n0 : Nat) (k0 : Nat) (X0 : Nat → RoX) (A0 : Nat → (Xs35 × (Nat × (Nat → Member)))) (y1 : Int) (y2 : Int) (r0 : (Int) × (Int)) (g2_0 : Nat) (g2_1 : Nat → ByteArray) (s0_0 : Int) (s0_1 : Int) (rb0 : (ByteArray) × (Int)) : Sh_barbicanlaw4_BtfWays_L1v1_L2v1 → List L1 → List Obj
  | .c0 sb0_0, ls => [rowO (lget ls 0) (esG cS g2_0 g2_1) 9 g2_0 1, unb, unb, unb]
def vl_barbicanlaw4_BtfWays_L1v1_L2v1 (a0 : Option Addr) (p0 : Nat) (q0 : Nat) (n0 : Nat) (k0 : Nat) (X0 : Nat → RoX) (A0 : Nat → (Xs35 × (Nat × (Nat → Member)))) (y1 : Int) (y2 : Int) (r0 : (Int) × (Int)) (g2_0 : Nat) (g2_1 : Nat → ByteArray) (s0_0 : Int) (s0_1 : Int) (rb0 : (ByteArray) × (Int)) : Ex_barbicanlaw4_BtfWays_L1v1_L2v1 → List L1 → List Value
  | .e0 , ls => [.slice a0 n0 (n0 + k0), .int .i64 (y1), .int .i64 (y2), .int .i64 (r0.1), (rowV (lget ls 0) g2_0 1), .int .i64 (s0_0), .int .i64 (s0_1), .string rb0.1]
  | .e1 , ls => [.slice a0 n0 (n0 + k0), .int .i64 (y1), .int .i64 (y2), .bool false, .int .i64 (r0.1), (rowV (lget ls 0) g2_0 1), .int .i64 (s0_0), .int .i64 (s0_1), .string rb0.1]
def mk_barbicanlaw4_BtfWays_L1v1_L2v1 : Ex_barbicanlaw4_BtfWays_L1v1_L2v1 → List (Nat × Nat)
  | .e0  => [(3, 4), (1, 1), (1, 3), (3, 78)]
  | .e1  => [(3, 3), (2, 1), (1, 3), (3, 78)]
noncomputable def vf_barbicanlaw4_BtfWays_L1v1_L2v1 (a0 : Option Addr) (p0 : Nat) (q0 : Nat) (n0 : Nat) (k0 : Nat) (X0 : Nat → RoX) (A0 : Nat → (Xs35 × (Nat × (Nat → Member)))) (y1 : Int) (y2 : Int) (r0 : (Int) × (Int)) (g2_0 : Nat) (g2_1 : Nat → ByteArray) (s0_0 : Int) (s0_1 : Int) (rb0 : (ByteArray) × (Int)) (r : Ex_barbicanlaw4_BtfWays_L1v1_L2v1) : List L1 → List Value := mrgF (mk_barbicanlaw4_BtfWays_L1v1_L2v1 r) (vl_barbicanlaw4_BtfWays_L1v1_L2v1 a0 p0 q0 n0 k0 X0 A0 y1 y2 r0 g2_0 g2_1 s0_0 s0_1 rb0 r) 3
def Hf_barbicanlaw4_BtfWays_L1v1_L2v1 (a0 : Option Addr) (p0 : Nat) (q0 : Nat) (n0 : Nat) (k0 : Nat) (X0 : Nat → RoX) (A0 : Nat → (Xs35 × (Nat × (Nat → Member)))) (y1 : Int) (y2 : Int) (r0 : (Int) × (Int)) (g2_0 : Nat) (g2_1 : Nat → ByteArray) (s0_0 : Int) (s0_1 : Int) (rb0 : (ByteArray) × (Int)) : Ex_barbicanlaw4_BtfWays_L1v1_L2v1 → List L1 → List Obj
  | .e0 , ls => [rowO (lget ls 0) (esG cS g2_0 g2_1) 9 g2_0 1, unb, unb, unb]
  | .e1 , ls => [rowO (lget ls 0) (esG cS g2_0 g2_1) 9 g2_0 1, unb, unb, unb]
def ex_barbicanlaw4_BtfWays_L1v1_L2v1 : Ex_barbicanlaw4_BtfWays_L1v1_L2v1 → Ex
  | .e0  => (.exit 4)
  | .e1  => .ret
theorem go_barbicanlaw4_BtfWays_L1v1_L2v1 (g2_0 : Nat) (g2_1 : Nat → ByteArray) (s0_0 : Int) (s0_1 : Int) (rb0 : (ByteArray) × (Int)) (s : Sh_barbicanlaw4_BtfWays_L1v1_L2v1) (r : Ex_barbicanlaw4_BtfWays_L1v1_L2v1) (h : lpO (st_barbicanlaw4_BtfWays_L1v1_L2v1 y2 g2_0 g2_1 s0_0 rb0) s = some r) : GoesG Tryd.prog M B0 S (.loop bd_barbicanlaw4_BtfWays_L1v1_L2v1) 4 (fr_barbicanlaw4_BtfWays_L1v1_L2v1 a0 p0 q0 n0 k0 X0 A0 y1 y2 r0 g2_0 g2_1 s0_0 s0_1 rb0 s) (Hs_barbicanlaw4_BtfWays_L1v1_L2v1 a0 p0 q0 n0 k0 X0 A0 y1 y2 r0 g2_0 g2_1 s0_0 s0_1 rb0 s) (ex_barbicanlaw4_BtfWays_L1v1_L2v1 r) 3 (vf_barbicanlaw4_BtfWays_L1v1_L2v1 a0 p0 q0 n0 k0 X0 A0 y1 y2 r0 g2_0 g2_1 s0_0 s0_1 rb0 r) (Hf_barbicanlaw4_BtfWays_L1v1_L2v1 a0 p0 q0 n0 k0 X0 A0 y1 y2 r0 g2_0 g2_1 s0_0 s0_1 rb0 r) 4 :=
  goes_lpO (fun s q e => by
    cases s with
    | c0 sb0_0 =>
      unfold st_barbicanlaw4_BtfWays_L1v1_L2v1 at e
      dsimp only at e
      replace e := cond_eq_or e
      rcases e with ⟨hq0, e⟩ | ⟨hq0, e⟩
      · replace e := cond_eq_or e
        rcases e with ⟨hq1, e⟩ | ⟨hq1, e⟩
        · replace e := cond_eq_or e
          rcases e with ⟨hq2, e⟩ | ⟨hq2, e⟩
          · replace e := cond_eq_or e
            rcases e with ⟨hq3, e⟩ | ⟨hq3, e⟩
            · cases e; exact ⟨ne_ret, goes_runM hU [.o, .o, .b (z_lssT hq0), .o, .o, .q (ixM_ok (kd := .i64) (T := 28) (x := sb0_0) (N := g2_0) (sz := 1) rfl (fun w => by kernel_rfl) hq1), .l (accG (i := 0) (f := cS) (A := g2_1) (k := (sb0_0).toNat) 0 [.string (g2_1 (sb0_0).toNat)] cS_len (inR_nat hq1) rfl), .o, .ov (fun w => (str_eql 9 (g2_1 (sb0_0).toNat) rb0.1 (by kernel_rfl) (.tmp 85) (.tmp 86) w).trans (congrArg (fun b => Result.ok (Next.value (Value.bool b)) w) hq2)), .o, .o, .b (z_eqlT hq3), .o, .o] [0, 1, 2] (fun b => rfl) (by decide) rfl rfl (fun b => by kernel_rfl)⟩
            · cases e; exact goes_runM hU [.o, .o, .b (z_lssT hq0), .o, .o, .q (ixM_ok (kd := .i64) (T := 28) (x := sb0_0) (N := g2_0) (sz := 1) rfl (fun w => by kernel_rfl) hq1), .l (accG (i := 0) (f := cS) (A := g2_1) (k := (sb0_0).toNat) 0 [.string (g2_1 (sb0_0).toNat)] cS_len (inR_nat hq1) rfl), .o, .ov (fun w => (str_eql 9 (g2_1 (sb0_0).toNat) rb0.1 (by kernel_rfl) (.tmp 85) (.tmp 86) w).trans (congrArg (fun b => Result.ok (Next.value (Value.bool b)) w) hq2)), .o, .o, .b (z_eqlF hq3), .o, .o, .o, .o] [0, 1, 2] (fun b => rfl) (by decide) rfl rfl (fun b => by kernel_rfl)
          · cases e; exact goes_runM hU [.o, .o, .b (z_lssT hq0), .o, .o, .q (ixM_ok (kd := .i64) (T := 28) (x := sb0_0) (N := g2_0) (sz := 1) rfl (fun w => by kernel_rfl) hq1), .l (accG (i := 0) (f := cS) (A := g2_1) (k := (sb0_0).toNat) 0 [.string (g2_1 (sb0_0).toNat)] cS_len (inR_nat hq1) rfl), .o, .ov (fun w => (str_eql 9 (g2_1 (sb0_0).toNat) rb0.1 (by kernel_rfl) (.tmp 85) (.tmp 86) w).trans (congrArg (fun b => Result.ok (Next.value (Value.bool b)) w) hq2)), .o, .o, .o, .o, .o] [0, 1, 2] (fun b => rfl) (by decide) rfl rfl (fun b => by kernel_rfl)
        · exact none_some e
      · cases e; exact ⟨ne_exit 4, goes_runM hU [.o, .o, .b (z_lssF hq0)] [0, 1, 2] (fun b => rfl) (by decide) rfl rfl (fun b => by kernel_rfl)⟩) s r h
noncomputable def t0_barbicanlaw4_BtfWays_L1v1_L2v1_0 (a0 : Option Addr) (p0 : Nat) (q0 : Nat) (n0 : Nat) (k0 : Nat) (X0 : Nat → RoX) (A0 : Nat → (Xs35 × (Nat × (Nat → Member)))) (y1 : Int) (y2 : Int) (r0 : (Int) × (Int)) (g2_0 : Nat) (g2_1 : Nat → ByteArray) (s0_0 : Int) (s0_1 : Int) (rb0 : (ByteArray) × (Int)) (sb0_0 : Int) (ls : List L1) : List Value := List.append [.slice a0 n0 (n0 + k0), .int .i64 (y1), .int .i64 (y2)] (List.append (jks (lget ls 2).u 3 4) (List.append [.int .i64 (r0.1), ((lget ls 2).u 8), (rowV (lget ls 0) g2_0 1), ((lget ls 2).u 10), ((lget ls 2).u 11), ((lget ls 2).u 12), .int .i64 (s0_0), .int .i64 (s0_1), .string rb0.1, .int .i64 (rb0.2), .int .i64 (sb0_0)] (List.append (jks (lget ls 2).u 18 44) (List.append [.int .i64 (s0_1), .int .i64 (r0.1), .bool true, ((lget ls 2).u 65), ((lget ls 2).u 66), .tuple #[.string rb0.1, .int .i64 (rb0.2)], .slice a0 n0 (n0 + k0), .int .i64 (y1), .int .i64 (s0_1), .int .i64 (y2), .tuple #[.string rb0.1, .int .i64 (rb0.2)], .string rb0.1, .int .i64 (rb0.2), .int .i64 (rb0.2), .bool false] (jks (lget ls 2).u 77 17)))))
def pre_barbicanlaw4_BtfWays_L1v1_L2v1_0 (a0 : Option Addr) (p0 : Nat) (q0 : Nat) (n0 : Nat) (k0 : Nat) (X0 : Nat → RoX) (A0 : Nat → (Xs35 × (Nat × (Nat → Member)))) (y1 : Int) (y2 : Int) (r0 : (Int) × (Int)) (g2_0 : Nat) (g2_1 : Nat → ByteArray) (s0_0 : Int) (s0_1 : Int) (rb0 : (ByteArray) × (Int)) (sb0_0 : Int) (ls : List L1) : List Obj := [rowO (lget ls 0) (esG cS g2_0 g2_1) 9 g2_0 1, unb, unb]
theorem sp0_barbicanlaw4_BtfWays_L1v1_L2v1_0_ok (g2_0 : Nat) (g2_1 : Nat → ByteArray) (s0_0 : Int) (s0_1 : Int) (rb0 : (ByteArray) × (Int)) (sb0_0 : Int) (h : lpO (st_barbicanlaw4_BtfWays_L1v1_L2v1 y2 g2_0 g2_1 s0_0 rb0) (.c0 sb0_0) = some (.e0 )) : SpcG Tryd.prog M B0 S ⟨fun ls => .code (.loop bd_barbicanlaw4_BtfWays_L1v1_L2v1) (t0_barbicanlaw4_BtfWays_L1v1_L2v1_0 a0 p0 q0 n0 k0 X0 A0 y1 y2 r0 g2_0 g2_1 s0_0 s0_1 rb0 sb0_0 ls), pre_barbicanlaw4_BtfWays_L1v1_L2v1_0 a0 p0 q0 n0 k0 X0 A0 y1 y2 r0 g2_0 g2_1 s0_0 s0_1 rb0 sb0_0, 1, (.exit 4), fun ls => vf_barbicanlaw4_BtfWays_L1v1_L2v1 a0 p0 q0 n0 k0 X0 A0 y1 y2 r0 g2_0 g2_1 s0_0 s0_1 rb0 (.e0 ) (ls.take 3 ++ ls.drop 3), fun ls => (Hf_barbicanlaw4_BtfWays_L1v1_L2v1 a0 p0 q0 n0 k0 X0 A0 y1 y2 r0 g2_0 g2_1 s0_0 s0_1 rb0 (.e0 ) (ls.take 3 ++ ls.drop 3)).take 3 ++ List.replicate 0 unb, fun ls => (Hf_barbicanlaw4_BtfWays_L1v1_L2v1 a0 p0 q0 n0 k0 X0 A0 y1 y2 r0 g2_0 g2_1 s0_0 s0_1 rb0 (.e0 ) (ls.take 3 ++ ls.drop 3)).drop 3⟩ :=
  spc_of_goesM hU 0 (k0 := 3) (go_barbicanlaw4_BtfWays_L1v1_L2v1 hU a0 p0 q0 n0 k0 X0 A0 hR0 y1 y2 r0 g2_0 g2_1 s0_0 s0_1 rb0 _ _ h) (t0_barbicanlaw4_BtfWays_L1v1_L2v1_0 a0 p0 q0 n0 k0 X0 A0 y1 y2 r0 g2_0 g2_1 s0_0 s0_1 rb0 sb0_0) (pre_barbicanlaw4_BtfWays_L1v1_L2v1_0 a0 p0 q0 n0 k0 X0 A0 y1 y2 r0 g2_0 g2_1 s0_0 s0_1 rb0 sb0_0) (fun _ => rfl) (fun ls h => by match ls, h with | [l0, l1, l2], _ => exact ⟨by kernel_rfl, by kernel_rfl⟩) (fun ls h => by match ls, h with | [l0, l1, l2], _ => rfl) (by decide) (by decide) (fun ls => rfl)
theorem sp1_barbicanlaw4_BtfWays_L1v1_L2v1_0_ok (g2_0 : Nat) (g2_1 : Nat → ByteArray) (s0_0 : Int) (s0_1 : Int) (rb0 : (ByteArray) × (Int)) (sb0_0 : Int) (h : lpO (st_barbicanlaw4_BtfWays_L1v1_L2v1 y2 g2_0 g2_1 s0_0 rb0) (.c0 sb0_0) = some (.e1 )) : SpcG Tryd.prog M B0 S ⟨fun ls => .code (.loop bd_barbicanlaw4_BtfWays_L1v1_L2v1) (t0_barbicanlaw4_BtfWays_L1v1_L2v1_0 a0 p0 q0 n0 k0 X0 A0 y1 y2 r0 g2_0 g2_1 s0_0 s0_1 rb0 sb0_0 ls), pre_barbicanlaw4_BtfWays_L1v1_L2v1_0 a0 p0 q0 n0 k0 X0 A0 y1 y2 r0 g2_0 g2_1 s0_0 s0_1 rb0 sb0_0, 1, .ret, fun ls => vf_barbicanlaw4_BtfWays_L1v1_L2v1 a0 p0 q0 n0 k0 X0 A0 y1 y2 r0 g2_0 g2_1 s0_0 s0_1 rb0 (.e1 ) (ls.take 3 ++ ls.drop 3), fun ls => (Hf_barbicanlaw4_BtfWays_L1v1_L2v1 a0 p0 q0 n0 k0 X0 A0 y1 y2 r0 g2_0 g2_1 s0_0 s0_1 rb0 (.e1 ) (ls.take 3 ++ ls.drop 3)).take 3 ++ List.replicate 0 unb, fun ls => (Hf_barbicanlaw4_BtfWays_L1v1_L2v1 a0 p0 q0 n0 k0 X0 A0 y1 y2 r0 g2_0 g2_1 s0_0 s0_1 rb0 (.e1 ) (ls.take 3 ++ ls.drop 3)).drop 3⟩ :=
  spc_of_goesM hU 0 (k0 := 3) (go_barbicanlaw4_BtfWays_L1v1_L2v1 hU a0 p0 q0 n0 k0 X0 A0 hR0 y1 y2 r0 g2_0 g2_1 s0_0 s0_1 rb0 _ _ h) (t0_barbicanlaw4_BtfWays_L1v1_L2v1_0 a0 p0 q0 n0 k0 X0 A0 y1 y2 r0 g2_0 g2_1 s0_0 s0_1 rb0 sb0_0) (pre_barbicanlaw4_BtfWays_L1v1_L2v1_0 a0 p0 q0 n0 k0 X0 A0 y1 y2 r0 g2_0 g2_1 s0_0 s0_1 rb0 sb0_0) (fun _ => rfl) (fun ls h => by match ls, h with | [l0, l1, l2], _ => exact ⟨by kernel_rfl, by kernel_rfl⟩) (fun ls h => by match ls, h with | [l0, l1, l2], _ => rfl) (by decide) (by decide) (fun ls => rfl)
inductive Sh_barbicanlaw4_BtfWays_L1v1 where
  | c0 (s0_0 : Int) (s0_1 : Int)
inductive Ex_barbicanlaw4_BtfWays_L1v1 where
  | e0 
  | e1 
noncomputable def st_barbicanlaw4_BtfWays_L1v1 (n0 : Nat) (A0 : Nat → (Xs35 × (Nat × (Nat → Member)))) (y1 : Int) (y2 : Int) (r0 : (Int) × (Int)) (g2_0 : Nat) (g2_1 : Nat → ByteArray) : Sh_barbicanlaw4_BtfWays_L1v1 → Option (Sh_barbicanlaw4_BtfWays_L1v1 ⊕ Ex_barbicanlaw4_BtfWays_L1v1)
  | .c0 s0_0 s0_1 =>
    bif decide (s0_1 < r0.1) then
      ((m_btf_Field_v2 n0 A0 y1 s0_1 y2).bind fun rb0 =>
      bif rb0.2 == 0 then
        ((lpO (st_barbicanlaw4_BtfWays_L1v1_L2v1 y2 g2_0 g2_1 s0_0 rb0) (.c0 0)).bind fun gb1 => match gb1 with
        | .e0  => (some (.inl (.c0 (IntKind.i64.wrap (s0_0 + 1)) (IntKind.i64.wrap (s0_1 + 1)))))
        | .e1  => (some (.inr (.e1 ))))
      else (some (.inl (.c0 s0_0 (IntKind.i64.wrap (s0_1 + 1))))))
    else (some (.inr (.e0 )))
noncomputable def bd_barbicanlaw4_BtfWays_L1v1 : Code := codeOf Tryd.f3 [1, 1, 1, 1, 1, 1, 1, 0, 1, 0, 0]
def fl_barbicanlaw4_BtfWays_L1v1 (a0 : Option Addr) (p0 : Nat) (q0 : Nat) (n0 : Nat) (k0 : Nat) (X0 : Nat → RoX) (A0 : Nat → (Xs35 × (Nat × (Nat → Member)))) (y1 : Int) (y2 : Int) (r0 : (Int) × (Int)) (g2_0 : Nat) (g2_1 : Nat → ByteArray) : Sh_barbicanlaw4_BtfWays_L1v1 → List L1 → List Value
  | .c0 s0_0 s0_1, ls => [.slice a0 n0 (n0 + k0), .int .i64 (y1), .int .i64 (y2), .int .i64 (r0.1), (rowV (lget ls 0) g2_0 1), .int .i64 (s0_0), .int .i64 (s0_1)]
def mf_barbicanlaw4_BtfWays_L1v1 : Sh_barbicanlaw4_BtfWays_L1v1 → List (Nat × Nat)
  | .c0 _ _ => [(3, 4), (1, 1), (1, 3), (2, 79)]
noncomputable def fr_barbicanlaw4_BtfWays_L1v1 (a0 : Option Addr) (p0 : Nat) (q0 : Nat) (n0 : Nat) (k0 : Nat) (X0 : Nat → RoX) (A0 : Nat → (Xs35 × (Nat × (Nat → Member)))) (y1 : Int) (y2 : Int) (r0 : (Int) × (Int)) (g2_0 : Nat) (g2_1 : Nat → ByteArray) (s : Sh_barbicanlaw4_BtfWays_L1v1) : List L1 → List Value := mrgF (mf_barbicanlaw4_BtfWays_L1v1 s) (fl_barbicanlaw4_BtfWays_L1v1 a0 p0 q0 n0 k0 X0 A0 y1 y2 r0 g2_0 g2_1 s) 2
def Hs_barbicanlaw4_BtfWays_L1v1 (a0 : Option Addr) (p0 : Nat) (q0 : Nat) (n0 : Nat) (k0 : Nat) (X0 : Nat → RoX) (A0 : Nat → (Xs35 × (Nat × (Nat → Member)))) (y1 : Int) (y2 : Int) (r0 : (Int) × (Int)) (g2_0 : Nat) (g2_1 : Nat → ByteArray) : Sh_barbicanlaw4_BtfWays_L1v1 → List L1 → List Obj
  | .c0 s0_0 s0_1, ls => [rowO (lget ls 0) (esG cS g2_0 g2_1) 9 g2_0 1, unb, unb]
def vl_barbicanlaw4_BtfWays_L1v1 (a0 : Option Addr) (p0 : Nat) (q0 : Nat) (n0 : Nat) (k0 : Nat) (X0 : Nat → RoX) (A0 : Nat → (Xs35 × (Nat × (Nat → Member)))) (y1 : Int) (y2 : Int) (r0 : (Int) × (Int)) (g2_0 : Nat) (g2_1 : Nat → ByteArray) : Ex_barbicanlaw4_BtfWays_L1v1 → List L1 → List Value
  | .e0 , ls => [.slice a0 n0 (n0 + k0), .int .i64 (y1), .int .i64 (y2), .int .i64 (r0.1), (rowV (lget ls 0) g2_0 1)]
  | .e1 , ls => [.slice a0 n0 (n0 + k0), .int .i64 (y1), .int .i64 (y2), .bool false, .int .i64 (r0.1), (rowV (lget ls 0) g2_0 1)]
def mk_barbicanlaw4_BtfWays_L1v1 : Ex_barbicanlaw4_BtfWays_L1v1 → List (Nat × Nat)
  | .e0  => [(3, 4), (1, 1), (1, 84)]
  | .e1  => [(3, 3), (2, 1), (1, 84)]
noncomputable def vf_barbicanlaw4_BtfWays_L1v1 (a0 : Option Addr) (p0 : Nat) (q0 : Nat) (n0 : Nat) (k0 : Nat) (X0 : Nat → RoX) (A0 : Nat → (Xs35 × (Nat × (Nat → Member)))) (y1 : Int) (y2 : Int) (r0 : (Int) × (Int)) (g2_0 : Nat) (g2_1 : Nat → ByteArray) (r : Ex_barbicanlaw4_BtfWays_L1v1) : List L1 → List Value := mrgF (mk_barbicanlaw4_BtfWays_L1v1 r) (vl_barbicanlaw4_BtfWays_L1v1 a0 p0 q0 n0 k0 X0 A0 y1 y2 r0 g2_0 g2_1 r) 2
def Hf_barbicanlaw4_BtfWays_L1v1 (a0 : Option Addr) (p0 : Nat) (q0 : Nat) (n0 : Nat) (k0 : Nat) (X0 : Nat → RoX) (A0 : Nat → (Xs35 × (Nat × (Nat → Member)))) (y1 : Int) (y2 : Int) (r0 : (Int) × (Int)) (g2_0 : Nat) (g2_1 : Nat → ByteArray) : Ex_barbicanlaw4_BtfWays_L1v1 → List L1 → List Obj
  | .e0 , ls => [rowO (lget ls 0) (esG cS g2_0 g2_1) 9 g2_0 1, unb, unb]
  | .e1 , ls => [rowO (lget ls 0) (esG cS g2_0 g2_1) 9 g2_0 1, unb, unb]
def ex_barbicanlaw4_BtfWays_L1v1 : Ex_barbicanlaw4_BtfWays_L1v1 → Ex
  | .e0  => (.exit 2)
  | .e1  => .ret
end

end Go.Proofs.YtlpjdjbophcomaaDoor

