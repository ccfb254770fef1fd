/-
  Instructions: the reference.
-/
import Derived.Test.YtnoflelhkgdebaaS1CE
namespace Go.Proofs.Ytnoflelhkgdebaa
open Go.RowKit
set_option linter.unusedVariables false
set_option linter.unusedSimpArgs false
set_option linter.unusedSectionVars false
set_option maxRecDepth 100000
set_option maxHeartbeats 4000000
inductive Sh_barbicanref1_Of_L0 where
  | c0 (s0_0 : Int)
inductive Ex_barbicanref1_Of_L0 where
  | e0 
  | e1 (c1_0 : Int)
noncomputable def st_barbicanref1_Of_L0 (n0 : Nat) (A0 : Nat → Part) (y1 : Int) : Sh_barbicanref1_Of_L0 → Option (Sh_barbicanref1_Of_L0 ⊕ Ex_barbicanref1_Of_L0)
  | .c0 s0_0 =>
    bif decide (s0_0 < (n0 : Int)) then
      (bif inR s0_0 n0 then
        (bif decide (((A0 (s0_0).toNat)).fFrom ≤ y1) then
          (bif decide (y1 < ((A0 (s0_0).toNat)).fTo) then
            (some (.inr (.e1 s0_0)))
          else (some (.inl (.c0 (IntKind.i64.wrap (s0_0 + 1))))))
        else (some (.inl (.c0 (IntKind.i64.wrap (s0_0 + 1))))))
      else (none))
    else (some (.inr (.e0 )))
noncomputable def bd_barbicanref1_Of_L0 : Code := codeOf Try.f10 [1, 0, 1, 0, 0]
def fl_barbicanref1_Of_L0 (a0 : Option Addr) (p0 : Nat) (q0 : Nat) (n0 : Nat) (k0 : Nat) (A0 : Nat → Part) (y1 : Int) : Sh_barbicanref1_Of_L0 → List L1 → List Value
  | .c0 s0_0, ls => [.slice a0 n0 (n0 + k0), .int .i64 (y1), .int .i64 (0), .int .i64 (s0_0)]
def mf_barbicanref1_Of_L0 : Sh_barbicanref1_Of_L0 → List (Nat × Nat)
  | .c0 _ => [(2, 2), (2, 23)]
noncomputable def fr_barbicanref1_Of_L0 (a0 : Option Addr) (p0 : Nat) (q0 : Nat) (n0 : Nat) (k0 : Nat) (A0 : Nat → Part) (y1 : Int) (s : Sh_barbicanref1_Of_L0) : List L1 → List Value := mrgF (mf_barbicanref1_Of_L0 s) (fl_barbicanref1_Of_L0 a0 p0 q0 n0 k0 A0 y1 s) 0
def Hs_barbicanref1_Of_L0 (a0 : Option Addr) (p0 : Nat) (q0 : Nat) (n0 : Nat) (k0 : Nat) (A0 : Nat → Part) (y1 : Int) : Sh_barbicanref1_Of_L0 → List L1 → List Obj
  | .c0 s0_0, ls => [unb]
def vl_barbicanref1_Of_L0 (a0 : Option Addr) (p0 : Nat) (q0 : Nat) (n0 : Nat) (k0 : Nat) (A0 : Nat → Part) (y1 : Int) : Ex_barbicanref1_Of_L0 → List L1 → List Value
  | .e0 , ls => [.slice a0 n0 (n0 + k0), .int .i64 (y1), .int .i64 (0)]
  | .e1 c1_0, ls => [.slice a0 n0 (n0 + k0), .int .i64 (y1), .int .i64 (c1_0)]
def mk_barbicanref1_Of_L0 : Ex_barbicanref1_Of_L0 → List (Nat × Nat)
  | .e0  => [(2, 2), (1, 24)]
  | .e1 _ => [(2, 2), (1, 24)]
noncomputable def vf_barbicanref1_Of_L0 (a0 : Option Addr) (p0 : Nat) (q0 : Nat) (n0 : Nat) (k0 : Nat) (A0 : Nat → Part) (y1 : Int) (r : Ex_barbicanref1_Of_L0) : List L1 → List Value := mrgF (mk_barbicanref1_Of_L0 r) (vl_barbicanref1_Of_L0 a0 p0 q0 n0 k0 A0 y1 r) 0
def Hf_barbicanref1_Of_L0 (a0 : Option Addr) (p0 : Nat) (q0 : Nat) (n0 : Nat) (k0 : Nat) (A0 : Nat → Part) (y1 : Int) : Ex_barbicanref1_Of_L0 → List L1 → List Obj
  | .e0 , ls => [unb]
  | .e1 c1_0, ls => [unb]
def ex_barbicanref1_Of_L0 : Ex_barbicanref1_Of_L0 → Ex
  | .e0  => (.exit 0)
  | .e1 _ => .ret
section
variable {M : Nat → Prop} {B0 : Nat} {S : World → Prop} (hU : Up M B0 S) (a0 : Option Addr) (p0 : Nat) (q0 : Nat) (n0 : Nat) (k0 : Nat) (A0 : Nat → Part) (hR0 : Ro S c_Part 2 a0 p0 q0 n0 A0) (y1 : Int)
include hU a0 p0 q0 n0 k0 A0 hR0 y1
theorem go_barbicanref1_Of_L0 (s : Sh_barbicanref1_Of_L0) (r : Ex_barbicanref1_Of_L0) (h : lpO (st_barbicanref1_Of_L0 n0 A0 y1) s = some r) : GoesG Try.prog M B0 S (.loop bd_barbicanref1_Of_L0) 1 (fr_barbicanref1_Of_L0 a0 p0 q0 n0 k0 A0 y1 s) (Hs_barbicanref1_Of_L0 a0 p0 q0 n0 k0 A0 y1 s) (ex_barbicanref1_Of_L0 r) 0 (vf_barbicanref1_Of_L0 a0 p0 q0 n0 k0 A0 y1 r) (Hf_barbicanref1_Of_L0 a0 p0 q0 n0 k0 A0 y1 r) 1 :=
  goes_lpO (fun s q e => by
    cases s with
    | c0 s0_0 =>
      unfold st_barbicanref1_Of_L0 at e
      dsimp only at e
      replace e := cond_eq_or e
      rcases e with ⟨hq0, e⟩ | ⟨hq0, e⟩
      · replace e := cond_eq_or e
        rcases e with ⟨hq1, e⟩ | ⟨hq1, e⟩
        · replace e := cond_eq_or e
          let P1 : List (PG Try.prog M B0 S) := [.o, .o, .o, .b (z_lssT hq0), .o, .o, .o, .q (ixRo_ok (kd := .i64) (T := 32) (x := s0_0) (sz := 2) rfl (fun w => by kernel_rfl) hR0 hq1), .o, .l (accRo hR0 c_Part_len (inR_nat hq1) 0 [.int .i64 (((A0 (s0_0).toNat)).fFrom)] rfl)]
          rcases e with ⟨hq2, e⟩ | ⟨hq2, e⟩
          · replace e := cond_eq_or e
            let P2 : List (PG Try.prog M B0 S) := P1 ++ [.b (z_geqT hq2), .o, .o, .o, .o, .q (ixRo_ok (kd := .i64) (T := 32) (x := s0_0) (sz := 2) rfl (fun w => by kernel_rfl) hR0 hq1), .o, .l (accRo hR0 c_Part_len (inR_nat hq1) 1 [.int .i64 (((A0 (s0_0).toNat)).fTo)] rfl)]
            rcases e with ⟨hq3, e⟩ | ⟨hq3, e⟩
            · cases e; exact ⟨ne_ret, goes_runM hU (P2 ++ [.b (z_lssT hq3), .o, .o, .o]) [] (fun b => rfl) (by decide) rfl rfl (fun b => by kernel_rfl)⟩
            · cases e; exact goes_runM hU (P2 ++ [.b (z_lssF hq3), .o, .o, .o, .o]) [] (fun b => rfl) (by decide) rfl rfl (fun b => by kernel_rfl)
          · cases e; exact goes_runM hU (P1 ++ [.b (z_geqF hq2), .o, .o, .o, .o, .o]) [] (fun b => rfl) (by decide) rfl rfl (fun b => by kernel_rfl)
        · exact none_some e
      · cases e; exact ⟨ne_exit 0, goes_runM hU [.o, .o, .o, .b (z_lssF hq0)] [] (fun b => rfl) (by decide) rfl rfl (fun b => by kernel_rfl)⟩) s r h
noncomputable def t0_barbicanref1_Of_L0_0 (a0 : Option Addr) (p0 : Nat) (q0 : Nat) (n0 : Nat) (k0 : Nat) (A0 : Nat → Part) (y1 : Int) (s0_0 : Int) (ls : List L1) : List Value := List.append [.slice a0 n0 (n0 + k0), .int .i64 (y1), undef, undef, .int .i64 (0), .int .i64 (s0_0)] (und 23)
def pre_barbicanref1_Of_L0_0 (a0 : Option Addr) (p0 : Nat) (q0 : Nat) (n0 : Nat) (k0 : Nat) (A0 : Nat → Part) (y1 : Int) (s0_0 : Int) (ls : List L1) : List Obj := []
theorem sp0_barbicanref1_Of_L0_0_ok (s0_0 : Int) (h : lpO (st_barbicanref1_Of_L0 n0 A0 y1) (.c0 s0_0) = some (.e0 )) : SpcG Try.prog M B0 S ⟨fun ls => .code (.loop bd_barbicanref1_Of_L0) (t0_barbicanref1_Of_L0_0 a0 p0 q0 n0 k0 A0 y1 s0_0 ls), pre_barbicanref1_Of_L0_0 a0 p0 q0 n0 k0 A0 y1 s0_0, 1, (.exit 0), fun ls => vf_barbicanref1_Of_L0 a0 p0 q0 n0 k0 A0 y1 (.e0 ) (ls.take 0 ++ ls.drop 0), fun ls => (Hf_barbicanref1_Of_L0 a0 p0 q0 n0 k0 A0 y1 (.e0 ) (ls.take 0 ++ ls.drop 0)).take 0 ++ List.replicate 0 unb, fun ls => (Hf_barbicanref1_Of_L0 a0 p0 q0 n0 k0 A0 y1 (.e0 ) (ls.take 0 ++ ls.drop 0)).drop 0⟩ :=
  spc_of_goesM hU 0 (k0 := 0) (go_barbicanref1_Of_L0 hU a0 p0 q0 n0 k0 A0 hR0 y1 _ _ h) (t0_barbicanref1_Of_L0_0 a0 p0 q0 n0 k0 A0 y1 s0_0) (pre_barbicanref1_Of_L0_0 a0 p0 q0 n0 k0 A0 y1 s0_0) (fun _ => rfl) (fun ls h => by match ls, h with | [], _ => exact ⟨by kernel_rfl, by kernel_rfl⟩) (fun ls h => by match ls, h with | [], _ => rfl) (by decide) (by decide) (fun ls => rfl)
theorem sp1_barbicanref1_Of_L0_0_ok (s0_0 : Int) (c1_0 : Int) (h : lpO (st_barbicanref1_Of_L0 n0 A0 y1) (.c0 s0_0) = some (.e1 c1_0)) : SpcG Try.prog M B0 S ⟨fun ls => .code (.loop bd_barbicanref1_Of_L0) (t0_barbicanref1_Of_L0_0 a0 p0 q0 n0 k0 A0 y1 s0_0 ls), pre_barbicanref1_Of_L0_0 a0 p0 q0 n0 k0 A0 y1 s0_0, 1, .ret, fun ls => vf_barbicanref1_Of_L0 a0 p0 q0 n0 k0 A0 y1 (.e1 c1_0) (ls.take 0 ++ ls.drop 0), fun ls => (Hf_barbicanref1_Of_L0 a0 p0 q0 n0 k0 A0 y1 (.e1 c1_0) (ls.take 0 ++ ls.drop 0)).take 0 ++ List.replicate 0 unb, fun ls => (Hf_barbicanref1_Of_L0 a0 p0 q0 n0 k0 A0 y1 (.e1 c1_0) (ls.take 0 ++ ls.drop 0)).drop 0⟩ :=
  spc_of_goesM hU 0 (k0 := 0) (go_barbicanref1_Of_L0 hU a0 p0 q0 n0 k0 A0 hR0 y1 _ _ h) (t0_barbicanref1_Of_L0_0 a0 p0 q0 n0 k0 A0 y1 s0_0) (pre_barbicanref1_Of_L0_0 a0 p0 q0 n0 k0 A0 y1 s0_0) (fun _ => rfl) (fun ls h => by match ls, h with | [], _ => exact ⟨by kernel_rfl, by kernel_rfl⟩) (fun ls h => by match ls, h with | [], _ => rfl) (by decide) (by decide) (fun ls => rfl)
noncomputable def m_barbicanref1_Of (n0 : Nat) (A0 : Nat → Part) (y1 : Int) : Option (Int) :=
  (lpO (st_barbicanref1_Of_L0 n0 A0 y1) (.c0 0)).bind fun g0 => match g0 with
  | .e0  => (some (-1))
  | .e1 g0_0 => (some g0_0)
theorem ok_barbicanref1_Of (r : Int) (e : m_barbicanref1_Of n0 A0 y1 = some r) : ConG Try.prog S 10 #[.slice a0 n0 (n0 + k0), .int .i64 (y1)] (.int .i64 (r)) := by
  unfold m_barbicanref1_Of at e
  replace e := bindO_eq e
  obtain ⟨g0, e_g0, e⟩ := e
  rcases g0 with _ | ⟨g0_0⟩
  · try dsimp only at e
    injection e with e; subst e; exact fn_conG hU (P := Try.prog) Try.func10 (fun xs w => by kernel_rfl) _ _ [.o, .o, .cp, .cx (sp0_barbicanref1_Of_L0_0_ok hU a0 p0 q0 n0 k0 A0 hR0 y1 0  e_g0) [], .o] [] (fun b => by kernel_rfl)
  · try dsimp only at e
    injection e with e; subst e; exact fn_conG hU (P := Try.prog) Try.func10 (fun xs w => by kernel_rfl) _ _ [.o, .o, .cp, .cx (sp1_barbicanref1_Of_L0_0_ok hU a0 p0 q0 n0 k0 A0 hR0 y1 0 g0_0 e_g0) []] [] (fun b => by kernel_rfl)
inductive Sh_barbicanref1_Check_L0 where
  | c0 (s0_0 : Int)
inductive Ex_barbicanref1_Check_L0 where
  | e0 
  | e1 (c1_0 : Int)
noncomputable def st_barbicanref1_Check_L0 (n0 : Nat) (A0 : Nat → Insn) (g0_0 : Nat) (g0_1 : Nat → Part) (g1_0 : Nat → Bool) : Sh_barbicanref1_Check_L0 → Option (Sh_barbicanref1_Check_L0 ⊕ Ex_barbicanref1_Check_L0)
  | .c0 s0_0 =>
    bif decide (s0_0 < (n0 : Int)) then
      (bif inR s0_0 ((n0 : Int)).toNat then
        (bif (g1_0 (s0_0).toNat) then
          (some (.inl (.c0 (IntKind.i64.wrap (s0_0 + 1)))))
        else (bif inR s0_0 n0 then
          (bif m_barbicanref1_Is ((A0 (s0_0).toNat)) 0 then
            (bindT (m_barbicanref1_To n0 A0 s0_0 (ii ((A0 (s0_0).toNat)).fOff)) fun rb0 =>
            bif decide (rb0 < 0) then
              (some (.inr (.e1 s0_0)))
            else (bif inR rb0 ((n0 : Int)).toNat then
              (bif (g1_0 (rb0).toNat) then
                (some (.inr (.e1 s0_0)))
              else ((m_barbicanref1_Of g0_0 g0_1 rb0).bind fun rb1 =>
              (m_barbicanref1_Of g0_0 g0_1 s0_0).bind fun rb2 =>
              bif rb1 == rb2 then
                (some (.inl (.c0 (IntKind.i64.wrap (s0_0 + 1)))))
              else (some (.inr (.e1 s0_0)))))
            else (none)))
          else (bif m_barbicanref1_Compares ((A0 (s0_0).toNat)) then
            (bindT (m_barbicanref1_To n0 A0 s0_0 (ii ((A0 (s0_0).toNat)).fOff)) fun rb0 =>
            bif decide (rb0 < 0) then
              (some (.inr (.e1 s0_0)))
            else (bif inR rb0 ((n0 : Int)).toNat then
              (bif (g1_0 (rb0).toNat) then
                (some (.inr (.e1 s0_0)))
              else ((m_barbicanref1_Of g0_0 g0_1 rb0).bind fun rb1 =>
              (m_barbicanref1_Of g0_0 g0_1 s0_0).bind fun rb2 =>
              bif rb1 == rb2 then
                (some (.inl (.c0 (IntKind.i64.wrap (s0_0 + 1)))))
              else (some (.inr (.e1 s0_0)))))
            else (none)))
          else (some (.inl (.c0 (IntKind.i64.wrap (s0_0 + 1)))))))
        else (none)))
      else (none))
    else (some (.inr (.e0 )))
noncomputable def bd_barbicanref1_Check_L0 : Code := codeOf Try.f5 [1, 1, 1, 1, 0, 1, 0, 0]
def fl_barbicanref1_Check_L0 (a0 : Option Addr) (p0 : Nat) (q0 : Nat) (n0 : Nat) (k0 : Nat) (A0 : Nat → Insn) (g0_0 : Nat) (g0_1 : Nat → Part) (g1_0 : Nat → Bool) : Sh_barbicanref1_Check_L0 → List L1 → List Value
  | .c0 s0_0, ls => [.slice a0 n0 (n0 + k0), .int .i64 (0), .int .i64 (0), (rowV (lget ls 0) g0_0 2), (rowV (lget ls 1) ((n0 : Int)).toNat 1), .int .i64 (s0_0)]
def mf_barbicanref1_Check_L0 : Sh_barbicanref1_Check_L0 → List (Nat × Nat)
  | .c0 _ => [(1, 1), (3, 2), (2, 66)]
noncomputable def fr_barbicanref1_Check_L0 (a0 : Option Addr) (p0 : Nat) (q0 : Nat) (n0 : Nat) (k0 : Nat) (A0 : Nat → Insn) (g0_0 : Nat) (g0_1 : Nat → Part) (g1_0 : Nat → Bool) (s : Sh_barbicanref1_Check_L0) : List L1 → List Value := mrgF (mf_barbicanref1_Check_L0 s) (fl_barbicanref1_Check_L0 a0 p0 q0 n0 k0 A0 g0_0 g0_1 g1_0 s) 2
def Hs_barbicanref1_Check_L0 (a0 : Option Addr) (p0 : Nat) (q0 : Nat) (n0 : Nat) (k0 : Nat) (A0 : Nat → Insn) (g0_0 : Nat) (g0_1 : Nat → Part) (g1_0 : Nat → Bool) : Sh_barbicanref1_Check_L0 → List L1 → List Obj
  | .c0 s0_0, ls => [rowO (lget ls 0) (esG c_Part g0_0 g0_1) 41 g0_0 2, rowO (lget ls 1) (esG cB ((n0 : Int)).toNat g1_0) 4 ((n0 : Int)).toNat 1, unb]
def vl_barbicanref1_Check_L0 (a0 : Option Addr) (p0 : Nat) (q0 : Nat) (n0 : Nat) (k0 : Nat) (A0 : Nat → Insn) (g0_0 : Nat) (g0_1 : Nat → Part) (g1_0 : Nat → Bool) : Ex_barbicanref1_Check_L0 → List L1 → List Value
  | .e0 , ls => [.slice a0 n0 (n0 + k0), .int .i64 (0), .int .i64 (0), (rowV (lget ls 0) g0_0 2), (rowV (lget ls 1) ((n0 : Int)).toNat 1)]
  | .e1 c1_0, ls => [.slice a0 n0 (n0 + k0), .int .i64 (c1_0), .int .i64 (15), (rowV (lget ls 0) g0_0 2), (rowV (lget ls 1) ((n0 : Int)).toNat 1)]
def mk_barbicanref1_Check_L0 : Ex_barbicanref1_Check_L0 → List (Nat × Nat)
  | .e0  => [(1, 1), (3, 2), (1, 67)]
  | .e1 _ => [(1, 1), (3, 2), (1, 67)]
noncomputable def vf_barbicanref1_Check_L0 (a0 : Option Addr) (p0 : Nat) (q0 : Nat) (n0 : Nat) (k0 : Nat) (A0 : Nat → Insn) (g0_0 : Nat) (g0_1 : Nat → Part) (g1_0 : Nat → Bool) (r : Ex_barbicanref1_Check_L0) : List L1 → List Value := mrgF (mk_barbicanref1_Check_L0 r) (vl_barbicanref1_Check_L0 a0 p0 q0 n0 k0 A0 g0_0 g0_1 g1_0 r) 2
def Hf_barbicanref1_Check_L0 (a0 : Option Addr) (p0 : Nat) (q0 : Nat) (n0 : Nat) (k0 : Nat) (A0 : Nat → Insn) (g0_0 : Nat) (g0_1 : Nat → Part) (g1_0 : Nat → Bool) : Ex_barbicanref1_Check_L0 → List L1 → List Obj
  | .e0 , ls => [rowO (lget ls 0) (esG c_Part g0_0 g0_1) 41 g0_0 2, rowO (lget ls 1) (esG cB ((n0 : Int)).toNat g1_0) 4 ((n0 : Int)).toNat 1, unb]
  | .e1 c1_0, ls => [rowO (lget ls 0) (esG c_Part g0_0 g0_1) 41 g0_0 2, rowO (lget ls 1) (esG cB ((n0 : Int)).toNat g1_0) 4 ((n0 : Int)).toNat 1, unb]
def ex_barbicanref1_Check_L0 : Ex_barbicanref1_Check_L0 → Ex
  | .e0  => (.exit 0)
  | .e1 _ => .ret
end
section
variable {M : Nat → Prop} {B0 : Nat} {S : World → Prop} (hU : Up M B0 S) (a0 : Option Addr) (p0 : Nat) (q0 : Nat) (n0 : Nat) (k0 : Nat) (A0 : Nat → Insn) (hR0 : Ro S c_Insn 5 a0 p0 q0 n0 A0) (g0_0 : Nat) (g0_1 : Nat → Part) (g1_0 : Nat → Bool)
include hU a0 p0 q0 n0 k0 A0 hR0 g0_0 g0_1 g1_0
theorem go_barbicanref1_Check_L0 (s : Sh_barbicanref1_Check_L0) (r : Ex_barbicanref1_Check_L0) (h : lpO (st_barbicanref1_Check_L0 n0 A0 g0_0 g0_1 g1_0) s = some r) : GoesG Try.prog M B0 S (.loop bd_barbicanref1_Check_L0) 3 (fr_barbicanref1_Check_L0 a0 p0 q0 n0 k0 A0 g0_0 g0_1 g1_0 s) (Hs_barbicanref1_Check_L0 a0 p0 q0 n0 k0 A0 g0_0 g0_1 g1_0 s) (ex_barbicanref1_Check_L0 r) 2 (vf_barbicanref1_Check_L0 a0 p0 q0 n0 k0 A0 g0_0 g0_1 g1_0 r) (Hf_barbicanref1_Check_L0 a0 p0 q0 n0 k0 A0 g0_0 g0_1 g1_0 r) 3 :=
  goes_lpO (fun s q e => by
    cases s with
    | c0 s0_0 =>
      unfold st_barbicanref1_Check_L0 at e
      dsimp only at e
      replace e := cond_eq_or e
      let P1 : List (PG Try.prog M B0 S) := [.o, .o, .o]
      rcases e with ⟨hq0, e⟩ | ⟨hq0, e⟩
      · replace e := cond_eq_or e
        let P2 : List (PG Try.prog M B0 S) := P1 ++ [.b (z_lssT hq0), .o, .o]
        rcases e with ⟨hq1, e⟩ | ⟨hq1, e⟩
        · replace e := cond_eq_or e
          let P3 : List (PG Try.prog M B0 S) := P2 ++ [.q (ixM_ok (kd := .i64) (T := 30) (x := s0_0) (N := ((n0 : Int)).toNat) (sz := 1) rfl (fun w => by kernel_rfl) hq1)]
          rcases e with ⟨hq2, e⟩ | ⟨hq2, e⟩
          · cases e; exact goes_runM hU (P3 ++ [.l (accG (i := 1) (f := cB) (A := g1_0) (k := (s0_0).toNat) 0 [.bool true] cB_len (inR_nat hq1) (congrArg (fun b => [Value.bool b]) hq2)), .o, .o, .o, .o, .o]) [0, 1] (fun b => rfl) (by decide) rfl rfl (fun b => by kernel_rfl)
          · replace e := cond_eq_or e
            let P4 : List (PG Try.prog M B0 S) := P3 ++ [.l (accG (i := 1) (f := cB) (A := g1_0) (k := (s0_0).toNat) 0 [.bool false] cB_len (inR_nat hq1) (congrArg (fun b => [Value.bool b]) hq2)), .o, .o, .o]
            rcases e with ⟨hq3, e⟩ | ⟨hq3, e⟩
            · replace e := cond_eq_or e
              let P5 : List (PG Try.prog M B0 S) := P4 ++ [.q (ixRo_ok (kd := .i64) (T := 22) (x := s0_0) (sz := 5) rfl (fun w => by kernel_rfl) hR0 hq3), .l (accRo hR0 c_Insn_len (inR_nat hq3) 0 [.int .u8 (nn ((A0 (s0_0).toNat)).fOp), .int .u8 (nn ((A0 (s0_0).toNat)).fDst), .int .u8 (nn ((A0 (s0_0).toNat)).fSrc), .int .i16 (ii ((A0 (s0_0).toNat)).fOff), .int .i32 (ii ((A0 (s0_0).toNat)).fImm)] rfl)]
              rcases e with ⟨hq4, e⟩ | ⟨hq4, e⟩
              · replace e := bindT_eq e
                obtain ⟨rb0, e_rb0, e⟩ := e
                try dsimp only at e
                replace e := cond_eq_or e
                let P6 : List (PG Try.prog M B0 S) := P5 ++ [.cg (ok_barbicanref1_Is hU ((A0 (s0_0).toNat)) 0 true hq4), .o, .o, .o, .o, .o, .o, .o, .o, .q (ixRo_ok (kd := .i64) (T := 22) (x := s0_0) (sz := 5) rfl (fun w => by kernel_rfl) hR0 hq3), .o, .l (accRo hR0 c_Insn_len (inR_nat hq3) 3 [.int .i16 (ii ((A0 (s0_0).toNat)).fOff)] rfl), .v .i64 (z_of_ii (by decide) ((A0 (s0_0).toNat)).fOff), .cg (ok_barbicanref1_To hU a0 p0 q0 n0 k0 A0 hR0 s0_0 (ii ((A0 (s0_0).toNat)).fOff) rb0 e_rb0), .o, .o]
                rcases e with ⟨hq5, e⟩ | ⟨hq5, e⟩
                · cases e; exact ⟨ne_ret, goes_runM hU (P6 ++ [.b (z_lssT hq5), .o, .o, .o, .o, .o, .o, .o]) [0, 1] (fun b => rfl) (by decide) rfl rfl (fun b => by kernel_rfl)⟩
                · replace e := cond_eq_or e
                  rcases e with ⟨hq6, e⟩ | ⟨hq6, e⟩
                  · replace e := cond_eq_or e
                    let P7 : List (PG Try.prog M B0 S) := P6 ++ [.b (z_lssF hq5), .o, .o, .o, .q (ixM_ok (kd := .i64) (T := 30) (x := rb0) (N := ((n0 : Int)).toNat) (sz := 1) rfl (fun w => by kernel_rfl) hq6)]
                    rcases e with ⟨hq7, e⟩ | ⟨hq7, e⟩
                    · cases e; exact ⟨ne_ret, goes_runM hU (P7 ++ [.l (accG (i := 1) (f := cB) (A := g1_0) (k := (rb0).toNat) 0 [.bool true] cB_len (inR_nat hq6) (congrArg (fun b => [Value.bool b]) hq7)), .o, .o, .o, .o, .o, .o]) [0, 1] (fun b => rfl) (by decide) rfl rfl (fun b => by kernel_rfl)⟩
                    · replace e := bindO_eq e
                      obtain ⟨rb1, e_rb1, e⟩ := e
                      try dsimp only at e
                      replace e := bindO_eq e
                      obtain ⟨rb2, e_rb2, e⟩ := e
                      try dsimp only at e
                      replace e := cond_eq_or e
                      let P8 : List (PG Try.prog M B0 S) := P7 ++ [.l (accG (i := 1) (f := cB) (A := g1_0) (k := (rb0).toNat) 0 [.bool false] cB_len (inR_nat hq6) (congrArg (fun b => [Value.bool b]) hq7)), .o, .o, .o, .o, .xg (SpcG.ownC hU c_Part_len g0_0 g0_1 41 fun hU x u v z hr => ok_barbicanref1_Of hU x u v g0_0 z g0_1 hr rb0 rb1 e_rb1) [0], .o, .o, .xg (SpcG.ownC hU c_Part_len g0_0 g0_1 41 fun hU x u v z hr => ok_barbicanref1_Of hU x u v g0_0 z g0_1 hr s0_0 rb2 e_rb2) [0]]
                      rcases e with ⟨hq8, e⟩ | ⟨hq8, e⟩
                      · cases e; exact goes_runM hU (P8 ++ [.b (z_neqT hq8), .o, .o, .o, .o]) [0, 1] (fun b => rfl) (by decide) rfl rfl (fun b => by kernel_rfl)
                      · cases e; exact ⟨ne_ret, goes_runM hU (P8 ++ [.b (z_neqF hq8), .o, .o, .o, .o]) [0, 1] (fun b => rfl) (by decide) rfl rfl (fun b => by kernel_rfl)⟩
                  · exact none_some e
              · replace e := cond_eq_or e
                let P9 : List (PG Try.prog M B0 S) := P5 ++ [.cg (ok_barbicanref1_Is hU ((A0 (s0_0).toNat)) 0 false hq4), .o, .o, .o, .o, .q (ixRo_ok (kd := .i64) (T := 22) (x := s0_0) (sz := 5) rfl (fun w => by kernel_rfl) hR0 hq3), .l (accRo hR0 c_Insn_len (inR_nat hq3) 0 [.int .u8 (nn ((A0 (s0_0).toNat)).fOp), .int .u8 (nn ((A0 (s0_0).toNat)).fDst), .int .u8 (nn ((A0 (s0_0).toNat)).fSrc), .int .i16 (ii ((A0 (s0_0).toNat)).fOff), .int .i32 (ii ((A0 (s0_0).toNat)).fImm)] rfl)]
                rcases e with ⟨hq5, e⟩ | ⟨hq5, e⟩
                · replace e := bindT_eq e
                  obtain ⟨rb0, e_rb0, e⟩ := e
                  try dsimp only at e
                  replace e := cond_eq_or e
                  let P10 : List (PG Try.prog M B0 S) := P9 ++ [.cg (ok_barbicanref1_Compares hU ((A0 (s0_0).toNat)) true hq5), .o, .o, .o, .o, .o, .o, .o, .q (ixRo_ok (kd := .i64) (T := 22) (x := s0_0) (sz := 5) rfl (fun w => by kernel_rfl) hR0 hq3), .o, .l (accRo hR0 c_Insn_len (inR_nat hq3) 3 [.int .i16 (ii ((A0 (s0_0).toNat)).fOff)] rfl), .v .i64 (z_of_ii (by decide) ((A0 (s0_0).toNat)).fOff), .cg (ok_barbicanref1_To hU a0 p0 q0 n0 k0 A0 hR0 s0_0 (ii ((A0 (s0_0).toNat)).fOff) rb0 e_rb0), .o, .o]
                  rcases e with ⟨hq6, e⟩ | ⟨hq6, e⟩
                  · cases e; exact ⟨ne_ret, goes_runM hU (P10 ++ [.b (z_lssT hq6), .o, .o, .o, .o, .o, .o, .o]) [0, 1] (fun b => rfl) (by decide) rfl rfl (fun b => by kernel_rfl)⟩
                  · replace e := cond_eq_or e
                    rcases e with ⟨hq7, e⟩ | ⟨hq7, e⟩
                    · replace e := cond_eq_or e
                      let P11 : List (PG Try.prog M B0 S) := P10 ++ [.b (z_lssF hq6), .o, .o, .o, .q (ixM_ok (kd := .i64) (T := 30) (x := rb0) (N := ((n0 : Int)).toNat) (sz := 1) rfl (fun w => by kernel_rfl) hq7)]
                      rcases e with ⟨hq8, e⟩ | ⟨hq8, e⟩
                      · cases e; exact ⟨ne_ret, goes_runM hU (P11 ++ [.l (accG (i := 1) (f := cB) (A := g1_0) (k := (rb0).toNat) 0 [.bool true] cB_len (inR_nat hq7) (congrArg (fun b => [Value.bool b]) hq8)), .o, .o, .o, .o, .o, .o]) [0, 1] (fun b => rfl) (by decide) rfl rfl (fun b => by kernel_rfl)⟩
                      · replace e := bindO_eq e
                        obtain ⟨rb1, e_rb1, e⟩ := e
                        try dsimp only at e
                        replace e := bindO_eq e
                        obtain ⟨rb2, e_rb2, e⟩ := e
                        try dsimp only at e
                        replace e := cond_eq_or e
                        let P12 : List (PG Try.prog M B0 S) := P11 ++ [.l (accG (i := 1) (f := cB) (A := g1_0) (k := (rb0).toNat) 0 [.bool false] cB_len (inR_nat hq7) (congrArg (fun b => [Value.bool b]) hq8)), .o, .o, .o, .o, .xg (SpcG.ownC hU c_Part_len g0_0 g0_1 41 fun hU x u v z hr => ok_barbicanref1_Of hU x u v g0_0 z g0_1 hr rb0 rb1 e_rb1) [0], .o, .o, .xg (SpcG.ownC hU c_Part_len g0_0 g0_1 41 fun hU x u v z hr => ok_barbicanref1_Of hU x u v g0_0 z g0_1 hr s0_0 rb2 e_rb2) [0]]
                        rcases e with ⟨hq9, e⟩ | ⟨hq9, e⟩
                        · cases e; exact goes_runM hU (P12 ++ [.b (z_neqT hq9), .o, .o, .o, .o]) [0, 1] (fun b => rfl) (by decide) rfl rfl (fun b => by kernel_rfl)
                        · cases e; exact ⟨ne_ret, goes_runM hU (P12 ++ [.b (z_neqF hq9), .o, .o, .o, .o]) [0, 1] (fun b => rfl) (by decide) rfl rfl (fun b => by kernel_rfl)⟩
                    · exact none_some e
                · cases e; exact goes_runM hU (P9 ++ [.cg (ok_barbicanref1_Compares hU ((A0 (s0_0).toNat)) false hq5), .o, .o, .o, .o, .o, .o]) [0, 1] (fun b => rfl) (by decide) rfl rfl (fun b => by kernel_rfl)
            · exact none_some e
        · exact none_some e
      · cases e; exact ⟨ne_exit 0, goes_runM hU (P1 ++ [.b (z_lssF hq0)]) [0, 1] (fun b => rfl) (by decide) rfl rfl (fun b => by kernel_rfl)⟩) s r h
noncomputable def t0_barbicanref1_Check_L0_0 (a0 : Option Addr) (p0 : Nat) (q0 : Nat) (n0 : Nat) (k0 : Nat) (A0 : Nat → Insn) (g0_0 : Nat) (g0_1 : Nat → Part) (g1_0 : Nat → Bool) (s0_0 : Int) (ls : List L1) : List Value := List.append [.slice a0 n0 (n0 + k0), undef, .int .i64 (0), .int .i64 (0), (rowV (lget ls 0) g0_0 2), .int .i64 (0), .int .i64 (0), (rowV (lget ls 1) ((n0 : Int)).toNat 1), .int .i64 (s0_0), undef, .tuple #[(rowV (lget ls 0) g0_0 2), .int .i64 (0), .int .i64 (0)], .slice a0 n0 (n0 + k0), .tuple #[(rowV (lget ls 0) g0_0 2), .int .i64 (0), .int .i64 (0)], (rowV (lget ls 0) g0_0 2), .int .i64 (0), .int .i64 (0), .int .i64 (0), .bool false, undef, undef, .slice a0 n0 (n0 + k0), (rowV (lget ls 1) ((n0 : Int)).toNat 1)] (und 53)
def pre_barbicanref1_Check_L0_0 (a0 : Option Addr) (p0 : Nat) (q0 : Nat) (n0 : Nat) (k0 : Nat) (A0 : Nat → Insn) (g0_0 : Nat) (g0_1 : Nat → Part) (g1_0 : Nat → Bool) (s0_0 : Int) (ls : List L1) : List Obj := [rowO (lget ls 0) (esG c_Part g0_0 g0_1) 41 g0_0 2, rowO (lget ls 1) (esG cB ((n0 : Int)).toNat g1_0) 4 ((n0 : Int)).toNat 1]
theorem sp0_barbicanref1_Check_L0_0_ok (s0_0 : Int) (h : lpO (st_barbicanref1_Check_L0 n0 A0 g0_0 g0_1 g1_0) (.c0 s0_0) = some (.e0 )) : SpcG Try.prog M B0 S ⟨fun ls => .code (.loop bd_barbicanref1_Check_L0) (t0_barbicanref1_Check_L0_0 a0 p0 q0 n0 k0 A0 g0_0 g0_1 g1_0 s0_0 ls), pre_barbicanref1_Check_L0_0 a0 p0 q0 n0 k0 A0 g0_0 g0_1 g1_0 s0_0, 1, (.exit 0), fun ls => vf_barbicanref1_Check_L0 a0 p0 q0 n0 k0 A0 g0_0 g0_1 g1_0 (.e0 ) (ls.take 2 ++ ls.drop 2), fun ls => (Hf_barbicanref1_Check_L0 a0 p0 q0 n0 k0 A0 g0_0 g0_1 g1_0 (.e0 ) (ls.take 2 ++ ls.drop 2)).take 2 ++ List.replicate 0 unb, fun ls => (Hf_barbicanref1_Check_L0 a0 p0 q0 n0 k0 A0 g0_0 g0_1 g1_0 (.e0 ) (ls.take 2 ++ ls.drop 2)).drop 2⟩ :=
  spc_of_goesM hU 0 (k0 := 2) (go_barbicanref1_Check_L0 hU a0 p0 q0 n0 k0 A0 hR0 g0_0 g0_1 g1_0 _ _ h) (t0_barbicanref1_Check_L0_0 a0 p0 q0 n0 k0 A0 g0_0 g0_1 g1_0 s0_0) (pre_barbicanref1_Check_L0_0 a0 p0 q0 n0 k0 A0 g0_0 g0_1 g1_0 s0_0) (fun _ => rfl) (fun ls h => by match ls, h with | [l0, l1], _ => exact ⟨by kernel_rfl, by kernel_rfl⟩) (fun ls h => by match ls, h with | [l0, l1], _ => rfl) (by decide) (by decide) (fun ls => rfl)
theorem sp1_barbicanref1_Check_L0_0_ok (s0_0 : Int) (c1_0 : Int) (h : lpO (st_barbicanref1_Check_L0 n0 A0 g0_0 g0_1 g1_0) (.c0 s0_0) = some (.e1 c1_0)) : SpcG Try.prog M B0 S ⟨fun ls => .code (.loop bd_barbicanref1_Check_L0) (t0_barbicanref1_Check_L0_0 a0 p0 q0 n0 k0 A0 g0_0 g0_1 g1_0 s0_0 ls), pre_barbicanref1_Check_L0_0 a0 p0 q0 n0 k0 A0 g0_0 g0_1 g1_0 s0_0, 1, .ret, fun ls => vf_barbicanref1_Check_L0 a0 p0 q0 n0 k0 A0 g0_0 g0_1 g1_0 (.e1 c1_0) (ls.take 2 ++ ls.drop 2), fun ls => (Hf_barbicanref1_Check_L0 a0 p0 q0 n0 k0 A0 g0_0 g0_1 g1_0 (.e1 c1_0) (ls.take 2 ++ ls.drop 2)).take 2 ++ List.replicate 0 unb, fun ls => (Hf_barbicanref1_Check_L0 a0 p0 q0 n0 k0 A0 g0_0 g0_1 g1_0 (.e1 c1_0) (ls.take 2 ++ ls.drop 2)).drop 2⟩ :=
  spc_of_goesM hU 0 (k0 := 2) (go_barbicanref1_Check_L0 hU a0 p0 q0 n0 k0 A0 hR0 g0_0 g0_1 g1_0 _ _ h) (t0_barbicanref1_Check_L0_0 a0 p0 q0 n0 k0 A0 g0_0 g0_1 g1_0 s0_0) (pre_barbicanref1_Check_L0_0 a0 p0 q0 n0 k0 A0 g0_0 g0_1 g1_0 s0_0) (fun _ => rfl) (fun ls h => by match ls, h with | [l0, l1], _ => exact ⟨by kernel_rfl, by kernel_rfl⟩) (fun ls h => by match ls, h with | [l0, l1], _ => rfl) (by decide) (by decide) (fun ls => rfl)
noncomputable def m_barbicanref1_Check (n0 : Nat) (A0 : Nat → Insn) : Option ((Int) × (Int)) :=
  (m_barbicanref1_Subs n0 A0).bind fun g0 => match g0 with
  | .e0 g0_0 g0_1 => (bif g0_1 == 0 then
      (none)
    else (some (g0_0, g0_1)))
  | .e1 g0_0 g0_1 => ((m_barbicanref1_Seconds n0 A0).bind fun g1 => match g1 with
    | .e0 g1_0 =>
    (lpO (st_barbicanref1_Check_L0 n0 A0 g0_0 g0_1 g1_0) (.c0 0)).bind fun g2 => match g2 with
    | .e0  => (some (0, 0))
    | .e1 g2_0 => (some (g2_0, 15)))
end
section
variable {M : Nat → Prop} {B0 : Nat} {S : World → Prop} (hU : Up M B0 S)
include hU
theorem ok_barbicanref1_Check (a0 : Option Addr) (p0 : Nat) (q0 : Nat) (n0 : Nat) (k0 : Nat) (A0 : Nat → Insn) (hR0 : Ro S c_Insn 5 a0 p0 q0 n0 A0) (r : (Int) × (Int)) (e : m_barbicanref1_Check n0 A0 = some r) : ConG Try.prog S 5 #[.slice a0 n0 (n0 + k0)] (vt1 r) := by
  unfold m_barbicanref1_Check at e
  replace e := bindO_eq e
  obtain ⟨g0, e_g0, e⟩ := e
  rcases g0 with ⟨g0_0, g0_1⟩ | ⟨g0_0, g0_1⟩
  · try dsimp only at e
    replace e := cond_eq_or e
    rcases e with ⟨hq0, e⟩ | ⟨hq0, e⟩
    · exact none_some e
    · injection e with e; subst e; exact fn_conG hU (P := Try.prog) Try.func5 (fun xs w => by kernel_rfl) _ _ [.o, .o, .o, .xg (ok0_barbicanref1_Subs hU a0 p0 q0 n0 k0 A0 hR0 g0_0 g0_1 e_g0) [], .o, .o, .o, .o, .o, .o, .o, .o, .b (z_neqF hq0), .o, .o, .o, .o] [] (fun b => by kernel_rfl)
  · try dsimp only at e
    replace e := bindO_eq e
    obtain ⟨g1, e_g1, e⟩ := e
    obtain ⟨g1_0⟩ := g1
    try dsimp only at e
    replace e := bindO_eq e
    obtain ⟨g2, e_g2, e⟩ := e
    let P1 : List (PG Try.prog M B0 S) := [.o, .o, .o, .xg (ok1_barbicanref1_Subs hU a0 p0 q0 n0 k0 A0 hR0 g0_0 g0_1 e_g0) [], .o, .o, .o, .o, .o, .o, .o, .o, .o, .o, .xg (ok0_barbicanref1_Seconds hU a0 p0 q0 n0 k0 A0 hR0 g1_0 e_g1) [], .o, .o, .cp]
    rcases g2 with _ | ⟨g2_0⟩
    · try dsimp only at e
      injection e with e; subst e; exact fn_conG hU (P := Try.prog) Try.func5 (fun xs w => by kernel_rfl) _ _ (P1 ++ [.cx (sp0_barbicanref1_Check_L0_0_ok hU a0 p0 q0 n0 k0 A0 hR0 g0_0 g0_1 g1_0 0  e_g2) [0, 1], .o, .o]) [] (fun b => by kernel_rfl)
    · try dsimp only at e
      injection e with e; subst e; exact fn_conG hU (P := Try.prog) Try.func5 (fun xs w => by kernel_rfl) _ _ (P1 ++ [.cx (sp1_barbicanref1_Check_L0_0_ok hU a0 p0 q0 n0 k0 A0 hR0 g0_0 g0_1 g1_0 0 g2_0 e_g2) [0, 1]]) [] (fun b => by kernel_rfl)
end

end Go.Proofs.Ytnoflelhkgdebaa


