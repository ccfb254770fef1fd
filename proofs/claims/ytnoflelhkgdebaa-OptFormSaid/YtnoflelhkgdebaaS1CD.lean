/-
  Instructions: the reference.
-/
import Derived.Test.YtnoflelhkgdebaaS1CC
namespace Go.Proofs.Ytnoflelhkgdebaa
open Go.RowKit
set_option linter.unusedVariables false
set_option linter.unusedSimpArgs false
set_option linter.unusedSectionVars false
set_option maxRecDepth 100000
set_option maxHeartbeats 4000000
noncomputable def zr26 : Value := (Try.prog.info? 3).bind TypeInfo.zero |>.getD undef
theorem rt26 : RowT Try.prog 26 3 ((Try.prog.info? 3).getD default) zr26 1 8 := ⟨by kernel_rfl, by kernel_rfl, by kernel_rfl, by kernel_rfl, by kernel_rfl, by kernel_rfl, by decide⟩
inductive Sh_barbicanref1_Starts_L0 where
  | c0 (s0_0 : Nat → Bool) (s0_1 : Int)
inductive Ex_barbicanref1_Starts_L0 where
  | e0 (c0_0 : Nat → Bool)
noncomputable def st_barbicanref1_Starts_L0 (n0 : Nat) (A0 : Nat → Insn) (g0_0 : Nat → Bool) : Sh_barbicanref1_Starts_L0 → Option (Sh_barbicanref1_Starts_L0 ⊕ Ex_barbicanref1_Starts_L0)
  | .c0 s0_0 s0_1 =>
    bif decide (s0_1 < (n0 : Int)) then
      (bif inR s0_1 ((n0 : Int)).toNat then
        (bif (g0_0 (s0_1).toNat) then
          (some (.inl (.c0 s0_0 (IntKind.i64.wrap (s0_1 + 1)))))
        else (bif inR s0_1 n0 then
          (bif m_barbicanref1_Names ((A0 (s0_1).toNat)) then
            (bindT (m_barbicanref1_To n0 A0 s0_1 (ii ((A0 (s0_1).toNat)).fImm)) fun rb0 =>
            bif inR rb0 ((n0 : Int)).toNat then
              (some (.inl (.c0 (updF s0_0 (rb0).toNat true) (IntKind.i64.wrap (s0_1 + 1)))))
            else (none))
          else (some (.inl (.c0 s0_0 (IntKind.i64.wrap (s0_1 + 1))))))
        else (none)))
      else (none))
    else (some (.inr (.e0 s0_0)))
noncomputable def bd_barbicanref1_Starts_L0 : Code := codeOf Try.f24 [1, 1, 1, 1, 0, 1, 0, 0]
def fl_barbicanref1_Starts_L0 (a0 : Option Addr) (p0 : Nat) (q0 : Nat) (n0 : Nat) (k0 : Nat) (A0 : Nat → Insn) (g0_0 : Nat → Bool) : Sh_barbicanref1_Starts_L0 → List L1 → List Value
  | .c0 s0_0 s0_1, ls => [.slice a0 n0 (n0 + k0), .slice none 0 0, (rowV (lget ls 0) ((n0 : Int)).toNat 1), (rowV (lget ls 1) ((n0 : Int)).toNat 1), .int .i64 (s0_1)]
def mf_barbicanref1_Starts_L0 : Sh_barbicanref1_Starts_L0 → List (Nat × Nat)
  | .c0 _ _ => [(1, 1), (4, 53)]
noncomputable def fr_barbicanref1_Starts_L0 (a0 : Option Addr) (p0 : Nat) (q0 : Nat) (n0 : Nat) (k0 : Nat) (A0 : Nat → Insn) (g0_0 : Nat → Bool) (s : Sh_barbicanref1_Starts_L0) : List L1 → List Value := mrgF (mf_barbicanref1_Starts_L0 s) (fl_barbicanref1_Starts_L0 a0 p0 q0 n0 k0 A0 g0_0 s) 2
def Hs_barbicanref1_Starts_L0 (a0 : Option Addr) (p0 : Nat) (q0 : Nat) (n0 : Nat) (k0 : Nat) (A0 : Nat → Insn) (g0_0 : Nat → Bool) : Sh_barbicanref1_Starts_L0 → List L1 → List Obj
  | .c0 s0_0 s0_1, ls => [rowO (lget ls 0) (esG cB ((n0 : Int)).toNat s0_0) 4 ((n0 : Int)).toNat 1, rowO (lget ls 1) (esG cB ((n0 : Int)).toNat g0_0) 4 ((n0 : Int)).toNat 1, unb]
def vl_barbicanref1_Starts_L0 (a0 : Option Addr) (p0 : Nat) (q0 : Nat) (n0 : Nat) (k0 : Nat) (A0 : Nat → Insn) (g0_0 : Nat → Bool) : Ex_barbicanref1_Starts_L0 → List L1 → List Value
  | .e0 c0_0, ls => [.slice a0 n0 (n0 + k0), .slice none 0 0, (rowV (lget ls 0) ((n0 : Int)).toNat 1), (rowV (lget ls 1) ((n0 : Int)).toNat 1)]
def mk_barbicanref1_Starts_L0 : Ex_barbicanref1_Starts_L0 → List (Nat × Nat)
  | .e0 _ => [(1, 1), (3, 54)]
noncomputable def vf_barbicanref1_Starts_L0 (a0 : Option Addr) (p0 : Nat) (q0 : Nat) (n0 : Nat) (k0 : Nat) (A0 : Nat → Insn) (g0_0 : Nat → Bool) (r : Ex_barbicanref1_Starts_L0) : List L1 → List Value := mrgF (mk_barbicanref1_Starts_L0 r) (vl_barbicanref1_Starts_L0 a0 p0 q0 n0 k0 A0 g0_0 r) 2
def Hf_barbicanref1_Starts_L0 (a0 : Option Addr) (p0 : Nat) (q0 : Nat) (n0 : Nat) (k0 : Nat) (A0 : Nat → Insn) (g0_0 : Nat → Bool) : Ex_barbicanref1_Starts_L0 → List L1 → List Obj
  | .e0 c0_0, ls => [rowO (lget ls 0) (esG cB ((n0 : Int)).toNat c0_0) 4 ((n0 : Int)).toNat 1, rowO (lget ls 1) (esG cB ((n0 : Int)).toNat g0_0) 4 ((n0 : Int)).toNat 1, unb]
def ex_barbicanref1_Starts_L0 : Ex_barbicanref1_Starts_L0 → Ex
  | .e0 _ => (.exit 0)
section
variable {M : Nat → Prop} {B0 : Nat} {S : World → Prop} (hU : Up M B0 S) (a0 : Option Addr) (p0 : Nat) (q0 : Nat) (n0 : Nat) (k0 : Nat) (A0 : Nat → Insn) (hR0 : Ro S c_Insn 5 a0 p0 q0 n0 A0) (g0_0 : Nat → Bool)
include hU a0 p0 q0 n0 k0 A0 hR0 g0_0
theorem go_barbicanref1_Starts_L0 (s : Sh_barbicanref1_Starts_L0) (r : Ex_barbicanref1_Starts_L0) (h : lpO (st_barbicanref1_Starts_L0 n0 A0 g0_0) s = some r) : GoesG Try.prog M B0 S (.loop bd_barbicanref1_Starts_L0) 3 (fr_barbicanref1_Starts_L0 a0 p0 q0 n0 k0 A0 g0_0 s) (Hs_barbicanref1_Starts_L0 a0 p0 q0 n0 k0 A0 g0_0 s) (ex_barbicanref1_Starts_L0 r) 2 (vf_barbicanref1_Starts_L0 a0 p0 q0 n0 k0 A0 g0_0 r) (Hf_barbicanref1_Starts_L0 a0 p0 q0 n0 k0 A0 g0_0 r) 3 :=
  goes_lpO (fun s q e => by
    cases s with
    | c0 s0_0 s0_1 =>
      unfold st_barbicanref1_Starts_L0 at e
      dsimp only at e
      replace e := cond_eq_or e
      rcases e with ⟨hq0, e⟩ | ⟨hq0, e⟩
      · replace e := cond_eq_or e
        rcases e with ⟨hq1, e⟩ | ⟨hq1, e⟩
        · replace e := cond_eq_or e
          let P1 : List (PG Try.prog M B0 S) := [.o, .o, .o, .b (z_lssT hq0), .o, .o, .q (ixM_ok (kd := .i64) (T := 30) (x := s0_1) (N := ((n0 : Int)).toNat) (sz := 1) rfl (fun w => by kernel_rfl) hq1)]
          rcases e with ⟨hq2, e⟩ | ⟨hq2, e⟩
          · cases e; exact goes_runM hU (P1 ++ [.l (accG (i := 1) (f := cB) (A := g0_0) (k := (s0_1).toNat) 0 [.bool true] cB_len (inR_nat hq1) (congrArg (fun b => [Value.bool b]) hq2)), .o, .o, .o, .o, .o, .o]) [0, 1] (fun b => rfl) (by decide) rfl rfl (fun b => by kernel_rfl)
          · replace e := cond_eq_or e
            let P2 : List (PG Try.prog M B0 S) := P1 ++ [.l (accG (i := 1) (f := cB) (A := g0_0) (k := (s0_1).toNat) 0 [.bool false] cB_len (inR_nat hq1) (congrArg (fun b => [Value.bool b]) hq2)), .o, .o, .o, .o]
            rcases e with ⟨hq3, e⟩ | ⟨hq3, e⟩
            · replace e := cond_eq_or e
              let P3 : List (PG Try.prog M B0 S) := P2 ++ [.q (ixRo_ok (kd := .i64) (T := 22) (x := s0_1) (sz := 5) rfl (fun w => by kernel_rfl) hR0 hq3), .l (accRo hR0 c_Insn_len (inR_nat hq3) 0 [.int .u8 (nn ((A0 (s0_1).toNat)).fOp), .int .u8 (nn ((A0 (s0_1).toNat)).fDst), .int .u8 (nn ((A0 (s0_1).toNat)).fSrc), .int .i16 (ii ((A0 (s0_1).toNat)).fOff), .int .i32 (ii ((A0 (s0_1).toNat)).fImm)] rfl)]
              rcases e with ⟨hq4, e⟩ | ⟨hq4, e⟩
              · replace e := bindT_eq e
                obtain ⟨rb0, e_rb0, e⟩ := e
                try dsimp only at e
                replace e := cond_eq_or e
                rcases e with ⟨hq5, e⟩ | ⟨hq5, e⟩
                · cases e; exact goes_runM hU (P3 ++ [.cg (ok_barbicanref1_Names hU ((A0 (s0_1).toNat)) true hq4), .o, .o, .o, .o, .o, .o, .q (ixRo_ok (kd := .i64) (T := 22) (x := s0_1) (sz := 5) rfl (fun w => by kernel_rfl) hR0 hq3), .o, .l (accRo hR0 c_Insn_len (inR_nat hq3) 4 [.int .i32 (ii ((A0 (s0_1).toNat)).fImm)] rfl), .v .i64 (z_of_ii (by decide) ((A0 (s0_1).toNat)).fImm), .cg (ok_barbicanref1_To hU a0 p0 q0 n0 k0 A0 hR0 s0_1 (ii ((A0 (s0_1).toNat)).fImm) rb0 e_rb0), .q (ixM_ok (kd := .i64) (T := 30) (x := rb0) (N := ((n0 : Int)).toNat) (sz := 1) rfl (fun w => by kernel_rfl) hq5), .x (sqStG_ok (T := 4) (e := 4) (f := cB) (A := s0_0) (v := true) 0 (.bool true) cB_len cB_one rfl rfl (fun w => by kernel_rfl) (inR_nat hq5)) [0], .o, .o, .o]) [0, 1] (fun b => rfl) (by decide) rfl rfl (fun b => by kernel_rfl)
                · exact none_some e
              · cases e; exact goes_runM hU (P3 ++ [.cg (ok_barbicanref1_Names hU ((A0 (s0_1).toNat)) false hq4), .o, .o, .o, .o]) [0, 1] (fun b => rfl) (by decide) rfl rfl (fun b => by kernel_rfl)
            · exact none_some e
        · exact none_some e
      · cases e; exact ⟨ne_exit 0, goes_runM hU [.o, .o, .o, .b (z_lssF hq0)] [0, 1] (fun b => rfl) (by decide) rfl rfl (fun b => by kernel_rfl)⟩) s r h
noncomputable def t0_barbicanref1_Starts_L0_0 (a0 : Option Addr) (p0 : Nat) (q0 : Nat) (n0 : Nat) (k0 : Nat) (A0 : Nat → Insn) (g0_0 : Nat → Bool) (s0_0 : Nat → Bool) (s0_1 : Int) (ls : List L1) : List Value := List.append [.slice a0 n0 (n0 + k0), undef, .slice none 0 0, (rowV (lget ls 0) ((n0 : Int)).toNat 1), (rowV (lget ls 1) ((n0 : Int)).toNat 1), .int .i64 (s0_1), undef, undef, .slice a0 n0 (n0 + k0), .int .i64 ((n0 : Int)), (rowV (lget ls 0) ((n0 : Int)).toNat 1), .slice a0 n0 (n0 + k0), (rowV (lget ls 1) ((n0 : Int)).toNat 1), (rowV (lget ls 0) ((n0 : Int)).toNat 1), .pointer (some ⟨(lget ls 0).n, 0 + 0 * 1, none⟩)] (und 44)
def pre_barbicanref1_Starts_L0_0 (a0 : Option Addr) (p0 : Nat) (q0 : Nat) (n0 : Nat) (k0 : Nat) (A0 : Nat → Insn) (g0_0 : Nat → Bool) (s0_0 : Nat → Bool) (s0_1 : Int) (ls : List L1) : List Obj := [rowO (lget ls 0) (esG cB ((n0 : Int)).toNat s0_0) 4 ((n0 : Int)).toNat 1, rowO (lget ls 1) (esG cB ((n0 : Int)).toNat g0_0) 4 ((n0 : Int)).toNat 1]
theorem sp0_barbicanref1_Starts_L0_0_ok (s0_0 : Nat → Bool) (s0_1 : Int) (c0_0 : Nat → Bool) (h : lpO (st_barbicanref1_Starts_L0 n0 A0 g0_0) (.c0 s0_0 s0_1) = some (.e0 c0_0)) : SpcG Try.prog M B0 S ⟨fun ls => .code (.loop bd_barbicanref1_Starts_L0) (t0_barbicanref1_Starts_L0_0 a0 p0 q0 n0 k0 A0 g0_0 s0_0 s0_1 ls), pre_barbicanref1_Starts_L0_0 a0 p0 q0 n0 k0 A0 g0_0 s0_0 s0_1, 1, (.exit 0), fun ls => vf_barbicanref1_Starts_L0 a0 p0 q0 n0 k0 A0 g0_0 (.e0 c0_0) (ls.take 2 ++ ls.drop 2), fun ls => (Hf_barbicanref1_Starts_L0 a0 p0 q0 n0 k0 A0 g0_0 (.e0 c0_0) (ls.take 2 ++ ls.drop 2)).take 2 ++ List.replicate 0 unb, fun ls => (Hf_barbicanref1_Starts_L0 a0 p0 q0 n0 k0 A0 g0_0 (.e0 c0_0) (ls.take 2 ++ ls.drop 2)).drop 2⟩ :=
  spc_of_goesM hU 0 (k0 := 2) (go_barbicanref1_Starts_L0 hU a0 p0 q0 n0 k0 A0 hR0 g0_0 _ _ h) (t0_barbicanref1_Starts_L0_0 a0 p0 q0 n0 k0 A0 g0_0 s0_0 s0_1) (pre_barbicanref1_Starts_L0_0 a0 p0 q0 n0 k0 A0 g0_0 s0_0 s0_1) (fun _ => rfl) (fun ls h => by match ls, h with | [l0, l1], _ => exact ⟨by kernel_rfl, by kernel_rfl⟩) (fun ls h => by match ls, h with | [l0, l1], _ => rfl) (by decide) (by decide) (fun ls => rfl)
inductive Sh_barbicanref1_Starts_L1 where
  | c0 (s0_0 : Int)
  | c1 (s0_0 : Nat) (s0_1 : Nat → Int) (s0_2 : Int)
inductive Ex_barbicanref1_Starts_L1 where
  | e0 
  | e1 (c1_0 : Nat) (c1_1 : Nat → Int)
noncomputable def st_barbicanref1_Starts_L1 (n0 : Nat) (g1_0 : Nat → Bool) : Sh_barbicanref1_Starts_L1 → Option (Sh_barbicanref1_Starts_L1 ⊕ Ex_barbicanref1_Starts_L1)
  | .c0 s0_0 =>
    bif decide (s0_0 < (n0 : Int)) then
      (bif inR s0_0 ((n0 : Int)).toNat then
        (bif (g1_0 (s0_0).toNat) then
          (some (.inl (.c1 1 (fun _ => s0_0) (IntKind.i64.wrap (s0_0 + 1)))))
        else (some (.inl (.c0 (IntKind.i64.wrap (s0_0 + 1))))))
      else (none))
    else (some (.inr (.e0 )))
  | .c1 s0_0 s0_1 s0_2 =>
    bif decide (s0_2 < (n0 : Int)) then
      (bif inR s0_2 ((n0 : Int)).toNat then
        (bif (g1_0 (s0_2).toNat) then
          (bif decide (s0_0 ≤ 1000000) then
            (some (.inl (.c1 (s0_0 + 1) (updF s0_1 s0_0 s0_2) (IntKind.i64.wrap (s0_2 + 1)))))
          else (none))
        else (some (.inl (.c1 s0_0 s0_1 (IntKind.i64.wrap (s0_2 + 1))))))
      else (none))
    else (some (.inr (.e1 s0_0 s0_1)))
noncomputable def bd_barbicanref1_Starts_L1 : Code := codeOf Try.f24 [1, 1, 1, 1, 1, 1, 0, 1, 0, 0]
def fl_barbicanref1_Starts_L1 (a0 : Option Addr) (p0 : Nat) (q0 : Nat) (n0 : Nat) (k0 : Nat) (A0 : Nat → Insn) (g0_0 : Nat → Bool) (g1_0 : Nat → Bool) : Sh_barbicanref1_Starts_L1 → List L1 → List Value
  | .c0 s0_0, ls => [.slice a0 n0 (n0 + k0), .slice none 0 0, (rowV (lget ls 0) ((n0 : Int)).toNat 1), .slice none 0 0, .int .i64 (s0_0), ((lget ls 2).u 58)]
  | .c1 s0_0 s0_1 s0_2, ls => [.slice a0 n0 (n0 + k0), .slice none 0 0, (rowV (lget ls 0) ((n0 : Int)).toNat 1), (rowV (lget ls 3) s0_0 1), .int .i64 (s0_2), ((lget ls 2).u 58)]
def mf_barbicanref1_Starts_L1 : Sh_barbicanref1_Starts_L1 → List (Nat × Nat)
  | .c0 _ => [(1, 1), (2, 2), (2, 50), (1, 0)]
  | .c1 _ _ _ => [(1, 1), (2, 2), (2, 50), (1, 0)]
noncomputable def fr_barbicanref1_Starts_L1 (a0 : Option Addr) (p0 : Nat) (q0 : Nat) (n0 : Nat) (k0 : Nat) (A0 : Nat → Insn) (g0_0 : Nat → Bool) (g1_0 : Nat → Bool) (s : Sh_barbicanref1_Starts_L1) : List L1 → List Value := mrgF (mf_barbicanref1_Starts_L1 s) (fl_barbicanref1_Starts_L1 a0 p0 q0 n0 k0 A0 g0_0 g1_0 s) 4
def Hs_barbicanref1_Starts_L1 (a0 : Option Addr) (p0 : Nat) (q0 : Nat) (n0 : Nat) (k0 : Nat) (A0 : Nat → Insn) (g0_0 : Nat → Bool) (g1_0 : Nat → Bool) : Sh_barbicanref1_Starts_L1 → List L1 → List Obj
  | .c0 s0_0, ls => [rowO (lget ls 0) (esG cB ((n0 : Int)).toNat g1_0) 4 ((n0 : Int)).toNat 1, rowO (lget ls 1) (esG cB ((n0 : Int)).toNat g0_0) 4 ((n0 : Int)).toNat 1, unb, unb, unb]
  | .c1 s0_0 s0_1 s0_2, ls => [rowO (lget ls 0) (esG cB ((n0 : Int)).toNat g1_0) 4 ((n0 : Int)).toNat 1, rowO (lget ls 1) (esG cB ((n0 : Int)).toNat g0_0) 4 ((n0 : Int)).toNat 1, unb, rowO (lget ls 3) (esG cZ s0_0 s0_1) 3 s0_0 1, unb]
def vl_barbicanref1_Starts_L1 (a0 : Option Addr) (p0 : Nat) (q0 : Nat) (n0 : Nat) (k0 : Nat) (A0 : Nat → Insn) (g0_0 : Nat → Bool) (g1_0 : Nat → Bool) : Ex_barbicanref1_Starts_L1 → List L1 → List Value
  | .e0 , ls => [.slice a0 n0 (n0 + k0), .slice none 0 0, (rowV (lget ls 0) ((n0 : Int)).toNat 1), .slice none 0 0, ((lget ls 2).u 58)]
  | .e1 c1_0 c1_1, ls => [.slice a0 n0 (n0 + k0), .slice none 0 0, (rowV (lget ls 0) ((n0 : Int)).toNat 1), (rowV (lget ls 3) c1_0 1), ((lget ls 2).u 58)]
def mk_barbicanref1_Starts_L1 : Ex_barbicanref1_Starts_L1 → List (Nat × Nat)
  | .e0  => [(1, 1), (2, 2), (1, 51), (1, 0)]
  | .e1 _ _ => [(1, 1), (2, 2), (1, 51), (1, 0)]
noncomputable def vf_barbicanref1_Starts_L1 (a0 : Option Addr) (p0 : Nat) (q0 : Nat) (n0 : Nat) (k0 : Nat) (A0 : Nat → Insn) (g0_0 : Nat → Bool) (g1_0 : Nat → Bool) (r : Ex_barbicanref1_Starts_L1) : List L1 → List Value := mrgF (mk_barbicanref1_Starts_L1 r) (vl_barbicanref1_Starts_L1 a0 p0 q0 n0 k0 A0 g0_0 g1_0 r) 4
def Hf_barbicanref1_Starts_L1 (a0 : Option Addr) (p0 : Nat) (q0 : Nat) (n0 : Nat) (k0 : Nat) (A0 : Nat → Insn) (g0_0 : Nat → Bool) (g1_0 : Nat → Bool) : Ex_barbicanref1_Starts_L1 → List L1 → List Obj
  | .e0 , ls => [rowO (lget ls 0) (esG cB ((n0 : Int)).toNat g1_0) 4 ((n0 : Int)).toNat 1, rowO (lget ls 1) (esG cB ((n0 : Int)).toNat g0_0) 4 ((n0 : Int)).toNat 1, unb, unb, unb]
  | .e1 c1_0 c1_1, ls => [rowO (lget ls 0) (esG cB ((n0 : Int)).toNat g1_0) 4 ((n0 : Int)).toNat 1, rowO (lget ls 1) (esG cB ((n0 : Int)).toNat g0_0) 4 ((n0 : Int)).toNat 1, unb, rowO (lget ls 3) (esG cZ c1_0 c1_1) 3 c1_0 1, unb]
def ex_barbicanref1_Starts_L1 : Ex_barbicanref1_Starts_L1 → Ex
  | .e0  => (.exit 2)
  | .e1 _ _ => (.exit 2)
theorem go_barbicanref1_Starts_L1 (g1_0 : Nat → Bool) (s : Sh_barbicanref1_Starts_L1) (r : Ex_barbicanref1_Starts_L1) (h : lpO (st_barbicanref1_Starts_L1 n0 g1_0) s = some r) : GoesG Try.prog M B0 S (.loop bd_barbicanref1_Starts_L1) 5 (fr_barbicanref1_Starts_L1 a0 p0 q0 n0 k0 A0 g0_0 g1_0 s) (Hs_barbicanref1_Starts_L1 a0 p0 q0 n0 k0 A0 g0_0 g1_0 s) (ex_barbicanref1_Starts_L1 r) 3 (vf_barbicanref1_Starts_L1 a0 p0 q0 n0 k0 A0 g0_0 g1_0 r) (Hf_barbicanref1_Starts_L1 a0 p0 q0 n0 k0 A0 g0_0 g1_0 r) 5 :=
  goes_lpO (fun s q e => by
    cases s with
    | c0 s0_0 =>
      unfold st_barbicanref1_Starts_L1 at e
      dsimp only at e
      replace e := cond_eq_or e
      rcases e with ⟨hq0, e⟩ | ⟨hq0, e⟩
      · replace e := cond_eq_or e
        rcases e with ⟨hq1, e⟩ | ⟨hq1, e⟩
        · replace e := cond_eq_or e
          let P1 : List (PG Try.prog M B0 S) := [.o, .o, .o, .b (z_lssT hq0), .o, .o, .q (ixM_ok (kd := .i64) (T := 30) (x := s0_0) (N := ((n0 : Int)).toNat) (sz := 1) rfl (fun w => by kernel_rfl) hq1)]
          rcases e with ⟨hq2, e⟩ | ⟨hq2, e⟩
          · cases e; exact goes_runM hU (P1 ++ [.l (accG (i := 0) (f := cB) (A := g1_0) (k := (s0_0).toNat) 0 [.bool true] cB_len (inR_nat hq1) (congrArg (fun b => [Value.bool b]) hq2)), .o, .o, .o, .x (sqAppL1_ok (ty := 26) rt26 #[false, false] (f := cZ) (c := 1) s0_0 (T' := 3) cZ_len cZ_one (by decide)) [5], .o, .o, .o, .o]) [0, 1, 2, 6] (fun b => rfl) (by decide) rfl rfl (fun b => by kernel_rfl)
          · cases e; exact goes_runM hU (P1 ++ [.l (accG (i := 0) (f := cB) (A := g1_0) (k := (s0_0).toNat) 0 [.bool false] cB_len (inR_nat hq1) (congrArg (fun b => [Value.bool b]) hq2)), .o, .o, .o]) [0, 1, 2, 3] (fun b => rfl) (by decide) rfl rfl (fun b => by kernel_rfl)
        · exact none_some e
      · cases e; exact ⟨ne_exit 2, goes_runM hU [.o, .o, .o, .b (z_lssF hq0)] [0, 1, 2, 3] (fun b => rfl) (by decide) rfl rfl (fun b => by kernel_rfl)⟩
    | c1 s0_0 s0_1 s0_2 =>
      unfold st_barbicanref1_Starts_L1 at e
      dsimp only at e
      replace e := cond_eq_or e
      rcases e with ⟨hq0, e⟩ | ⟨hq0, e⟩
      · replace e := cond_eq_or e
        rcases e with ⟨hq1, e⟩ | ⟨hq1, e⟩
        · replace e := cond_eq_or e
          let P2 : List (PG Try.prog M B0 S) := [.o, .o, .o, .b (z_lssT hq0), .o, .o, .q (ixM_ok (kd := .i64) (T := 30) (x := s0_2) (N := ((n0 : Int)).toNat) (sz := 1) rfl (fun w => by kernel_rfl) hq1)]
          rcases e with ⟨hq2, e⟩ | ⟨hq2, e⟩
          · replace e := cond_eq_or e
            rcases e with ⟨hq3, e⟩ | ⟨hq3, e⟩
            · cases e; exact goes_runM hU (P2 ++ [.l (accG (i := 0) (f := cB) (A := g1_0) (k := (s0_2).toNat) 0 [.bool true] cB_len (inR_nat hq1) (congrArg (fun b => [Value.bool b]) hq2)), .o, .o, .o, .x (sqAppL_ok (ty := 26) rt26 #[false, false] (f := cZ) (N := s0_0) (A := s0_1) (c := 1) [s0_2] (T' := 3) .row cZ_len cZ_one hq3 rfl (by decide)) [3, 5], .o, .o, .o, .o]) [0, 1, 2, 6] (fun b => rfl) (by decide) rfl rfl (fun b => by kernel_rfl)
            · exact none_some e
          · cases e; exact goes_runM hU (P2 ++ [.l (accG (i := 0) (f := cB) (A := g1_0) (k := (s0_2).toNat) 0 [.bool false] cB_len (inR_nat hq1) (congrArg (fun b => [Value.bool b]) hq2)), .o, .o, .o]) [0, 1, 2, 3] (fun b => rfl) (by decide) rfl rfl (fun b => by kernel_rfl)
        · exact none_some e
      · cases e; exact ⟨ne_exit 2, goes_runM hU [.o, .o, .o, .b (z_lssF hq0)] [0, 1, 2, 3] (fun b => rfl) (by decide) rfl rfl (fun b => by kernel_rfl)⟩) s r h
noncomputable def t0_barbicanref1_Starts_L1_0 (a0 : Option Addr) (p0 : Nat) (q0 : Nat) (n0 : Nat) (k0 : Nat) (A0 : Nat → Insn) (g0_0 : Nat → Bool) (g1_0 : Nat → Bool) (s0_0 : Int) (ls : List L1) : List Value := List.append [.slice a0 n0 (n0 + k0), ((lget ls 2).u 1), .slice none 0 0, (rowV (lget ls 0) ((n0 : Int)).toNat 1), (rowV (lget ls 1) ((n0 : Int)).toNat 1), ((lget ls 2).u 5), .slice none 0 0, .int .i64 (s0_0)] (jks (lget ls 2).u 8 51)
def pre_barbicanref1_Starts_L1_0 (a0 : Option Addr) (p0 : Nat) (q0 : Nat) (n0 : Nat) (k0 : Nat) (A0 : Nat → Insn) (g0_0 : Nat → Bool) (g1_0 : Nat → Bool) (s0_0 : Int) (ls : List L1) : List Obj := [rowO (lget ls 0) (esG cB ((n0 : Int)).toNat g1_0) 4 ((n0 : Int)).toNat 1, rowO (lget ls 1) (esG cB ((n0 : Int)).toNat g0_0) 4 ((n0 : Int)).toNat 1, unb]
theorem sp0_barbicanref1_Starts_L1_0_ok (g1_0 : Nat → Bool) (s0_0 : Int) (h : lpO (st_barbicanref1_Starts_L1 n0 g1_0) (.c0 s0_0) = some (.e0 )) : SpcG Try.prog M B0 S ⟨fun ls => .code (.loop bd_barbicanref1_Starts_L1) (t0_barbicanref1_Starts_L1_0 a0 p0 q0 n0 k0 A0 g0_0 g1_0 s0_0 ls), pre_barbicanref1_Starts_L1_0 a0 p0 q0 n0 k0 A0 g0_0 g1_0 s0_0, 2, (.exit 2), fun ls => vf_barbicanref1_Starts_L1 a0 p0 q0 n0 k0 A0 g0_0 g1_0 (.e0 ) (ls.take 3 ++ ls.drop 3), fun ls => (Hf_barbicanref1_Starts_L1 a0 p0 q0 n0 k0 A0 g0_0 g1_0 (.e0 ) (ls.take 3 ++ ls.drop 3)).take 3 ++ List.replicate 0 unb, fun ls => (Hf_barbicanref1_Starts_L1 a0 p0 q0 n0 k0 A0 g0_0 g1_0 (.e0 ) (ls.take 3 ++ ls.drop 3)).drop 3⟩ :=
  spc_of_goesM hU 1 (k0 := 3) (go_barbicanref1_Starts_L1 hU a0 p0 q0 n0 k0 A0 hR0 g0_0 g1_0 _ _ h) (t0_barbicanref1_Starts_L1_0 a0 p0 q0 n0 k0 A0 g0_0 g1_0 s0_0) (pre_barbicanref1_Starts_L1_0 a0 p0 q0 n0 k0 A0 g0_0 g1_0 s0_0) (fun _ => rfl) (fun ls h => by match ls, h with | [l0, l1, l2], _ => exact ⟨by kernel_rfl, by kernel_rfl⟩) (fun ls h => by match ls, h with | [l0, l1, l2], _ => rfl) (by decide) (by decide) (fun ls => rfl)
theorem sp1_barbicanref1_Starts_L1_0_ok (g1_0 : Nat → Bool) (s0_0 : Int) (c1_0 : Nat) (c1_1 : Nat → Int) (h : lpO (st_barbicanref1_Starts_L1 n0 g1_0) (.c0 s0_0) = some (.e1 c1_0 c1_1)) : SpcG Try.prog M B0 S ⟨fun ls => .code (.loop bd_barbicanref1_Starts_L1) (t0_barbicanref1_Starts_L1_0 a0 p0 q0 n0 k0 A0 g0_0 g1_0 s0_0 ls), pre_barbicanref1_Starts_L1_0 a0 p0 q0 n0 k0 A0 g0_0 g1_0 s0_0, 2, (.exit 2), fun ls => vf_barbicanref1_Starts_L1 a0 p0 q0 n0 k0 A0 g0_0 g1_0 (.e1 c1_0 c1_1) (ls.take 3 ++ ls.drop 3), fun ls => (Hf_barbicanref1_Starts_L1 a0 p0 q0 n0 k0 A0 g0_0 g1_0 (.e1 c1_0 c1_1) (ls.take 3 ++ ls.drop 3)).take 3 ++ List.replicate 0 unb, fun ls => (Hf_barbicanref1_Starts_L1 a0 p0 q0 n0 k0 A0 g0_0 g1_0 (.e1 c1_0 c1_1) (ls.take 3 ++ ls.drop 3)).drop 3⟩ :=
  spc_of_goesM hU 1 (k0 := 3) (go_barbicanref1_Starts_L1 hU a0 p0 q0 n0 k0 A0 hR0 g0_0 g1_0 _ _ h) (t0_barbicanref1_Starts_L1_0 a0 p0 q0 n0 k0 A0 g0_0 g1_0 s0_0) (pre_barbicanref1_Starts_L1_0 a0 p0 q0 n0 k0 A0 g0_0 g1_0 s0_0) (fun _ => rfl) (fun ls h => by match ls, h with | [l0, l1, l2], _ => exact ⟨by kernel_rfl, by kernel_rfl⟩) (fun ls h => by match ls, h with | [l0, l1, l2], _ => rfl) (by decide) (by decide) (fun ls => rfl)
inductive R_barbicanref1_Starts where
  | e0 
  | e1 (c1_0 : Nat) (c1_1 : Nat → Int)
noncomputable def m_barbicanref1_Starts (n0 : Nat) (A0 : Nat → Insn) : Option R_barbicanref1_Starts :=
  bif inR (n0 : Int) 1000001 then
    ((m_barbicanref1_Seconds n0 A0).bind fun g0 => match g0 with
    | .e0 g0_0 =>
    bif inR 0 ((n0 : Int)).toNat then
      ((lpO (st_barbicanref1_Starts_L0 n0 A0 g0_0) (.c0 (updF (fun _ => false) 0 true) 0)).bind fun g1 => match g1 with
      | .e0 g1_0 =>
      (lpO (st_barbicanref1_Starts_L1 n0 g1_0) (.c0 0)).bind fun g2 => match g2 with
      | .e0  => (some (.e0))
      | .e1 g2_0 g2_1 => (some (.e1 g2_0 g2_1)))
    else (none))
  else (none)
def sq0_barbicanref1_Starts (a0 : Option Addr) (p0 : Nat) (q0 : Nat) (n0 : Nat) (k0 : Nat) (A0 : Nat → Insn)  : Spc := ⟨fun ls => .call 24 #[.slice a0 n0 (n0 + k0)], fun ls => [], 0, .normal, fun ls => [.slice none 0 0], fun ls => [], fun ls => []⟩
def sq1_barbicanref1_Starts (a0 : Option Addr) (p0 : Nat) (q0 : Nat) (n0 : Nat) (k0 : Nat) (A0 : Nat → Insn) (c1_0 : Nat) (c1_1 : Nat → Int) : Spc := ⟨fun ls => .call 24 #[.slice a0 n0 (n0 + k0)], fun ls => [], 1, .normal, fun ls => [(rowV (lget ls 0) c1_0 1)], fun ls => [], fun ls => [rowO (lget ls 0) (esG cZ c1_0 c1_1) 3 c1_0 1]⟩
end
section
variable {M : Nat → Prop} {B0 : Nat} {S : World → Prop} (hU : Up M B0 S) (a0 : Option Addr) (p0 : Nat) (q0 : Nat) (n0 : Nat) (k0 : Nat) (A0 : Nat → Insn) (hR0 : Ro S c_Insn 5 a0 p0 q0 n0 A0)
include hU a0 p0 q0 n0 k0 A0 hR0
theorem ok0_barbicanref1_Starts (e : m_barbicanref1_Starts n0 A0 = some (.e0 )) : SpcG Try.prog M B0 S (sq0_barbicanref1_Starts a0 p0 q0 n0 k0 A0 ) := by
  unfold m_barbicanref1_Starts at e
  replace e := cond_eq_or e
  rcases e with ⟨hq0, e⟩ | ⟨hq0, e⟩
  · replace e := bindO_eq e
    obtain ⟨g0, e_g0, e⟩ := e
    obtain ⟨g0_0⟩ := g0
    try dsimp only at e
    replace e := cond_eq_or e
    rcases e with ⟨hq1, e⟩ | ⟨hq1, e⟩
    · replace e := bindO_eq e
      obtain ⟨g1, e_g1, e⟩ := e
      obtain ⟨g1_0⟩ := g1
      try dsimp only at e
      replace e := bindO_eq e
      obtain ⟨g2, e_g2, e⟩ := e
      rcases g2 with _ | ⟨g2_0, g2_1⟩
      · try dsimp only at e
        exact fn_specG hU (P := Try.prog) Try.func24 (fun xs w => by kernel_rfl) 0 _ _ (fun _ => rfl) _ _ _ [] [.o, .o, .o, .x (sqMkZ_ok rt30 (f := cB) (x := (n0 : Int)) (a0 := false) cB_len (by kernel_rfl) hq0 (by decide)) [], .o, .o, .xg (ok0_barbicanref1_Seconds hU a0 p0 q0 n0 k0 A0 hR0 g0_0 e_g0) [], .o, .o, .q (ixM_ok (kd := .i64) (T := 30) (x := 0) (N := ((n0 : Int)).toNat) (sz := 1) rfl (fun w => by kernel_rfl) hq1), .x (sqStG_ok (T := 4) (e := 4) (f := cB) (A := (fun _ => false)) (v := true) 0 (.bool true) cB_len cB_one rfl rfl (fun w => by kernel_rfl) (inR_nat hq1)) [0], .o, .cp, .cx (sp0_barbicanref1_Starts_L0_0_ok hU a0 p0 q0 n0 k0 A0 hR0 g0_0 (updF (fun _ => false) 0 true) 0 g1_0 e_g1) [0, 1], .o, .o, .cp, .cx (sp0_barbicanref1_Starts_L1_0_ok hU a0 p0 q0 n0 k0 A0 hR0 g0_0 g1_0 0  e_g2) [0, 1, 2], .o, .o] [] (fun b => by kernel_rfl)
      · try dsimp only at e
        cases e
    · exact none_some e
  · exact none_some e
theorem ok1_barbicanref1_Starts (c1_0 : Nat) (c1_1 : Nat → Int) (e : m_barbicanref1_Starts n0 A0 = some (.e1 c1_0 c1_1)) : SpcG Try.prog M B0 S (sq1_barbicanref1_Starts a0 p0 q0 n0 k0 A0 c1_0 c1_1) := by
  unfold m_barbicanref1_Starts at e
  replace e := cond_eq_or e
  rcases e with ⟨hq0, e⟩ | ⟨hq0, e⟩
  · replace e := bindO_eq e
    obtain ⟨g0, e_g0, e⟩ := e
    obtain ⟨g0_0⟩ := g0
    try dsimp only at e
    replace e := cond_eq_or e
    rcases e with ⟨hq1, e⟩ | ⟨hq1, e⟩
    · replace e := bindO_eq e
      obtain ⟨g1, e_g1, e⟩ := e
      obtain ⟨g1_0⟩ := g1
      try dsimp only at e
      replace e := bindO_eq e
      obtain ⟨g2, e_g2, e⟩ := e
      rcases g2 with _ | ⟨g2_0, g2_1⟩
      · try dsimp only at e
        cases e
      · try dsimp only at e
        injection e with e; injection e with i0 i1; subst i0 i1; exact fn_specG hU (P := Try.prog) Try.func24 (fun xs w => by kernel_rfl) 0 _ _ (fun _ => rfl) _ _ _ [3] [.o, .o, .o, .x (sqMkZ_ok rt30 (f := cB) (x := (n0 : Int)) (a0 := false) cB_len (by kernel_rfl) hq0 (by decide)) [], .o, .o, .xg (ok0_barbicanref1_Seconds hU a0 p0 q0 n0 k0 A0 hR0 g0_0 e_g0) [], .o, .o, .q (ixM_ok (kd := .i64) (T := 30) (x := 0) (N := ((n0 : Int)).toNat) (sz := 1) rfl (fun w => by kernel_rfl) hq1), .x (sqStG_ok (T := 4) (e := 4) (f := cB) (A := (fun _ => false)) (v := true) 0 (.bool true) cB_len cB_one rfl rfl (fun w => by kernel_rfl) (inR_nat hq1)) [0], .o, .cp, .cx (sp0_barbicanref1_Starts_L0_0_ok hU a0 p0 q0 n0 k0 A0 hR0 g0_0 (updF (fun _ => false) 0 true) 0 g1_0 e_g1) [0, 1], .o, .o, .cp, .cx (sp1_barbicanref1_Starts_L1_0_ok hU a0 p0 q0 n0 k0 A0 hR0 g0_0 g1_0 0 g2_0 g2_1 e_g2) [0, 1, 2], .o, .o] [] (fun b => by kernel_rfl)
    · exact none_some e
  · exact none_some e
end

end Go.Proofs.Ytnoflelhkgdebaa


