/-
  What is reached.
-/
import Derived.Test.YtnoflelhkgdebaaS1CF
namespace Go.Proofs.Ytnoflelhkgdebaa
open Go.RowKit
set_option linter.unusedVariables false
set_option linter.unusedSimpArgs false
set_option linter.unusedSectionVars false
set_option maxRecDepth 100000
set_option maxHeartbeats 4000000
inductive R_barbicanref15_next where
  | e0 
  | e1 (c1_0 : Nat) (c1_1 : Nat → Int)
noncomputable def m_barbicanref15_next (n0 : Nat) (A0 : Nat → Insn) (y1 : Int) : Option R_barbicanref15_next :=
  bif inR y1 n0 then
    (bif m_barbicanref1_Is ((A0 (y1).toNat)) 9 then
      (some (.e0))
    else (bif m_barbicanref1_Is ((A0 (y1).toNat)) 0 then
      (some (.e1 1 (fun _ => (IntKind.i64.wrap ((IntKind.i64.wrap (y1 + 1)) + (ii ((A0 (y1).toNat)).fOff))))))
    else (bif m_barbicanref1_Compares ((A0 (y1).toNat)) then
      (bif ((A0 (y1).toNat)).fOff == 0#16 then
        (some (.e1 1 (fun _ => (IntKind.i64.wrap (y1 + 1)))))
      else (some (.e1 2 (updF (fun _ => (IntKind.i64.wrap (y1 + 1))) 1 (IntKind.i64.wrap ((IntKind.i64.wrap (y1 + 1)) + (ii ((A0 (y1).toNat)).fOff)))))))
    else (bif m_barbicanref1_IsWide ((A0 (y1).toNat)) then
      (some (.e1 1 (fun _ => (IntKind.i64.wrap (y1 + 2)))))
    else (some (.e1 1 (fun _ => (IntKind.i64.wrap (y1 + 1)))))))))
  else (none)
def sq0_barbicanref15_next (a0 : Option Addr) (p0 : Nat) (q0 : Nat) (n0 : Nat) (k0 : Nat) (A0 : Nat → Insn) (y1 : Int)  : Spc := ⟨fun ls => .call 20 #[.slice a0 n0 (n0 + k0), .int .i64 (y1)], fun ls => [], 0, .normal, fun ls => [.slice none 0 0], fun ls => [], fun ls => []⟩
def sq1_barbicanref15_next (a0 : Option Addr) (p0 : Nat) (q0 : Nat) (n0 : Nat) (k0 : Nat) (A0 : Nat → Insn) (y1 : Int) (c1_0 : Nat) (c1_1 : Nat → Int) : Spc := ⟨fun ls => .call 20 #[.slice a0 n0 (n0 + k0), .int .i64 (y1)], fun ls => [], 1, .normal, fun ls => [(rowV (lget ls 0) c1_0 1)], fun ls => [], fun ls => [rowO (lget ls 0) (esG cZ c1_0 c1_1) 3 c1_0 1]⟩
section
variable {M : Nat → Prop} {B0 : Nat} {S : World → Prop} (hU : Up M B0 S) (a0 : Option Addr) (p0 : Nat) (q0 : Nat) (n0 : Nat) (k0 : Nat) (A0 : Nat → Insn) (hR0 : Ro S c_Insn 5 a0 p0 q0 n0 A0) (y1 : Int)
include hU a0 p0 q0 n0 k0 A0 hR0 y1
theorem ok0_barbicanref15_next (e : m_barbicanref15_next n0 A0 y1 = some (.e0 )) : SpcG Try.prog M B0 S (sq0_barbicanref15_next a0 p0 q0 n0 k0 A0 y1 ) := by
  unfold m_barbicanref15_next at e
  replace e := cond_eq_or e
  rcases e with ⟨hq0, e⟩ | ⟨hq0, e⟩
  · replace e := cond_eq_or e
    rcases e with ⟨hq1, e⟩ | ⟨hq1, e⟩
    · exact fn_specG hU (P := Try.prog) Try.func20 (fun xs w => by kernel_rfl) 0 _ _ (fun _ => rfl) _ _ _ [] [.o, .o, .o, .q (ixRo_ok (kd := .i64) (T := 22) (x := y1) (sz := 5) rfl (fun w => by kernel_rfl) hR0 hq0), .l (accRo hR0 c_Insn_len (inR_nat hq0) 0 [.int .u8 (nn ((A0 (y1).toNat)).fOp), .int .u8 (nn ((A0 (y1).toNat)).fDst), .int .u8 (nn ((A0 (y1).toNat)).fSrc), .int .i16 (ii ((A0 (y1).toNat)).fOff), .int .i32 (ii ((A0 (y1).toNat)).fImm)] rfl), .o, .a 0, .a 0, .cg (ok_barbicanref1_Is hU ((A0 (y1).toNat)) 9 true hq1), .o, .o] [] (fun b => by kernel_rfl)
    · replace e := cond_eq_or e
      rcases e with ⟨hq2, e⟩ | ⟨hq2, e⟩
      · cases e
      · replace e := cond_eq_or e
        rcases e with ⟨hq3, e⟩ | ⟨hq3, e⟩
        · replace e := cond_eq_or e
          rcases e with ⟨hq4, e⟩ | ⟨hq4, e⟩
          · cases e
          · cases e
        · replace e := cond_eq_or e
          rcases e with ⟨hq4, e⟩ | ⟨hq4, e⟩
          · cases e
          · cases e
  · exact none_some e
theorem ok1_barbicanref15_next (c1_0 : Nat) (c1_1 : Nat → Int) (e : m_barbicanref15_next n0 A0 y1 = some (.e1 c1_0 c1_1)) : SpcG Try.prog M B0 S (sq1_barbicanref15_next a0 p0 q0 n0 k0 A0 y1 c1_0 c1_1) := by
  unfold m_barbicanref15_next at e
  replace e := cond_eq_or e
  rcases e with ⟨hq0, e⟩ | ⟨hq0, e⟩
  · replace e := cond_eq_or e
    let P1 : List (PG Try.prog M B0 S) := [.o, .o, .o, .q (ixRo_ok (kd := .i64) (T := 22) (x := y1) (sz := 5) rfl (fun w => by kernel_rfl) hR0 hq0), .l (accRo hR0 c_Insn_len (inR_nat hq0) 0 [.int .u8 (nn ((A0 (y1).toNat)).fOp), .int .u8 (nn ((A0 (y1).toNat)).fDst), .int .u8 (nn ((A0 (y1).toNat)).fSrc), .int .i16 (ii ((A0 (y1).toNat)).fOff), .int .i32 (ii ((A0 (y1).toNat)).fImm)] rfl), .o, .a 0, .a 0]
    rcases e with ⟨hq1, e⟩ | ⟨hq1, e⟩
    · cases e
    · replace e := cond_eq_or e
      let P2 : List (PG Try.prog M B0 S) := P1 ++ [.cg (ok_barbicanref1_Is hU ((A0 (y1).toNat)) 9 false hq1), .o, .a 0]
      rcases e with ⟨hq2, e⟩ | ⟨hq2, e⟩
      · injection e with e; injection e with i0 i1; subst i0 i1; exact fn_specG hU (P := Try.prog) Try.func20 (fun xs w => by kernel_rfl) 0 _ _ (fun _ => rfl) _ _ _ [2] (P2 ++ [.cg (ok_barbicanref1_Is hU ((A0 (y1).toNat)) 0 true hq2), .o, .o, .o, .o, .a 0, .v .i64 (z_of_ii (by decide) ((A0 (y1).toNat)).fOff), .o, .o, .x (litRow_ok (es := esG cZ 1 (fun _ => (IntKind.i64.wrap ((IntKind.i64.wrap (y1 + 1)) + (ii ((A0 (y1).toNat)).fOff))))) (e := 3) (n := 1) (sz := 1)) [1]]) [] (fun b => by kernel_rfl)
      · replace e := cond_eq_or e
        let P3 : List (PG Try.prog M B0 S) := P2 ++ [.cg (ok_barbicanref1_Is hU ((A0 (y1).toNat)) 0 false hq2), .o, .a 0]
        rcases e with ⟨hq3, e⟩ | ⟨hq3, e⟩
        · replace e := cond_eq_or e
          rcases e with ⟨hq4, e⟩ | ⟨hq4, e⟩
          · injection e with e; injection e with i0 i1; subst i0 i1; exact fn_specG hU (P := Try.prog) Try.func20 (fun xs w => by kernel_rfl) 0 _ _ (fun _ => rfl) _ _ _ [2] (P3 ++ [.cg (ok_barbicanref1_Compares hU ((A0 (y1).toNat)) true hq3), .o, .o, .a 0, .t (i_eq ((A0 (y1).toNat)).fOff (0#16)) hq4, .o, .o, .o, .x (litRow_ok (es := esG cZ 1 (fun _ => (IntKind.i64.wrap (y1 + 1)))) (e := 3) (n := 1) (sz := 1)) [1]]) [] (fun b => by kernel_rfl)
          · injection e with e; injection e with i0 i1; subst i0 i1; exact fn_specG hU (P := Try.prog) Try.func20 (fun xs w => by kernel_rfl) 0 _ _ (fun _ => rfl) _ _ _ [2] (P3 ++ [.cg (ok_barbicanref1_Compares hU ((A0 (y1).toNat)) true hq3), .o, .o, .a 0, .t (i_eq ((A0 (y1).toNat)).fOff (0#16)) hq4, .o, .o, .o, .o, .o, .a 0, .v .i64 (z_of_ii (by decide) ((A0 (y1).toNat)).fOff), .o, .o, .x (litRow_ok (es := esG cZ 2 (updF (fun _ => (IntKind.i64.wrap (y1 + 1))) 1 (IntKind.i64.wrap ((IntKind.i64.wrap (y1 + 1)) + (ii ((A0 (y1).toNat)).fOff))))) (e := 3) (n := 2) (sz := 1)) [1]]) [] (fun b => by kernel_rfl)
        · replace e := cond_eq_or e
          rcases e with ⟨hq4, e⟩ | ⟨hq4, e⟩
          · injection e with e; injection e with i0 i1; subst i0 i1; exact fn_specG hU (P := Try.prog) Try.func20 (fun xs w => by kernel_rfl) 0 _ _ (fun _ => rfl) _ _ _ [2] (P3 ++ [.cg (ok_barbicanref1_Compares hU ((A0 (y1).toNat)) false hq3), .o, .a 0, .cg (ok_barbicanref1_IsWide hU ((A0 (y1).toNat)) true hq4), .o, .o, .o, .o, .x (litRow_ok (es := esG cZ 1 (fun _ => (IntKind.i64.wrap (y1 + 2)))) (e := 3) (n := 1) (sz := 1)) [1]]) [] (fun b => by kernel_rfl)
          · injection e with e; injection e with i0 i1; subst i0 i1; exact fn_specG hU (P := Try.prog) Try.func20 (fun xs w => by kernel_rfl) 0 _ _ (fun _ => rfl) _ _ _ [2] (P3 ++ [.cg (ok_barbicanref1_Compares hU ((A0 (y1).toNat)) false hq3), .o, .a 0, .cg (ok_barbicanref1_IsWide hU ((A0 (y1).toNat)) false hq4), .o, .o, .o, .o, .x (litRow_ok (es := esG cZ 1 (fun _ => (IntKind.i64.wrap (y1 + 1)))) (e := 3) (n := 1) (sz := 1)) [1]]) [] (fun b => by kernel_rfl)
  · exact none_some e
inductive Sh_barbicanref15_Of_L0_L1v9 where
  | c0 (sb0_0 : Nat → Bool) (sb0_1 : Nat) (sb0_2 : Nat → Int) (sb0_3 : Int)
inductive Ex_barbicanref15_Of_L0_L1v9 where
  | e0 (c0_0 : Nat → Bool) (c0_1 : Nat → Int) (c0_2 : Nat) (c0_3 : Nat → Int)
noncomputable def st_barbicanref15_Of_L0_L1v9 (n0 : Nat) (rb1 : Int) : Sh_barbicanref15_Of_L0_L1v9 → Option (Sh_barbicanref15_Of_L0_L1v9 ⊕ Ex_barbicanref15_Of_L0_L1v9)
  | .c0 sb0_0 sb0_1 sb0_2 sb0_3 =>
    bif decide (sb0_3 < 1) then
      (bif inR sb0_3 1 then
        (bif inR ((fun _ => rb1) (sb0_3).toNat) ((n0 : Int)).toNat then
          (bif (sb0_0 (((fun _ => rb1) (sb0_3).toNat)).toNat) then
            (some (.inl (.c0 sb0_0 sb0_1 sb0_2 (IntKind.i64.wrap (sb0_3 + 1)))))
          else (bif decide (sb0_1 ≤ 1000000) then
            (some (.inl (.c0 (updF sb0_0 (((fun _ => rb1) (sb0_3).toNat)).toNat true) (sb0_1 + 1) (updF sb0_2 sb0_1 ((fun _ => rb1) (sb0_3).toNat)) (IntKind.i64.wrap (sb0_3 + 1)))))
          else (none)))
        else (none))
      else (none))
    else (some (.inr (.e0 sb0_0 (fun _ => rb1) sb0_1 sb0_2)))
noncomputable def bd_barbicanref15_Of_L0_L1v9 : Code := codeOf Try.f7 [1, 1, 1, 1, 0, 0, 0, 1, 0, 1, 1, 1, 1, 1, 0, 0]
def fl_barbicanref15_Of_L0_L1v9 (a0 : Option Addr) (p0 : Nat) (q0 : Nat) (n0 : Nat) (k0 : Nat) (A0 : Nat → Insn) (s0_0 : Nat → Bool) (s0_1 : Nat) (s0_2 : Nat → Int) (rb1 : Int) : Sh_barbicanref15_Of_L0_L1v9 → List L1 → List Value
  | .c0 sb0_0 sb0_1 sb0_2 sb0_3, ls => [.slice a0 n0 (n0 + k0), (rowV (lget ls 0) ((n0 : Int)).toNat 1), (rowV (lget ls 6) sb0_1 1), (rowV (lget ls 5) 1 1), .int .i64 (sb0_3)]
def mf_barbicanref15_Of_L0_L1v9 : Sh_barbicanref15_Of_L0_L1v9 → List (Nat × Nat)
  | .c0 _ _ _ _ => [(1, 2), (2, 1), (2, 68)]
noncomputable def fr_barbicanref15_Of_L0_L1v9 (a0 : Option Addr) (p0 : Nat) (q0 : Nat) (n0 : Nat) (k0 : Nat) (A0 : Nat → Insn) (s0_0 : Nat → Bool) (s0_1 : Nat) (s0_2 : Nat → Int) (rb1 : Int) (s : Sh_barbicanref15_Of_L0_L1v9) : List L1 → List Value := mrgF (mf_barbicanref15_Of_L0_L1v9 s) (fl_barbicanref15_Of_L0_L1v9 a0 p0 q0 n0 k0 A0 s0_0 s0_1 s0_2 rb1 s) 7
def Hs_barbicanref15_Of_L0_L1v9 (a0 : Option Addr) (p0 : Nat) (q0 : Nat) (n0 : Nat) (k0 : Nat) (A0 : Nat → Insn) (s0_0 : Nat → Bool) (s0_1 : Nat) (s0_2 : Nat → Int) (rb1 : Int) : Sh_barbicanref15_Of_L0_L1v9 → List L1 → List Obj
  | .c0 sb0_0 sb0_1 sb0_2 sb0_3, ls => [rowO (lget ls 0) (esG cB ((n0 : Int)).toNat sb0_0) 4 ((n0 : Int)).toNat 1, unb, unb, unb, .cells #[.int .i64 (rb1)] 3, rowO (lget ls 5) (esG cZ 1 (fun _ => rb1)) 3 1 1, rowO (lget ls 6) (esG cZ sb0_1 sb0_2) 3 sb0_1 1, unb]
def vl_barbicanref15_Of_L0_L1v9 (a0 : Option Addr) (p0 : Nat) (q0 : Nat) (n0 : Nat) (k0 : Nat) (A0 : Nat → Insn) (s0_0 : Nat → Bool) (s0_1 : Nat) (s0_2 : Nat → Int) (rb1 : Int) : Ex_barbicanref15_Of_L0_L1v9 → List L1 → List Value
  | .e0 c0_0 c0_1 c0_2 c0_3, ls => [.slice a0 n0 (n0 + k0), (rowV (lget ls 0) ((n0 : Int)).toNat 1), (rowV (lget ls 6) c0_2 1), (rowV (lget ls 5) 1 1)]
def mk_barbicanref15_Of_L0_L1v9 : Ex_barbicanref15_Of_L0_L1v9 → List (Nat × Nat)
  | .e0 _ _ _ _ => [(1, 2), (2, 1), (1, 69)]
noncomputable def vf_barbicanref15_Of_L0_L1v9 (a0 : Option Addr) (p0 : Nat) (q0 : Nat) (n0 : Nat) (k0 : Nat) (A0 : Nat → Insn) (s0_0 : Nat → Bool) (s0_1 : Nat) (s0_2 : Nat → Int) (rb1 : Int) (r : Ex_barbicanref15_Of_L0_L1v9) : List L1 → List Value := mrgF (mk_barbicanref15_Of_L0_L1v9 r) (vl_barbicanref15_Of_L0_L1v9 a0 p0 q0 n0 k0 A0 s0_0 s0_1 s0_2 rb1 r) 7
def Hf_barbicanref15_Of_L0_L1v9 (a0 : Option Addr) (p0 : Nat) (q0 : Nat) (n0 : Nat) (k0 : Nat) (A0 : Nat → Insn) (s0_0 : Nat → Bool) (s0_1 : Nat) (s0_2 : Nat → Int) (rb1 : Int) : Ex_barbicanref15_Of_L0_L1v9 → List L1 → List Obj
  | .e0 c0_0 c0_1 c0_2 c0_3, ls => [rowO (lget ls 0) (esG cB ((n0 : Int)).toNat c0_0) 4 ((n0 : Int)).toNat 1, unb, unb, unb, .cells #[.int .i64 (rb1)] 3, rowO (lget ls 5) (esG cZ 1 c0_1) 3 1 1, rowO (lget ls 6) (esG cZ c0_2 c0_3) 3 c0_2 1, unb]
def ex_barbicanref15_Of_L0_L1v9 : Ex_barbicanref15_Of_L0_L1v9 → Ex
  | .e0 _ _ _ _ => (.exit 2)
end
section
variable {M : Nat → Prop} {B0 : Nat} {S : World → Prop} (hU : Up M B0 S) (a0 : Option Addr) (p0 : Nat) (q0 : Nat) (n0 : Nat) (k0 : Nat) (A0 : Nat → Insn) (hR0 : Ro S c_Insn 5 a0 p0 q0 n0 A0) (s0_0 : Nat → Bool) (s0_1 : Nat) (s0_2 : Nat → Int) (rb1 : Int)
include hU a0 p0 q0 n0 k0 A0 hR0 s0_0 s0_1 s0_2 rb1
theorem go_barbicanref15_Of_L0_L1v9 (s : Sh_barbicanref15_Of_L0_L1v9) (r : Ex_barbicanref15_Of_L0_L1v9) (h : lpO (st_barbicanref15_Of_L0_L1v9 n0 rb1) s = some r) : GoesG Try.prog M B0 S (.loop bd_barbicanref15_Of_L0_L1v9) 8 (fr_barbicanref15_Of_L0_L1v9 a0 p0 q0 n0 k0 A0 s0_0 s0_1 s0_2 rb1 s) (Hs_barbicanref15_Of_L0_L1v9 a0 p0 q0 n0 k0 A0 s0_0 s0_1 s0_2 rb1 s) (ex_barbicanref15_Of_L0_L1v9 r) 6 (vf_barbicanref15_Of_L0_L1v9 a0 p0 q0 n0 k0 A0 s0_0 s0_1 s0_2 rb1 r) (Hf_barbicanref15_Of_L0_L1v9 a0 p0 q0 n0 k0 A0 s0_0 s0_1 s0_2 rb1 r) 8 :=
  goes_lpO (fun s q e => by
    cases s with
    | c0 sb0_0 sb0_1 sb0_2 sb0_3 =>
      unfold st_barbicanref15_Of_L0_L1v9 at e
      dsimp only at e
      replace e := cond_eq_or e
      rcases e with ⟨hq0, e⟩ | ⟨hq0, e⟩
      · replace e := cond_eq_or e
        rcases e with ⟨hq1, e⟩ | ⟨hq1, e⟩
        · replace e := cond_eq_or e
          let P1 : List (PG Try.prog M B0 S) := [.o, .o, .o, .b (z_lssT hq0), .o, .o, .o, .q (ixM_ok (kd := .i64) (T := 26) (x := sb0_3) (N := 1) (sz := 1) rfl (fun w => by kernel_rfl) hq1), .l (accG (i := 5) (f := cZ) (A := (fun _ => rb1)) (k := (sb0_3).toNat) 0 [.int .i64 (((fun _ => rb1) (sb0_3).toNat))] cZ_len (inR_nat hq1) rfl)]
          rcases e with ⟨hq2, e⟩ | ⟨hq2, e⟩
          · replace e := cond_eq_or e
            let P2 : List (PG Try.prog M B0 S) := P1 ++ [.q (ixM_ok (kd := .i64) (T := 30) (x := ((fun _ => rb1) (sb0_3).toNat)) (N := ((n0 : Int)).toNat) (sz := 1) rfl (fun w => by kernel_rfl) hq2)]
            rcases e with ⟨hq3, e⟩ | ⟨hq3, e⟩
            · cases e; exact goes_runM hU (P2 ++ [.l (accG (i := 0) (f := cB) (A := sb0_0) (k := (((fun _ => rb1) (sb0_3).toNat)).toNat) 0 [.bool true] cB_len (inR_nat hq2) (congrArg (fun b => [Value.bool b]) hq3)), .o, .o, .o, .o]) [0, 1, 2, 3, 4, 5, 6] (fun b => rfl) (by decide) rfl rfl (fun b => by kernel_rfl)
            · replace e := cond_eq_or e
              rcases e with ⟨hq4, e⟩ | ⟨hq4, e⟩
              · cases e; exact goes_runM hU (P2 ++ [.l (accG (i := 0) (f := cB) (A := sb0_0) (k := (((fun _ => rb1) (sb0_3).toNat)).toNat) 0 [.bool false] cB_len (inR_nat hq2) (congrArg (fun b => [Value.bool b]) hq3)), .o, .o, .o, .o, .q (ixM_ok (kd := .i64) (T := 26) (x := sb0_3) (N := 1) (sz := 1) rfl (fun w => by kernel_rfl) hq1), .l (accG (i := 5) (f := cZ) (A := (fun _ => rb1)) (k := (sb0_3).toNat) 0 [.int .i64 (((fun _ => rb1) (sb0_3).toNat))] cZ_len (inR_nat hq1) rfl), .q (ixM_ok (kd := .i64) (T := 30) (x := ((fun _ => rb1) (sb0_3).toNat)) (N := ((n0 : Int)).toNat) (sz := 1) rfl (fun w => by kernel_rfl) hq2), .x (sqStG_ok (T := 4) (e := 4) (f := cB) (A := sb0_0) (v := true) 0 (.bool true) cB_len cB_one rfl rfl (fun w => by kernel_rfl) (inR_nat hq2)) [0], .o, .o, .o, .q (ixM_ok (kd := .i64) (T := 26) (x := sb0_3) (N := 1) (sz := 1) rfl (fun w => by kernel_rfl) hq1), .l (accG (i := 5) (f := cZ) (A := (fun _ => rb1)) (k := (sb0_3).toNat) 0 [.int .i64 (((fun _ => rb1) (sb0_3).toNat))] cZ_len (inR_nat hq1) rfl), .o, .x (sqAppL_ok (ty := 26) rt26 #[false, false] (f := cZ) (N := sb0_1) (A := sb0_2) (c := 1) [((fun _ => rb1) (sb0_3).toNat)] (T' := 3) .row cZ_len cZ_one hq4 rfl (by decide)) [6, 8], .o, .o, .o, .o]) [0, 1, 2, 3, 4, 5, 9] (fun b => rfl) (by decide) rfl rfl (fun b => by kernel_rfl)
              · exact none_some e
          · exact none_some e
        · exact none_some e
      · cases e; exact ⟨ne_exit 2, goes_runM hU [.o, .o, .o, .b (z_lssF hq0)] [0, 1, 2, 3, 4, 5, 6] (fun b => rfl) (by decide) rfl rfl (fun b => by kernel_rfl)⟩) s r h
noncomputable def t0_barbicanref15_Of_L0_L1v9_0 (a0 : Option Addr) (p0 : Nat) (q0 : Nat) (n0 : Nat) (k0 : Nat) (A0 : Nat → Insn) (s0_0 : Nat → Bool) (s0_1 : Nat) (s0_2 : Nat → Int) (rb1 : Int) (sb0_0 : Nat → Bool) (sb0_1 : Nat) (sb0_2 : Nat → Int) (sb0_3 : Int) (ls : List L1) : List Value := List.append [.slice a0 n0 (n0 + k0), ((lget ls 3).u 1), ((lget ls 3).u 2), (rowV (lget ls 0) ((n0 : Int)).toNat 1), (rowV (lget ls 6) sb0_1 1), .int .i64 ((s0_2 ((IntKind.i64.wrap ((s0_1 : Int) - 1))).toNat)), (rowV (lget ls 5) 1 1), .int .i64 (sb0_3)] (List.append (jks (lget ls 3).u 8 6) (List.append [(rowV (lget ls 2) s0_1 1), .int .i64 ((s0_1 : Int)), .bool true, (rowV (lget ls 2) s0_1 1), (rowV (lget ls 2) s0_1 1), .int .i64 ((s0_1 : Int)), .int .i64 ((IntKind.i64.wrap ((s0_1 : Int) - 1))), .pointer (some ⟨(lget ls 2).n, 0 + ((IntKind.i64.wrap ((s0_1 : Int) - 1))).toNat * 1, none⟩), .int .i64 ((s0_2 ((IntKind.i64.wrap ((s0_1 : Int) - 1))).toNat)), (rowV (lget ls 2) s0_1 1), (rowV (lget ls 2) s0_1 1), .int .i64 ((s0_1 : Int)), .int .i64 ((IntKind.i64.wrap ((s0_1 : Int) - 1))), (rowV (lget ls 6) ((IntKind.i64.wrap ((s0_1 : Int) - 1))).toNat 1), .slice a0 n0 (n0 + k0), .int .i64 ((s0_2 ((IntKind.i64.wrap ((s0_1 : Int) - 1))).toNat)), .slice none 0 0, .slice a0 n0 (n0 + k0), .int .i64 ((s0_2 ((IntKind.i64.wrap ((s0_1 : Int) - 1))).toNat)), .pointer (some ⟨p0, q0 + ((s0_2 ((IntKind.i64.wrap ((s0_1 : Int) - 1))).toNat)).toNat * 5, none⟩), .agg #[.int .u8 (nn ((A0 ((s0_2 ((IntKind.i64.wrap ((s0_1 : Int) - 1))).toNat)).toNat)).fOp), .int .u8 (nn ((A0 ((s0_2 ((IntKind.i64.wrap ((s0_1 : Int) - 1))).toNat)).toNat)).fDst), .int .u8 (nn ((A0 ((s0_2 ((IntKind.i64.wrap ((s0_1 : Int) - 1))).toNat)).toNat)).fSrc), .int .i16 (ii ((A0 ((s0_2 ((IntKind.i64.wrap ((s0_1 : Int) - 1))).toNat)).toNat)).fOff), .int .i32 (ii ((A0 ((s0_2 ((IntKind.i64.wrap ((s0_1 : Int) - 1))).toNat)).toNat)).fImm)], .bool true, .slice none 0 0, .slice a0 n0 (n0 + k0), .int .i64 ((s0_2 ((IntKind.i64.wrap ((s0_1 : Int) - 1))).toNat)), .slice a0 n0 (n0 + k0), .int .i64 ((s0_2 ((IntKind.i64.wrap ((s0_1 : Int) - 1))).toNat)), .pointer (some ⟨p0, q0 + ((s0_2 ((IntKind.i64.wrap ((s0_1 : Int) - 1))).toNat)).toNat * 5, none⟩), .pointer (some ⟨p0, q0 + ((s0_2 ((IntKind.i64.wrap ((s0_1 : Int) - 1))).toNat)).toNat * 5 + 4, none⟩), .int .i32 (ii ((A0 ((s0_2 ((IntKind.i64.wrap ((s0_1 : Int) - 1))).toNat)).toNat)).fImm), .int .i64 ((ii ((A0 ((s0_2 ((IntKind.i64.wrap ((s0_1 : Int) - 1))).toNat)).toNat)).fImm)), .int .i64 (rb1), .slice (some ⟨(lget ls 4).n, 0, none⟩) 1 1, (rowV (lget ls 5) 1 1)] (jks (lget ls 3).u 48 28)))
def pre_barbicanref15_Of_L0_L1v9_0 (a0 : Option Addr) (p0 : Nat) (q0 : Nat) (n0 : Nat) (k0 : Nat) (A0 : Nat → Insn) (s0_0 : Nat → Bool) (s0_1 : Nat) (s0_2 : Nat → Int) (rb1 : Int) (sb0_0 : Nat → Bool) (sb0_1 : Nat) (sb0_2 : Nat → Int) (sb0_3 : Int) (ls : List L1) : List Obj := [rowO (lget ls 0) (esG cB ((n0 : Int)).toNat sb0_0) 4 ((n0 : Int)).toNat 1, unb, unb, unb, .cells #[.int .i64 (rb1)] 3, rowO (lget ls 5) (esG cZ 1 (fun _ => rb1)) 3 1 1, rowO (lget ls 6) (esG cZ sb0_1 sb0_2) 3 sb0_1 1]
theorem sp0_barbicanref15_Of_L0_L1v9_0_ok (sb0_0 : Nat → Bool) (sb0_1 : Nat) (sb0_2 : Nat → Int) (sb0_3 : Int) (c0_0 : Nat → Bool) (c0_1 : Nat → Int) (c0_2 : Nat) (c0_3 : Nat → Int) (h : lpO (st_barbicanref15_Of_L0_L1v9 n0 rb1) (.c0 sb0_0 sb0_1 sb0_2 sb0_3) = some (.e0 c0_0 c0_1 c0_2 c0_3)) : SpcG Try.prog M B0 S ⟨fun ls => .code (.loop bd_barbicanref15_Of_L0_L1v9) (t0_barbicanref15_Of_L0_L1v9_0 a0 p0 q0 n0 k0 A0 s0_0 s0_1 s0_2 rb1 sb0_0 sb0_1 sb0_2 sb0_3 ls), pre_barbicanref15_Of_L0_L1v9_0 a0 p0 q0 n0 k0 A0 s0_0 s0_1 s0_2 rb1 sb0_0 sb0_1 sb0_2 sb0_3, 2, (.exit 2), fun ls => vf_barbicanref15_Of_L0_L1v9 a0 p0 q0 n0 k0 A0 s0_0 s0_1 s0_2 rb1 (.e0 c0_0 c0_1 c0_2 c0_3) (ls.take 6 ++ ls.drop 7), fun ls => (Hf_barbicanref15_Of_L0_L1v9 a0 p0 q0 n0 k0 A0 s0_0 s0_1 s0_2 rb1 (.e0 c0_0 c0_1 c0_2 c0_3) (ls.take 6 ++ ls.drop 7)).take 6 ++ List.replicate 1 unb, fun ls => (Hf_barbicanref15_Of_L0_L1v9 a0 p0 q0 n0 k0 A0 s0_0 s0_1 s0_2 rb1 (.e0 c0_0 c0_1 c0_2 c0_3) (ls.take 6 ++ ls.drop 7)).drop 6⟩ :=
  spc_of_goesM hU 0 (k0 := 7) (go_barbicanref15_Of_L0_L1v9 hU a0 p0 q0 n0 k0 A0 hR0 s0_0 s0_1 s0_2 rb1 _ _ h) (t0_barbicanref15_Of_L0_L1v9_0 a0 p0 q0 n0 k0 A0 s0_0 s0_1 s0_2 rb1 sb0_0 sb0_1 sb0_2 sb0_3) (pre_barbicanref15_Of_L0_L1v9_0 a0 p0 q0 n0 k0 A0 s0_0 s0_1 s0_2 rb1 sb0_0 sb0_1 sb0_2 sb0_3) (fun _ => rfl) (fun ls h => by match ls, h with | [l0, l1, l2, l3, l4, l5, l6], _ => exact ⟨by kernel_rfl, by kernel_rfl⟩) (fun ls h => by match ls, h with | [l0, l1, l2, l3, l4, l5, l6], _ => rfl) (by decide) (by decide) (fun ls => rfl)
inductive Sh_barbicanref15_Of_L0_L1v10 where
  | c0 (sb0_0 : Nat → Bool) (sb0_1 : Nat) (sb0_2 : Nat → Int) (sb0_3 : Int)
inductive Ex_barbicanref15_Of_L0_L1v10 where
  | e0 (c0_0 : Nat → Bool) (c0_1 : Nat → Int) (c0_2 : Nat) (c0_3 : Nat → Int)
noncomputable def st_barbicanref15_Of_L0_L1v10 (n0 : Nat) (gb0_0 : Nat) (gb0_1 : Nat → Int) (rb1 : Int) : Sh_barbicanref15_Of_L0_L1v10 → Option (Sh_barbicanref15_Of_L0_L1v10 ⊕ Ex_barbicanref15_Of_L0_L1v10)
  | .c0 sb0_0 sb0_1 sb0_2 sb0_3 =>
    bif decide (sb0_3 < ((gb0_0 + 1) : Int)) then
      (bif inR sb0_3 (gb0_0 + 1) then
        (bif inR ((updF gb0_1 gb0_0 rb1) (sb0_3).toNat) ((n0 : Int)).toNat then
          (bif (sb0_0 (((updF gb0_1 gb0_0 rb1) (sb0_3).toNat)).toNat) then
            (some (.inl (.c0 sb0_0 sb0_1 sb0_2 (IntKind.i64.wrap (sb0_3 + 1)))))
          else (bif decide (sb0_1 ≤ 1000000) then
            (some (.inl (.c0 (updF sb0_0 (((updF gb0_1 gb0_0 rb1) (sb0_3).toNat)).toNat true) (sb0_1 + 1) (updF sb0_2 sb0_1 ((updF gb0_1 gb0_0 rb1) (sb0_3).toNat)) (IntKind.i64.wrap (sb0_3 + 1)))))
          else (none)))
        else (none))
      else (none))
    else (some (.inr (.e0 sb0_0 (updF gb0_1 gb0_0 rb1) sb0_1 sb0_2)))
noncomputable def bd_barbicanref15_Of_L0_L1v10 : Code := codeOf Try.f7 [1, 1, 1, 1, 0, 0, 0, 1, 0, 1, 1, 1, 1, 1, 0, 0]
def fl_barbicanref15_Of_L0_L1v10 (a0 : Option Addr) (p0 : Nat) (q0 : Nat) (n0 : Nat) (k0 : Nat) (A0 : Nat → Insn) (s0_0 : Nat → Bool) (s0_1 : Nat) (s0_2 : Nat → Int) (gb0_0 : Nat) (gb0_1 : Nat → Int) (rb1 : Int) : Sh_barbicanref15_Of_L0_L1v10 → List L1 → List Value
  | .c0 sb0_0 sb0_1 sb0_2 sb0_3, ls => [.slice a0 n0 (n0 + k0), (rowV (lget ls 0) ((n0 : Int)).toNat 1), (rowV (lget ls 7) sb0_1 1), (rowV (lget ls 6) (gb0_0 + 1) 1), .int .i64 (sb0_3)]
def mf_barbicanref15_Of_L0_L1v10 : Sh_barbicanref15_Of_L0_L1v10 → List (Nat × Nat)
  | .c0 _ _ _ _ => [(1, 2), (2, 1), (2, 68)]
noncomputable def fr_barbicanref15_Of_L0_L1v10 (a0 : Option Addr) (p0 : Nat) (q0 : Nat) (n0 : Nat) (k0 : Nat) (A0 : Nat → Insn) (s0_0 : Nat → Bool) (s0_1 : Nat) (s0_2 : Nat → Int) (gb0_0 : Nat) (gb0_1 : Nat → Int) (rb1 : Int) (s : Sh_barbicanref15_Of_L0_L1v10) : List L1 → List Value := mrgF (mf_barbicanref15_Of_L0_L1v10 s) (fl_barbicanref15_Of_L0_L1v10 a0 p0 q0 n0 k0 A0 s0_0 s0_1 s0_2 gb0_0 gb0_1 rb1 s) 8
def Hs_barbicanref15_Of_L0_L1v10 (a0 : Option Addr) (p0 : Nat) (q0 : Nat) (n0 : Nat) (k0 : Nat) (A0 : Nat → Insn) (s0_0 : Nat → Bool) (s0_1 : Nat) (s0_2 : Nat → Int) (gb0_0 : Nat) (gb0_1 : Nat → Int) (rb1 : Int) : Sh_barbicanref15_Of_L0_L1v10 → List L1 → List Obj
  | .c0 sb0_0 sb0_1 sb0_2 sb0_3, ls => [rowO (lget ls 0) (esG cB ((n0 : Int)).toNat sb0_0) 4 ((n0 : Int)).toNat 1, unb, unb, unb, unb, .cells #[.int .i64 (rb1)] 3, rowO (lget ls 6) (esG cZ (gb0_0 + 1) (updF gb0_1 gb0_0 rb1)) 3 (gb0_0 + 1) 1, rowO (lget ls 7) (esG cZ sb0_1 sb0_2) 3 sb0_1 1, unb]
def vl_barbicanref15_Of_L0_L1v10 (a0 : Option Addr) (p0 : Nat) (q0 : Nat) (n0 : Nat) (k0 : Nat) (A0 : Nat → Insn) (s0_0 : Nat → Bool) (s0_1 : Nat) (s0_2 : Nat → Int) (gb0_0 : Nat) (gb0_1 : Nat → Int) (rb1 : Int) : Ex_barbicanref15_Of_L0_L1v10 → List L1 → List Value
  | .e0 c0_0 c0_1 c0_2 c0_3, ls => [.slice a0 n0 (n0 + k0), (rowV (lget ls 0) ((n0 : Int)).toNat 1), (rowV (lget ls 7) c0_2 1), (rowV (lget ls 6) (gb0_0 + 1) 1)]
def mk_barbicanref15_Of_L0_L1v10 : Ex_barbicanref15_Of_L0_L1v10 → List (Nat × Nat)
  | .e0 _ _ _ _ => [(1, 2), (2, 1), (1, 69)]
noncomputable def vf_barbicanref15_Of_L0_L1v10 (a0 : Option Addr) (p0 : Nat) (q0 : Nat) (n0 : Nat) (k0 : Nat) (A0 : Nat → Insn) (s0_0 : Nat → Bool) (s0_1 : Nat) (s0_2 : Nat → Int) (gb0_0 : Nat) (gb0_1 : Nat → Int) (rb1 : Int) (r : Ex_barbicanref15_Of_L0_L1v10) : List L1 → List Value := mrgF (mk_barbicanref15_Of_L0_L1v10 r) (vl_barbicanref15_Of_L0_L1v10 a0 p0 q0 n0 k0 A0 s0_0 s0_1 s0_2 gb0_0 gb0_1 rb1 r) 8
def Hf_barbicanref15_Of_L0_L1v10 (a0 : Option Addr) (p0 : Nat) (q0 : Nat) (n0 : Nat) (k0 : Nat) (A0 : Nat → Insn) (s0_0 : Nat → Bool) (s0_1 : Nat) (s0_2 : Nat → Int) (gb0_0 : Nat) (gb0_1 : Nat → Int) (rb1 : Int) : Ex_barbicanref15_Of_L0_L1v10 → List L1 → List Obj
  | .e0 c0_0 c0_1 c0_2 c0_3, ls => [rowO (lget ls 0) (esG cB ((n0 : Int)).toNat c0_0) 4 ((n0 : Int)).toNat 1, unb, unb, unb, unb, .cells #[.int .i64 (rb1)] 3, rowO (lget ls 6) (esG cZ (gb0_0 + 1) c0_1) 3 (gb0_0 + 1) 1, rowO (lget ls 7) (esG cZ c0_2 c0_3) 3 c0_2 1, unb]
def ex_barbicanref15_Of_L0_L1v10 : Ex_barbicanref15_Of_L0_L1v10 → Ex
  | .e0 _ _ _ _ => (.exit 2)
end
section
variable {M : Nat → Prop} {B0 : Nat} {S : World → Prop} (hU : Up M B0 S) (a0 : Option Addr) (p0 : Nat) (q0 : Nat) (n0 : Nat) (k0 : Nat) (A0 : Nat → Insn) (hR0 : Ro S c_Insn 5 a0 p0 q0 n0 A0) (s0_0 : Nat → Bool) (s0_1 : Nat) (s0_2 : Nat → Int) (gb0_0 : Nat) (gb0_1 : Nat → Int) (rb1 : Int)
include hU a0 p0 q0 n0 k0 A0 hR0 s0_0 s0_1 s0_2 gb0_0 gb0_1 rb1
theorem go_barbicanref15_Of_L0_L1v10 (s : Sh_barbicanref15_Of_L0_L1v10) (r : Ex_barbicanref15_Of_L0_L1v10) (h : lpO (st_barbicanref15_Of_L0_L1v10 n0 gb0_0 gb0_1 rb1) s = some r) : GoesG Try.prog M B0 S (.loop bd_barbicanref15_Of_L0_L1v10) 9 (fr_barbicanref15_Of_L0_L1v10 a0 p0 q0 n0 k0 A0 s0_0 s0_1 s0_2 gb0_0 gb0_1 rb1 s) (Hs_barbicanref15_Of_L0_L1v10 a0 p0 q0 n0 k0 A0 s0_0 s0_1 s0_2 gb0_0 gb0_1 rb1 s) (ex_barbicanref15_Of_L0_L1v10 r) 7 (vf_barbicanref15_Of_L0_L1v10 a0 p0 q0 n0 k0 A0 s0_0 s0_1 s0_2 gb0_0 gb0_1 rb1 r) (Hf_barbicanref15_Of_L0_L1v10 a0 p0 q0 n0 k0 A0 s0_0 s0_1 s0_2 gb0_0 gb0_1 rb1 r) 9 :=
  goes_lpO (fun s q e => by
    cases s with
    | c0 sb0_0 sb0_1 sb0_2 sb0_3 =>
      unfold st_barbicanref15_Of_L0_L1v10 at e
      dsimp only at e
      replace e := cond_eq_or e
      rcases e with ⟨hq0, e⟩ | ⟨hq0, e⟩
      · replace e := cond_eq_or e
        rcases e with ⟨hq1, e⟩ | ⟨hq1, e⟩
        · replace e := cond_eq_or e
          let P1 : List (PG Try.prog M B0 S) := [.o, .o, .o, .b (z_lssT hq0), .o, .o, .o, .q (ixM_ok (kd := .i64) (T := 26) (x := sb0_3) (N := (gb0_0 + 1)) (sz := 1) rfl (fun w => by kernel_rfl) hq1), .l (accG (i := 6) (f := cZ) (A := updF gb0_1 gb0_0 rb1) (k := (sb0_3).toNat) 0 [.int .i64 (((updF gb0_1 gb0_0 rb1) (sb0_3).toNat))] cZ_len (inR_nat hq1) rfl)]
          rcases e with ⟨hq2, e⟩ | ⟨hq2, e⟩
          · replace e := cond_eq_or e
            let P2 : List (PG Try.prog M B0 S) := P1 ++ [.q (ixM_ok (kd := .i64) (T := 30) (x := ((updF gb0_1 gb0_0 rb1) (sb0_3).toNat)) (N := ((n0 : Int)).toNat) (sz := 1) rfl (fun w => by kernel_rfl) hq2)]
            rcases e with ⟨hq3, e⟩ | ⟨hq3, e⟩
            · cases e; exact goes_runM hU (P2 ++ [.l (accG (i := 0) (f := cB) (A := sb0_0) (k := (((updF gb0_1 gb0_0 rb1) (sb0_3).toNat)).toNat) 0 [.bool true] cB_len (inR_nat hq2) (congrArg (fun b => [Value.bool b]) hq3)), .o, .o, .o, .o]) [0, 1, 2, 3, 4, 5, 6, 7] (fun b => rfl) (by decide) rfl rfl (fun b => by kernel_rfl)
            · replace e := cond_eq_or e
              rcases e with ⟨hq4, e⟩ | ⟨hq4, e⟩
              · cases e; exact goes_runM hU (P2 ++ [.l (accG (i := 0) (f := cB) (A := sb0_0) (k := (((updF gb0_1 gb0_0 rb1) (sb0_3).toNat)).toNat) 0 [.bool false] cB_len (inR_nat hq2) (congrArg (fun b => [Value.bool b]) hq3)), .o, .o, .o, .o, .q (ixM_ok (kd := .i64) (T := 26) (x := sb0_3) (N := (gb0_0 + 1)) (sz := 1) rfl (fun w => by kernel_rfl) hq1), .l (accG (i := 6) (f := cZ) (A := updF gb0_1 gb0_0 rb1) (k := (sb0_3).toNat) 0 [.int .i64 (((updF gb0_1 gb0_0 rb1) (sb0_3).toNat))] cZ_len (inR_nat hq1) rfl), .q (ixM_ok (kd := .i64) (T := 30) (x := ((updF gb0_1 gb0_0 rb1) (sb0_3).toNat)) (N := ((n0 : Int)).toNat) (sz := 1) rfl (fun w => by kernel_rfl) hq2), .x (sqStG_ok (T := 4) (e := 4) (f := cB) (A := sb0_0) (v := true) 0 (.bool true) cB_len cB_one rfl rfl (fun w => by kernel_rfl) (inR_nat hq2)) [0], .o, .o, .o, .q (ixM_ok (kd := .i64) (T := 26) (x := sb0_3) (N := (gb0_0 + 1)) (sz := 1) rfl (fun w => by kernel_rfl) hq1), .l (accG (i := 6) (f := cZ) (A := updF gb0_1 gb0_0 rb1) (k := (sb0_3).toNat) 0 [.int .i64 (((updF gb0_1 gb0_0 rb1) (sb0_3).toNat))] cZ_len (inR_nat hq1) rfl), .o, .x (sqAppL_ok (ty := 26) rt26 #[false, false] (f := cZ) (N := sb0_1) (A := sb0_2) (c := 1) [((updF gb0_1 gb0_0 rb1) (sb0_3).toNat)] (T' := 3) .row cZ_len cZ_one hq4 rfl (by decide)) [7, 9], .o, .o, .o, .o]) [0, 1, 2, 3, 4, 5, 6, 10] (fun b => rfl) (by decide) rfl rfl (fun b => by kernel_rfl)
              · exact none_some e
          · exact none_some e
        · exact none_some e
      · cases e; exact ⟨ne_exit 2, goes_runM hU [.o, .o, .o, .b (z_lssF hq0)] [0, 1, 2, 3, 4, 5, 6, 7] (fun b => rfl) (by decide) rfl rfl (fun b => by kernel_rfl)⟩) s r h
noncomputable def t0_barbicanref15_Of_L0_L1v10_0 (a0 : Option Addr) (p0 : Nat) (q0 : Nat) (n0 : Nat) (k0 : Nat) (A0 : Nat → Insn) (s0_0 : Nat → Bool) (s0_1 : Nat) (s0_2 : Nat → Int) (gb0_0 : Nat) (gb0_1 : Nat → Int) (rb1 : Int) (sb0_0 : Nat → Bool) (sb0_1 : Nat) (sb0_2 : Nat → Int) (sb0_3 : Int) (ls : List L1) : List Value := List.append [.slice a0 n0 (n0 + k0), ((lget ls 3).u 1), ((lget ls 3).u 2), (rowV (lget ls 0) ((n0 : Int)).toNat 1), (rowV (lget ls 7) sb0_1 1), .int .i64 ((s0_2 ((IntKind.i64.wrap ((s0_1 : Int) - 1))).toNat)), (rowV (lget ls 6) (gb0_0 + 1) 1), .int .i64 (sb0_3)] (List.append (jks (lget ls 3).u 8 6) (List.append [(rowV (lget ls 2) s0_1 1), .int .i64 ((s0_1 : Int)), .bool true, (rowV (lget ls 2) s0_1 1), (rowV (lget ls 2) s0_1 1), .int .i64 ((s0_1 : Int)), .int .i64 ((IntKind.i64.wrap ((s0_1 : Int) - 1))), .pointer (some ⟨(lget ls 2).n, 0 + ((IntKind.i64.wrap ((s0_1 : Int) - 1))).toNat * 1, none⟩), .int .i64 ((s0_2 ((IntKind.i64.wrap ((s0_1 : Int) - 1))).toNat)), (rowV (lget ls 2) s0_1 1), (rowV (lget ls 2) s0_1 1), .int .i64 ((s0_1 : Int)), .int .i64 ((IntKind.i64.wrap ((s0_1 : Int) - 1))), (rowV (lget ls 7) ((IntKind.i64.wrap ((s0_1 : Int) - 1))).toNat 1), .slice a0 n0 (n0 + k0), .int .i64 ((s0_2 ((IntKind.i64.wrap ((s0_1 : Int) - 1))).toNat)), (rowV (lget ls 4) gb0_0 1), .slice a0 n0 (n0 + k0), .int .i64 ((s0_2 ((IntKind.i64.wrap ((s0_1 : Int) - 1))).toNat)), .pointer (some ⟨p0, q0 + ((s0_2 ((IntKind.i64.wrap ((s0_1 : Int) - 1))).toNat)).toNat * 5, none⟩), .agg #[.int .u8 (nn ((A0 ((s0_2 ((IntKind.i64.wrap ((s0_1 : Int) - 1))).toNat)).toNat)).fOp), .int .u8 (nn ((A0 ((s0_2 ((IntKind.i64.wrap ((s0_1 : Int) - 1))).toNat)).toNat)).fDst), .int .u8 (nn ((A0 ((s0_2 ((IntKind.i64.wrap ((s0_1 : Int) - 1))).toNat)).toNat)).fSrc), .int .i16 (ii ((A0 ((s0_2 ((IntKind.i64.wrap ((s0_1 : Int) - 1))).toNat)).toNat)).fOff), .int .i32 (ii ((A0 ((s0_2 ((IntKind.i64.wrap ((s0_1 : Int) - 1))).toNat)).toNat)).fImm)], .bool true, (rowV (lget ls 4) gb0_0 1), .slice a0 n0 (n0 + k0), .int .i64 ((s0_2 ((IntKind.i64.wrap ((s0_1 : Int) - 1))).toNat)), .slice a0 n0 (n0 + k0), .int .i64 ((s0_2 ((IntKind.i64.wrap ((s0_1 : Int) - 1))).toNat)), .pointer (some ⟨p0, q0 + ((s0_2 ((IntKind.i64.wrap ((s0_1 : Int) - 1))).toNat)).toNat * 5, none⟩), .pointer (some ⟨p0, q0 + ((s0_2 ((IntKind.i64.wrap ((s0_1 : Int) - 1))).toNat)).toNat * 5 + 4, none⟩), .int .i32 (ii ((A0 ((s0_2 ((IntKind.i64.wrap ((s0_1 : Int) - 1))).toNat)).toNat)).fImm), .int .i64 ((ii ((A0 ((s0_2 ((IntKind.i64.wrap ((s0_1 : Int) - 1))).toNat)).toNat)).fImm)), .int .i64 (rb1), .slice (some ⟨(lget ls 5).n, 0, none⟩) 1 1, (rowV (lget ls 6) (gb0_0 + 1) 1)] (jks (lget ls 3).u 48 28)))
def pre_barbicanref15_Of_L0_L1v10_0 (a0 : Option Addr) (p0 : Nat) (q0 : Nat) (n0 : Nat) (k0 : Nat) (A0 : Nat → Insn) (s0_0 : Nat → Bool) (s0_1 : Nat) (s0_2 : Nat → Int) (gb0_0 : Nat) (gb0_1 : Nat → Int) (rb1 : Int) (sb0_0 : Nat → Bool) (sb0_1 : Nat) (sb0_2 : Nat → Int) (sb0_3 : Int) (ls : List L1) : List Obj := [rowO (lget ls 0) (esG cB ((n0 : Int)).toNat sb0_0) 4 ((n0 : Int)).toNat 1, unb, unb, unb, unb, .cells #[.int .i64 (rb1)] 3, rowO (lget ls 6) (esG cZ (gb0_0 + 1) (updF gb0_1 gb0_0 rb1)) 3 (gb0_0 + 1) 1, rowO (lget ls 7) (esG cZ sb0_1 sb0_2) 3 sb0_1 1]
theorem sp0_barbicanref15_Of_L0_L1v10_0_ok (sb0_0 : Nat → Bool) (sb0_1 : Nat) (sb0_2 : Nat → Int) (sb0_3 : Int) (c0_0 : Nat → Bool) (c0_1 : Nat → Int) (c0_2 : Nat) (c0_3 : Nat → Int) (h : lpO (st_barbicanref15_Of_L0_L1v10 n0 gb0_0 gb0_1 rb1) (.c0 sb0_0 sb0_1 sb0_2 sb0_3) = some (.e0 c0_0 c0_1 c0_2 c0_3)) : SpcG Try.prog M B0 S ⟨fun ls => .code (.loop bd_barbicanref15_Of_L0_L1v10) (t0_barbicanref15_Of_L0_L1v10_0 a0 p0 q0 n0 k0 A0 s0_0 s0_1 s0_2 gb0_0 gb0_1 rb1 sb0_0 sb0_1 sb0_2 sb0_3 ls), pre_barbicanref15_Of_L0_L1v10_0 a0 p0 q0 n0 k0 A0 s0_0 s0_1 s0_2 gb0_0 gb0_1 rb1 sb0_0 sb0_1 sb0_2 sb0_3, 2, (.exit 2), fun ls => vf_barbicanref15_Of_L0_L1v10 a0 p0 q0 n0 k0 A0 s0_0 s0_1 s0_2 gb0_0 gb0_1 rb1 (.e0 c0_0 c0_1 c0_2 c0_3) (ls.take 7 ++ ls.drop 8), fun ls => (Hf_barbicanref15_Of_L0_L1v10 a0 p0 q0 n0 k0 A0 s0_0 s0_1 s0_2 gb0_0 gb0_1 rb1 (.e0 c0_0 c0_1 c0_2 c0_3) (ls.take 7 ++ ls.drop 8)).take 7 ++ List.replicate 1 unb, fun ls => (Hf_barbicanref15_Of_L0_L1v10 a0 p0 q0 n0 k0 A0 s0_0 s0_1 s0_2 gb0_0 gb0_1 rb1 (.e0 c0_0 c0_1 c0_2 c0_3) (ls.take 7 ++ ls.drop 8)).drop 7⟩ :=
  spc_of_goesM hU 0 (k0 := 8) (go_barbicanref15_Of_L0_L1v10 hU a0 p0 q0 n0 k0 A0 hR0 s0_0 s0_1 s0_2 gb0_0 gb0_1 rb1 _ _ h) (t0_barbicanref15_Of_L0_L1v10_0 a0 p0 q0 n0 k0 A0 s0_0 s0_1 s0_2 gb0_0 gb0_1 rb1 sb0_0 sb0_1 sb0_2 sb0_3) (pre_barbicanref15_Of_L0_L1v10_0 a0 p0 q0 n0 k0 A0 s0_0 s0_1 s0_2 gb0_0 gb0_1 rb1 sb0_0 sb0_1 sb0_2 sb0_3) (fun _ => rfl) (fun ls h => by match ls, h with | [l0, l1, l2, l3, l4, l5, l6, l7], _ => exact ⟨by kernel_rfl, by kernel_rfl⟩) (fun ls h => by match ls, h with | [l0, l1, l2, l3, l4, l5, l6, l7], _ => rfl) (by decide) (by decide) (fun ls => rfl)
inductive Sh_barbicanref15_Of_L0_L1v11 where
  | c0 (sb0_0 : Nat → Bool) (sb0_1 : Nat) (sb0_2 : Nat → Int) (sb0_3 : Int)
inductive Ex_barbicanref15_Of_L0_L1v11 where
  | e0 (c0_0 : Nat → Bool) (c0_1 : Nat) (c0_2 : Nat → Int)
noncomputable def st_barbicanref15_Of_L0_L1v11 (n0 : Nat) (gb0_0 : Nat) (gb0_1 : Nat → Int) : Sh_barbicanref15_Of_L0_L1v11 → Option (Sh_barbicanref15_Of_L0_L1v11 ⊕ Ex_barbicanref15_Of_L0_L1v11)
  | .c0 sb0_0 sb0_1 sb0_2 sb0_3 =>
    bif decide (sb0_3 < (gb0_0 : Int)) then
      (bif inR sb0_3 gb0_0 then
        (bif inR (gb0_1 (sb0_3).toNat) ((n0 : Int)).toNat then
          (bif (sb0_0 ((gb0_1 (sb0_3).toNat)).toNat) then
            (some (.inl (.c0 sb0_0 sb0_1 sb0_2 (IntKind.i64.wrap (sb0_3 + 1)))))
          else (bif decide (sb0_1 ≤ 1000000) then
            (some (.inl (.c0 (updF sb0_0 ((gb0_1 (sb0_3).toNat)).toNat true) (sb0_1 + 1) (updF sb0_2 sb0_1 (gb0_1 (sb0_3).toNat)) (IntKind.i64.wrap (sb0_3 + 1)))))
          else (none)))
        else (none))
      else (none))
    else (some (.inr (.e0 sb0_0 sb0_1 sb0_2)))
noncomputable def bd_barbicanref15_Of_L0_L1v11 : Code := codeOf Try.f7 [1, 1, 1, 1, 0, 0, 0, 1, 0, 1, 1, 1, 1, 1, 0, 0]
def fl_barbicanref15_Of_L0_L1v11 (a0 : Option Addr) (p0 : Nat) (q0 : Nat) (n0 : Nat) (k0 : Nat) (A0 : Nat → Insn) (s0_0 : Nat → Bool) (s0_1 : Nat) (s0_2 : Nat → Int) (gb0_0 : Nat) (gb0_1 : Nat → Int) : Sh_barbicanref15_Of_L0_L1v11 → List L1 → List Value
  | .c0 sb0_0 sb0_1 sb0_2 sb0_3, ls => [.slice a0 n0 (n0 + k0), (rowV (lget ls 0) ((n0 : Int)).toNat 1), (rowV (lget ls 5) sb0_1 1), (rowV (lget ls 4) gb0_0 1), .int .i64 (sb0_3)]
def mf_barbicanref15_Of_L0_L1v11 : Sh_barbicanref15_Of_L0_L1v11 → List (Nat × Nat)
  | .c0 _ _ _ _ => [(1, 2), (2, 1), (2, 68)]
noncomputable def fr_barbicanref15_Of_L0_L1v11 (a0 : Option Addr) (p0 : Nat) (q0 : Nat) (n0 : Nat) (k0 : Nat) (A0 : Nat → Insn) (s0_0 : Nat → Bool) (s0_1 : Nat) (s0_2 : Nat → Int) (gb0_0 : Nat) (gb0_1 : Nat → Int) (s : Sh_barbicanref15_Of_L0_L1v11) : List L1 → List Value := mrgF (mf_barbicanref15_Of_L0_L1v11 s) (fl_barbicanref15_Of_L0_L1v11 a0 p0 q0 n0 k0 A0 s0_0 s0_1 s0_2 gb0_0 gb0_1 s) 6
def Hs_barbicanref15_Of_L0_L1v11 (a0 : Option Addr) (p0 : Nat) (q0 : Nat) (n0 : Nat) (k0 : Nat) (A0 : Nat → Insn) (s0_0 : Nat → Bool) (s0_1 : Nat) (s0_2 : Nat → Int) (gb0_0 : Nat) (gb0_1 : Nat → Int) : Sh_barbicanref15_Of_L0_L1v11 → List L1 → List Obj
  | .c0 sb0_0 sb0_1 sb0_2 sb0_3, ls => [rowO (lget ls 0) (esG cB ((n0 : Int)).toNat sb0_0) 4 ((n0 : Int)).toNat 1, unb, unb, unb, rowO (lget ls 4) (esG cZ gb0_0 gb0_1) 3 gb0_0 1, rowO (lget ls 5) (esG cZ sb0_1 sb0_2) 3 sb0_1 1, unb]
def vl_barbicanref15_Of_L0_L1v11 (a0 : Option Addr) (p0 : Nat) (q0 : Nat) (n0 : Nat) (k0 : Nat) (A0 : Nat → Insn) (s0_0 : Nat → Bool) (s0_1 : Nat) (s0_2 : Nat → Int) (gb0_0 : Nat) (gb0_1 : Nat → Int) : Ex_barbicanref15_Of_L0_L1v11 → List L1 → List Value
  | .e0 c0_0 c0_1 c0_2, ls => [.slice a0 n0 (n0 + k0), (rowV (lget ls 0) ((n0 : Int)).toNat 1), (rowV (lget ls 5) c0_1 1), (rowV (lget ls 4) gb0_0 1)]
def mk_barbicanref15_Of_L0_L1v11 : Ex_barbicanref15_Of_L0_L1v11 → List (Nat × Nat)
  | .e0 _ _ _ => [(1, 2), (2, 1), (1, 69)]
noncomputable def vf_barbicanref15_Of_L0_L1v11 (a0 : Option Addr) (p0 : Nat) (q0 : Nat) (n0 : Nat) (k0 : Nat) (A0 : Nat → Insn) (s0_0 : Nat → Bool) (s0_1 : Nat) (s0_2 : Nat → Int) (gb0_0 : Nat) (gb0_1 : Nat → Int) (r : Ex_barbicanref15_Of_L0_L1v11) : List L1 → List Value := mrgF (mk_barbicanref15_Of_L0_L1v11 r) (vl_barbicanref15_Of_L0_L1v11 a0 p0 q0 n0 k0 A0 s0_0 s0_1 s0_2 gb0_0 gb0_1 r) 6
def Hf_barbicanref15_Of_L0_L1v11 (a0 : Option Addr) (p0 : Nat) (q0 : Nat) (n0 : Nat) (k0 : Nat) (A0 : Nat → Insn) (s0_0 : Nat → Bool) (s0_1 : Nat) (s0_2 : Nat → Int) (gb0_0 : Nat) (gb0_1 : Nat → Int) : Ex_barbicanref15_Of_L0_L1v11 → List L1 → List Obj
  | .e0 c0_0 c0_1 c0_2, ls => [rowO (lget ls 0) (esG cB ((n0 : Int)).toNat c0_0) 4 ((n0 : Int)).toNat 1, unb, unb, unb, rowO (lget ls 4) (esG cZ gb0_0 gb0_1) 3 gb0_0 1, rowO (lget ls 5) (esG cZ c0_1 c0_2) 3 c0_1 1, unb]
def ex_barbicanref15_Of_L0_L1v11 : Ex_barbicanref15_Of_L0_L1v11 → Ex
  | .e0 _ _ _ => (.exit 2)
end
section
variable {M : Nat → Prop} {B0 : Nat} {S : World → Prop} (hU : Up M B0 S) (a0 : Option Addr) (p0 : Nat) (q0 : Nat) (n0 : Nat) (k0 : Nat) (A0 : Nat → Insn) (hR0 : Ro S c_Insn 5 a0 p0 q0 n0 A0) (s0_0 : Nat → Bool) (s0_1 : Nat) (s0_2 : Nat → Int) (gb0_0 : Nat) (gb0_1 : Nat → Int)
include hU a0 p0 q0 n0 k0 A0 hR0 s0_0 s0_1 s0_2 gb0_0 gb0_1
theorem go_barbicanref15_Of_L0_L1v11 (s : Sh_barbicanref15_Of_L0_L1v11) (r : Ex_barbicanref15_Of_L0_L1v11) (h : lpO (st_barbicanref15_Of_L0_L1v11 n0 gb0_0 gb0_1) s = some r) : GoesG Try.prog M B0 S (.loop bd_barbicanref15_Of_L0_L1v11) 7 (fr_barbicanref15_Of_L0_L1v11 a0 p0 q0 n0 k0 A0 s0_0 s0_1 s0_2 gb0_0 gb0_1 s) (Hs_barbicanref15_Of_L0_L1v11 a0 p0 q0 n0 k0 A0 s0_0 s0_1 s0_2 gb0_0 gb0_1 s) (ex_barbicanref15_Of_L0_L1v11 r) 5 (vf_barbicanref15_Of_L0_L1v11 a0 p0 q0 n0 k0 A0 s0_0 s0_1 s0_2 gb0_0 gb0_1 r) (Hf_barbicanref15_Of_L0_L1v11 a0 p0 q0 n0 k0 A0 s0_0 s0_1 s0_2 gb0_0 gb0_1 r) 7 :=
  goes_lpO (fun s q e => by
    cases s with
    | c0 sb0_0 sb0_1 sb0_2 sb0_3 =>
      unfold st_barbicanref15_Of_L0_L1v11 at e
      dsimp only at e
      replace e := cond_eq_or e
      rcases e with ⟨hq0, e⟩ | ⟨hq0, e⟩
      · replace e := cond_eq_or e
        rcases e with ⟨hq1, e⟩ | ⟨hq1, e⟩
        · replace e := cond_eq_or e
          let P1 : List (PG Try.prog M B0 S) := [.o, .o, .o, .b (z_lssT hq0), .o, .o, .o, .q (ixM_ok (kd := .i64) (T := 26) (x := sb0_3) (N := gb0_0) (sz := 1) rfl (fun w => by kernel_rfl) hq1), .l (accG (i := 4) (f := cZ) (A := gb0_1) (k := (sb0_3).toNat) 0 [.int .i64 ((gb0_1 (sb0_3).toNat))] cZ_len (inR_nat hq1) rfl)]
          rcases e with ⟨hq2, e⟩ | ⟨hq2, e⟩
          · replace e := cond_eq_or e
            let P2 : List (PG Try.prog M B0 S) := P1 ++ [.q (ixM_ok (kd := .i64) (T := 30) (x := (gb0_1 (sb0_3).toNat)) (N := ((n0 : Int)).toNat) (sz := 1) rfl (fun w => by kernel_rfl) hq2)]
            rcases e with ⟨hq3, e⟩ | ⟨hq3, e⟩
            · cases e; exact goes_runM hU (P2 ++ [.l (accG (i := 0) (f := cB) (A := sb0_0) (k := ((gb0_1 (sb0_3).toNat)).toNat) 0 [.bool true] cB_len (inR_nat hq2) (congrArg (fun b => [Value.bool b]) hq3)), .o, .o, .o, .o]) [0, 1, 2, 3, 4, 5] (fun b => rfl) (by decide) rfl rfl (fun b => by kernel_rfl)
            · replace e := cond_eq_or e
              rcases e with ⟨hq4, e⟩ | ⟨hq4, e⟩
              · cases e; exact goes_runM hU (P2 ++ [.l (accG (i := 0) (f := cB) (A := sb0_0) (k := ((gb0_1 (sb0_3).toNat)).toNat) 0 [.bool false] cB_len (inR_nat hq2) (congrArg (fun b => [Value.bool b]) hq3)), .o, .o, .o, .o, .q (ixM_ok (kd := .i64) (T := 26) (x := sb0_3) (N := gb0_0) (sz := 1) rfl (fun w => by kernel_rfl) hq1), .l (accG (i := 4) (f := cZ) (A := gb0_1) (k := (sb0_3).toNat) 0 [.int .i64 ((gb0_1 (sb0_3).toNat))] cZ_len (inR_nat hq1) rfl), .q (ixM_ok (kd := .i64) (T := 30) (x := (gb0_1 (sb0_3).toNat)) (N := ((n0 : Int)).toNat) (sz := 1) rfl (fun w => by kernel_rfl) hq2), .x (sqStG_ok (T := 4) (e := 4) (f := cB) (A := sb0_0) (v := true) 0 (.bool true) cB_len cB_one rfl rfl (fun w => by kernel_rfl) (inR_nat hq2)) [0], .o, .o, .o, .q (ixM_ok (kd := .i64) (T := 26) (x := sb0_3) (N := gb0_0) (sz := 1) rfl (fun w => by kernel_rfl) hq1), .l (accG (i := 4) (f := cZ) (A := gb0_1) (k := (sb0_3).toNat) 0 [.int .i64 ((gb0_1 (sb0_3).toNat))] cZ_len (inR_nat hq1) rfl), .o, .x (sqAppL_ok (ty := 26) rt26 #[false, false] (f := cZ) (N := sb0_1) (A := sb0_2) (c := 1) [(gb0_1 (sb0_3).toNat)] (T' := 3) .row cZ_len cZ_one hq4 rfl (by decide)) [5, 7], .o, .o, .o, .o]) [0, 1, 2, 3, 4, 8] (fun b => rfl) (by decide) rfl rfl (fun b => by kernel_rfl)
              · exact none_some e
          · exact none_some e
        · exact none_some e
      · cases e; exact ⟨ne_exit 2, goes_runM hU [.o, .o, .o, .b (z_lssF hq0)] [0, 1, 2, 3, 4, 5] (fun b => rfl) (by decide) rfl rfl (fun b => by kernel_rfl)⟩) s r h
noncomputable def t0_barbicanref15_Of_L0_L1v11_0 (a0 : Option Addr) (p0 : Nat) (q0 : Nat) (n0 : Nat) (k0 : Nat) (A0 : Nat → Insn) (s0_0 : Nat → Bool) (s0_1 : Nat) (s0_2 : Nat → Int) (gb0_0 : Nat) (gb0_1 : Nat → Int) (sb0_0 : Nat → Bool) (sb0_1 : Nat) (sb0_2 : Nat → Int) (sb0_3 : Int) (ls : List L1) : List Value := List.append [.slice a0 n0 (n0 + k0), ((lget ls 3).u 1), ((lget ls 3).u 2), (rowV (lget ls 0) ((n0 : Int)).toNat 1), (rowV (lget ls 5) sb0_1 1), .int .i64 ((s0_2 ((IntKind.i64.wrap ((s0_1 : Int) - 1))).toNat)), (rowV (lget ls 4) gb0_0 1), .int .i64 (sb0_3)] (List.append (jks (lget ls 3).u 8 6) (List.append [(rowV (lget ls 2) s0_1 1), .int .i64 ((s0_1 : Int)), .bool true, (rowV (lget ls 2) s0_1 1), (rowV (lget ls 2) s0_1 1), .int .i64 ((s0_1 : Int)), .int .i64 ((IntKind.i64.wrap ((s0_1 : Int) - 1))), .pointer (some ⟨(lget ls 2).n, 0 + ((IntKind.i64.wrap ((s0_1 : Int) - 1))).toNat * 1, none⟩), .int .i64 ((s0_2 ((IntKind.i64.wrap ((s0_1 : Int) - 1))).toNat)), (rowV (lget ls 2) s0_1 1), (rowV (lget ls 2) s0_1 1), .int .i64 ((s0_1 : Int)), .int .i64 ((IntKind.i64.wrap ((s0_1 : Int) - 1))), (rowV (lget ls 5) ((IntKind.i64.wrap ((s0_1 : Int) - 1))).toNat 1), .slice a0 n0 (n0 + k0), .int .i64 ((s0_2 ((IntKind.i64.wrap ((s0_1 : Int) - 1))).toNat)), (rowV (lget ls 4) gb0_0 1), .slice a0 n0 (n0 + k0), .int .i64 ((s0_2 ((IntKind.i64.wrap ((s0_1 : Int) - 1))).toNat)), .pointer (some ⟨p0, q0 + ((s0_2 ((IntKind.i64.wrap ((s0_1 : Int) - 1))).toNat)).toNat * 5, none⟩), .agg #[.int .u8 (nn ((A0 ((s0_2 ((IntKind.i64.wrap ((s0_1 : Int) - 1))).toNat)).toNat)).fOp), .int .u8 (nn ((A0 ((s0_2 ((IntKind.i64.wrap ((s0_1 : Int) - 1))).toNat)).toNat)).fDst), .int .u8 (nn ((A0 ((s0_2 ((IntKind.i64.wrap ((s0_1 : Int) - 1))).toNat)).toNat)).fSrc), .int .i16 (ii ((A0 ((s0_2 ((IntKind.i64.wrap ((s0_1 : Int) - 1))).toNat)).toNat)).fOff), .int .i32 (ii ((A0 ((s0_2 ((IntKind.i64.wrap ((s0_1 : Int) - 1))).toNat)).toNat)).fImm)], .bool false] (jks (lget ls 3).u 36 40)))
def pre_barbicanref15_Of_L0_L1v11_0 (a0 : Option Addr) (p0 : Nat) (q0 : Nat) (n0 : Nat) (k0 : Nat) (A0 : Nat → Insn) (s0_0 : Nat → Bool) (s0_1 : Nat) (s0_2 : Nat → Int) (gb0_0 : Nat) (gb0_1 : Nat → Int) (sb0_0 : Nat → Bool) (sb0_1 : Nat) (sb0_2 : Nat → Int) (sb0_3 : Int) (ls : List L1) : List Obj := [rowO (lget ls 0) (esG cB ((n0 : Int)).toNat sb0_0) 4 ((n0 : Int)).toNat 1, unb, unb, unb, rowO (lget ls 4) (esG cZ gb0_0 gb0_1) 3 gb0_0 1, rowO (lget ls 5) (esG cZ sb0_1 sb0_2) 3 sb0_1 1]
theorem sp0_barbicanref15_Of_L0_L1v11_0_ok (sb0_0 : Nat → Bool) (sb0_1 : Nat) (sb0_2 : Nat → Int) (sb0_3 : Int) (c0_0 : Nat → Bool) (c0_1 : Nat) (c0_2 : Nat → Int) (h : lpO (st_barbicanref15_Of_L0_L1v11 n0 gb0_0 gb0_1) (.c0 sb0_0 sb0_1 sb0_2 sb0_3) = some (.e0 c0_0 c0_1 c0_2)) : SpcG Try.prog M B0 S ⟨fun ls => .code (.loop bd_barbicanref15_Of_L0_L1v11) (t0_barbicanref15_Of_L0_L1v11_0 a0 p0 q0 n0 k0 A0 s0_0 s0_1 s0_2 gb0_0 gb0_1 sb0_0 sb0_1 sb0_2 sb0_3 ls), pre_barbicanref15_Of_L0_L1v11_0 a0 p0 q0 n0 k0 A0 s0_0 s0_1 s0_2 gb0_0 gb0_1 sb0_0 sb0_1 sb0_2 sb0_3, 2, (.exit 2), fun ls => vf_barbicanref15_Of_L0_L1v11 a0 p0 q0 n0 k0 A0 s0_0 s0_1 s0_2 gb0_0 gb0_1 (.e0 c0_0 c0_1 c0_2) (ls.take 5 ++ ls.drop 6), fun ls => (Hf_barbicanref15_Of_L0_L1v11 a0 p0 q0 n0 k0 A0 s0_0 s0_1 s0_2 gb0_0 gb0_1 (.e0 c0_0 c0_1 c0_2) (ls.take 5 ++ ls.drop 6)).take 5 ++ List.replicate 1 unb, fun ls => (Hf_barbicanref15_Of_L0_L1v11 a0 p0 q0 n0 k0 A0 s0_0 s0_1 s0_2 gb0_0 gb0_1 (.e0 c0_0 c0_1 c0_2) (ls.take 5 ++ ls.drop 6)).drop 5⟩ :=
  spc_of_goesM hU 0 (k0 := 6) (go_barbicanref15_Of_L0_L1v11 hU a0 p0 q0 n0 k0 A0 hR0 s0_0 s0_1 s0_2 gb0_0 gb0_1 _ _ h) (t0_barbicanref15_Of_L0_L1v11_0 a0 p0 q0 n0 k0 A0 s0_0 s0_1 s0_2 gb0_0 gb0_1 sb0_0 sb0_1 sb0_2 sb0_3) (pre_barbicanref15_Of_L0_L1v11_0 a0 p0 q0 n0 k0 A0 s0_0 s0_1 s0_2 gb0_0 gb0_1 sb0_0 sb0_1 sb0_2 sb0_3) (fun _ => rfl) (fun ls h => by match ls, h with | [l0, l1, l2, l3, l4, l5], _ => exact ⟨by kernel_rfl, by kernel_rfl⟩) (fun ls h => by match ls, h with | [l0, l1, l2, l3, l4, l5], _ => rfl) (by decide) (by decide) (fun ls => rfl)
inductive Sh_barbicanref15_Of_L0 where
  | c0 (s0_0 : Nat → Bool) (s0_1 : Nat) (s0_2 : Nat → Int)
inductive Ex_barbicanref15_Of_L0 where
  | e0 (c0_0 : Nat → Bool)
noncomputable def st_barbicanref15_Of_L0 (n0 : Nat) (A0 : Nat → Insn) : Sh_barbicanref15_Of_L0 → Option (Sh_barbicanref15_Of_L0 ⊕ Ex_barbicanref15_Of_L0)
  | .c0 s0_0 s0_1 s0_2 =>
    bif decide (0 < (s0_1 : Int)) then
      (bif inR (IntKind.i64.wrap ((s0_1 : Int) - 1)) s0_1 then
        (bif inR (IntKind.i64.wrap ((s0_1 : Int) - 1)) (s0_1 + 1) then
          (bif decide (s0_1 ≤ 1000000) then
            ((m_barbicanref15_next n0 A0 (s0_2 ((IntKind.i64.wrap ((s0_1 : Int) - 1))).toNat)).bind fun gb0 => match gb0 with
            | .e0  => (bif inR (s0_2 ((IntKind.i64.wrap ((s0_1 : Int) - 1))).toNat) n0 then
                (bif m_barbicanref1_Names ((A0 ((s0_2 ((IntKind.i64.wrap ((s0_1 : Int) - 1))).toNat)).toNat)) then
                  (bindT (m_barbicanref1_To n0 A0 (s0_2 ((IntKind.i64.wrap ((s0_1 : Int) - 1))).toNat) (ii ((A0 ((s0_2 ((IntKind.i64.wrap ((s0_1 : Int) - 1))).toNat)).toNat)).fImm)) fun rb1 =>
                  (lpO (st_barbicanref15_Of_L0_L1v9 n0 rb1) (.c0 s0_0 ((IntKind.i64.wrap ((s0_1 : Int) - 1))).toNat s0_2 0)).bind fun gb2 => match gb2 with
                  | .e0 gb2_0 gb2_1 gb2_2 gb2_3 =>
                  some (.inl (.c0 gb2_0 gb2_2 gb2_3)))
                else (some (.inl (.c0 s0_0 ((IntKind.i64.wrap ((s0_1 : Int) - 1))).toNat s0_2))))
              else (none))
            | .e1 gb0_0 gb0_1 => (bif inR (s0_2 ((IntKind.i64.wrap ((s0_1 : Int) - 1))).toNat) n0 then
                (bif m_barbicanref1_Names ((A0 ((s0_2 ((IntKind.i64.wrap ((s0_1 : Int) - 1))).toNat)).toNat)) then
                  (bindT (m_barbicanref1_To n0 A0 (s0_2 ((IntKind.i64.wrap ((s0_1 : Int) - 1))).toNat) (ii ((A0 ((s0_2 ((IntKind.i64.wrap ((s0_1 : Int) - 1))).toNat)).toNat)).fImm)) fun rb1 =>
                  bif decide (gb0_0 ≤ 1000000) then
                    ((lpO (st_barbicanref15_Of_L0_L1v10 n0 gb0_0 gb0_1 rb1) (.c0 s0_0 ((IntKind.i64.wrap ((s0_1 : Int) - 1))).toNat s0_2 0)).bind fun gb2 => match gb2 with
                    | .e0 gb2_0 gb2_1 gb2_2 gb2_3 =>
                    some (.inl (.c0 gb2_0 gb2_2 gb2_3)))
                  else (none))
                else ((lpO (st_barbicanref15_Of_L0_L1v11 n0 gb0_0 gb0_1) (.c0 s0_0 ((IntKind.i64.wrap ((s0_1 : Int) - 1))).toNat s0_2 0)).bind fun gb1 => match gb1 with
                | .e0 gb1_0 gb1_1 gb1_2 =>
                some (.inl (.c0 gb1_0 gb1_1 gb1_2))))
              else (none)))
          else (none))
        else (none))
      else (none))
    else (some (.inr (.e0 s0_0)))
noncomputable def bd_barbicanref15_Of_L0 : Code := codeOf Try.f7 [1, 1, 1, 1, 0, 0, 0]
def fl_barbicanref15_Of_L0 (a0 : Option Addr) (p0 : Nat) (q0 : Nat) (n0 : Nat) (k0 : Nat) (A0 : Nat → Insn) : Sh_barbicanref15_Of_L0 → List L1 → List Value
  | .c0 s0_0 s0_1 s0_2, ls => [.slice a0 n0 (n0 + k0), (rowV (lget ls 0) ((n0 : Int)).toNat 1), (rowV (lget ls 2) s0_1 1)]
def mf_barbicanref15_Of_L0 : Sh_barbicanref15_Of_L0 → List (Nat × Nat)
  | .c0 _ _ _ => [(1, 2), (2, 71)]
noncomputable def fr_barbicanref15_Of_L0 (a0 : Option Addr) (p0 : Nat) (q0 : Nat) (n0 : Nat) (k0 : Nat) (A0 : Nat → Insn) (s : Sh_barbicanref15_Of_L0) : List L1 → List Value := mrgF (mf_barbicanref15_Of_L0 s) (fl_barbicanref15_Of_L0 a0 p0 q0 n0 k0 A0 s) 3
def Hs_barbicanref15_Of_L0 (a0 : Option Addr) (p0 : Nat) (q0 : Nat) (n0 : Nat) (k0 : Nat) (A0 : Nat → Insn) : Sh_barbicanref15_Of_L0 → List L1 → List Obj
  | .c0 s0_0 s0_1 s0_2, ls => [rowO (lget ls 0) (esG cB ((n0 : Int)).toNat s0_0) 4 ((n0 : Int)).toNat 1, unb, rowO (lget ls 2) (esG cZ s0_1 s0_2) 3 s0_1 1, unb]
def vl_barbicanref15_Of_L0 (a0 : Option Addr) (p0 : Nat) (q0 : Nat) (n0 : Nat) (k0 : Nat) (A0 : Nat → Insn) : Ex_barbicanref15_Of_L0 → List L1 → List Value
  | .e0 c0_0, ls => [.slice a0 n0 (n0 + k0), (rowV (lget ls 0) ((n0 : Int)).toNat 1)]
def mk_barbicanref15_Of_L0 : Ex_barbicanref15_Of_L0 → List (Nat × Nat)
  | .e0 _ => [(1, 2), (1, 72)]
noncomputable def vf_barbicanref15_Of_L0 (a0 : Option Addr) (p0 : Nat) (q0 : Nat) (n0 : Nat) (k0 : Nat) (A0 : Nat → Insn) (r : Ex_barbicanref15_Of_L0) : List L1 → List Value := mrgF (mk_barbicanref15_Of_L0 r) (vl_barbicanref15_Of_L0 a0 p0 q0 n0 k0 A0 r) 3
def Hf_barbicanref15_Of_L0 (a0 : Option Addr) (p0 : Nat) (q0 : Nat) (n0 : Nat) (k0 : Nat) (A0 : Nat → Insn) : Ex_barbicanref15_Of_L0 → List L1 → List Obj
  | .e0 c0_0, ls => [rowO (lget ls 0) (esG cB ((n0 : Int)).toNat c0_0) 4 ((n0 : Int)).toNat 1, unb, unb, unb]
def ex_barbicanref15_Of_L0 : Ex_barbicanref15_Of_L0 → Ex
  | .e0 _ => (.exit 0)
end
section
variable {M : Nat → Prop} {B0 : Nat} {S : World → Prop} (hU : Up M B0 S) (a0 : Option Addr) (p0 : Nat) (q0 : Nat) (n0 : Nat) (k0 : Nat) (A0 : Nat → Insn) (hR0 : Ro S c_Insn 5 a0 p0 q0 n0 A0)
include hU a0 p0 q0 n0 k0 A0 hR0
theorem go_barbicanref15_Of_L0 (s : Sh_barbicanref15_Of_L0) (r : Ex_barbicanref15_Of_L0) (h : lpO (st_barbicanref15_Of_L0 n0 A0) s = some r) : GoesG Try.prog M B0 S (.loop bd_barbicanref15_Of_L0) 4 (fr_barbicanref15_Of_L0 a0 p0 q0 n0 k0 A0 s) (Hs_barbicanref15_Of_L0 a0 p0 q0 n0 k0 A0 s) (ex_barbicanref15_Of_L0 r) 2 (vf_barbicanref15_Of_L0 a0 p0 q0 n0 k0 A0 r) (Hf_barbicanref15_Of_L0 a0 p0 q0 n0 k0 A0 r) 4 :=
  goes_lpO (fun s q e => by
    cases s with
    | c0 s0_0 s0_1 s0_2 =>
      unfold st_barbicanref15_Of_L0 at e
      dsimp only at e
      replace e := cond_eq_or e
      rcases e with ⟨hq0, e⟩ | ⟨hq0, e⟩
      · replace e := cond_eq_or e
        let P1 : List (PG Try.prog M B0 S) := [.o, .o, .b (z_gtrT hq0), .o, .o, .o, .o]
        rcases e with ⟨hq1, e⟩ | ⟨hq1, e⟩
        · replace e := cond_eq_or e
          let P2 : List (PG Try.prog M B0 S) := P1 ++ [.q (ixM_ok (kd := .i64) (T := 26) (x := (IntKind.i64.wrap ((s0_1 : Int) - 1))) (N := s0_1) (sz := 1) rfl (fun w => by kernel_rfl) hq1), .l (accG (i := 2) (f := cZ) (A := s0_2) (k := ((IntKind.i64.wrap ((s0_1 : Int) - 1))).toNat) 0 [.int .i64 ((s0_2 ((IntKind.i64.wrap ((s0_1 : Int) - 1))).toNat))] cZ_len (inR_nat hq1) rfl), .o, .o, .o, .o, .o]
          rcases e with ⟨hq2, e⟩ | ⟨hq2, e⟩
          · replace e := cond_eq_or e
            rcases e with ⟨hq3, e⟩ | ⟨hq3, e⟩
            · replace e := bindO_eq e
              obtain ⟨gb0, e_gb0, e⟩ := e
              let P3 : List (PG Try.prog M B0 S) := P2 ++ [.x (sqShr_ok rt26 (f := cZ) (N := s0_1) (A := s0_2) (x := (IntKind.i64.wrap ((s0_1 : Int) - 1))) cZ_len (fun w => by kernel_rfl) hq2 hq3) [2], .o, .o, .o]
              rcases gb0 with _ | ⟨gb0_0, gb0_1⟩
              · try dsimp only at e
                replace e := cond_eq_or e
                let P4 : List (PG Try.prog M B0 S) := P3 ++ [.xg (ok0_barbicanref15_next hU a0 p0 q0 n0 k0 A0 hR0 (s0_2 ((IntKind.i64.wrap ((s0_1 : Int) - 1))).toNat)  e_gb0) [], .o, .o, .o]
                rcases e with ⟨hq4, e⟩ | ⟨hq4, e⟩
                · replace e := cond_eq_or e
                  let P5 : List (PG Try.prog M B0 S) := P4 ++ [.q (ixRo_ok (kd := .i64) (T := 22) (x := (s0_2 ((IntKind.i64.wrap ((s0_1 : Int) - 1))).toNat)) (sz := 5) rfl (fun w => by kernel_rfl) hR0 hq4), .l (accRo hR0 c_Insn_len (inR_nat hq4) 0 [.int .u8 (nn ((A0 ((s0_2 ((IntKind.i64.wrap ((s0_1 : Int) - 1))).toNat)).toNat)).fOp), .int .u8 (nn ((A0 ((s0_2 ((IntKind.i64.wrap ((s0_1 : Int) - 1))).toNat)).toNat)).fDst), .int .u8 (nn ((A0 ((s0_2 ((IntKind.i64.wrap ((s0_1 : Int) - 1))).toNat)).toNat)).fSrc), .int .i16 (ii ((A0 ((s0_2 ((IntKind.i64.wrap ((s0_1 : Int) - 1))).toNat)).toNat)).fOff), .int .i32 (ii ((A0 ((s0_2 ((IntKind.i64.wrap ((s0_1 : Int) - 1))).toNat)).toNat)).fImm)] rfl)]
                  rcases e with ⟨hq5, e⟩ | ⟨hq5, e⟩
                  · replace e := bindT_eq e
                    obtain ⟨rb1, e_rb1, e⟩ := e
                    try dsimp only at e
                    replace e := bindO_eq e
                    obtain ⟨gb2, e_gb2, e⟩ := e
                    obtain ⟨gb2_0, gb2_1, gb2_2, gb2_3⟩ := gb2
                    try dsimp only at e
                    cases e; exact goes_runM hU (P5 ++ [.cg (ok_barbicanref1_Names hU ((A0 ((s0_2 ((IntKind.i64.wrap ((s0_1 : Int) - 1))).toNat)).toNat)) true hq5), .o, .o, .o, .o, .o, .q (ixRo_ok (kd := .i64) (T := 22) (x := (s0_2 ((IntKind.i64.wrap ((s0_1 : Int) - 1))).toNat)) (sz := 5) rfl (fun w => by kernel_rfl) hR0 hq4), .o, .l (accRo hR0 c_Insn_len (inR_nat hq4) 4 [.int .i32 (ii ((A0 ((s0_2 ((IntKind.i64.wrap ((s0_1 : Int) - 1))).toNat)).toNat)).fImm)] rfl), .v .i64 (z_of_ii (by decide) ((A0 ((s0_2 ((IntKind.i64.wrap ((s0_1 : Int) - 1))).toNat)).toNat)).fImm), .cg (ok_barbicanref1_To hU a0 p0 q0 n0 k0 A0 hR0 (s0_2 ((IntKind.i64.wrap ((s0_1 : Int) - 1))).toNat) (ii ((A0 ((s0_2 ((IntKind.i64.wrap ((s0_1 : Int) - 1))).toNat)).toNat)).fImm) rb1 e_rb1), .o, .x (sqAppL1_ok (ty := 26) rt26 #[false, false] (f := cZ) (c := 1) rb1 (T' := 3) cZ_len cZ_one (by decide)) [5], .o, .o, .cp, .cx (sp0_barbicanref15_Of_L0_L1v9_0_ok hU a0 p0 q0 n0 k0 A0 hR0 s0_0 s0_1 s0_2 rb1 s0_0 ((IntKind.i64.wrap ((s0_1 : Int) - 1))).toNat s0_2 0 gb2_0 gb2_1 gb2_2 gb2_3 e_gb2) [0, 1, 2, 3, 5, 6, 4]]) [0, 1, 7] (fun b => rfl) (by decide) rfl rfl (fun b => by kernel_rfl)
                  · cases e; exact goes_runM hU (P5 ++ [.cg (ok_barbicanref1_Names hU ((A0 ((s0_2 ((IntKind.i64.wrap ((s0_1 : Int) - 1))).toNat)).toNat)) false hq5), .o, .o, .o, .o, .o]) [0, 1, 4] (fun b => rfl) (by decide) rfl rfl (fun b => by kernel_rfl)
                · exact none_some e
              · try dsimp only at e
                replace e := cond_eq_or e
                let P6 : List (PG Try.prog M B0 S) := P3 ++ [.xg (ok1_barbicanref15_next hU a0 p0 q0 n0 k0 A0 hR0 (s0_2 ((IntKind.i64.wrap ((s0_1 : Int) - 1))).toNat) gb0_0 gb0_1 e_gb0) [], .o, .o, .o]
                rcases e with ⟨hq4, e⟩ | ⟨hq4, e⟩
                · replace e := cond_eq_or e
                  let P7 : List (PG Try.prog M B0 S) := P6 ++ [.q (ixRo_ok (kd := .i64) (T := 22) (x := (s0_2 ((IntKind.i64.wrap ((s0_1 : Int) - 1))).toNat)) (sz := 5) rfl (fun w => by kernel_rfl) hR0 hq4), .l (accRo hR0 c_Insn_len (inR_nat hq4) 0 [.int .u8 (nn ((A0 ((s0_2 ((IntKind.i64.wrap ((s0_1 : Int) - 1))).toNat)).toNat)).fOp), .int .u8 (nn ((A0 ((s0_2 ((IntKind.i64.wrap ((s0_1 : Int) - 1))).toNat)).toNat)).fDst), .int .u8 (nn ((A0 ((s0_2 ((IntKind.i64.wrap ((s0_1 : Int) - 1))).toNat)).toNat)).fSrc), .int .i16 (ii ((A0 ((s0_2 ((IntKind.i64.wrap ((s0_1 : Int) - 1))).toNat)).toNat)).fOff), .int .i32 (ii ((A0 ((s0_2 ((IntKind.i64.wrap ((s0_1 : Int) - 1))).toNat)).toNat)).fImm)] rfl)]
                  rcases e with ⟨hq5, e⟩ | ⟨hq5, e⟩
                  · replace e := bindT_eq e
                    obtain ⟨rb1, e_rb1, e⟩ := e
                    try dsimp only at e
                    replace e := cond_eq_or e
                    rcases e with ⟨hq6, e⟩ | ⟨hq6, e⟩
                    · replace e := bindO_eq e
                      obtain ⟨gb2, e_gb2, e⟩ := e
                      obtain ⟨gb2_0, gb2_1, gb2_2, gb2_3⟩ := gb2
                      try dsimp only at e
                      cases e; exact goes_runM hU (P7 ++ [.cg (ok_barbicanref1_Names hU ((A0 ((s0_2 ((IntKind.i64.wrap ((s0_1 : Int) - 1))).toNat)).toNat)) true hq5), .o, .o, .o, .o, .o, .q (ixRo_ok (kd := .i64) (T := 22) (x := (s0_2 ((IntKind.i64.wrap ((s0_1 : Int) - 1))).toNat)) (sz := 5) rfl (fun w => by kernel_rfl) hR0 hq4), .o, .l (accRo hR0 c_Insn_len (inR_nat hq4) 4 [.int .i32 (ii ((A0 ((s0_2 ((IntKind.i64.wrap ((s0_1 : Int) - 1))).toNat)).toNat)).fImm)] rfl), .v .i64 (z_of_ii (by decide) ((A0 ((s0_2 ((IntKind.i64.wrap ((s0_1 : Int) - 1))).toNat)).toNat)).fImm), .cg (ok_barbicanref1_To hU a0 p0 q0 n0 k0 A0 hR0 (s0_2 ((IntKind.i64.wrap ((s0_1 : Int) - 1))).toNat) (ii ((A0 ((s0_2 ((IntKind.i64.wrap ((s0_1 : Int) - 1))).toNat)).toNat)).fImm) rb1 e_rb1), .o, .x (sqAppL_ok (ty := 26) rt26 #[false, false] (f := cZ) (N := gb0_0) (A := gb0_1) (c := 1) [rb1] (T' := 3) .row cZ_len cZ_one hq6 rfl (by decide)) [5, 6], .o, .o, .cp, .cx (sp0_barbicanref15_Of_L0_L1v10_0_ok hU a0 p0 q0 n0 k0 A0 hR0 s0_0 s0_1 s0_2 gb0_0 gb0_1 rb1 s0_0 ((IntKind.i64.wrap ((s0_1 : Int) - 1))).toNat s0_2 0 gb2_0 gb2_1 gb2_2 gb2_3 e_gb2) [0, 1, 2, 3, 5, 6, 7, 4]]) [0, 1, 8] (fun b => rfl) (by decide) rfl rfl (fun b => by kernel_rfl)
                    · exact none_some e
                  · replace e := bindO_eq e
                    obtain ⟨gb1, e_gb1, e⟩ := e
                    obtain ⟨gb1_0, gb1_1, gb1_2⟩ := gb1
                    try dsimp only at e
                    cases e; exact goes_runM hU (P7 ++ [.cg (ok_barbicanref1_Names hU ((A0 ((s0_2 ((IntKind.i64.wrap ((s0_1 : Int) - 1))).toNat)).toNat)) false hq5), .o, .cp, .cx (sp0_barbicanref15_Of_L0_L1v11_0_ok hU a0 p0 q0 n0 k0 A0 hR0 s0_0 s0_1 s0_2 gb0_0 gb0_1 s0_0 ((IntKind.i64.wrap ((s0_1 : Int) - 1))).toNat s0_2 0 gb1_0 gb1_1 gb1_2 e_gb1) [0, 1, 2, 3, 5, 4]]) [0, 1, 6] (fun b => rfl) (by decide) rfl rfl (fun b => by kernel_rfl)
                · exact none_some e
            · exact none_some e
          · exact none_some e
        · exact none_some e
      · cases e; exact ⟨ne_exit 0, goes_runM hU [.o, .o, .b (z_gtrF hq0)] [0, 1, 3] (fun b => rfl) (by decide) rfl rfl (fun b => by kernel_rfl)⟩) s r h
noncomputable def t0_barbicanref15_Of_L0_0 (a0 : Option Addr) (p0 : Nat) (q0 : Nat) (n0 : Nat) (k0 : Nat) (A0 : Nat → Insn) (s0_0 : Nat → Bool) (s0_1 : Nat) (s0_2 : Nat → Int) (ls : List L1) : List Value := List.append [.slice a0 n0 (n0 + k0), undef, .slice none 0 0, (rowV (lget ls 0) ((n0 : Int)).toNat 1), (rowV (lget ls 2) s0_1 1), undef, undef, undef, .slice a0 n0 (n0 + k0), .int .i64 ((n0 : Int)), (rowV (lget ls 0) ((n0 : Int)).toNat 1), (rowV (lget ls 0) ((n0 : Int)).toNat 1), .pointer (some ⟨(lget ls 0).n, 0 + 0 * 1, none⟩), .slice (some ⟨(lget ls 1).n, 0, none⟩) 1 1] (und 62)
def pre_barbicanref15_Of_L0_0 (a0 : Option Addr) (p0 : Nat) (q0 : Nat) (n0 : Nat) (k0 : Nat) (A0 : Nat → Insn) (s0_0 : Nat → Bool) (s0_1 : Nat) (s0_2 : Nat → Int) (ls : List L1) : List Obj := [rowO (lget ls 0) (esG cB ((n0 : Int)).toNat s0_0) 4 ((n0 : Int)).toNat 1, unb, rowO (lget ls 2) (esG cZ s0_1 s0_2) 3 s0_1 1]
theorem sp0_barbicanref15_Of_L0_0_ok (s0_0 : Nat → Bool) (s0_1 : Nat) (s0_2 : Nat → Int) (c0_0 : Nat → Bool) (h : lpO (st_barbicanref15_Of_L0 n0 A0) (.c0 s0_0 s0_1 s0_2) = some (.e0 c0_0)) : SpcG Try.prog M B0 S ⟨fun ls => .code (.loop bd_barbicanref15_Of_L0) (t0_barbicanref15_Of_L0_0 a0 p0 q0 n0 k0 A0 s0_0 s0_1 s0_2 ls), pre_barbicanref15_Of_L0_0 a0 p0 q0 n0 k0 A0 s0_0 s0_1 s0_2, 2, (.exit 0), fun ls => vf_barbicanref15_Of_L0 a0 p0 q0 n0 k0 A0 (.e0 c0_0) (ls.take 2 ++ ls.drop 3), fun ls => (Hf_barbicanref15_Of_L0 a0 p0 q0 n0 k0 A0 (.e0 c0_0) (ls.take 2 ++ ls.drop 3)).take 2 ++ List.replicate 1 unb, fun ls => (Hf_barbicanref15_Of_L0 a0 p0 q0 n0 k0 A0 (.e0 c0_0) (ls.take 2 ++ ls.drop 3)).drop 2⟩ :=
  spc_of_goesM hU 0 (k0 := 3) (go_barbicanref15_Of_L0 hU a0 p0 q0 n0 k0 A0 hR0 _ _ h) (t0_barbicanref15_Of_L0_0 a0 p0 q0 n0 k0 A0 s0_0 s0_1 s0_2) (pre_barbicanref15_Of_L0_0 a0 p0 q0 n0 k0 A0 s0_0 s0_1 s0_2) (fun _ => rfl) (fun ls h => by match ls, h with | [l0, l1, l2], _ => exact ⟨by kernel_rfl, by kernel_rfl⟩) (fun ls h => by match ls, h with | [l0, l1, l2], _ => rfl) (by decide) (by decide) (fun ls => rfl)
inductive R_barbicanref15_Of where
  | e0 (c0_0 : Nat → Bool)
noncomputable def m_barbicanref15_Of (n0 : Nat) (A0 : Nat → Insn) : Option R_barbicanref15_Of :=
  bif inR (n0 : Int) 1000001 then
    (bif inR 0 ((n0 : Int)).toNat then
      ((lpO (st_barbicanref15_Of_L0 n0 A0) (.c0 (updF (fun _ => false) 0 true) 1 (fun _ => 0))).bind fun g0 => match g0 with
      | .e0 g0_0 =>
      some (.e0 g0_0))
    else (none))
  else (none)
def sq0_barbicanref15_Of (a0 : Option Addr) (p0 : Nat) (q0 : Nat) (n0 : Nat) (k0 : Nat) (A0 : Nat → Insn) (c0_0 : Nat → Bool) : Spc := ⟨fun ls => .call 7 #[.slice a0 n0 (n0 + k0)], fun ls => [], 1, .normal, fun ls => [(rowV (lget ls 0) ((n0 : Int)).toNat 1)], fun ls => [], fun ls => [rowO (lget ls 0) (esG cB ((n0 : Int)).toNat c0_0) 4 ((n0 : Int)).toNat 1]⟩
theorem ok0_barbicanref15_Of (c0_0 : Nat → Bool) (e : m_barbicanref15_Of n0 A0 = some (.e0 c0_0)) : SpcG Try.prog M B0 S (sq0_barbicanref15_Of a0 p0 q0 n0 k0 A0 c0_0) := by
  unfold m_barbicanref15_Of at e
  replace e := cond_eq_or e
  rcases e with ⟨hq0, e⟩ | ⟨hq0, e⟩
  · replace e := cond_eq_or e
    rcases e with ⟨hq1, e⟩ | ⟨hq1, e⟩
    · replace e := bindO_eq e
      obtain ⟨g0, e_g0, e⟩ := e
      obtain ⟨g0_0⟩ := g0
      try dsimp only at e
      injection e with e; injection e with i0; subst i0; exact fn_specG hU (P := Try.prog) Try.func7 (fun xs w => by kernel_rfl) 0 _ _ (fun _ => rfl) _ _ _ [0] [.o, .o, .o, .x (sqMkZ_ok rt30 (f := cB) (x := (n0 : Int)) (a0 := false) cB_len (by kernel_rfl) hq0 (by decide)) [], .o, .o, .q (ixM_ok (kd := .i64) (T := 30) (x := 0) (N := ((n0 : Int)).toNat) (sz := 1) rfl (fun w => by kernel_rfl) hq1), .x (sqStG_ok (T := 4) (e := 4) (f := cB) (A := (fun _ => false)) (v := true) 0 (.bool true) cB_len cB_one rfl rfl (fun w => by kernel_rfl) (inR_nat hq1)) [0], .o, .x (litRow_ok (es := esG cZ 1 (fun _ => 0)) (e := 3) (n := 1) (sz := 1)) [1], .cp, .cx (sp0_barbicanref15_Of_L0_0_ok hU a0 p0 q0 n0 k0 A0 hR0 (updF (fun _ => false) 0 true) 1 (fun _ => 0) g0_0 e_g0) [0, 1, 2], .o, .o] [] (fun b => by kernel_rfl)
    · exact none_some e
  · exact none_some e
inductive R_flow_program_next where
  | e0 
  | e1 (c1_0 : Nat) (c1_1 : Nat → Int)
noncomputable def m_flow_program_next (n0 : Nat) (A0 : Nat → Insn) (y1 : Int) : Option R_flow_program_next :=
  bif inR y1 n0 then
    (bindT (m_op_Width ((A0 (y1).toNat))) fun r0 =>
    bif ((A0 (y1).toNat)).fOp == 149#8 then
      (some (.e0))
    else (bif m_op_Jumps ((A0 (y1).toNat)) then
      ((m_insn_Target n0 A0 y1).bind fun r1 =>
      bif ((A0 (y1).toNat)).fOp == 5#8 then
        (some (.e1 1 (fun _ => r1.1)))
      else (bif r1.1 == (IntKind.i64.wrap (y1 + r0)) then
        (some (.e1 1 (fun _ => r1.1)))
      else (some (.e1 2 (updF (fun _ => (IntKind.i64.wrap (y1 + r0))) 1 r1.1)))))
    else (some (.e1 1 (fun _ => (IntKind.i64.wrap (y1 + r0)))))))
  else (none)
def sq0_flow_program_next (a0 : Option Addr) (p0 : Nat) (q0 : Nat) (n0 : Nat) (k0 : Nat) (A0 : Nat → Insn) (y1 : Int)  : Spc := ⟨fun ls => .call 49 #[.slice a0 n0 (n0 + k0), .int .i64 (y1)], fun ls => [], 0, .normal, fun ls => [.slice none 0 0], fun ls => [], fun ls => []⟩
def sq1_flow_program_next (a0 : Option Addr) (p0 : Nat) (q0 : Nat) (n0 : Nat) (k0 : Nat) (A0 : Nat → Insn) (y1 : Int) (c1_0 : Nat) (c1_1 : Nat → Int) : Spc := ⟨fun ls => .call 49 #[.slice a0 n0 (n0 + k0), .int .i64 (y1)], fun ls => [], 1, .normal, fun ls => [(rowV (lget ls 0) c1_0 1)], fun ls => [], fun ls => [rowO (lget ls 0) (esG cZ c1_0 c1_1) 3 c1_0 1]⟩
theorem ok0_flow_program_next (y1 : Int) (e : m_flow_program_next n0 A0 y1 = some (.e0 )) : SpcG Try.prog M B0 S (sq0_flow_program_next a0 p0 q0 n0 k0 A0 y1 ) := by
  unfold m_flow_program_next at e
  replace e := cond_eq_or e
  rcases e with ⟨hq0, e⟩ | ⟨hq0, e⟩
  · replace e := bindT_eq e
    obtain ⟨r0, e_r0, e⟩ := e
    try dsimp only at e
    replace e := cond_eq_or e
    rcases e with ⟨hq1, e⟩ | ⟨hq1, e⟩
    · exact fn_specG hU (P := Try.prog) Try.func49 (fun xs w => by kernel_rfl) 0 _ _ (fun _ => rfl) _ _ _ [] [.o, .o, .o, .o, .q (ixRo_ok (kd := .i64) (T := 66) (x := y1) (sz := 5) rfl (fun w => by kernel_rfl) hR0 hq0), .l (accRo hR0 c_Insn_len (inR_nat hq0) 0 [.int .u8 (nn ((A0 (y1).toNat)).fOp), .int .u8 (nn ((A0 (y1).toNat)).fDst), .int .u8 (nn ((A0 (y1).toNat)).fSrc), .int .i16 (ii ((A0 (y1).toNat)).fOff), .int .i32 (ii ((A0 (y1).toNat)).fImm)] rfl), .cg (ok_op_Width hU ((A0 (y1).toNat)) r0 e_r0), .o, .o, .o, .o, .q (ixRo_ok (kd := .i64) (T := 66) (x := y1) (sz := 5) rfl (fun w => by kernel_rfl) hR0 hq0), .o, .l (accRo hR0 c_Insn_len (inR_nat hq0) 0 [.int .u8 (nn ((A0 (y1).toNat)).fOp)] rfl), .t (u_eq ((A0 (y1).toNat)).fOp (149#8)) hq1, .o] [] (fun b => by kernel_rfl)
    · replace e := cond_eq_or e
      rcases e with ⟨hq2, e⟩ | ⟨hq2, e⟩
      · replace e := bindO_eq e
        obtain ⟨r1, e_r1, e⟩ := e
        try dsimp only at e
        replace e := cond_eq_or e
        rcases e with ⟨hq3, e⟩ | ⟨hq3, e⟩
        · cases e
        · replace e := cond_eq_or e
          rcases e with ⟨hq4, e⟩ | ⟨hq4, e⟩
          · cases e
          · cases e
      · cases e
  · exact none_some e
theorem ok1_flow_program_next (y1 : Int) (c1_0 : Nat) (c1_1 : Nat → Int) (e : m_flow_program_next n0 A0 y1 = some (.e1 c1_0 c1_1)) : SpcG Try.prog M B0 S (sq1_flow_program_next a0 p0 q0 n0 k0 A0 y1 c1_0 c1_1) := by
  unfold m_flow_program_next at e
  replace e := cond_eq_or e
  rcases e with ⟨hq0, e⟩ | ⟨hq0, e⟩
  · replace e := bindT_eq e
    obtain ⟨r0, e_r0, e⟩ := e
    try dsimp only at e
    replace e := cond_eq_or e
    let P1 : List (PG Try.prog M B0 S) := [.o, .o, .o, .o, .q (ixRo_ok (kd := .i64) (T := 66) (x := y1) (sz := 5) rfl (fun w => by kernel_rfl) hR0 hq0), .l (accRo hR0 c_Insn_len (inR_nat hq0) 0 [.int .u8 (nn ((A0 (y1).toNat)).fOp), .int .u8 (nn ((A0 (y1).toNat)).fDst), .int .u8 (nn ((A0 (y1).toNat)).fSrc), .int .i16 (ii ((A0 (y1).toNat)).fOff), .int .i32 (ii ((A0 (y1).toNat)).fImm)] rfl), .cg (ok_op_Width hU ((A0 (y1).toNat)) r0 e_r0), .o, .o, .o, .o, .q (ixRo_ok (kd := .i64) (T := 66) (x := y1) (sz := 5) rfl (fun w => by kernel_rfl) hR0 hq0), .o, .l (accRo hR0 c_Insn_len (inR_nat hq0) 0 [.int .u8 (nn ((A0 (y1).toNat)).fOp)] rfl)]
    rcases e with ⟨hq1, e⟩ | ⟨hq1, e⟩
    · cases e
    · replace e := cond_eq_or e
      let P2 : List (PG Try.prog M B0 S) := P1 ++ [.t (u_eq ((A0 (y1).toNat)).fOp (149#8)) hq1, .o, .o, .q (ixRo_ok (kd := .i64) (T := 66) (x := y1) (sz := 5) rfl (fun w => by kernel_rfl) hR0 hq0), .l (accRo hR0 c_Insn_len (inR_nat hq0) 0 [.int .u8 (nn ((A0 (y1).toNat)).fOp), .int .u8 (nn ((A0 (y1).toNat)).fDst), .int .u8 (nn ((A0 (y1).toNat)).fSrc), .int .i16 (ii ((A0 (y1).toNat)).fOff), .int .i32 (ii ((A0 (y1).toNat)).fImm)] rfl)]
      rcases e with ⟨hq2, e⟩ | ⟨hq2, e⟩
      · replace e := bindO_eq e
        obtain ⟨r1, e_r1, e⟩ := e
        try dsimp only at e
        replace e := cond_eq_or e
        let P3 : List (PG Try.prog M B0 S) := P2 ++ [.cg (ok_op_Jumps hU ((A0 (y1).toNat)) true hq2), .o, .o, .o, .cg (ok_insn_Target hU a0 p0 q0 n0 k0 A0 hR0 y1 r1 e_r1), .o, .o, .o, .o, .o, .o, .o, .q (ixRo_ok (kd := .i64) (T := 66) (x := y1) (sz := 5) rfl (fun w => by kernel_rfl) hR0 hq0), .o, .l (accRo hR0 c_Insn_len (inR_nat hq0) 0 [.int .u8 (nn ((A0 (y1).toNat)).fOp)] rfl)]
        rcases e with ⟨hq3, e⟩ | ⟨hq3, e⟩
        · injection e with e; injection e with i0 i1; subst i0 i1; exact fn_specG hU (P := Try.prog) Try.func49 (fun xs w => by kernel_rfl) 0 _ _ (fun _ => rfl) _ _ _ [1] (P3 ++ [.t (u_eq ((A0 (y1).toNat)).fOp (5#8)) hq3, .o, .o, .o, .o, .x (litRow_ok (es := esG cZ 1 (fun _ => r1.1)) (e := 3) (n := 1) (sz := 1)) [0]]) [] (fun b => by kernel_rfl)
        · replace e := cond_eq_or e
          rcases e with ⟨hq4, e⟩ | ⟨hq4, e⟩
          · injection e with e; injection e with i0 i1; subst i0 i1; exact fn_specG hU (P := Try.prog) Try.func49 (fun xs w => by kernel_rfl) 0 _ _ (fun _ => rfl) _ _ _ [1] (P3 ++ [.t (u_eq ((A0 (y1).toNat)).fOp (5#8)) hq3, .o, .o, .o, .b (z_eqlT hq4), .o, .o, .o, .x (litRow_ok (es := esG cZ 1 (fun _ => r1.1)) (e := 3) (n := 1) (sz := 1)) [0]]) [] (fun b => by kernel_rfl)
          · injection e with e; injection e with i0 i1; subst i0 i1; exact fn_specG hU (P := Try.prog) Try.func49 (fun xs w => by kernel_rfl) 0 _ _ (fun _ => rfl) _ _ _ [1] (P3 ++ [.t (u_eq ((A0 (y1).toNat)).fOp (5#8)) hq3, .o, .o, .o, .b (z_eqlF hq4), .o, .o, .o, .o, .x (litRow_ok (es := esG cZ 2 (updF (fun _ => (IntKind.i64.wrap (y1 + r0))) 1 r1.1)) (e := 3) (n := 2) (sz := 1)) [0]]) [] (fun b => by kernel_rfl)
      · injection e with e; injection e with i0 i1; subst i0 i1; exact fn_specG hU (P := Try.prog) Try.func49 (fun xs w => by kernel_rfl) 0 _ _ (fun _ => rfl) _ _ _ [1] (P2 ++ [.cg (ok_op_Jumps hU ((A0 (y1).toNat)) false hq2), .o, .o, .o, .x (litRow_ok (es := esG cZ 1 (fun _ => (IntKind.i64.wrap (y1 + r0)))) (e := 3) (n := 1) (sz := 1)) [0]]) [] (fun b => by kernel_rfl)
  · exact none_some e
noncomputable def m_flow_program_named (n0 : Nat) (A0 : Nat → Insn) (y1 : Int) : Option ((Int) × (Bool)) :=
  bif inR y1 n0 then
    (bif m_op_Jumps ((A0 (y1).toNat)) then
      (some (0, false))
    else ((m_insn_Target n0 A0 y1).bind fun r0 =>
    some (r0.1, (r0.2))))
  else (none)
theorem ok_flow_program_named (y1 : Int) (r : (Int) × (Bool)) (e : m_flow_program_named n0 A0 y1 = some r) : ConG Try.prog S 50 #[.slice a0 n0 (n0 + k0), .int .i64 (y1)] (vt0 r) := by
  unfold m_flow_program_named at e
  replace e := cond_eq_or e
  rcases e with ⟨hq0, e⟩ | ⟨hq0, e⟩
  · replace e := cond_eq_or e
    let P1 : List (PG Try.prog M B0 S) := [.o, .o, .o, .o, .q (ixRo_ok (kd := .i64) (T := 66) (x := y1) (sz := 5) rfl (fun w => by kernel_rfl) hR0 hq0), .l (accRo hR0 c_Insn_len (inR_nat hq0) 0 [.int .u8 (nn ((A0 (y1).toNat)).fOp), .int .u8 (nn ((A0 (y1).toNat)).fDst), .int .u8 (nn ((A0 (y1).toNat)).fSrc), .int .i16 (ii ((A0 (y1).toNat)).fOff), .int .i32 (ii ((A0 (y1).toNat)).fImm)] rfl)]
    rcases e with ⟨hq1, e⟩ | ⟨hq1, e⟩
    · injection e with e; subst e; exact fn_conG hU (P := Try.prog) Try.func50 (fun xs w => by kernel_rfl) _ _ (P1 ++ [.cg (ok_op_Jumps hU ((A0 (y1).toNat)) true hq1), .o, .o]) [] (fun b => by kernel_rfl)
    · replace e := bindO_eq e
      obtain ⟨r0, e_r0, e⟩ := e
      try dsimp only at e
      injection e with e; subst e; exact fn_conG hU (P := Try.prog) Try.func50 (fun xs w => by kernel_rfl) _ _ (P1 ++ [.cg (ok_op_Jumps hU ((A0 (y1).toNat)) false hq1), .o, .o, .cg (ok_insn_Target hU a0 p0 q0 n0 k0 A0 hR0 y1 r0 e_r0), .o, .o, .o, .o]) [] (fun b => by kernel_rfl)
  · exact none_some e
inductive Sh_flow_program_reached_L0_L1v9 where
  | c0 (sb0_0 : Nat → Bool) (sb0_1 : Nat) (sb0_2 : Nat → Int) (sb0_3 : Int)
inductive Ex_flow_program_reached_L0_L1v9 where
  | e0 (c0_0 : Nat → Bool) (c0_1 : Nat → Int) (c0_2 : Nat) (c0_3 : Nat → Int)
noncomputable def st_flow_program_reached_L0_L1v9 (n0 : Nat) (rb1 : (Int) × (Bool)) : Sh_flow_program_reached_L0_L1v9 → Option (Sh_flow_program_reached_L0_L1v9 ⊕ Ex_flow_program_reached_L0_L1v9)
  | .c0 sb0_0 sb0_1 sb0_2 sb0_3 =>
    bif decide (sb0_3 < 1) then
      (bif inR sb0_3 1 then
        (bif inR ((fun _ => rb1.1) (sb0_3).toNat) ((n0 : Int)).toNat then
          (bif (sb0_0 (((fun _ => rb1.1) (sb0_3).toNat)).toNat) then
            (some (.inl (.c0 sb0_0 sb0_1 sb0_2 (IntKind.i64.wrap (sb0_3 + 1)))))
          else (bif decide (sb0_1 ≤ 1000000) then
            (some (.inl (.c0 (updF sb0_0 (((fun _ => rb1.1) (sb0_3).toNat)).toNat true) (sb0_1 + 1) (updF sb0_2 sb0_1 ((fun _ => rb1.1) (sb0_3).toNat)) (IntKind.i64.wrap (sb0_3 + 1)))))
          else (none)))
        else (none))
      else (none))
    else (some (.inr (.e0 sb0_0 (fun _ => rb1.1) sb0_1 sb0_2)))
noncomputable def bd_flow_program_reached_L0_L1v9 : Code := codeOf Try.f42 [1, 1, 1, 1, 0, 0, 0, 1, 0, 1, 1, 1, 1, 1, 0, 0]
def fl_flow_program_reached_L0_L1v9 (a0 : Option Addr) (p0 : Nat) (q0 : Nat) (n0 : Nat) (k0 : Nat) (A0 : Nat → Insn) (s0_0 : Nat → Bool) (s0_1 : Nat) (s0_2 : Nat → Int) (rb1 : (Int) × (Bool)) : Sh_flow_program_reached_L0_L1v9 → List L1 → List Value
  | .c0 sb0_0 sb0_1 sb0_2 sb0_3, ls => [.slice a0 n0 (n0 + k0), (rowV (lget ls 0) ((n0 : Int)).toNat 1), (rowV (lget ls 6) sb0_1 1), (rowV (lget ls 5) 1 1), .int .i64 (1), .int .i64 (sb0_3)]
def mf_flow_program_reached_L0_L1v9 : Sh_flow_program_reached_L0_L1v9 → List (Nat × Nat)
  | .c0 _ _ _ _ => [(1, 2), (2, 40), (3, 17)]
noncomputable def fr_flow_program_reached_L0_L1v9 (a0 : Option Addr) (p0 : Nat) (q0 : Nat) (n0 : Nat) (k0 : Nat) (A0 : Nat → Insn) (s0_0 : Nat → Bool) (s0_1 : Nat) (s0_2 : Nat → Int) (rb1 : (Int) × (Bool)) (s : Sh_flow_program_reached_L0_L1v9) : List L1 → List Value := mrgF (mf_flow_program_reached_L0_L1v9 s) (fl_flow_program_reached_L0_L1v9 a0 p0 q0 n0 k0 A0 s0_0 s0_1 s0_2 rb1 s) 7
def Hs_flow_program_reached_L0_L1v9 (a0 : Option Addr) (p0 : Nat) (q0 : Nat) (n0 : Nat) (k0 : Nat) (A0 : Nat → Insn) (s0_0 : Nat → Bool) (s0_1 : Nat) (s0_2 : Nat → Int) (rb1 : (Int) × (Bool)) : Sh_flow_program_reached_L0_L1v9 → List L1 → List Obj
  | .c0 sb0_0 sb0_1 sb0_2 sb0_3, ls => [rowO (lget ls 0) (esG cB ((n0 : Int)).toNat sb0_0) 4 ((n0 : Int)).toNat 1, unb, unb, unb, .cells #[.int .i64 (rb1.1)] 3, rowO (lget ls 5) (esG cZ 1 (fun _ => rb1.1)) 3 1 1, rowO (lget ls 6) (esG cZ sb0_1 sb0_2) 3 sb0_1 1, unb]
def vl_flow_program_reached_L0_L1v9 (a0 : Option Addr) (p0 : Nat) (q0 : Nat) (n0 : Nat) (k0 : Nat) (A0 : Nat → Insn) (s0_0 : Nat → Bool) (s0_1 : Nat) (s0_2 : Nat → Int) (rb1 : (Int) × (Bool)) : Ex_flow_program_reached_L0_L1v9 → List L1 → List Value
  | .e0 c0_0 c0_1 c0_2 c0_3, ls => [.slice a0 n0 (n0 + k0), (rowV (lget ls 0) ((n0 : Int)).toNat 1), (rowV (lget ls 6) c0_2 1), (rowV (lget ls 5) 1 1), .int .i64 (1)]
def mk_flow_program_reached_L0_L1v9 : Ex_flow_program_reached_L0_L1v9 → List (Nat × Nat)
  | .e0 _ _ _ _ => [(1, 2), (2, 40), (2, 18)]
noncomputable def vf_flow_program_reached_L0_L1v9 (a0 : Option Addr) (p0 : Nat) (q0 : Nat) (n0 : Nat) (k0 : Nat) (A0 : Nat → Insn) (s0_0 : Nat → Bool) (s0_1 : Nat) (s0_2 : Nat → Int) (rb1 : (Int) × (Bool)) (r : Ex_flow_program_reached_L0_L1v9) : List L1 → List Value := mrgF (mk_flow_program_reached_L0_L1v9 r) (vl_flow_program_reached_L0_L1v9 a0 p0 q0 n0 k0 A0 s0_0 s0_1 s0_2 rb1 r) 7
def Hf_flow_program_reached_L0_L1v9 (a0 : Option Addr) (p0 : Nat) (q0 : Nat) (n0 : Nat) (k0 : Nat) (A0 : Nat → Insn) (s0_0 : Nat → Bool) (s0_1 : Nat) (s0_2 : Nat → Int) (rb1 : (Int) × (Bool)) : Ex_flow_program_reached_L0_L1v9 → List L1 → List Obj
  | .e0 c0_0 c0_1 c0_2 c0_3, ls => [rowO (lget ls 0) (esG cB ((n0 : Int)).toNat c0_0) 4 ((n0 : Int)).toNat 1, unb, unb, unb, .cells #[.int .i64 (rb1.1)] 3, rowO (lget ls 5) (esG cZ 1 c0_1) 3 1 1, rowO (lget ls 6) (esG cZ c0_2 c0_3) 3 c0_2 1, unb]
def ex_flow_program_reached_L0_L1v9 : Ex_flow_program_reached_L0_L1v9 → Ex
  | .e0 _ _ _ _ => (.exit 2)
theorem go_flow_program_reached_L0_L1v9 (s0_0 : Nat → Bool) (s0_1 : Nat) (s0_2 : Nat → Int) (rb1 : (Int) × (Bool)) (s : Sh_flow_program_reached_L0_L1v9) (r : Ex_flow_program_reached_L0_L1v9) (h : lpO (st_flow_program_reached_L0_L1v9 n0 rb1) s = some r) : GoesG Try.prog M B0 S (.loop bd_flow_program_reached_L0_L1v9) 8 (fr_flow_program_reached_L0_L1v9 a0 p0 q0 n0 k0 A0 s0_0 s0_1 s0_2 rb1 s) (Hs_flow_program_reached_L0_L1v9 a0 p0 q0 n0 k0 A0 s0_0 s0_1 s0_2 rb1 s) (ex_flow_program_reached_L0_L1v9 r) 6 (vf_flow_program_reached_L0_L1v9 a0 p0 q0 n0 k0 A0 s0_0 s0_1 s0_2 rb1 r) (Hf_flow_program_reached_L0_L1v9 a0 p0 q0 n0 k0 A0 s0_0 s0_1 s0_2 rb1 r) 8 :=
  goes_lpO (fun s q e => by
    cases s with
    | c0 sb0_0 sb0_1 sb0_2 sb0_3 =>
      unfold st_flow_program_reached_L0_L1v9 at e
      dsimp only at e
      replace e := cond_eq_or e
      rcases e with ⟨hq0, e⟩ | ⟨hq0, e⟩
      · replace e := cond_eq_or e
        rcases e with ⟨hq1, e⟩ | ⟨hq1, e⟩
        · replace e := cond_eq_or e
          let P1 : List (PG Try.prog M B0 S) := [.b (z_lssT hq0), .q (ixM_ok (kd := .i64) (T := 26) (x := sb0_3) (N := 1) (sz := 1) rfl (fun w => by kernel_rfl) hq1), .l (accG (i := 5) (f := cZ) (A := (fun _ => rb1.1)) (k := (sb0_3).toNat) 0 [.int .i64 (((fun _ => rb1.1) (sb0_3).toNat))] cZ_len (inR_nat hq1) rfl), .o, .o, .o]
          rcases e with ⟨hq2, e⟩ | ⟨hq2, e⟩
          · replace e := cond_eq_or e
            let P2 : List (PG Try.prog M B0 S) := P1 ++ [.q (ixM_ok (kd := .i64) (T := 30) (x := ((fun _ => rb1.1) (sb0_3).toNat)) (N := ((n0 : Int)).toNat) (sz := 1) rfl (fun w => by kernel_rfl) hq2)]
            rcases e with ⟨hq3, e⟩ | ⟨hq3, e⟩
            · cases e; exact goes_runM hU (P2 ++ [.l (accG (i := 0) (f := cB) (A := sb0_0) (k := (((fun _ => rb1.1) (sb0_3).toNat)).toNat) 0 [.bool true] cB_len (inR_nat hq2) (congrArg (fun b => [Value.bool b]) hq3)), .o, .o, .o]) [0, 1, 2, 3, 4, 5, 6] (fun b => rfl) (by decide) rfl rfl (fun b => by kernel_rfl)
            · replace e := cond_eq_or e
              rcases e with ⟨hq4, e⟩ | ⟨hq4, e⟩
              · cases e; exact goes_runM hU (P2 ++ [.l (accG (i := 0) (f := cB) (A := sb0_0) (k := (((fun _ => rb1.1) (sb0_3).toNat)).toNat) 0 [.bool false] cB_len (inR_nat hq2) (congrArg (fun b => [Value.bool b]) hq3)), .o, .o, .o, .q (ixM_ok (kd := .i64) (T := 30) (x := ((fun _ => rb1.1) (sb0_3).toNat)) (N := ((n0 : Int)).toNat) (sz := 1) rfl (fun w => by kernel_rfl) hq2), .x (sqStG_ok (T := 4) (e := 4) (f := cB) (A := sb0_0) (v := true) 0 (.bool true) cB_len cB_one rfl rfl (fun w => by kernel_rfl) (inR_nat hq2)) [0], .o, .o, .o, .x (sqAppL_ok (ty := 26) rt26 #[false, false] (f := cZ) (N := sb0_1) (A := sb0_2) (c := 1) [((fun _ => rb1.1) (sb0_3).toNat)] (T' := 3) .row cZ_len cZ_one hq4 rfl (by decide)) [6, 8], .o, .o, .o]) [0, 1, 2, 3, 4, 5, 9] (fun b => rfl) (by decide) rfl rfl (fun b => by kernel_rfl)
              · exact none_some e
          · exact none_some e
        · exact none_some e
      · cases e; exact ⟨ne_exit 2, goes_runM hU [.b (z_lssF hq0)] [0, 1, 2, 3, 4, 5, 6] (fun b => rfl) (by decide) rfl rfl (fun b => by kernel_rfl)⟩) s r h
noncomputable def t0_flow_program_reached_L0_L1v9_0 (a0 : Option Addr) (p0 : Nat) (q0 : Nat) (n0 : Nat) (k0 : Nat) (A0 : Nat → Insn) (s0_0 : Nat → Bool) (s0_1 : Nat) (s0_2 : Nat → Int) (rb1 : (Int) × (Bool)) (sb0_0 : Nat → Bool) (sb0_1 : Nat) (sb0_2 : Nat → Int) (sb0_3 : Int) (ls : List L1) : List Value := List.append [.slice a0 n0 (n0 + k0), ((lget ls 3).u 1), ((lget ls 3).u 2), (rowV (lget ls 0) ((n0 : Int)).toNat 1), (rowV (lget ls 6) sb0_1 1), .int .i64 ((s0_2 ((IntKind.i64.wrap ((s0_1 : Int) - 1))).toNat)), (rowV (lget ls 5) 1 1), .int .i64 (rb1.1), .bool true] (List.append (jks (lget ls 3).u 9 8) (List.append [(rowV (lget ls 2) s0_1 1), .int .i64 ((s0_1 : Int)), .bool true, (rowV (lget ls 2) s0_1 1), (rowV (lget ls 2) s0_1 1), .int .i64 ((s0_1 : Int)), .int .i64 ((IntKind.i64.wrap ((s0_1 : Int) - 1))), .pointer (some ⟨(lget ls 2).n, 0 + ((IntKind.i64.wrap ((s0_1 : Int) - 1))).toNat * 1, none⟩), .int .i64 ((s0_2 ((IntKind.i64.wrap ((s0_1 : Int) - 1))).toNat)), (rowV (lget ls 2) s0_1 1), (rowV (lget ls 2) s0_1 1), .int .i64 ((s0_1 : Int)), .int .i64 ((IntKind.i64.wrap ((s0_1 : Int) - 1))), (rowV (lget ls 6) ((IntKind.i64.wrap ((s0_1 : Int) - 1))).toNat 1), .slice a0 n0 (n0 + k0), .int .i64 ((s0_2 ((IntKind.i64.wrap ((s0_1 : Int) - 1))).toNat)), .slice none 0 0, .tuple #[.int .i64 (rb1.1), .bool (rb1.2)], .slice a0 n0 (n0 + k0), .int .i64 ((s0_2 ((IntKind.i64.wrap ((s0_1 : Int) - 1))).toNat)), .tuple #[.int .i64 (rb1.1), .bool (rb1.2)], .int .i64 (rb1.1), .bool true, .bool true, .slice none 0 0, .int .i64 (rb1.1), .slice (some ⟨(lget ls 4).n, 0, none⟩) 1 1, (rowV (lget ls 5) 1 1), (rowV (lget ls 5) 1 1), .int .i64 (1), .int .i64 (sb0_3)] (jks (lget ls 3).u 48 17)))
def pre_flow_program_reached_L0_L1v9_0 (a0 : Option Addr) (p0 : Nat) (q0 : Nat) (n0 : Nat) (k0 : Nat) (A0 : Nat → Insn) (s0_0 : Nat → Bool) (s0_1 : Nat) (s0_2 : Nat → Int) (rb1 : (Int) × (Bool)) (sb0_0 : Nat → Bool) (sb0_1 : Nat) (sb0_2 : Nat → Int) (sb0_3 : Int) (ls : List L1) : List Obj := [rowO (lget ls 0) (esG cB ((n0 : Int)).toNat sb0_0) 4 ((n0 : Int)).toNat 1, unb, unb, unb, .cells #[.int .i64 (rb1.1)] 3, rowO (lget ls 5) (esG cZ 1 (fun _ => rb1.1)) 3 1 1, rowO (lget ls 6) (esG cZ sb0_1 sb0_2) 3 sb0_1 1]
theorem sp0_flow_program_reached_L0_L1v9_0_ok (s0_0 : Nat → Bool) (s0_1 : Nat) (s0_2 : Nat → Int) (rb1 : (Int) × (Bool)) (sb0_0 : Nat → Bool) (sb0_1 : Nat) (sb0_2 : Nat → Int) (sb0_3 : Int) (c0_0 : Nat → Bool) (c0_1 : Nat → Int) (c0_2 : Nat) (c0_3 : Nat → Int) (h : lpO (st_flow_program_reached_L0_L1v9 n0 rb1) (.c0 sb0_0 sb0_1 sb0_2 sb0_3) = some (.e0 c0_0 c0_1 c0_2 c0_3)) : SpcG Try.prog M B0 S ⟨fun ls => .code (.loop bd_flow_program_reached_L0_L1v9) (t0_flow_program_reached_L0_L1v9_0 a0 p0 q0 n0 k0 A0 s0_0 s0_1 s0_2 rb1 sb0_0 sb0_1 sb0_2 sb0_3 ls), pre_flow_program_reached_L0_L1v9_0 a0 p0 q0 n0 k0 A0 s0_0 s0_1 s0_2 rb1 sb0_0 sb0_1 sb0_2 sb0_3, 2, (.exit 2), fun ls => vf_flow_program_reached_L0_L1v9 a0 p0 q0 n0 k0 A0 s0_0 s0_1 s0_2 rb1 (.e0 c0_0 c0_1 c0_2 c0_3) (ls.take 6 ++ ls.drop 7), fun ls => (Hf_flow_program_reached_L0_L1v9 a0 p0 q0 n0 k0 A0 s0_0 s0_1 s0_2 rb1 (.e0 c0_0 c0_1 c0_2 c0_3) (ls.take 6 ++ ls.drop 7)).take 6 ++ List.replicate 1 unb, fun ls => (Hf_flow_program_reached_L0_L1v9 a0 p0 q0 n0 k0 A0 s0_0 s0_1 s0_2 rb1 (.e0 c0_0 c0_1 c0_2 c0_3) (ls.take 6 ++ ls.drop 7)).drop 6⟩ :=
  spc_of_goesM hU 0 (k0 := 7) (go_flow_program_reached_L0_L1v9 hU a0 p0 q0 n0 k0 A0 hR0 s0_0 s0_1 s0_2 rb1 _ _ h) (t0_flow_program_reached_L0_L1v9_0 a0 p0 q0 n0 k0 A0 s0_0 s0_1 s0_2 rb1 sb0_0 sb0_1 sb0_2 sb0_3) (pre_flow_program_reached_L0_L1v9_0 a0 p0 q0 n0 k0 A0 s0_0 s0_1 s0_2 rb1 sb0_0 sb0_1 sb0_2 sb0_3) (fun _ => rfl) (fun ls h => by match ls, h with | [l0, l1, l2, l3, l4, l5, l6], _ => exact ⟨by kernel_rfl, by kernel_rfl⟩) (fun ls h => by match ls, h with | [l0, l1, l2, l3, l4, l5, l6], _ => rfl) (by decide) (by decide) (fun ls => rfl)
inductive Sh_flow_program_reached_L0_L1v10 where
  | c0 (sb0_0 : Nat → Bool) (sb0_1 : Nat) (sb0_2 : Nat → Int) (sb0_3 : Int)
inductive Ex_flow_program_reached_L0_L1v10 where
  | e0 (c0_0 : Nat → Bool) (c0_1 : Nat → Int) (c0_2 : Nat) (c0_3 : Nat → Int)
noncomputable def st_flow_program_reached_L0_L1v10 (n0 : Nat) (gb0_0 : Nat) (gb0_1 : Nat → Int) (rb1 : (Int) × (Bool)) : Sh_flow_program_reached_L0_L1v10 → Option (Sh_flow_program_reached_L0_L1v10 ⊕ Ex_flow_program_reached_L0_L1v10)
  | .c0 sb0_0 sb0_1 sb0_2 sb0_3 =>
    bif decide (sb0_3 < ((gb0_0 + 1) : Int)) then
      (bif inR sb0_3 (gb0_0 + 1) then
        (bif inR ((updF gb0_1 gb0_0 rb1.1) (sb0_3).toNat) ((n0 : Int)).toNat then
          (bif (sb0_0 (((updF gb0_1 gb0_0 rb1.1) (sb0_3).toNat)).toNat) then
            (some (.inl (.c0 sb0_0 sb0_1 sb0_2 (IntKind.i64.wrap (sb0_3 + 1)))))
          else (bif decide (sb0_1 ≤ 1000000) then
            (some (.inl (.c0 (updF sb0_0 (((updF gb0_1 gb0_0 rb1.1) (sb0_3).toNat)).toNat true) (sb0_1 + 1) (updF sb0_2 sb0_1 ((updF gb0_1 gb0_0 rb1.1) (sb0_3).toNat)) (IntKind.i64.wrap (sb0_3 + 1)))))
          else (none)))
        else (none))
      else (none))
    else (some (.inr (.e0 sb0_0 (updF gb0_1 gb0_0 rb1.1) sb0_1 sb0_2)))
noncomputable def bd_flow_program_reached_L0_L1v10 : Code := codeOf Try.f42 [1, 1, 1, 1, 0, 0, 0, 1, 0, 1, 1, 1, 1, 1, 0, 0]
def fl_flow_program_reached_L0_L1v10 (a0 : Option Addr) (p0 : Nat) (q0 : Nat) (n0 : Nat) (k0 : Nat) (A0 : Nat → Insn) (s0_0 : Nat → Bool) (s0_1 : Nat) (s0_2 : Nat → Int) (gb0_0 : Nat) (gb0_1 : Nat → Int) (rb1 : (Int) × (Bool)) : Sh_flow_program_reached_L0_L1v10 → List L1 → List Value
  | .c0 sb0_0 sb0_1 sb0_2 sb0_3, ls => [.slice a0 n0 (n0 + k0), (rowV (lget ls 0) ((n0 : Int)).toNat 1), (rowV (lget ls 7) sb0_1 1), (rowV (lget ls 6) (gb0_0 + 1) 1), .int .i64 (((gb0_0 + 1) : Int)), .int .i64 (sb0_3)]
def mf_flow_program_reached_L0_L1v10 : Sh_flow_program_reached_L0_L1v10 → List (Nat × Nat)
  | .c0 _ _ _ _ => [(1, 2), (2, 40), (3, 17)]
noncomputable def fr_flow_program_reached_L0_L1v10 (a0 : Option Addr) (p0 : Nat) (q0 : Nat) (n0 : Nat) (k0 : Nat) (A0 : Nat → Insn) (s0_0 : Nat → Bool) (s0_1 : Nat) (s0_2 : Nat → Int) (gb0_0 : Nat) (gb0_1 : Nat → Int) (rb1 : (Int) × (Bool)) (s : Sh_flow_program_reached_L0_L1v10) : List L1 → List Value := mrgF (mf_flow_program_reached_L0_L1v10 s) (fl_flow_program_reached_L0_L1v10 a0 p0 q0 n0 k0 A0 s0_0 s0_1 s0_2 gb0_0 gb0_1 rb1 s) 8
def Hs_flow_program_reached_L0_L1v10 (a0 : Option Addr) (p0 : Nat) (q0 : Nat) (n0 : Nat) (k0 : Nat) (A0 : Nat → Insn) (s0_0 : Nat → Bool) (s0_1 : Nat) (s0_2 : Nat → Int) (gb0_0 : Nat) (gb0_1 : Nat → Int) (rb1 : (Int) × (Bool)) : Sh_flow_program_reached_L0_L1v10 → List L1 → List Obj
  | .c0 sb0_0 sb0_1 sb0_2 sb0_3, ls => [rowO (lget ls 0) (esG cB ((n0 : Int)).toNat sb0_0) 4 ((n0 : Int)).toNat 1, unb, unb, unb, unb, .cells #[.int .i64 (rb1.1)] 3, rowO (lget ls 6) (esG cZ (gb0_0 + 1) (updF gb0_1 gb0_0 rb1.1)) 3 (gb0_0 + 1) 1, rowO (lget ls 7) (esG cZ sb0_1 sb0_2) 3 sb0_1 1, unb]
def vl_flow_program_reached_L0_L1v10 (a0 : Option Addr) (p0 : Nat) (q0 : Nat) (n0 : Nat) (k0 : Nat) (A0 : Nat → Insn) (s0_0 : Nat → Bool) (s0_1 : Nat) (s0_2 : Nat → Int) (gb0_0 : Nat) (gb0_1 : Nat → Int) (rb1 : (Int) × (Bool)) : Ex_flow_program_reached_L0_L1v10 → List L1 → List Value
  | .e0 c0_0 c0_1 c0_2 c0_3, ls => [.slice a0 n0 (n0 + k0), (rowV (lget ls 0) ((n0 : Int)).toNat 1), (rowV (lget ls 7) c0_2 1), (rowV (lget ls 6) (gb0_0 + 1) 1), .int .i64 (((gb0_0 + 1) : Int))]
def mk_flow_program_reached_L0_L1v10 : Ex_flow_program_reached_L0_L1v10 → List (Nat × Nat)
  | .e0 _ _ _ _ => [(1, 2), (2, 40), (2, 18)]
noncomputable def vf_flow_program_reached_L0_L1v10 (a0 : Option Addr) (p0 : Nat) (q0 : Nat) (n0 : Nat) (k0 : Nat) (A0 : Nat → Insn) (s0_0 : Nat → Bool) (s0_1 : Nat) (s0_2 : Nat → Int) (gb0_0 : Nat) (gb0_1 : Nat → Int) (rb1 : (Int) × (Bool)) (r : Ex_flow_program_reached_L0_L1v10) : List L1 → List Value := mrgF (mk_flow_program_reached_L0_L1v10 r) (vl_flow_program_reached_L0_L1v10 a0 p0 q0 n0 k0 A0 s0_0 s0_1 s0_2 gb0_0 gb0_1 rb1 r) 8
def Hf_flow_program_reached_L0_L1v10 (a0 : Option Addr) (p0 : Nat) (q0 : Nat) (n0 : Nat) (k0 : Nat) (A0 : Nat → Insn) (s0_0 : Nat → Bool) (s0_1 : Nat) (s0_2 : Nat → Int) (gb0_0 : Nat) (gb0_1 : Nat → Int) (rb1 : (Int) × (Bool)) : Ex_flow_program_reached_L0_L1v10 → List L1 → List Obj
  | .e0 c0_0 c0_1 c0_2 c0_3, ls => [rowO (lget ls 0) (esG cB ((n0 : Int)).toNat c0_0) 4 ((n0 : Int)).toNat 1, unb, unb, unb, unb, .cells #[.int .i64 (rb1.1)] 3, rowO (lget ls 6) (esG cZ (gb0_0 + 1) c0_1) 3 (gb0_0 + 1) 1, rowO (lget ls 7) (esG cZ c0_2 c0_3) 3 c0_2 1, unb]
def ex_flow_program_reached_L0_L1v10 : Ex_flow_program_reached_L0_L1v10 → Ex
  | .e0 _ _ _ _ => (.exit 2)
theorem go_flow_program_reached_L0_L1v10 (s0_0 : Nat → Bool) (s0_1 : Nat) (s0_2 : Nat → Int) (gb0_0 : Nat) (gb0_1 : Nat → Int) (rb1 : (Int) × (Bool)) (s : Sh_flow_program_reached_L0_L1v10) (r : Ex_flow_program_reached_L0_L1v10) (h : lpO (st_flow_program_reached_L0_L1v10 n0 gb0_0 gb0_1 rb1) s = some r) : GoesG Try.prog M B0 S (.loop bd_flow_program_reached_L0_L1v10) 9 (fr_flow_program_reached_L0_L1v10 a0 p0 q0 n0 k0 A0 s0_0 s0_1 s0_2 gb0_0 gb0_1 rb1 s) (Hs_flow_program_reached_L0_L1v10 a0 p0 q0 n0 k0 A0 s0_0 s0_1 s0_2 gb0_0 gb0_1 rb1 s) (ex_flow_program_reached_L0_L1v10 r) 7 (vf_flow_program_reached_L0_L1v10 a0 p0 q0 n0 k0 A0 s0_0 s0_1 s0_2 gb0_0 gb0_1 rb1 r) (Hf_flow_program_reached_L0_L1v10 a0 p0 q0 n0 k0 A0 s0_0 s0_1 s0_2 gb0_0 gb0_1 rb1 r) 9 :=
  goes_lpO (fun s q e => by
    cases s with
    | c0 sb0_0 sb0_1 sb0_2 sb0_3 =>
      unfold st_flow_program_reached_L0_L1v10 at e
      dsimp only at e
      replace e := cond_eq_or e
      rcases e with ⟨hq0, e⟩ | ⟨hq0, e⟩
      · replace e := cond_eq_or e
        rcases e with ⟨hq1, e⟩ | ⟨hq1, e⟩
        · replace e := cond_eq_or e
          let P1 : List (PG Try.prog M B0 S) := [.b (z_lssT hq0), .q (ixM_ok (kd := .i64) (T := 26) (x := sb0_3) (N := (gb0_0 + 1)) (sz := 1) rfl (fun w => by kernel_rfl) hq1), .l (accG (i := 6) (f := cZ) (A := updF gb0_1 gb0_0 rb1.1) (k := (sb0_3).toNat) 0 [.int .i64 (((updF gb0_1 gb0_0 rb1.1) (sb0_3).toNat))] cZ_len (inR_nat hq1) rfl), .o, .o, .o]
          rcases e with ⟨hq2, e⟩ | ⟨hq2, e⟩
          · replace e := cond_eq_or e
            let P2 : List (PG Try.prog M B0 S) := P1 ++ [.q (ixM_ok (kd := .i64) (T := 30) (x := ((updF gb0_1 gb0_0 rb1.1) (sb0_3).toNat)) (N := ((n0 : Int)).toNat) (sz := 1) rfl (fun w => by kernel_rfl) hq2)]
            rcases e with ⟨hq3, e⟩ | ⟨hq3, e⟩
            · cases e; exact goes_runM hU (P2 ++ [.l (accG (i := 0) (f := cB) (A := sb0_0) (k := (((updF gb0_1 gb0_0 rb1.1) (sb0_3).toNat)).toNat) 0 [.bool true] cB_len (inR_nat hq2) (congrArg (fun b => [Value.bool b]) hq3)), .o, .o, .o]) [0, 1, 2, 3, 4, 5, 6, 7] (fun b => rfl) (by decide) rfl rfl (fun b => by kernel_rfl)
            · replace e := cond_eq_or e
              rcases e with ⟨hq4, e⟩ | ⟨hq4, e⟩
              · cases e; exact goes_runM hU (P2 ++ [.l (accG (i := 0) (f := cB) (A := sb0_0) (k := (((updF gb0_1 gb0_0 rb1.1) (sb0_3).toNat)).toNat) 0 [.bool false] cB_len (inR_nat hq2) (congrArg (fun b => [Value.bool b]) hq3)), .o, .o, .o, .q (ixM_ok (kd := .i64) (T := 30) (x := ((updF gb0_1 gb0_0 rb1.1) (sb0_3).toNat)) (N := ((n0 : Int)).toNat) (sz := 1) rfl (fun w => by kernel_rfl) hq2), .x (sqStG_ok (T := 4) (e := 4) (f := cB) (A := sb0_0) (v := true) 0 (.bool true) cB_len cB_one rfl rfl (fun w => by kernel_rfl) (inR_nat hq2)) [0], .o, .o, .o, .x (sqAppL_ok (ty := 26) rt26 #[false, false] (f := cZ) (N := sb0_1) (A := sb0_2) (c := 1) [((updF gb0_1 gb0_0 rb1.1) (sb0_3).toNat)] (T' := 3) .row cZ_len cZ_one hq4 rfl (by decide)) [7, 9], .o, .o, .o]) [0, 1, 2, 3, 4, 5, 6, 10] (fun b => rfl) (by decide) rfl rfl (fun b => by kernel_rfl)
              · exact none_some e
          · exact none_some e
        · exact none_some e
      · cases e; exact ⟨ne_exit 2, goes_runM hU [.b (z_lssF hq0)] [0, 1, 2, 3, 4, 5, 6, 7] (fun b => rfl) (by decide) rfl rfl (fun b => by kernel_rfl)⟩) s r h
noncomputable def t0_flow_program_reached_L0_L1v10_0 (a0 : Option Addr) (p0 : Nat) (q0 : Nat) (n0 : Nat) (k0 : Nat) (A0 : Nat → Insn) (s0_0 : Nat → Bool) (s0_1 : Nat) (s0_2 : Nat → Int) (gb0_0 : Nat) (gb0_1 : Nat → Int) (rb1 : (Int) × (Bool)) (sb0_0 : Nat → Bool) (sb0_1 : Nat) (sb0_2 : Nat → Int) (sb0_3 : Int) (ls : List L1) : List Value := List.append [.slice a0 n0 (n0 + k0), ((lget ls 3).u 1), ((lget ls 3).u 2), (rowV (lget ls 0) ((n0 : Int)).toNat 1), (rowV (lget ls 7) sb0_1 1), .int .i64 ((s0_2 ((IntKind.i64.wrap ((s0_1 : Int) - 1))).toNat)), (rowV (lget ls 6) (gb0_0 + 1) 1), .int .i64 (rb1.1), .bool true] (List.append (jks (lget ls 3).u 9 8) (List.append [(rowV (lget ls 2) s0_1 1), .int .i64 ((s0_1 : Int)), .bool true, (rowV (lget ls 2) s0_1 1), (rowV (lget ls 2) s0_1 1), .int .i64 ((s0_1 : Int)), .int .i64 ((IntKind.i64.wrap ((s0_1 : Int) - 1))), .pointer (some ⟨(lget ls 2).n, 0 + ((IntKind.i64.wrap ((s0_1 : Int) - 1))).toNat * 1, none⟩), .int .i64 ((s0_2 ((IntKind.i64.wrap ((s0_1 : Int) - 1))).toNat)), (rowV (lget ls 2) s0_1 1), (rowV (lget ls 2) s0_1 1), .int .i64 ((s0_1 : Int)), .int .i64 ((IntKind.i64.wrap ((s0_1 : Int) - 1))), (rowV (lget ls 7) ((IntKind.i64.wrap ((s0_1 : Int) - 1))).toNat 1), .slice a0 n0 (n0 + k0), .int .i64 ((s0_2 ((IntKind.i64.wrap ((s0_1 : Int) - 1))).toNat)), (rowV (lget ls 4) gb0_0 1), .tuple #[.int .i64 (rb1.1), .bool (rb1.2)], .slice a0 n0 (n0 + k0), .int .i64 ((s0_2 ((IntKind.i64.wrap ((s0_1 : Int) - 1))).toNat)), .tuple #[.int .i64 (rb1.1), .bool (rb1.2)], .int .i64 (rb1.1), .bool true, .bool true, (rowV (lget ls 4) gb0_0 1), .int .i64 (rb1.1), .slice (some ⟨(lget ls 5).n, 0, none⟩) 1 1, (rowV (lget ls 6) (gb0_0 + 1) 1), (rowV (lget ls 6) (gb0_0 + 1) 1), .int .i64 (((gb0_0 + 1) : Int)), .int .i64 (sb0_3)] (jks (lget ls 3).u 48 17)))
def pre_flow_program_reached_L0_L1v10_0 (a0 : Option Addr) (p0 : Nat) (q0 : Nat) (n0 : Nat) (k0 : Nat) (A0 : Nat → Insn) (s0_0 : Nat → Bool) (s0_1 : Nat) (s0_2 : Nat → Int) (gb0_0 : Nat) (gb0_1 : Nat → Int) (rb1 : (Int) × (Bool)) (sb0_0 : Nat → Bool) (sb0_1 : Nat) (sb0_2 : Nat → Int) (sb0_3 : Int) (ls : List L1) : List Obj := [rowO (lget ls 0) (esG cB ((n0 : Int)).toNat sb0_0) 4 ((n0 : Int)).toNat 1, unb, unb, unb, unb, .cells #[.int .i64 (rb1.1)] 3, rowO (lget ls 6) (esG cZ (gb0_0 + 1) (updF gb0_1 gb0_0 rb1.1)) 3 (gb0_0 + 1) 1, rowO (lget ls 7) (esG cZ sb0_1 sb0_2) 3 sb0_1 1]
theorem sp0_flow_program_reached_L0_L1v10_0_ok (s0_0 : Nat → Bool) (s0_1 : Nat) (s0_2 : Nat → Int) (gb0_0 : Nat) (gb0_1 : Nat → Int) (rb1 : (Int) × (Bool)) (sb0_0 : Nat → Bool) (sb0_1 : Nat) (sb0_2 : Nat → Int) (sb0_3 : Int) (c0_0 : Nat → Bool) (c0_1 : Nat → Int) (c0_2 : Nat) (c0_3 : Nat → Int) (h : lpO (st_flow_program_reached_L0_L1v10 n0 gb0_0 gb0_1 rb1) (.c0 sb0_0 sb0_1 sb0_2 sb0_3) = some (.e0 c0_0 c0_1 c0_2 c0_3)) : SpcG Try.prog M B0 S ⟨fun ls => .code (.loop bd_flow_program_reached_L0_L1v10) (t0_flow_program_reached_L0_L1v10_0 a0 p0 q0 n0 k0 A0 s0_0 s0_1 s0_2 gb0_0 gb0_1 rb1 sb0_0 sb0_1 sb0_2 sb0_3 ls), pre_flow_program_reached_L0_L1v10_0 a0 p0 q0 n0 k0 A0 s0_0 s0_1 s0_2 gb0_0 gb0_1 rb1 sb0_0 sb0_1 sb0_2 sb0_3, 2, (.exit 2), fun ls => vf_flow_program_reached_L0_L1v10 a0 p0 q0 n0 k0 A0 s0_0 s0_1 s0_2 gb0_0 gb0_1 rb1 (.e0 c0_0 c0_1 c0_2 c0_3) (ls.take 7 ++ ls.drop 8), fun ls => (Hf_flow_program_reached_L0_L1v10 a0 p0 q0 n0 k0 A0 s0_0 s0_1 s0_2 gb0_0 gb0_1 rb1 (.e0 c0_0 c0_1 c0_2 c0_3) (ls.take 7 ++ ls.drop 8)).take 7 ++ List.replicate 1 unb, fun ls => (Hf_flow_program_reached_L0_L1v10 a0 p0 q0 n0 k0 A0 s0_0 s0_1 s0_2 gb0_0 gb0_1 rb1 (.e0 c0_0 c0_1 c0_2 c0_3) (ls.take 7 ++ ls.drop 8)).drop 7⟩ :=
  spc_of_goesM hU 0 (k0 := 8) (go_flow_program_reached_L0_L1v10 hU a0 p0 q0 n0 k0 A0 hR0 s0_0 s0_1 s0_2 gb0_0 gb0_1 rb1 _ _ h) (t0_flow_program_reached_L0_L1v10_0 a0 p0 q0 n0 k0 A0 s0_0 s0_1 s0_2 gb0_0 gb0_1 rb1 sb0_0 sb0_1 sb0_2 sb0_3) (pre_flow_program_reached_L0_L1v10_0 a0 p0 q0 n0 k0 A0 s0_0 s0_1 s0_2 gb0_0 gb0_1 rb1 sb0_0 sb0_1 sb0_2 sb0_3) (fun _ => rfl) (fun ls h => by match ls, h with | [l0, l1, l2, l3, l4, l5, l6, l7], _ => exact ⟨by kernel_rfl, by kernel_rfl⟩) (fun ls h => by match ls, h with | [l0, l1, l2, l3, l4, l5, l6, l7], _ => rfl) (by decide) (by decide) (fun ls => rfl)
inductive Sh_flow_program_reached_L0_L1v11 where
  | c0 (sb0_0 : Nat → Bool) (sb0_1 : Nat) (sb0_2 : Nat → Int) (sb0_3 : Int)
inductive Ex_flow_program_reached_L0_L1v11 where
  | e0 (c0_0 : Nat → Bool) (c0_1 : Nat) (c0_2 : Nat → Int)
noncomputable def st_flow_program_reached_L0_L1v11 (n0 : Nat) (gb0_0 : Nat) (gb0_1 : Nat → Int) : Sh_flow_program_reached_L0_L1v11 → Option (Sh_flow_program_reached_L0_L1v11 ⊕ Ex_flow_program_reached_L0_L1v11)
  | .c0 sb0_0 sb0_1 sb0_2 sb0_3 =>
    bif decide (sb0_3 < (gb0_0 : Int)) then
      (bif inR sb0_3 gb0_0 then
        (bif inR (gb0_1 (sb0_3).toNat) ((n0 : Int)).toNat then
          (bif (sb0_0 ((gb0_1 (sb0_3).toNat)).toNat) then
            (some (.inl (.c0 sb0_0 sb0_1 sb0_2 (IntKind.i64.wrap (sb0_3 + 1)))))
          else (bif decide (sb0_1 ≤ 1000000) then
            (some (.inl (.c0 (updF sb0_0 ((gb0_1 (sb0_3).toNat)).toNat true) (sb0_1 + 1) (updF sb0_2 sb0_1 (gb0_1 (sb0_3).toNat)) (IntKind.i64.wrap (sb0_3 + 1)))))
          else (none)))
        else (none))
      else (none))
    else (some (.inr (.e0 sb0_0 sb0_1 sb0_2)))
noncomputable def bd_flow_program_reached_L0_L1v11 : Code := codeOf Try.f42 [1, 1, 1, 1, 0, 0, 0, 1, 0, 1, 1, 1, 1, 1, 0, 0]
def fl_flow_program_reached_L0_L1v11 (a0 : Option Addr) (p0 : Nat) (q0 : Nat) (n0 : Nat) (k0 : Nat) (A0 : Nat → Insn) (s0_0 : Nat → Bool) (s0_1 : Nat) (s0_2 : Nat → Int) (gb0_0 : Nat) (gb0_1 : Nat → Int) (rb1 : (Int) × (Bool)) : Sh_flow_program_reached_L0_L1v11 → List L1 → List Value
  | .c0 sb0_0 sb0_1 sb0_2 sb0_3, ls => [.slice a0 n0 (n0 + k0), (rowV (lget ls 0) ((n0 : Int)).toNat 1), (rowV (lget ls 5) sb0_1 1), (rowV (lget ls 4) gb0_0 1), .int .i64 ((gb0_0 : Int)), .int .i64 (sb0_3)]
def mf_flow_program_reached_L0_L1v11 : Sh_flow_program_reached_L0_L1v11 → List (Nat × Nat)
  | .c0 _ _ _ _ => [(1, 2), (2, 40), (3, 17)]
noncomputable def fr_flow_program_reached_L0_L1v11 (a0 : Option Addr) (p0 : Nat) (q0 : Nat) (n0 : Nat) (k0 : Nat) (A0 : Nat → Insn) (s0_0 : Nat → Bool) (s0_1 : Nat) (s0_2 : Nat → Int) (gb0_0 : Nat) (gb0_1 : Nat → Int) (rb1 : (Int) × (Bool)) (s : Sh_flow_program_reached_L0_L1v11) : List L1 → List Value := mrgF (mf_flow_program_reached_L0_L1v11 s) (fl_flow_program_reached_L0_L1v11 a0 p0 q0 n0 k0 A0 s0_0 s0_1 s0_2 gb0_0 gb0_1 rb1 s) 6
def Hs_flow_program_reached_L0_L1v11 (a0 : Option Addr) (p0 : Nat) (q0 : Nat) (n0 : Nat) (k0 : Nat) (A0 : Nat → Insn) (s0_0 : Nat → Bool) (s0_1 : Nat) (s0_2 : Nat → Int) (gb0_0 : Nat) (gb0_1 : Nat → Int) (rb1 : (Int) × (Bool)) : Sh_flow_program_reached_L0_L1v11 → List L1 → List Obj
  | .c0 sb0_0 sb0_1 sb0_2 sb0_3, ls => [rowO (lget ls 0) (esG cB ((n0 : Int)).toNat sb0_0) 4 ((n0 : Int)).toNat 1, unb, unb, unb, rowO (lget ls 4) (esG cZ gb0_0 gb0_1) 3 gb0_0 1, rowO (lget ls 5) (esG cZ sb0_1 sb0_2) 3 sb0_1 1, unb]
def vl_flow_program_reached_L0_L1v11 (a0 : Option Addr) (p0 : Nat) (q0 : Nat) (n0 : Nat) (k0 : Nat) (A0 : Nat → Insn) (s0_0 : Nat → Bool) (s0_1 : Nat) (s0_2 : Nat → Int) (gb0_0 : Nat) (gb0_1 : Nat → Int) (rb1 : (Int) × (Bool)) : Ex_flow_program_reached_L0_L1v11 → List L1 → List Value
  | .e0 c0_0 c0_1 c0_2, ls => [.slice a0 n0 (n0 + k0), (rowV (lget ls 0) ((n0 : Int)).toNat 1), (rowV (lget ls 5) c0_1 1), (rowV (lget ls 4) gb0_0 1), .int .i64 ((gb0_0 : Int))]
def mk_flow_program_reached_L0_L1v11 : Ex_flow_program_reached_L0_L1v11 → List (Nat × Nat)
  | .e0 _ _ _ => [(1, 2), (2, 40), (2, 18)]
noncomputable def vf_flow_program_reached_L0_L1v11 (a0 : Option Addr) (p0 : Nat) (q0 : Nat) (n0 : Nat) (k0 : Nat) (A0 : Nat → Insn) (s0_0 : Nat → Bool) (s0_1 : Nat) (s0_2 : Nat → Int) (gb0_0 : Nat) (gb0_1 : Nat → Int) (rb1 : (Int) × (Bool)) (r : Ex_flow_program_reached_L0_L1v11) : List L1 → List Value := mrgF (mk_flow_program_reached_L0_L1v11 r) (vl_flow_program_reached_L0_L1v11 a0 p0 q0 n0 k0 A0 s0_0 s0_1 s0_2 gb0_0 gb0_1 rb1 r) 6
def Hf_flow_program_reached_L0_L1v11 (a0 : Option Addr) (p0 : Nat) (q0 : Nat) (n0 : Nat) (k0 : Nat) (A0 : Nat → Insn) (s0_0 : Nat → Bool) (s0_1 : Nat) (s0_2 : Nat → Int) (gb0_0 : Nat) (gb0_1 : Nat → Int) (rb1 : (Int) × (Bool)) : Ex_flow_program_reached_L0_L1v11 → List L1 → List Obj
  | .e0 c0_0 c0_1 c0_2, ls => [rowO (lget ls 0) (esG cB ((n0 : Int)).toNat c0_0) 4 ((n0 : Int)).toNat 1, unb, unb, unb, rowO (lget ls 4) (esG cZ gb0_0 gb0_1) 3 gb0_0 1, rowO (lget ls 5) (esG cZ c0_1 c0_2) 3 c0_1 1, unb]
def ex_flow_program_reached_L0_L1v11 : Ex_flow_program_reached_L0_L1v11 → Ex
  | .e0 _ _ _ => (.exit 2)
theorem go_flow_program_reached_L0_L1v11 (s0_0 : Nat → Bool) (s0_1 : Nat) (s0_2 : Nat → Int) (gb0_0 : Nat) (gb0_1 : Nat → Int) (rb1 : (Int) × (Bool)) (s : Sh_flow_program_reached_L0_L1v11) (r : Ex_flow_program_reached_L0_L1v11) (h : lpO (st_flow_program_reached_L0_L1v11 n0 gb0_0 gb0_1) s = some r) : GoesG Try.prog M B0 S (.loop bd_flow_program_reached_L0_L1v11) 7 (fr_flow_program_reached_L0_L1v11 a0 p0 q0 n0 k0 A0 s0_0 s0_1 s0_2 gb0_0 gb0_1 rb1 s) (Hs_flow_program_reached_L0_L1v11 a0 p0 q0 n0 k0 A0 s0_0 s0_1 s0_2 gb0_0 gb0_1 rb1 s) (ex_flow_program_reached_L0_L1v11 r) 5 (vf_flow_program_reached_L0_L1v11 a0 p0 q0 n0 k0 A0 s0_0 s0_1 s0_2 gb0_0 gb0_1 rb1 r) (Hf_flow_program_reached_L0_L1v11 a0 p0 q0 n0 k0 A0 s0_0 s0_1 s0_2 gb0_0 gb0_1 rb1 r) 7 :=
  goes_lpO (fun s q e => by
    cases s with
    | c0 sb0_0 sb0_1 sb0_2 sb0_3 =>
      unfold st_flow_program_reached_L0_L1v11 at e
      dsimp only at e
      replace e := cond_eq_or e
      rcases e with ⟨hq0, e⟩ | ⟨hq0, e⟩
      · replace e := cond_eq_or e
        rcases e with ⟨hq1, e⟩ | ⟨hq1, e⟩
        · replace e := cond_eq_or e
          let P1 : List (PG Try.prog M B0 S) := [.b (z_lssT hq0), .q (ixM_ok (kd := .i64) (T := 26) (x := sb0_3) (N := gb0_0) (sz := 1) rfl (fun w => by kernel_rfl) hq1), .l (accG (i := 4) (f := cZ) (A := gb0_1) (k := (sb0_3).toNat) 0 [.int .i64 ((gb0_1 (sb0_3).toNat))] cZ_len (inR_nat hq1) rfl), .o, .o, .o]
          rcases e with ⟨hq2, e⟩ | ⟨hq2, e⟩
          · replace e := cond_eq_or e
            let P2 : List (PG Try.prog M B0 S) := P1 ++ [.q (ixM_ok (kd := .i64) (T := 30) (x := (gb0_1 (sb0_3).toNat)) (N := ((n0 : Int)).toNat) (sz := 1) rfl (fun w => by kernel_rfl) hq2)]
            rcases e with ⟨hq3, e⟩ | ⟨hq3, e⟩
            · cases e; exact goes_runM hU (P2 ++ [.l (accG (i := 0) (f := cB) (A := sb0_0) (k := ((gb0_1 (sb0_3).toNat)).toNat) 0 [.bool true] cB_len (inR_nat hq2) (congrArg (fun b => [Value.bool b]) hq3)), .o, .o, .o]) [0, 1, 2, 3, 4, 5] (fun b => rfl) (by decide) rfl rfl (fun b => by kernel_rfl)
            · replace e := cond_eq_or e
              rcases e with ⟨hq4, e⟩ | ⟨hq4, e⟩
              · cases e; exact goes_runM hU (P2 ++ [.l (accG (i := 0) (f := cB) (A := sb0_0) (k := ((gb0_1 (sb0_3).toNat)).toNat) 0 [.bool false] cB_len (inR_nat hq2) (congrArg (fun b => [Value.bool b]) hq3)), .o, .o, .o, .q (ixM_ok (kd := .i64) (T := 30) (x := (gb0_1 (sb0_3).toNat)) (N := ((n0 : Int)).toNat) (sz := 1) rfl (fun w => by kernel_rfl) hq2), .x (sqStG_ok (T := 4) (e := 4) (f := cB) (A := sb0_0) (v := true) 0 (.bool true) cB_len cB_one rfl rfl (fun w => by kernel_rfl) (inR_nat hq2)) [0], .o, .o, .o, .x (sqAppL_ok (ty := 26) rt26 #[false, false] (f := cZ) (N := sb0_1) (A := sb0_2) (c := 1) [(gb0_1 (sb0_3).toNat)] (T' := 3) .row cZ_len cZ_one hq4 rfl (by decide)) [5, 7], .o, .o, .o]) [0, 1, 2, 3, 4, 8] (fun b => rfl) (by decide) rfl rfl (fun b => by kernel_rfl)
              · exact none_some e
          · exact none_some e
        · exact none_some e
      · cases e; exact ⟨ne_exit 2, goes_runM hU [.b (z_lssF hq0)] [0, 1, 2, 3, 4, 5] (fun b => rfl) (by decide) rfl rfl (fun b => by kernel_rfl)⟩) s r h
noncomputable def t0_flow_program_reached_L0_L1v11_0 (a0 : Option Addr) (p0 : Nat) (q0 : Nat) (n0 : Nat) (k0 : Nat) (A0 : Nat → Insn) (s0_0 : Nat → Bool) (s0_1 : Nat) (s0_2 : Nat → Int) (gb0_0 : Nat) (gb0_1 : Nat → Int) (rb1 : (Int) × (Bool)) (sb0_0 : Nat → Bool) (sb0_1 : Nat) (sb0_2 : Nat → Int) (sb0_3 : Int) (ls : List L1) : List Value := List.append [.slice a0 n0 (n0 + k0), ((lget ls 3).u 1), ((lget ls 3).u 2), (rowV (lget ls 0) ((n0 : Int)).toNat 1), (rowV (lget ls 5) sb0_1 1), .int .i64 ((s0_2 ((IntKind.i64.wrap ((s0_1 : Int) - 1))).toNat)), (rowV (lget ls 4) gb0_0 1), .int .i64 (rb1.1), .bool false] (List.append (jks (lget ls 3).u 9 8) (List.append [(rowV (lget ls 2) s0_1 1), .int .i64 ((s0_1 : Int)), .bool true, (rowV (lget ls 2) s0_1 1), (rowV (lget ls 2) s0_1 1), .int .i64 ((s0_1 : Int)), .int .i64 ((IntKind.i64.wrap ((s0_1 : Int) - 1))), .pointer (some ⟨(lget ls 2).n, 0 + ((IntKind.i64.wrap ((s0_1 : Int) - 1))).toNat * 1, none⟩), .int .i64 ((s0_2 ((IntKind.i64.wrap ((s0_1 : Int) - 1))).toNat)), (rowV (lget ls 2) s0_1 1), (rowV (lget ls 2) s0_1 1), .int .i64 ((s0_1 : Int)), .int .i64 ((IntKind.i64.wrap ((s0_1 : Int) - 1))), (rowV (lget ls 5) ((IntKind.i64.wrap ((s0_1 : Int) - 1))).toNat 1), .slice a0 n0 (n0 + k0), .int .i64 ((s0_2 ((IntKind.i64.wrap ((s0_1 : Int) - 1))).toNat)), (rowV (lget ls 4) gb0_0 1), .tuple #[.int .i64 (rb1.1), .bool (rb1.2)], .slice a0 n0 (n0 + k0), .int .i64 ((s0_2 ((IntKind.i64.wrap ((s0_1 : Int) - 1))).toNat)), .tuple #[.int .i64 (rb1.1), .bool (rb1.2)], .int .i64 (rb1.1), .bool false, .bool false] (List.append (jks (lget ls 3).u 41 4) (List.append [(rowV (lget ls 4) gb0_0 1), .int .i64 ((gb0_0 : Int)), .int .i64 (sb0_3)] (jks (lget ls 3).u 48 17)))))
def pre_flow_program_reached_L0_L1v11_0 (a0 : Option Addr) (p0 : Nat) (q0 : Nat) (n0 : Nat) (k0 : Nat) (A0 : Nat → Insn) (s0_0 : Nat → Bool) (s0_1 : Nat) (s0_2 : Nat → Int) (gb0_0 : Nat) (gb0_1 : Nat → Int) (rb1 : (Int) × (Bool)) (sb0_0 : Nat → Bool) (sb0_1 : Nat) (sb0_2 : Nat → Int) (sb0_3 : Int) (ls : List L1) : List Obj := [rowO (lget ls 0) (esG cB ((n0 : Int)).toNat sb0_0) 4 ((n0 : Int)).toNat 1, unb, unb, unb, rowO (lget ls 4) (esG cZ gb0_0 gb0_1) 3 gb0_0 1, rowO (lget ls 5) (esG cZ sb0_1 sb0_2) 3 sb0_1 1]
theorem sp0_flow_program_reached_L0_L1v11_0_ok (s0_0 : Nat → Bool) (s0_1 : Nat) (s0_2 : Nat → Int) (gb0_0 : Nat) (gb0_1 : Nat → Int) (rb1 : (Int) × (Bool)) (sb0_0 : Nat → Bool) (sb0_1 : Nat) (sb0_2 : Nat → Int) (sb0_3 : Int) (c0_0 : Nat → Bool) (c0_1 : Nat) (c0_2 : Nat → Int) (h : lpO (st_flow_program_reached_L0_L1v11 n0 gb0_0 gb0_1) (.c0 sb0_0 sb0_1 sb0_2 sb0_3) = some (.e0 c0_0 c0_1 c0_2)) : SpcG Try.prog M B0 S ⟨fun ls => .code (.loop bd_flow_program_reached_L0_L1v11) (t0_flow_program_reached_L0_L1v11_0 a0 p0 q0 n0 k0 A0 s0_0 s0_1 s0_2 gb0_0 gb0_1 rb1 sb0_0 sb0_1 sb0_2 sb0_3 ls), pre_flow_program_reached_L0_L1v11_0 a0 p0 q0 n0 k0 A0 s0_0 s0_1 s0_2 gb0_0 gb0_1 rb1 sb0_0 sb0_1 sb0_2 sb0_3, 2, (.exit 2), fun ls => vf_flow_program_reached_L0_L1v11 a0 p0 q0 n0 k0 A0 s0_0 s0_1 s0_2 gb0_0 gb0_1 rb1 (.e0 c0_0 c0_1 c0_2) (ls.take 5 ++ ls.drop 6), fun ls => (Hf_flow_program_reached_L0_L1v11 a0 p0 q0 n0 k0 A0 s0_0 s0_1 s0_2 gb0_0 gb0_1 rb1 (.e0 c0_0 c0_1 c0_2) (ls.take 5 ++ ls.drop 6)).take 5 ++ List.replicate 1 unb, fun ls => (Hf_flow_program_reached_L0_L1v11 a0 p0 q0 n0 k0 A0 s0_0 s0_1 s0_2 gb0_0 gb0_1 rb1 (.e0 c0_0 c0_1 c0_2) (ls.take 5 ++ ls.drop 6)).drop 5⟩ :=
  spc_of_goesM hU 0 (k0 := 6) (go_flow_program_reached_L0_L1v11 hU a0 p0 q0 n0 k0 A0 hR0 s0_0 s0_1 s0_2 gb0_0 gb0_1 rb1 _ _ h) (t0_flow_program_reached_L0_L1v11_0 a0 p0 q0 n0 k0 A0 s0_0 s0_1 s0_2 gb0_0 gb0_1 rb1 sb0_0 sb0_1 sb0_2 sb0_3) (pre_flow_program_reached_L0_L1v11_0 a0 p0 q0 n0 k0 A0 s0_0 s0_1 s0_2 gb0_0 gb0_1 rb1 sb0_0 sb0_1 sb0_2 sb0_3) (fun _ => rfl) (fun ls h => by match ls, h with | [l0, l1, l2, l3, l4, l5], _ => exact ⟨by kernel_rfl, by kernel_rfl⟩) (fun ls h => by match ls, h with | [l0, l1, l2, l3, l4, l5], _ => rfl) (by decide) (by decide) (fun ls => rfl)
inductive Sh_flow_program_reached_L0 where
  | c0 (s0_0 : Nat → Bool) (s0_1 : Nat) (s0_2 : Nat → Int)
inductive Ex_flow_program_reached_L0 where
  | e0 (c0_0 : Nat → Bool)
noncomputable def st_flow_program_reached_L0 (n0 : Nat) (A0 : Nat → Insn) : Sh_flow_program_reached_L0 → Option (Sh_flow_program_reached_L0 ⊕ Ex_flow_program_reached_L0)
  | .c0 s0_0 s0_1 s0_2 =>
    bif decide (0 < (s0_1 : Int)) then
      (bif inR (IntKind.i64.wrap ((s0_1 : Int) - 1)) s0_1 then
        (bif inR (IntKind.i64.wrap ((s0_1 : Int) - 1)) (s0_1 + 1) then
          (bif decide (s0_1 ≤ 1000000) then
            ((m_flow_program_next n0 A0 (s0_2 ((IntKind.i64.wrap ((s0_1 : Int) - 1))).toNat)).bind fun gb0 => match gb0 with
            | .e0  => ((m_flow_program_named n0 A0 (s0_2 ((IntKind.i64.wrap ((s0_1 : Int) - 1))).toNat)).bind fun rb1 =>
              bif rb1.2 then
                ((lpO (st_flow_program_reached_L0_L1v9 n0 rb1) (.c0 s0_0 ((IntKind.i64.wrap ((s0_1 : Int) - 1))).toNat s0_2 0)).bind fun gb2 => match gb2 with
                | .e0 gb2_0 gb2_1 gb2_2 gb2_3 =>
                some (.inl (.c0 gb2_0 gb2_2 gb2_3)))
              else (some (.inl (.c0 s0_0 ((IntKind.i64.wrap ((s0_1 : Int) - 1))).toNat s0_2))))
            | .e1 gb0_0 gb0_1 => ((m_flow_program_named n0 A0 (s0_2 ((IntKind.i64.wrap ((s0_1 : Int) - 1))).toNat)).bind fun rb1 =>
              bif rb1.2 then
                (bif decide (gb0_0 ≤ 1000000) then
                  ((lpO (st_flow_program_reached_L0_L1v10 n0 gb0_0 gb0_1 rb1) (.c0 s0_0 ((IntKind.i64.wrap ((s0_1 : Int) - 1))).toNat s0_2 0)).bind fun gb2 => match gb2 with
                  | .e0 gb2_0 gb2_1 gb2_2 gb2_3 =>
                  some (.inl (.c0 gb2_0 gb2_2 gb2_3)))
                else (none))
              else ((lpO (st_flow_program_reached_L0_L1v11 n0 gb0_0 gb0_1) (.c0 s0_0 ((IntKind.i64.wrap ((s0_1 : Int) - 1))).toNat s0_2 0)).bind fun gb2 => match gb2 with
              | .e0 gb2_0 gb2_1 gb2_2 =>
              some (.inl (.c0 gb2_0 gb2_1 gb2_2)))))
          else (none))
        else (none))
      else (none))
    else (some (.inr (.e0 s0_0)))
noncomputable def bd_flow_program_reached_L0 : Code := codeOf Try.f42 [1, 1, 1, 1, 0, 0, 0]
def fl_flow_program_reached_L0 (a0 : Option Addr) (p0 : Nat) (q0 : Nat) (n0 : Nat) (k0 : Nat) (A0 : Nat → Insn) : Sh_flow_program_reached_L0 → List L1 → List Value
  | .c0 s0_0 s0_1 s0_2, ls => [.slice a0 n0 (n0 + k0), (rowV (lget ls 0) ((n0 : Int)).toNat 1), (rowV (lget ls 2) s0_1 1)]
def mf_flow_program_reached_L0 : Sh_flow_program_reached_L0 → List (Nat × Nat)
  | .c0 _ _ _ => [(1, 2), (2, 60)]
noncomputable def fr_flow_program_reached_L0 (a0 : Option Addr) (p0 : Nat) (q0 : Nat) (n0 : Nat) (k0 : Nat) (A0 : Nat → Insn) (s : Sh_flow_program_reached_L0) : List L1 → List Value := mrgF (mf_flow_program_reached_L0 s) (fl_flow_program_reached_L0 a0 p0 q0 n0 k0 A0 s) 3
def Hs_flow_program_reached_L0 (a0 : Option Addr) (p0 : Nat) (q0 : Nat) (n0 : Nat) (k0 : Nat) (A0 : Nat → Insn) : Sh_flow_program_reached_L0 → List L1 → List Obj
  | .c0 s0_0 s0_1 s0_2, ls => [rowO (lget ls 0) (esG cB ((n0 : Int)).toNat s0_0) 4 ((n0 : Int)).toNat 1, unb, rowO (lget ls 2) (esG cZ s0_1 s0_2) 3 s0_1 1, unb]
def vl_flow_program_reached_L0 (a0 : Option Addr) (p0 : Nat) (q0 : Nat) (n0 : Nat) (k0 : Nat) (A0 : Nat → Insn) : Ex_flow_program_reached_L0 → List L1 → List Value
  | .e0 c0_0, ls => [.slice a0 n0 (n0 + k0), (rowV (lget ls 0) ((n0 : Int)).toNat 1)]
def mk_flow_program_reached_L0 : Ex_flow_program_reached_L0 → List (Nat × Nat)
  | .e0 _ => [(1, 2), (1, 61)]
noncomputable def vf_flow_program_reached_L0 (a0 : Option Addr) (p0 : Nat) (q0 : Nat) (n0 : Nat) (k0 : Nat) (A0 : Nat → Insn) (r : Ex_flow_program_reached_L0) : List L1 → List Value := mrgF (mk_flow_program_reached_L0 r) (vl_flow_program_reached_L0 a0 p0 q0 n0 k0 A0 r) 3
def Hf_flow_program_reached_L0 (a0 : Option Addr) (p0 : Nat) (q0 : Nat) (n0 : Nat) (k0 : Nat) (A0 : Nat → Insn) : Ex_flow_program_reached_L0 → List L1 → List Obj
  | .e0 c0_0, ls => [rowO (lget ls 0) (esG cB ((n0 : Int)).toNat c0_0) 4 ((n0 : Int)).toNat 1, unb, unb, unb]
def ex_flow_program_reached_L0 : Ex_flow_program_reached_L0 → Ex
  | .e0 _ => (.exit 0)
theorem go_flow_program_reached_L0 (s : Sh_flow_program_reached_L0) (r : Ex_flow_program_reached_L0) (h : lpO (st_flow_program_reached_L0 n0 A0) s = some r) : GoesG Try.prog M B0 S (.loop bd_flow_program_reached_L0) 4 (fr_flow_program_reached_L0 a0 p0 q0 n0 k0 A0 s) (Hs_flow_program_reached_L0 a0 p0 q0 n0 k0 A0 s) (ex_flow_program_reached_L0 r) 2 (vf_flow_program_reached_L0 a0 p0 q0 n0 k0 A0 r) (Hf_flow_program_reached_L0 a0 p0 q0 n0 k0 A0 r) 4 :=
  goes_lpO (fun s q e => by
    cases s with
    | c0 s0_0 s0_1 s0_2 =>
      unfold st_flow_program_reached_L0 at e
      dsimp only at e
      replace e := cond_eq_or e
      rcases e with ⟨hq0, e⟩ | ⟨hq0, e⟩
      · replace e := cond_eq_or e
        let P1 : List (PG Try.prog M B0 S) := [.o, .o, .b (z_gtrT hq0), .o, .o, .o, .o]
        rcases e with ⟨hq1, e⟩ | ⟨hq1, e⟩
        · replace e := cond_eq_or e
          let P2 : List (PG Try.prog M B0 S) := P1 ++ [.q (ixM_ok (kd := .i64) (T := 26) (x := (IntKind.i64.wrap ((s0_1 : Int) - 1))) (N := s0_1) (sz := 1) rfl (fun w => by kernel_rfl) hq1), .l (accG (i := 2) (f := cZ) (A := s0_2) (k := ((IntKind.i64.wrap ((s0_1 : Int) - 1))).toNat) 0 [.int .i64 ((s0_2 ((IntKind.i64.wrap ((s0_1 : Int) - 1))).toNat))] cZ_len (inR_nat hq1) rfl), .o, .o, .o, .o, .o]
          rcases e with ⟨hq2, e⟩ | ⟨hq2, e⟩
          · replace e := cond_eq_or e
            rcases e with ⟨hq3, e⟩ | ⟨hq3, e⟩
            · replace e := bindO_eq e
              obtain ⟨gb0, e_gb0, e⟩ := e
              let P3 : List (PG Try.prog M B0 S) := P2 ++ [.x (sqShr_ok rt26 (f := cZ) (N := s0_1) (A := s0_2) (x := (IntKind.i64.wrap ((s0_1 : Int) - 1))) cZ_len (fun w => by kernel_rfl) hq2 hq3) [2], .o, .o, .o]
              rcases gb0 with _ | ⟨gb0_0, gb0_1⟩
              · try dsimp only at e
                replace e := bindO_eq e
                obtain ⟨rb1, e_rb1, e⟩ := e
                try dsimp only at e
                replace e := cond_eq_or e
                let P4 : List (PG Try.prog M B0 S) := P3 ++ [.xg (ok0_flow_program_next hU a0 p0 q0 n0 k0 A0 hR0 (s0_2 ((IntKind.i64.wrap ((s0_1 : Int) - 1))).toNat)  e_gb0) [], .o, .o, .o, .cg (ok_flow_program_named hU a0 p0 q0 n0 k0 A0 hR0 (s0_2 ((IntKind.i64.wrap ((s0_1 : Int) - 1))).toNat) rb1 e_rb1), .o, .o]
                rcases e with ⟨hq4, e⟩ | ⟨hq4, e⟩
                · replace e := bindO_eq e
                  obtain ⟨gb2, e_gb2, e⟩ := e
                  obtain ⟨gb2_0, gb2_1, gb2_2, gb2_3⟩ := gb2
                  try dsimp only at e
                  cases e; exact goes_runM hU (P4 ++ [.b hq4, .o, .o, .o, .o, .o, .o, .x (sqAppL1_ok (ty := 26) rt26 #[false, false] (f := cZ) (c := 1) rb1.1 (T' := 3) cZ_len cZ_one (by decide)) [5], .o, .o, .o, .o, .cp, .cx (sp0_flow_program_reached_L0_L1v9_0_ok hU a0 p0 q0 n0 k0 A0 hR0 s0_0 s0_1 s0_2 rb1 s0_0 ((IntKind.i64.wrap ((s0_1 : Int) - 1))).toNat s0_2 0 gb2_0 gb2_1 gb2_2 gb2_3 e_gb2) [0, 1, 2, 3, 5, 6, 4]]) [0, 1, 7] (fun b => rfl) (by decide) rfl rfl (fun b => by kernel_rfl)
                · cases e; exact goes_runM hU (P4 ++ [.b hq4, .o, .o, .o, .o, .o, .o, .o]) [0, 1, 4] (fun b => rfl) (by decide) rfl rfl (fun b => by kernel_rfl)
              · try dsimp only at e
                replace e := bindO_eq e
                obtain ⟨rb1, e_rb1, e⟩ := e
                try dsimp only at e
                replace e := cond_eq_or e
                let P5 : List (PG Try.prog M B0 S) := P3 ++ [.xg (ok1_flow_program_next hU a0 p0 q0 n0 k0 A0 hR0 (s0_2 ((IntKind.i64.wrap ((s0_1 : Int) - 1))).toNat) gb0_0 gb0_1 e_gb0) [], .o, .o, .o, .cg (ok_flow_program_named hU a0 p0 q0 n0 k0 A0 hR0 (s0_2 ((IntKind.i64.wrap ((s0_1 : Int) - 1))).toNat) rb1 e_rb1), .o, .o]
                rcases e with ⟨hq4, e⟩ | ⟨hq4, e⟩
                · replace e := cond_eq_or e
                  rcases e with ⟨hq5, e⟩ | ⟨hq5, e⟩
                  · replace e := bindO_eq e
                    obtain ⟨gb2, e_gb2, e⟩ := e
                    obtain ⟨gb2_0, gb2_1, gb2_2, gb2_3⟩ := gb2
                    try dsimp only at e
                    cases e; exact goes_runM hU (P5 ++ [.b hq4, .o, .o, .o, .o, .o, .o, .x (sqAppL_ok (ty := 26) rt26 #[false, false] (f := cZ) (N := gb0_0) (A := gb0_1) (c := 1) [rb1.1] (T' := 3) .row cZ_len cZ_one hq5 rfl (by decide)) [5, 6], .o, .o, .o, .o, .cp, .cx (sp0_flow_program_reached_L0_L1v10_0_ok hU a0 p0 q0 n0 k0 A0 hR0 s0_0 s0_1 s0_2 gb0_0 gb0_1 rb1 s0_0 ((IntKind.i64.wrap ((s0_1 : Int) - 1))).toNat s0_2 0 gb2_0 gb2_1 gb2_2 gb2_3 e_gb2) [0, 1, 2, 3, 5, 6, 7, 4]]) [0, 1, 8] (fun b => rfl) (by decide) rfl rfl (fun b => by kernel_rfl)
                  · exact none_some e
                · replace e := bindO_eq e
                  obtain ⟨gb2, e_gb2, e⟩ := e
                  obtain ⟨gb2_0, gb2_1, gb2_2⟩ := gb2
                  try dsimp only at e
                  cases e; exact goes_runM hU (P5 ++ [.b hq4, .o, .o, .o, .o, .o, .o, .cp, .cx (sp0_flow_program_reached_L0_L1v11_0_ok hU a0 p0 q0 n0 k0 A0 hR0 s0_0 s0_1 s0_2 gb0_0 gb0_1 rb1 s0_0 ((IntKind.i64.wrap ((s0_1 : Int) - 1))).toNat s0_2 0 gb2_0 gb2_1 gb2_2 e_gb2) [0, 1, 2, 3, 5, 4]]) [0, 1, 6] (fun b => rfl) (by decide) rfl rfl (fun b => by kernel_rfl)
            · exact none_some e
          · exact none_some e
        · exact none_some e
      · cases e; exact ⟨ne_exit 0, goes_runM hU [.o, .o, .b (z_gtrF hq0)] [0, 1, 3] (fun b => rfl) (by decide) rfl rfl (fun b => by kernel_rfl)⟩) s r h
noncomputable def t0_flow_program_reached_L0_0 (a0 : Option Addr) (p0 : Nat) (q0 : Nat) (n0 : Nat) (k0 : Nat) (A0 : Nat → Insn) (s0_0 : Nat → Bool) (s0_1 : Nat) (s0_2 : Nat → Int) (ls : List L1) : List Value := List.append [.slice a0 n0 (n0 + k0), undef, .slice none 0 0, (rowV (lget ls 0) ((n0 : Int)).toNat 1), (rowV (lget ls 2) s0_1 1)] (List.append (und 6) (List.append [.slice a0 n0 (n0 + k0), .int .i64 ((n0 : Int)), (rowV (lget ls 0) ((n0 : Int)).toNat 1), (rowV (lget ls 0) ((n0 : Int)).toNat 1), .pointer (some ⟨(lget ls 0).n, 0 + 0 * 1, none⟩), .slice (some ⟨(lget ls 1).n, 0, none⟩) 1 1] (und 48)))
def pre_flow_program_reached_L0_0 (a0 : Option Addr) (p0 : Nat) (q0 : Nat) (n0 : Nat) (k0 : Nat) (A0 : Nat → Insn) (s0_0 : Nat → Bool) (s0_1 : Nat) (s0_2 : Nat → Int) (ls : List L1) : List Obj := [rowO (lget ls 0) (esG cB ((n0 : Int)).toNat s0_0) 4 ((n0 : Int)).toNat 1, unb, rowO (lget ls 2) (esG cZ s0_1 s0_2) 3 s0_1 1]
theorem sp0_flow_program_reached_L0_0_ok (s0_0 : Nat → Bool) (s0_1 : Nat) (s0_2 : Nat → Int) (c0_0 : Nat → Bool) (h : lpO (st_flow_program_reached_L0 n0 A0) (.c0 s0_0 s0_1 s0_2) = some (.e0 c0_0)) : SpcG Try.prog M B0 S ⟨fun ls => .code (.loop bd_flow_program_reached_L0) (t0_flow_program_reached_L0_0 a0 p0 q0 n0 k0 A0 s0_0 s0_1 s0_2 ls), pre_flow_program_reached_L0_0 a0 p0 q0 n0 k0 A0 s0_0 s0_1 s0_2, 2, (.exit 0), fun ls => vf_flow_program_reached_L0 a0 p0 q0 n0 k0 A0 (.e0 c0_0) (ls.take 2 ++ ls.drop 3), fun ls => (Hf_flow_program_reached_L0 a0 p0 q0 n0 k0 A0 (.e0 c0_0) (ls.take 2 ++ ls.drop 3)).take 2 ++ List.replicate 1 unb, fun ls => (Hf_flow_program_reached_L0 a0 p0 q0 n0 k0 A0 (.e0 c0_0) (ls.take 2 ++ ls.drop 3)).drop 2⟩ :=
  spc_of_goesM hU 0 (k0 := 3) (go_flow_program_reached_L0 hU a0 p0 q0 n0 k0 A0 hR0 _ _ h) (t0_flow_program_reached_L0_0 a0 p0 q0 n0 k0 A0 s0_0 s0_1 s0_2) (pre_flow_program_reached_L0_0 a0 p0 q0 n0 k0 A0 s0_0 s0_1 s0_2) (fun _ => rfl) (fun ls h => by match ls, h with | [l0, l1, l2], _ => exact ⟨by kernel_rfl, by kernel_rfl⟩) (fun ls h => by match ls, h with | [l0, l1, l2], _ => rfl) (by decide) (by decide) (fun ls => rfl)
inductive R_flow_program_reached where
  | e0 (c0_0 : Nat → Bool)
noncomputable def m_flow_program_reached (n0 : Nat) (A0 : Nat → Insn) : Option R_flow_program_reached :=
  bif inR (n0 : Int) 1000001 then
    (bif inR 0 ((n0 : Int)).toNat then
      ((lpO (st_flow_program_reached_L0 n0 A0) (.c0 (updF (fun _ => false) 0 true) 1 (fun _ => 0))).bind fun g0 => match g0 with
      | .e0 g0_0 =>
      some (.e0 g0_0))
    else (none))
  else (none)
def sq0_flow_program_reached (a0 : Option Addr) (p0 : Nat) (q0 : Nat) (n0 : Nat) (k0 : Nat) (A0 : Nat → Insn) (c0_0 : Nat → Bool) : Spc := ⟨fun ls => .call 42 #[.slice a0 n0 (n0 + k0)], fun ls => [], 1, .normal, fun ls => [(rowV (lget ls 0) ((n0 : Int)).toNat 1)], fun ls => [], fun ls => [rowO (lget ls 0) (esG cB ((n0 : Int)).toNat c0_0) 4 ((n0 : Int)).toNat 1]⟩
theorem ok0_flow_program_reached (c0_0 : Nat → Bool) (e : m_flow_program_reached n0 A0 = some (.e0 c0_0)) : SpcG Try.prog M B0 S (sq0_flow_program_reached a0 p0 q0 n0 k0 A0 c0_0) := by
  unfold m_flow_program_reached at e
  replace e := cond_eq_or e
  rcases e with ⟨hq0, e⟩ | ⟨hq0, e⟩
  · replace e := cond_eq_or e
    rcases e with ⟨hq1, e⟩ | ⟨hq1, e⟩
    · replace e := bindO_eq e
      obtain ⟨g0, e_g0, e⟩ := e
      obtain ⟨g0_0⟩ := g0
      try dsimp only at e
      injection e with e; injection e with i0; subst i0; exact fn_specG hU (P := Try.prog) Try.func42 (fun xs w => by kernel_rfl) 0 _ _ (fun _ => rfl) _ _ _ [0] [.o, .o, .o, .x (sqMkZ_ok rt30 (f := cB) (x := (n0 : Int)) (a0 := false) cB_len (by kernel_rfl) hq0 (by decide)) [], .o, .o, .q (ixM_ok (kd := .i64) (T := 30) (x := 0) (N := ((n0 : Int)).toNat) (sz := 1) rfl (fun w => by kernel_rfl) hq1), .x (sqStG_ok (T := 4) (e := 4) (f := cB) (A := (fun _ => false)) (v := true) 0 (.bool true) cB_len cB_one rfl rfl (fun w => by kernel_rfl) (inR_nat hq1)) [0], .o, .x (litRow_ok (es := esG cZ 1 (fun _ => 0)) (e := 3) (n := 1) (sz := 1)) [1], .cp, .cx (sp0_flow_program_reached_L0_0_ok hU a0 p0 q0 n0 k0 A0 hR0 (updF (fun _ => false) 0 true) 1 (fun _ => 0) g0_0 e_g0) [0, 1, 2], .o, .o] [] (fun b => by kernel_rfl)
    · exact none_some e
  · exact none_some e
inductive R_flow_Reached where
  | e0 (c0_0 : Nat → Bool)
noncomputable def m_flow_Reached (n0 : Nat) (A0 : Nat → Insn) : Option R_flow_Reached :=
  (m_insn_Check n0 A0).bind fun r0 =>
  bif r0.2 == 0 then
    ((m_flow_program_reached n0 A0).bind fun g1 => match g1 with
    | .e0 g1_0 =>
    some (.e0 g1_0))
  else (none)
def sq0_flow_Reached (a0 : Option Addr) (p0 : Nat) (q0 : Nat) (n0 : Nat) (k0 : Nat) (A0 : Nat → Insn) (c0_0 : Nat → Bool) : Spc := ⟨fun ls => .call 29 #[.slice a0 n0 (n0 + k0)], fun ls => [], 1, .normal, fun ls => [.tuple #[(rowV (lget ls 0) ((n0 : Int)).toNat 1), .int .i64 (0)]], fun ls => [], fun ls => [rowO (lget ls 0) (esG cB ((n0 : Int)).toNat c0_0) 4 ((n0 : Int)).toNat 1]⟩
theorem ok0_flow_Reached (c0_0 : Nat → Bool) (e : m_flow_Reached n0 A0 = some (.e0 c0_0)) : SpcG Try.prog M B0 S (sq0_flow_Reached a0 p0 q0 n0 k0 A0 c0_0) := by
  unfold m_flow_Reached at e
  replace e := bindO_eq e
  obtain ⟨r0, e_r0, e⟩ := e
  try dsimp only at e
  replace e := cond_eq_or e
  rcases e with ⟨hq0, e⟩ | ⟨hq0, e⟩
  · replace e := bindO_eq e
    obtain ⟨g1, e_g1, e⟩ := e
    obtain ⟨g1_0⟩ := g1
    try dsimp only at e
    injection e with e; injection e with i0; subst i0; exact fn_specG hU (P := Try.prog) Try.func29 (fun xs w => by kernel_rfl) 0 _ _ (fun _ => rfl) _ _ _ [0] [.o, .o, .o, .cg (ok_insn_Check hU a0 p0 q0 n0 k0 A0 hR0 r0 e_r0), .o, .o, .o, .o, .o, .o, .b (z_neqT hq0), .o, .xg (ok0_flow_program_reached hU a0 p0 q0 n0 k0 A0 hR0 g1_0 e_g1) [], .o, .o] [] (fun b => by kernel_rfl)
  · exact none_some e
end

end Go.Proofs.Ytnoflelhkgdebaa


