/-
  Instructions: what the program says of one slot, on.
-/
import Derived.Test.YtdgehbjiphahhaaS1A
namespace Go.Proofs.Ytdgehbjiphahhaa
open Go.RowKit
set_option linter.unusedVariables false
set_option linter.unusedSimpArgs false
set_option linter.unusedSectionVars false
set_option maxRecDepth 100000
set_option maxHeartbeats 4000000
noncomputable def m_insn_names (y0 : Insn) : Bool :=
  bif y0.fOp == 24#8 then
    ((y0.fSrc == 4#8))
  else (bif y0.fOp == 133#8 then
    ((y0.fSrc == 1#8))
  else (false))
section
variable {M : Nat → Prop} {B0 : Nat} {S : World → Prop} (hU : Up M B0 S) (y0 : Insn) (r : Bool)
include hU y0 r
theorem ok_insn_names (e : m_insn_names y0 = r) : ConG Try.prog S 61 #[(v_Insn y0)] (.bool (r)) := by
  unfold m_insn_names at e
  replace e := cond_eq_or e
  rcases e with ⟨hq0, e⟩ | ⟨hq0, e⟩
  · subst e; exact fn_conG hU (P := Try.prog) Try.func61 (fun xs w => by kernel_rfl) _ _ [.o, .o, .o, .a 0, .t (u_eq y0.fOp (24#8)) hq0, .o, .o, .a 0, .t (u_eq y0.fSrc (4#8)) rfl, .o] [] (fun b => by kernel_rfl)
  · replace e := cond_eq_or e
    rcases e with ⟨hq1, e⟩ | ⟨hq1, e⟩
    · subst e; exact fn_conG hU (P := Try.prog) Try.func61 (fun xs w => by kernel_rfl) _ _ [.o, .o, .o, .a 0, .t (u_eq y0.fOp (24#8)) hq0, .o, .t (u_eq y0.fOp (133#8)) hq1, .o, .o, .a 0, .t (u_eq y0.fSrc (1#8)) rfl, .o] [] (fun b => by kernel_rfl)
    · subst e; exact fn_conG hU (P := Try.prog) Try.func61 (fun xs w => by kernel_rfl) _ _ [.o, .o, .o, .a 0, .t (u_eq y0.fOp (24#8)) hq0, .o, .t (u_eq y0.fOp (133#8)) hq1, .o, .o] [] (fun b => by kernel_rfl)
noncomputable def m_op_Jumps (y0 : Insn) : Bool :=
  bif (y0.fOp &&& 7#8) == 5#8 then
    (bif y0.fOp == 133#8 then
      (false)
    else ((!(y0.fOp == 149#8))))
  else (bif (y0.fOp &&& 7#8) == 6#8 then
    (true)
  else (false))
theorem ok_op_Jumps (e : m_op_Jumps y0 = r) : ConG Try.prog S 54 #[(v_Insn y0)] (.bool (r)) := by
  unfold m_op_Jumps at e
  replace e := cond_eq_or e
  let P1 : List (PG Try.prog M B0 S) := [.o, .o, .o, .a 0, .v .u8 (u8_and y0.fOp (7#8))]
  rcases e with ⟨hq0, e⟩ | ⟨hq0, e⟩
  · replace e := cond_eq_or e
    rcases e with ⟨hq1, e⟩ | ⟨hq1, e⟩
    · subst e; exact fn_conG hU (P := Try.prog) Try.func54 (fun xs w => by kernel_rfl) _ _ (P1 ++ [.t (u_eq (y0.fOp &&& 7#8) (5#8)) hq0, .o, .o, .a 0, .tn (u_ne y0.fOp (133#8)) hq1, .o, .o, .o]) [] (fun b => by kernel_rfl)
    · subst e; exact fn_conG hU (P := Try.prog) Try.func54 (fun xs w => by kernel_rfl) _ _ (P1 ++ [.t (u_eq (y0.fOp &&& 7#8) (5#8)) hq0, .o, .o, .a 0, .tn (u_ne y0.fOp (133#8)) hq1, .o, .o, .a 0, .tn (u_ne y0.fOp (149#8)) rfl, .o, .o]) [] (fun b => by kernel_rfl)
  · replace e := cond_eq_or e
    rcases e with ⟨hq1, e⟩ | ⟨hq1, e⟩
    · subst e; exact fn_conG hU (P := Try.prog) Try.func54 (fun xs w => by kernel_rfl) _ _ (P1 ++ [.t (u_eq (y0.fOp &&& 7#8) (5#8)) hq0, .o, .t (u_eq (y0.fOp &&& 7#8) (6#8)) hq1, .o, .o]) [] (fun b => by kernel_rfl)
    · subst e; exact fn_conG hU (P := Try.prog) Try.func54 (fun xs w => by kernel_rfl) _ _ (P1 ++ [.t (u_eq (y0.fOp &&& 7#8) (5#8)) hq0, .o, .t (u_eq (y0.fOp &&& 7#8) (6#8)) hq1, .o, .o]) [] (fun b => by kernel_rfl)
noncomputable def m_insn_writes (y0 : Insn) : Bool :=
  bif (y0.fOp &&& 7#8) == 0#8 then
    (true)
  else (bif (y0.fOp &&& 7#8) == 1#8 then
    (true)
  else (bif (y0.fOp &&& 7#8) == 4#8 then
    (true)
  else (bif (y0.fOp &&& 7#8) == 7#8 then
    (true)
  else (false))))
theorem ok_insn_writes (e : m_insn_writes y0 = r) : ConG Try.prog S 70 #[(v_Insn y0)] (.bool (r)) := by
  unfold m_insn_writes at e
  replace e := cond_eq_or e
  let P1 : List (PG Try.prog M B0 S) := [.o, .o, .o, .a 0, .v .u8 (u8_and y0.fOp (7#8))]
  rcases e with ⟨hq0, e⟩ | ⟨hq0, e⟩
  · subst e; exact fn_conG hU (P := Try.prog) Try.func70 (fun xs w => by kernel_rfl) _ _ (P1 ++ [.t (u_eq (y0.fOp &&& 7#8) (0#8)) hq0, .o, .o]) [] (fun b => by kernel_rfl)
  · replace e := cond_eq_or e
    let P2 : List (PG Try.prog M B0 S) := P1 ++ [.t (u_eq (y0.fOp &&& 7#8) (0#8)) hq0, .o]
    rcases e with ⟨hq1, e⟩ | ⟨hq1, e⟩
    · subst e; exact fn_conG hU (P := Try.prog) Try.func70 (fun xs w => by kernel_rfl) _ _ (P2 ++ [.t (u_eq (y0.fOp &&& 7#8) (1#8)) hq1, .o, .o]) [] (fun b => by kernel_rfl)
    · replace e := cond_eq_or e
      rcases e with ⟨hq2, e⟩ | ⟨hq2, e⟩
      · subst e; exact fn_conG hU (P := Try.prog) Try.func70 (fun xs w => by kernel_rfl) _ _ (P2 ++ [.t (u_eq (y0.fOp &&& 7#8) (1#8)) hq1, .o, .t (u_eq (y0.fOp &&& 7#8) (4#8)) hq2, .o, .o]) [] (fun b => by kernel_rfl)
      · replace e := cond_eq_or e
        rcases e with ⟨hq3, e⟩ | ⟨hq3, e⟩
        · subst e; exact fn_conG hU (P := Try.prog) Try.func70 (fun xs w => by kernel_rfl) _ _ (P2 ++ [.t (u_eq (y0.fOp &&& 7#8) (1#8)) hq1, .o, .t (u_eq (y0.fOp &&& 7#8) (4#8)) hq2, .o, .t (u_eq (y0.fOp &&& 7#8) (7#8)) hq3, .o, .o]) [] (fun b => by kernel_rfl)
        · subst e; exact fn_conG hU (P := Try.prog) Try.func70 (fun xs w => by kernel_rfl) _ _ (P2 ++ [.t (u_eq (y0.fOp &&& 7#8) (1#8)) hq1, .o, .t (u_eq (y0.fOp &&& 7#8) (4#8)) hq2, .o, .t (u_eq (y0.fOp &&& 7#8) (7#8)) hq3, .o, .o]) [] (fun b => by kernel_rfl)
inductive Sh_op_IsSecond_L0 where
  | c0 (s0_0 : Int)
inductive Ex_op_IsSecond_L0 where
  | e0 (c0_0 : Int)
noncomputable def st_op_IsSecond_L0 (n0 : Nat) (A0 : Nat → Insn) : Sh_op_IsSecond_L0 → Option (Sh_op_IsSecond_L0 ⊕ Ex_op_IsSecond_L0)
  | .c0 s0_0 =>
    bif decide (0 < s0_0) then
      (bif inR (IntKind.i64.wrap (s0_0 - 1)) n0 then
        (bif ((A0 ((IntKind.i64.wrap (s0_0 - 1))).toNat)).fOp == 24#8 then
          (some (.inl (.c0 (IntKind.i64.wrap (s0_0 - 1)))))
        else (some (.inr (.e0 s0_0))))
      else (none))
    else (some (.inr (.e0 s0_0)))
noncomputable def bd_op_IsSecond_L0 : Code := codeOf Try.f55 [1, 1, 0, 0, 0]
def fl_op_IsSecond_L0 (a0 : Option Addr) (p0 : Nat) (q0 : Nat) (n0 : Nat) (k0 : Nat) (A0 : Nat → Insn) (y1 : Int) : Sh_op_IsSecond_L0 → List L1 → List Value
  | .c0 s0_0, ls => [.slice a0 n0 (n0 + k0), .int .i64 (y1), .int .i64 (s0_0)]
def mf_op_IsSecond_L0 : Sh_op_IsSecond_L0 → List (Nat × Nat)
  | .c0 _ => [(2, 3), (1, 19)]
noncomputable def fr_op_IsSecond_L0 (a0 : Option Addr) (p0 : Nat) (q0 : Nat) (n0 : Nat) (k0 : Nat) (A0 : Nat → Insn) (y1 : Int) (s : Sh_op_IsSecond_L0) : List L1 → List Value := mrgF (mf_op_IsSecond_L0 s) (fl_op_IsSecond_L0 a0 p0 q0 n0 k0 A0 y1 s) 0
def Hs_op_IsSecond_L0 (a0 : Option Addr) (p0 : Nat) (q0 : Nat) (n0 : Nat) (k0 : Nat) (A0 : Nat → Insn) (y1 : Int) : Sh_op_IsSecond_L0 → List L1 → List Obj
  | .c0 s0_0, ls => [unb]
def vl_op_IsSecond_L0 (a0 : Option Addr) (p0 : Nat) (q0 : Nat) (n0 : Nat) (k0 : Nat) (A0 : Nat → Insn) (y1 : Int) : Ex_op_IsSecond_L0 → List L1 → List Value
  | .e0 c0_0, ls => [.slice a0 n0 (n0 + k0), .int .i64 (y1), .int .i64 (c0_0)]
def mk_op_IsSecond_L0 : Ex_op_IsSecond_L0 → List (Nat × Nat)
  | .e0 _ => [(2, 3), (1, 19)]
noncomputable def vf_op_IsSecond_L0 (a0 : Option Addr) (p0 : Nat) (q0 : Nat) (n0 : Nat) (k0 : Nat) (A0 : Nat → Insn) (y1 : Int) (r : Ex_op_IsSecond_L0) : List L1 → List Value := mrgF (mk_op_IsSecond_L0 r) (vl_op_IsSecond_L0 a0 p0 q0 n0 k0 A0 y1 r) 0
def Hf_op_IsSecond_L0 (a0 : Option Addr) (p0 : Nat) (q0 : Nat) (n0 : Nat) (k0 : Nat) (A0 : Nat → Insn) (y1 : Int) : Ex_op_IsSecond_L0 → List L1 → List Obj
  | .e0 c0_0, ls => [unb]
def ex_op_IsSecond_L0 : Ex_op_IsSecond_L0 → Ex
  | .e0 _ => (.exit 0)
end
section
variable {M : Nat → Prop} {B0 : Nat} {S : World → Prop} (hU : Up M B0 S) (a0 : Option Addr) (p0 : Nat) (q0 : Nat) (n0 : Nat) (k0 : Nat) (A0 : Nat → Insn) (hR0 : Ro S c_Insn 5 a0 p0 q0 n0 A0) (y1 : Int)
include hU a0 p0 q0 n0 k0 A0 hR0 y1
theorem go_op_IsSecond_L0 (s : Sh_op_IsSecond_L0) (r : Ex_op_IsSecond_L0) (h : lpO (st_op_IsSecond_L0 n0 A0) s = some r) : GoesG Try.prog M B0 S (.loop bd_op_IsSecond_L0) 1 (fr_op_IsSecond_L0 a0 p0 q0 n0 k0 A0 y1 s) (Hs_op_IsSecond_L0 a0 p0 q0 n0 k0 A0 y1 s) (ex_op_IsSecond_L0 r) 0 (vf_op_IsSecond_L0 a0 p0 q0 n0 k0 A0 y1 r) (Hf_op_IsSecond_L0 a0 p0 q0 n0 k0 A0 y1 r) 1 :=
  goes_lpO (fun s q e => by
    cases s with
    | c0 s0_0 =>
      unfold st_op_IsSecond_L0 at e
      dsimp only at e
      replace e := cond_eq_or e
      rcases e with ⟨hq0, e⟩ | ⟨hq0, e⟩
      · replace e := cond_eq_or e
        rcases e with ⟨hq1, e⟩ | ⟨hq1, e⟩
        · replace e := cond_eq_or e
          let P1 : List (PG Try.prog M B0 S) := [.o, .b (z_gtrT hq0), .o, .o, .o, .o, .q (ixRo_ok (kd := .i64) (T := 26) (x := (IntKind.i64.wrap (s0_0 - 1))) (sz := 5) rfl (fun w => by kernel_rfl) hR0 hq1), .o, .l (accRo hR0 c_Insn_len (inR_nat hq1) 0 [.int .u8 (nn ((A0 ((IntKind.i64.wrap (s0_0 - 1))).toNat)).fOp)] rfl)]
          rcases e with ⟨hq2, e⟩ | ⟨hq2, e⟩
          · cases e; exact goes_runM hU (P1 ++ [.t (u_eq ((A0 ((IntKind.i64.wrap (s0_0 - 1))).toNat)).fOp (24#8)) hq2, .o, .o, .o, .o]) [] (fun b => rfl) (by decide) rfl rfl (fun b => by kernel_rfl)
          · cases e; exact ⟨ne_exit 0, goes_runM hU (P1 ++ [.t (u_eq ((A0 ((IntKind.i64.wrap (s0_0 - 1))).toNat)).fOp (24#8)) hq2, .o]) [] (fun b => rfl) (by decide) rfl rfl (fun b => by kernel_rfl)⟩
        · exact none_some e
      · cases e; exact ⟨ne_exit 0, goes_runM hU [.o, .b (z_gtrF hq0), .o, .o] [] (fun b => rfl) (by decide) rfl rfl (fun b => by kernel_rfl)⟩) s r h
noncomputable def t0_op_IsSecond_L0_0 (a0 : Option Addr) (p0 : Nat) (q0 : Nat) (n0 : Nat) (k0 : Nat) (A0 : Nat → Insn) (y1 : Int) (s0_0 : Int) (ls : List L1) : List Value := List.append [.slice a0 n0 (n0 + k0), .int .i64 (y1), undef, undef, .bool false, .int .i64 (s0_0), .int .i64 (y1)] (und 18)
def pre_op_IsSecond_L0_0 (a0 : Option Addr) (p0 : Nat) (q0 : Nat) (n0 : Nat) (k0 : Nat) (A0 : Nat → Insn) (y1 : Int) (s0_0 : Int) (ls : List L1) : List Obj := []
theorem sp0_op_IsSecond_L0_0_ok (s0_0 : Int) (c0_0 : Int) (h : lpO (st_op_IsSecond_L0 n0 A0) (.c0 s0_0) = some (.e0 c0_0)) : SpcG Try.prog M B0 S ⟨fun ls => .code (.loop bd_op_IsSecond_L0) (t0_op_IsSecond_L0_0 a0 p0 q0 n0 k0 A0 y1 s0_0 ls), pre_op_IsSecond_L0_0 a0 p0 q0 n0 k0 A0 y1 s0_0, 1, (.exit 0), fun ls => vf_op_IsSecond_L0 a0 p0 q0 n0 k0 A0 y1 (.e0 c0_0) (ls.take 0 ++ ls.drop 0), fun ls => (Hf_op_IsSecond_L0 a0 p0 q0 n0 k0 A0 y1 (.e0 c0_0) (ls.take 0 ++ ls.drop 0)).take 0 ++ List.replicate 0 unb, fun ls => (Hf_op_IsSecond_L0 a0 p0 q0 n0 k0 A0 y1 (.e0 c0_0) (ls.take 0 ++ ls.drop 0)).drop 0⟩ :=
  spc_of_goesM hU 0 (k0 := 0) (go_op_IsSecond_L0 hU a0 p0 q0 n0 k0 A0 hR0 y1 _ _ h) (t0_op_IsSecond_L0_0 a0 p0 q0 n0 k0 A0 y1 s0_0) (pre_op_IsSecond_L0_0 a0 p0 q0 n0 k0 A0 y1 s0_0) (fun _ => rfl) (fun ls h => by match ls, h with | [], _ => exact ⟨by kernel_rfl, by kernel_rfl⟩) (fun ls h => by match ls, h with | [], _ => rfl) (by decide) (by decide) (fun ls => rfl)
noncomputable def m_op_IsSecond (n0 : Nat) (A0 : Nat → Insn) (y1 : Int) : Option (Bool) :=
  (lpO (st_op_IsSecond_L0 n0 A0) (.c0 y1)).bind fun g0 => match g0 with
  | .e0 g0_0 =>
  some ((zrem (IntKind.i64.wrap (y1 - g0_0)) 2) == 1)
theorem ok_op_IsSecond (r : Bool) (e : m_op_IsSecond n0 A0 y1 = some r) : ConG Try.prog S 55 #[.slice a0 n0 (n0 + k0), .int .i64 (y1)] (.bool (r)) := by
  unfold m_op_IsSecond at e
  replace e := bindO_eq e
  obtain ⟨g0, e_g0, e⟩ := e
  obtain ⟨g0_0⟩ := g0
  try dsimp only at e
  injection e with e; subst e; exact fn_conG hU (P := Try.prog) Try.func55 (fun xs w => by kernel_rfl) _ _ [.o, .o, .o, .cp, .cx (sp0_op_IsSecond_L0_0_ok hU a0 p0 q0 n0 k0 A0 hR0 y1 y1 g0_0 e_g0) [], .o, .o, .o, .ov (z_rem Try.prog 3 (.tmp 22) (.const (.int .i64 (2))) (IntKind.i64.wrap (y1 - g0_0)) 2 (by decide)), .o, .o] [] (fun b => by kernel_rfl)
noncomputable def m_op_RightSecond (n0 : Nat) (A0 : Nat → Insn) (y1 : Int) : Option (Bool) :=
  bif decide ((n0 : Int) ≤ (IntKind.i64.wrap (y1 + 1))) then
    (some false)
  else (bif inR y1 n0 then
    (bif ((A0 (y1).toNat)).fSrc == 0#8 then
      (bif inR (IntKind.i64.wrap (y1 + 1)) n0 then
        (some ((((A0 ((IntKind.i64.wrap (y1 + 1))).toNat)).fOp == 0#8) && ((((A0 ((IntKind.i64.wrap (y1 + 1))).toNat)).fDst == 0#8) && ((((A0 ((IntKind.i64.wrap (y1 + 1))).toNat)).fSrc == 0#8) && ((((A0 ((IntKind.i64.wrap (y1 + 1))).toNat)).fOff == 0#16) && (((A0 ((IntKind.i64.wrap (y1 + 1))).toNat)).fImm == ((A0 ((IntKind.i64.wrap (y1 + 1))).toNat)).fImm))))))
      else (none))
    else (bif inR (IntKind.i64.wrap (y1 + 1)) n0 then
      (some ((((A0 ((IntKind.i64.wrap (y1 + 1))).toNat)).fOp == 0#8) && ((((A0 ((IntKind.i64.wrap (y1 + 1))).toNat)).fDst == 0#8) && ((((A0 ((IntKind.i64.wrap (y1 + 1))).toNat)).fSrc == 0#8) && ((((A0 ((IntKind.i64.wrap (y1 + 1))).toNat)).fOff == 0#16) && (((A0 ((IntKind.i64.wrap (y1 + 1))).toNat)).fImm == 0#32))))))
    else (none)))
  else (none))
theorem ok_op_RightSecond (r : Bool) (e : m_op_RightSecond n0 A0 y1 = some r) : ConG Try.prog S 71 #[.slice a0 n0 (n0 + k0), .int .i64 (y1)] (.bool (r)) := by
  unfold m_op_RightSecond at e
  replace e := cond_eq_or e
  rcases e with ⟨hq0, e⟩ | ⟨hq0, e⟩
  · injection e with e; subst e; exact fn_conG hU (P := Try.prog) Try.func71 (fun xs w => by kernel_rfl) _ _ [.o, .o, .o, .o, .o, .b (z_geqT hq0), .o] [] (fun b => by kernel_rfl)
  · replace e := cond_eq_or e
    rcases e with ⟨hq1, e⟩ | ⟨hq1, e⟩
    · replace e := cond_eq_or e
      let P1 : List (PG Try.prog M B0 S) := [.o, .o, .o, .o, .o, .b (z_geqF hq0), .o, .o, .a 0, .o, .o, .q (ixRo_ok (kd := .i64) (T := 26) (x := y1) (sz := 5) rfl (fun w => by kernel_rfl) hR0 hq1), .o, .l (accRo hR0 c_Insn_len (inR_nat hq1) 2 [.int .u8 (nn ((A0 (y1).toNat)).fSrc)] rfl)]
      rcases e with ⟨hq2, e⟩ | ⟨hq2, e⟩
      · replace e := cond_eq_or e
        rcases e with ⟨hq3, e⟩ | ⟨hq3, e⟩
        · injection e with e; subst e; exact fn_conG hU (P := Try.prog) Try.func71 (fun xs w => by kernel_rfl) _ _ (P1 ++ [.t (u_eq ((A0 (y1).toNat)).fSrc (0#8)) hq2, .o, .o, .o, .q (ixRo_ok (kd := .i64) (T := 26) (x := (IntKind.i64.wrap (y1 + 1))) (sz := 5) rfl (fun w => by kernel_rfl) hR0 hq3), .o, .l (accRo hR0 c_Insn_len (inR_nat hq3) 4 [.int .i32 (ii ((A0 ((IntKind.i64.wrap (y1 + 1))).toNat)).fImm)] rfl), .o, .a 0, .r [0, 1, 2, 3, 4, 5, 6, 7] [] [], .o, .o, .o, .q (ixRo_ok (kd := .i64) (T := 26) (x := (IntKind.i64.wrap (y1 + 1))) (sz := 5) rfl (fun w => by kernel_rfl) hR0 hq3), .l (accRo hR0 c_Insn_len (inR_nat hq3) 0 [.int .u8 (nn ((A0 ((IntKind.i64.wrap (y1 + 1))).toNat)).fOp), .int .u8 (nn ((A0 ((IntKind.i64.wrap (y1 + 1))).toNat)).fDst), .int .u8 (nn ((A0 ((IntKind.i64.wrap (y1 + 1))).toNat)).fSrc), .int .i16 (ii ((A0 ((IntKind.i64.wrap (y1 + 1))).toNat)).fOff), .int .i32 (ii ((A0 ((IntKind.i64.wrap (y1 + 1))).toNat)).fImm)] rfl), .a 0, .ov (fun w => (run_aggeq 25 #[.int .u8 (nn ((A0 ((IntKind.i64.wrap (y1 + 1))).toNat)).fOp), .int .u8 (nn ((A0 ((IntKind.i64.wrap (y1 + 1))).toNat)).fDst), .int .u8 (nn ((A0 ((IntKind.i64.wrap (y1 + 1))).toNat)).fSrc), .int .i16 (ii ((A0 ((IntKind.i64.wrap (y1 + 1))).toNat)).fOff), .int .i32 (ii ((A0 ((IntKind.i64.wrap (y1 + 1))).toNat)).fImm)] #[.int .u8 (0), .int .u8 (0), .int .u8 (0), .int .i16 (0), .int .i32 (ii ((A0 ((IntKind.i64.wrap (y1 + 1))).toNat)).fImm)] _ (by kernel_rfl) (fun w => eqi25 9998 ((A0 ((IntKind.i64.wrap (y1 + 1))).toNat)).fOp (0#8) ((A0 ((IntKind.i64.wrap (y1 + 1))).toNat)).fDst (0#8) ((A0 ((IntKind.i64.wrap (y1 + 1))).toNat)).fSrc (0#8) ((A0 ((IntKind.i64.wrap (y1 + 1))).toNat)).fOff (0#16) ((A0 ((IntKind.i64.wrap (y1 + 1))).toNat)).fImm ((A0 ((IntKind.i64.wrap (y1 + 1))).toNat)).fImm w) (.tmp 29) (.tmp 30) w).1), .o]) [] (fun b => by kernel_rfl)
        · exact none_some e
      · replace e := cond_eq_or e
        rcases e with ⟨hq3, e⟩ | ⟨hq3, e⟩
        · injection e with e; subst e; exact fn_conG hU (P := Try.prog) Try.func71 (fun xs w => by kernel_rfl) _ _ (P1 ++ [.t (u_eq ((A0 (y1).toNat)).fSrc (0#8)) hq2, .r [0, 1, 2, 3, 4, 5, 6, 7] [] [], .o, .o, .o, .q (ixRo_ok (kd := .i64) (T := 26) (x := (IntKind.i64.wrap (y1 + 1))) (sz := 5) rfl (fun w => by kernel_rfl) hR0 hq3), .l (accRo hR0 c_Insn_len (inR_nat hq3) 0 [.int .u8 (nn ((A0 ((IntKind.i64.wrap (y1 + 1))).toNat)).fOp), .int .u8 (nn ((A0 ((IntKind.i64.wrap (y1 + 1))).toNat)).fDst), .int .u8 (nn ((A0 ((IntKind.i64.wrap (y1 + 1))).toNat)).fSrc), .int .i16 (ii ((A0 ((IntKind.i64.wrap (y1 + 1))).toNat)).fOff), .int .i32 (ii ((A0 ((IntKind.i64.wrap (y1 + 1))).toNat)).fImm)] rfl), .a 0, .ov (fun w => (run_aggeq 25 #[.int .u8 (nn ((A0 ((IntKind.i64.wrap (y1 + 1))).toNat)).fOp), .int .u8 (nn ((A0 ((IntKind.i64.wrap (y1 + 1))).toNat)).fDst), .int .u8 (nn ((A0 ((IntKind.i64.wrap (y1 + 1))).toNat)).fSrc), .int .i16 (ii ((A0 ((IntKind.i64.wrap (y1 + 1))).toNat)).fOff), .int .i32 (ii ((A0 ((IntKind.i64.wrap (y1 + 1))).toNat)).fImm)] #[.int .u8 (0), .int .u8 (0), .int .u8 (0), .int .i16 (0), .int .i32 (0)] _ (by kernel_rfl) (fun w => eqi25 9998 ((A0 ((IntKind.i64.wrap (y1 + 1))).toNat)).fOp (0#8) ((A0 ((IntKind.i64.wrap (y1 + 1))).toNat)).fDst (0#8) ((A0 ((IntKind.i64.wrap (y1 + 1))).toNat)).fSrc (0#8) ((A0 ((IntKind.i64.wrap (y1 + 1))).toNat)).fOff (0#16) ((A0 ((IntKind.i64.wrap (y1 + 1))).toNat)).fImm (0#32) w) (.tmp 29) (.tmp 30) w).1), .o]) [] (fun b => by kernel_rfl)
        · exact none_some e
    · exact none_some e
noncomputable def m_insn_callable (n0 : Nat) (A0 : Nat → Insn) (y1 : Int) : Option (Bool) :=
  bif decide (0 < y1) then
    (bif decide (y1 < (n0 : Int)) then
      ((m_op_IsSecond n0 A0 y1).bind fun r0 =>
      bif r0 then
        (some false)
      else (some true))
    else (some false))
  else (some false)
theorem ok_insn_callable (r : Bool) (e : m_insn_callable n0 A0 y1 = some r) : ConG Try.prog S 72 #[.slice a0 n0 (n0 + k0), .int .i64 (y1)] (.bool (r)) := by
  unfold m_insn_callable at e
  replace e := cond_eq_or e
  rcases e with ⟨hq0, e⟩ | ⟨hq0, e⟩
  · replace e := cond_eq_or e
    rcases e with ⟨hq1, e⟩ | ⟨hq1, e⟩
    · replace e := bindO_eq e
      obtain ⟨r0, e_r0, e⟩ := e
      try dsimp only at e
      replace e := cond_eq_or e
      rcases e with ⟨hq2, e⟩ | ⟨hq2, e⟩
      · subst hq2
        injection e with e; subst e; exact fn_conG hU (P := Try.prog) Try.func72 (fun xs w => by kernel_rfl) _ _ [.o, .o, .b (z_gtrT hq0), .o, .o, .o, .o, .b (z_lssT hq1), .o, .o, .o, .o, .cg (ok_op_IsSecond hU a0 p0 q0 n0 k0 A0 hR0 y1 true e_r0), .o, .o, .o] [] (fun b => by kernel_rfl)
      · subst hq2
        injection e with e; subst e; exact fn_conG hU (P := Try.prog) Try.func72 (fun xs w => by kernel_rfl) _ _ [.o, .o, .b (z_gtrT hq0), .o, .o, .o, .o, .b (z_lssT hq1), .o, .o, .o, .o, .cg (ok_op_IsSecond hU a0 p0 q0 n0 k0 A0 hR0 y1 false e_r0), .o, .o, .o] [] (fun b => by kernel_rfl)
    · injection e with e; subst e; exact fn_conG hU (P := Try.prog) Try.func72 (fun xs w => by kernel_rfl) _ _ [.o, .o, .b (z_gtrT hq0), .o, .o, .o, .o, .b (z_lssF hq1), .o, .o, .o, .o] [] (fun b => by kernel_rfl)
  · injection e with e; subst e; exact fn_conG hU (P := Try.prog) Try.func72 (fun xs w => by kernel_rfl) _ _ [.o, .o, .b (z_gtrF hq0), .o, .o, .o, .o, .o] [] (fun b => by kernel_rfl)
noncomputable def m_insn_checkSlot (n0 : Nat) (A0 : Nat → Insn) (y1 : Int) : Option (Int) :=
  bif inR y1 n0 then
    (bif m_insn_known ((A0 (y1).toNat)) then
      (bif BitVec.ult (10#8) ((A0 (y1).toNat)).fDst then
        (some 12)
      else (bif BitVec.ult (10#8) ((A0 (y1).toNat)).fSrc then
        (some 12)
      else (bif ((A0 (y1).toNat)).fDst == 10#8 then
        (bif m_insn_writes ((A0 (y1).toNat)) then
          (some 12)
        else (bif ((A0 (y1).toNat)).fOp == 24#8 then
          ((m_op_RightSecond n0 A0 y1).bind fun r0 =>
          bif r0 then
            (bif ((A0 (y1).toNat)).fOp == 133#8 then
              (bif ((A0 (y1).toNat)).fSrc == 0#8 then
                (bif BitVec.slt ((A0 (y1).toNat)).fImm (1#32) then
                  (some 14)
                else (bif BitVec.slt (28#32) ((A0 (y1).toNat)).fImm then
                  (some 14)
                else (bif m_insn_names ((A0 (y1).toNat)) then
                  ((m_insn_callable n0 A0 (IntKind.i64.wrap ((IntKind.i64.wrap (y1 + 1)) + (ii ((A0 (y1).toNat)).fImm)))).bind fun r1 =>
                  bif r1 then
                    (some 0)
                  else (some 14))
                else (some 0))))
              else (bif m_insn_names ((A0 (y1).toNat)) then
                ((m_insn_callable n0 A0 (IntKind.i64.wrap ((IntKind.i64.wrap (y1 + 1)) + (ii ((A0 (y1).toNat)).fImm)))).bind fun r1 =>
                bif r1 then
                  (some 0)
                else (some 14))
              else (some 0)))
            else (bif m_insn_names ((A0 (y1).toNat)) then
              ((m_insn_callable n0 A0 (IntKind.i64.wrap ((IntKind.i64.wrap (y1 + 1)) + (ii ((A0 (y1).toNat)).fImm)))).bind fun r1 =>
              bif r1 then
                (some 0)
              else (some 14))
            else (some 0)))
          else (some 13))
        else (bif ((A0 (y1).toNat)).fOp == 133#8 then
          (bif ((A0 (y1).toNat)).fSrc == 0#8 then
            (bif BitVec.slt ((A0 (y1).toNat)).fImm (1#32) then
              (some 14)
            else (bif BitVec.slt (28#32) ((A0 (y1).toNat)).fImm then
              (some 14)
            else (bif m_insn_names ((A0 (y1).toNat)) then
              ((m_insn_callable n0 A0 (IntKind.i64.wrap ((IntKind.i64.wrap (y1 + 1)) + (ii ((A0 (y1).toNat)).fImm)))).bind fun r0 =>
              bif r0 then
                (some 0)
              else (some 14))
            else (some 0))))
          else (bif m_insn_names ((A0 (y1).toNat)) then
            ((m_insn_callable n0 A0 (IntKind.i64.wrap ((IntKind.i64.wrap (y1 + 1)) + (ii ((A0 (y1).toNat)).fImm)))).bind fun r0 =>
            bif r0 then
              (some 0)
            else (some 14))
          else (some 0)))
        else (bif m_insn_names ((A0 (y1).toNat)) then
          ((m_insn_callable n0 A0 (IntKind.i64.wrap ((IntKind.i64.wrap (y1 + 1)) + (ii ((A0 (y1).toNat)).fImm)))).bind fun r0 =>
          bif r0 then
            (some 0)
          else (some 14))
        else (some 0)))))
      else (bif ((A0 (y1).toNat)).fOp == 24#8 then
        ((m_op_RightSecond n0 A0 y1).bind fun r0 =>
        bif r0 then
          (bif ((A0 (y1).toNat)).fOp == 133#8 then
            (bif ((A0 (y1).toNat)).fSrc == 0#8 then
              (bif BitVec.slt ((A0 (y1).toNat)).fImm (1#32) then
                (some 14)
              else (bif BitVec.slt (28#32) ((A0 (y1).toNat)).fImm then
                (some 14)
              else (bif m_insn_names ((A0 (y1).toNat)) then
                ((m_insn_callable n0 A0 (IntKind.i64.wrap ((IntKind.i64.wrap (y1 + 1)) + (ii ((A0 (y1).toNat)).fImm)))).bind fun r1 =>
                bif r1 then
                  (some 0)
                else (some 14))
              else (some 0))))
            else (bif m_insn_names ((A0 (y1).toNat)) then
              ((m_insn_callable n0 A0 (IntKind.i64.wrap ((IntKind.i64.wrap (y1 + 1)) + (ii ((A0 (y1).toNat)).fImm)))).bind fun r1 =>
              bif r1 then
                (some 0)
              else (some 14))
            else (some 0)))
          else (bif m_insn_names ((A0 (y1).toNat)) then
            ((m_insn_callable n0 A0 (IntKind.i64.wrap ((IntKind.i64.wrap (y1 + 1)) + (ii ((A0 (y1).toNat)).fImm)))).bind fun r1 =>
            bif r1 then
              (some 0)
            else (some 14))
          else (some 0)))
        else (some 13))
      else (bif ((A0 (y1).toNat)).fOp == 133#8 then
        (bif ((A0 (y1).toNat)).fSrc == 0#8 then
          (bif BitVec.slt ((A0 (y1).toNat)).fImm (1#32) then
            (some 14)
          else (bif BitVec.slt (28#32) ((A0 (y1).toNat)).fImm then
            (some 14)
          else (bif m_insn_names ((A0 (y1).toNat)) then
            ((m_insn_callable n0 A0 (IntKind.i64.wrap ((IntKind.i64.wrap (y1 + 1)) + (ii ((A0 (y1).toNat)).fImm)))).bind fun r0 =>
            bif r0 then
              (some 0)
            else (some 14))
          else (some 0))))
        else (bif m_insn_names ((A0 (y1).toNat)) then
          ((m_insn_callable n0 A0 (IntKind.i64.wrap ((IntKind.i64.wrap (y1 + 1)) + (ii ((A0 (y1).toNat)).fImm)))).bind fun r0 =>
          bif r0 then
            (some 0)
          else (some 14))
        else (some 0)))
      else (bif m_insn_names ((A0 (y1).toNat)) then
        ((m_insn_callable n0 A0 (IntKind.i64.wrap ((IntKind.i64.wrap (y1 + 1)) + (ii ((A0 (y1).toNat)).fImm)))).bind fun r0 =>
        bif r0 then
          (some 0)
        else (some 14))
      else (some 0)))))))
    else (some 11))
  else (none)
theorem ok_insn_checkSlot (r : Int) (e : m_insn_checkSlot n0 A0 y1 = some r) : ConG Try.prog S 51 #[.slice a0 n0 (n0 + k0), .int .i64 (y1)] (.int .i64 (r)) := by
  unfold m_insn_checkSlot at e
  replace e := cond_eq_or e
  let P1 : List (PG Try.prog M B0 S) := [.o, .o, .o]
  rcases e with ⟨hq0, e⟩ | ⟨hq0, e⟩
  · replace e := cond_eq_or e
    let P2 : List (PG Try.prog M B0 S) := P1 ++ [.q (ixRo_ok (kd := .i64) (T := 26) (x := y1) (sz := 5) rfl (fun w => by kernel_rfl) hR0 hq0), .l (accRo hR0 c_Insn_len (inR_nat hq0) 0 [.int .u8 (nn ((A0 (y1).toNat)).fOp), .int .u8 (nn ((A0 (y1).toNat)).fDst), .int .u8 (nn ((A0 (y1).toNat)).fSrc), .int .i16 (ii ((A0 (y1).toNat)).fOff), .int .i32 (ii ((A0 (y1).toNat)).fImm)] rfl), .o, .a 0, .a 0]
    rcases e with ⟨hq1, e⟩ | ⟨hq1, e⟩
    · replace e := cond_eq_or e
      let P3 : List (PG Try.prog M B0 S) := P2 ++ [.cg (ok_insn_known hU ((A0 (y1).toNat)) true hq1), .o, .o, .o, .a 0]
      rcases e with ⟨hq2, e⟩ | ⟨hq2, e⟩
      · injection e with e; subst e; exact fn_conG hU (P := Try.prog) Try.func51 (fun xs w => by kernel_rfl) _ _ (P3 ++ [.t (u_gt ((A0 (y1).toNat)).fDst (10#8)) hq2, .o, .o, .o, .o, .o, .o]) [] (fun b => by kernel_rfl)
      · replace e := cond_eq_or e
        let P4 : List (PG Try.prog M B0 S) := P3 ++ [.t (u_gt ((A0 (y1).toNat)).fDst (10#8)) hq2, .o, .o, .a 0]
        rcases e with ⟨hq3, e⟩ | ⟨hq3, e⟩
        · injection e with e; subst e; exact fn_conG hU (P := Try.prog) Try.func51 (fun xs w => by kernel_rfl) _ _ (P4 ++ [.t (u_gt ((A0 (y1).toNat)).fSrc (10#8)) hq3, .o, .o, .o, .o, .o]) [] (fun b => by kernel_rfl)
        · replace e := cond_eq_or e
          let P5 : List (PG Try.prog M B0 S) := P4 ++ [.t (u_gt ((A0 (y1).toNat)).fSrc (10#8)) hq3, .o, .o, .o, .a 0]
          rcases e with ⟨hq4, e⟩ | ⟨hq4, e⟩
          · replace e := cond_eq_or e
            let P6 : List (PG Try.prog M B0 S) := P5 ++ [.t (u_eq ((A0 (y1).toNat)).fDst (10#8)) hq4, .o, .a 0]
            rcases e with ⟨hq5, e⟩ | ⟨hq5, e⟩
            · injection e with e; subst e; exact fn_conG hU (P := Try.prog) Try.func51 (fun xs w => by kernel_rfl) _ _ (P6 ++ [.cg (ok_insn_writes hU ((A0 (y1).toNat)) true hq5), .o, .o, .o, .o]) [] (fun b => by kernel_rfl)
            · replace e := cond_eq_or e
              let P7 : List (PG Try.prog M B0 S) := P6 ++ [.cg (ok_insn_writes hU ((A0 (y1).toNat)) false hq5), .o, .o, .o, .o, .a 0]
              rcases e with ⟨hq6, e⟩ | ⟨hq6, e⟩
              · replace e := bindO_eq e
                obtain ⟨r0, e_r0, e⟩ := e
                try dsimp only at e
                replace e := cond_eq_or e
                let P8 : List (PG Try.prog M B0 S) := P7 ++ [.t (u_eq ((A0 (y1).toNat)).fOp (24#8)) hq6, .o, .o, .o]
                rcases e with ⟨hq7, e⟩ | ⟨hq7, e⟩
                · subst hq7
                  replace e := cond_eq_or e
                  let P9 : List (PG Try.prog M B0 S) := P8 ++ [.cg (ok_op_RightSecond hU a0 p0 q0 n0 k0 A0 hR0 y1 true e_r0), .o, .o, .o, .o, .a 0]
                  rcases e with ⟨hq8, e⟩ | ⟨hq8, e⟩
                  · replace e := cond_eq_or e
                    let P10 : List (PG Try.prog M B0 S) := P9 ++ [.t (u_eq ((A0 (y1).toNat)).fOp (133#8)) hq8, .o, .o, .a 0]
                    rcases e with ⟨hq9, e⟩ | ⟨hq9, e⟩
                    · replace e := cond_eq_or e
                      let P11 : List (PG Try.prog M B0 S) := P10 ++ [.t (u_eq ((A0 (y1).toNat)).fSrc (0#8)) hq9, .o, .o, .o, .a 0]
                      rcases e with ⟨hq10, e⟩ | ⟨hq10, e⟩
                      · injection e with e; subst e; exact fn_conG hU (P := Try.prog) Try.func51 (fun xs w => by kernel_rfl) _ _ (P11 ++ [.t (i_lt ((A0 (y1).toNat)).fImm (1#32)) hq10, .o, .o, .o, .o, .o]) [] (fun b => by kernel_rfl)
                      · replace e := cond_eq_or e
                        let P12 : List (PG Try.prog M B0 S) := P11 ++ [.t (i_lt ((A0 (y1).toNat)).fImm (1#32)) hq10, .o, .o, .a 0]
                        rcases e with ⟨hq11, e⟩ | ⟨hq11, e⟩
                        · injection e with e; subst e; exact fn_conG hU (P := Try.prog) Try.func51 (fun xs w => by kernel_rfl) _ _ (P12 ++ [.t (i_gt ((A0 (y1).toNat)).fImm (28#32)) hq11, .o, .o, .o, .o]) [] (fun b => by kernel_rfl)
                        · replace e := cond_eq_or e
                          let P13 : List (PG Try.prog M B0 S) := P12 ++ [.t (i_gt ((A0 (y1).toNat)).fImm (28#32)) hq11, .o, .o, .o, .a 0]
                          rcases e with ⟨hq12, e⟩ | ⟨hq12, e⟩
                          · replace e := bindO_eq e
                            obtain ⟨r1, e_r1, e⟩ := e
                            try dsimp only at e
                            replace e := cond_eq_or e
                            let P14 : List (PG Try.prog M B0 S) := P13 ++ [.cg (ok_insn_names hU ((A0 (y1).toNat)) true hq12), .o, .o, .o, .o, .o, .a 0, .v .i64 (z_of_ii (by decide) ((A0 (y1).toNat)).fImm), .o]
                            rcases e with ⟨hq13, e⟩ | ⟨hq13, e⟩
                            · subst hq13
                              injection e with e; subst e; exact fn_conG hU (P := Try.prog) Try.func51 (fun xs w => by kernel_rfl) _ _ (P14 ++ [.cg (ok_insn_callable hU a0 p0 q0 n0 k0 A0 hR0 (IntKind.i64.wrap ((IntKind.i64.wrap (y1 + 1)) + (ii ((A0 (y1).toNat)).fImm))) true e_r1), .o, .o, .o, .o]) [] (fun b => by kernel_rfl)
                            · subst hq13
                              injection e with e; subst e; exact fn_conG hU (P := Try.prog) Try.func51 (fun xs w => by kernel_rfl) _ _ (P14 ++ [.cg (ok_insn_callable hU a0 p0 q0 n0 k0 A0 hR0 (IntKind.i64.wrap ((IntKind.i64.wrap (y1 + 1)) + (ii ((A0 (y1).toNat)).fImm))) false e_r1), .o, .o, .o, .o]) [] (fun b => by kernel_rfl)
                          · injection e with e; subst e; exact fn_conG hU (P := Try.prog) Try.func51 (fun xs w => by kernel_rfl) _ _ (P13 ++ [.cg (ok_insn_names hU ((A0 (y1).toNat)) false hq12), .o, .o, .o, .o]) [] (fun b => by kernel_rfl)
                    · replace e := cond_eq_or e
                      let P15 : List (PG Try.prog M B0 S) := P10 ++ [.t (u_eq ((A0 (y1).toNat)).fSrc (0#8)) hq9, .o, .o, .o, .o, .a 0]
                      rcases e with ⟨hq10, e⟩ | ⟨hq10, e⟩
                      · replace e := bindO_eq e
                        obtain ⟨r1, e_r1, e⟩ := e
                        try dsimp only at e
                        replace e := cond_eq_or e
                        let P16 : List (PG Try.prog M B0 S) := P15 ++ [.cg (ok_insn_names hU ((A0 (y1).toNat)) true hq10), .o, .o, .o, .o, .o, .a 0, .v .i64 (z_of_ii (by decide) ((A0 (y1).toNat)).fImm), .o]
                        rcases e with ⟨hq11, e⟩ | ⟨hq11, e⟩
                        · subst hq11
                          injection e with e; subst e; exact fn_conG hU (P := Try.prog) Try.func51 (fun xs w => by kernel_rfl) _ _ (P16 ++ [.cg (ok_insn_callable hU a0 p0 q0 n0 k0 A0 hR0 (IntKind.i64.wrap ((IntKind.i64.wrap (y1 + 1)) + (ii ((A0 (y1).toNat)).fImm))) true e_r1), .o, .o, .o, .o]) [] (fun b => by kernel_rfl)
                        · subst hq11
                          injection e with e; subst e; exact fn_conG hU (P := Try.prog) Try.func51 (fun xs w => by kernel_rfl) _ _ (P16 ++ [.cg (ok_insn_callable hU a0 p0 q0 n0 k0 A0 hR0 (IntKind.i64.wrap ((IntKind.i64.wrap (y1 + 1)) + (ii ((A0 (y1).toNat)).fImm))) false e_r1), .o, .o, .o, .o]) [] (fun b => by kernel_rfl)
                      · injection e with e; subst e; exact fn_conG hU (P := Try.prog) Try.func51 (fun xs w => by kernel_rfl) _ _ (P15 ++ [.cg (ok_insn_names hU ((A0 (y1).toNat)) false hq10), .o, .o, .o, .o]) [] (fun b => by kernel_rfl)
                  · replace e := cond_eq_or e
                    let P17 : List (PG Try.prog M B0 S) := P9 ++ [.t (u_eq ((A0 (y1).toNat)).fOp (133#8)) hq8, .o, .o, .o, .o, .o, .a 0]
                    rcases e with ⟨hq9, e⟩ | ⟨hq9, e⟩
                    · replace e := bindO_eq e
                      obtain ⟨r1, e_r1, e⟩ := e
                      try dsimp only at e
                      replace e := cond_eq_or e
                      let P18 : List (PG Try.prog M B0 S) := P17 ++ [.cg (ok_insn_names hU ((A0 (y1).toNat)) true hq9), .o, .o, .o, .o, .o, .a 0, .v .i64 (z_of_ii (by decide) ((A0 (y1).toNat)).fImm), .o]
                      rcases e with ⟨hq10, e⟩ | ⟨hq10, e⟩
                      · subst hq10
                        injection e with e; subst e; exact fn_conG hU (P := Try.prog) Try.func51 (fun xs w => by kernel_rfl) _ _ (P18 ++ [.cg (ok_insn_callable hU a0 p0 q0 n0 k0 A0 hR0 (IntKind.i64.wrap ((IntKind.i64.wrap (y1 + 1)) + (ii ((A0 (y1).toNat)).fImm))) true e_r1), .o, .o, .o, .o]) [] (fun b => by kernel_rfl)
                      · subst hq10
                        injection e with e; subst e; exact fn_conG hU (P := Try.prog) Try.func51 (fun xs w => by kernel_rfl) _ _ (P18 ++ [.cg (ok_insn_callable hU a0 p0 q0 n0 k0 A0 hR0 (IntKind.i64.wrap ((IntKind.i64.wrap (y1 + 1)) + (ii ((A0 (y1).toNat)).fImm))) false e_r1), .o, .o, .o, .o]) [] (fun b => by kernel_rfl)
                    · injection e with e; subst e; exact fn_conG hU (P := Try.prog) Try.func51 (fun xs w => by kernel_rfl) _ _ (P17 ++ [.cg (ok_insn_names hU ((A0 (y1).toNat)) false hq9), .o, .o, .o, .o]) [] (fun b => by kernel_rfl)
                · subst hq7
                  injection e with e; subst e; exact fn_conG hU (P := Try.prog) Try.func51 (fun xs w => by kernel_rfl) _ _ (P8 ++ [.cg (ok_op_RightSecond hU a0 p0 q0 n0 k0 A0 hR0 y1 false e_r0), .o, .o, .o, .o]) [] (fun b => by kernel_rfl)
              · replace e := cond_eq_or e
                let P19 : List (PG Try.prog M B0 S) := P7 ++ [.t (u_eq ((A0 (y1).toNat)).fOp (24#8)) hq6, .o, .o, .o, .o, .a 0]
                rcases e with ⟨hq7, e⟩ | ⟨hq7, e⟩
                · replace e := cond_eq_or e
                  let P20 : List (PG Try.prog M B0 S) := P19 ++ [.t (u_eq ((A0 (y1).toNat)).fOp (133#8)) hq7, .o, .o, .a 0]
                  rcases e with ⟨hq8, e⟩ | ⟨hq8, e⟩
                  · replace e := cond_eq_or e
                    let P21 : List (PG Try.prog M B0 S) := P20 ++ [.t (u_eq ((A0 (y1).toNat)).fSrc (0#8)) hq8, .o, .o, .o, .a 0]
                    rcases e with ⟨hq9, e⟩ | ⟨hq9, e⟩
                    · injection e with e; subst e; exact fn_conG hU (P := Try.prog) Try.func51 (fun xs w => by kernel_rfl) _ _ (P21 ++ [.t (i_lt ((A0 (y1).toNat)).fImm (1#32)) hq9, .o, .o, .o, .o, .o]) [] (fun b => by kernel_rfl)
                    · replace e := cond_eq_or e
                      let P22 : List (PG Try.prog M B0 S) := P21 ++ [.t (i_lt ((A0 (y1).toNat)).fImm (1#32)) hq9, .o, .o, .a 0]
                      rcases e with ⟨hq10, e⟩ | ⟨hq10, e⟩
                      · injection e with e; subst e; exact fn_conG hU (P := Try.prog) Try.func51 (fun xs w => by kernel_rfl) _ _ (P22 ++ [.t (i_gt ((A0 (y1).toNat)).fImm (28#32)) hq10, .o, .o, .o, .o]) [] (fun b => by kernel_rfl)
                      · replace e := cond_eq_or e
                        let P23 : List (PG Try.prog M B0 S) := P22 ++ [.t (i_gt ((A0 (y1).toNat)).fImm (28#32)) hq10, .o, .o, .o, .a 0]
                        rcases e with ⟨hq11, e⟩ | ⟨hq11, e⟩
                        · replace e := bindO_eq e
                          obtain ⟨r0, e_r0, e⟩ := e
                          try dsimp only at e
                          replace e := cond_eq_or e
                          let P24 : List (PG Try.prog M B0 S) := P23 ++ [.cg (ok_insn_names hU ((A0 (y1).toNat)) true hq11), .o, .o, .o, .o, .o, .a 0, .v .i64 (z_of_ii (by decide) ((A0 (y1).toNat)).fImm), .o]
                          rcases e with ⟨hq12, e⟩ | ⟨hq12, e⟩
                          · subst hq12
                            injection e with e; subst e; exact fn_conG hU (P := Try.prog) Try.func51 (fun xs w => by kernel_rfl) _ _ (P24 ++ [.cg (ok_insn_callable hU a0 p0 q0 n0 k0 A0 hR0 (IntKind.i64.wrap ((IntKind.i64.wrap (y1 + 1)) + (ii ((A0 (y1).toNat)).fImm))) true e_r0), .o, .o, .o, .o]) [] (fun b => by kernel_rfl)
                          · subst hq12
                            injection e with e; subst e; exact fn_conG hU (P := Try.prog) Try.func51 (fun xs w => by kernel_rfl) _ _ (P24 ++ [.cg (ok_insn_callable hU a0 p0 q0 n0 k0 A0 hR0 (IntKind.i64.wrap ((IntKind.i64.wrap (y1 + 1)) + (ii ((A0 (y1).toNat)).fImm))) false e_r0), .o, .o, .o, .o]) [] (fun b => by kernel_rfl)
                        · injection e with e; subst e; exact fn_conG hU (P := Try.prog) Try.func51 (fun xs w => by kernel_rfl) _ _ (P23 ++ [.cg (ok_insn_names hU ((A0 (y1).toNat)) false hq11), .o, .o, .o, .o]) [] (fun b => by kernel_rfl)
                  · replace e := cond_eq_or e
                    let P25 : List (PG Try.prog M B0 S) := P20 ++ [.t (u_eq ((A0 (y1).toNat)).fSrc (0#8)) hq8, .o, .o, .o, .o, .a 0]
                    rcases e with ⟨hq9, e⟩ | ⟨hq9, e⟩
                    · replace e := bindO_eq e
                      obtain ⟨r0, e_r0, e⟩ := e
                      try dsimp only at e
                      replace e := cond_eq_or e
                      let P26 : List (PG Try.prog M B0 S) := P25 ++ [.cg (ok_insn_names hU ((A0 (y1).toNat)) true hq9), .o, .o, .o, .o, .o, .a 0, .v .i64 (z_of_ii (by decide) ((A0 (y1).toNat)).fImm), .o]
                      rcases e with ⟨hq10, e⟩ | ⟨hq10, e⟩
                      · subst hq10
                        injection e with e; subst e; exact fn_conG hU (P := Try.prog) Try.func51 (fun xs w => by kernel_rfl) _ _ (P26 ++ [.cg (ok_insn_callable hU a0 p0 q0 n0 k0 A0 hR0 (IntKind.i64.wrap ((IntKind.i64.wrap (y1 + 1)) + (ii ((A0 (y1).toNat)).fImm))) true e_r0), .o, .o, .o, .o]) [] (fun b => by kernel_rfl)
                      · subst hq10
                        injection e with e; subst e; exact fn_conG hU (P := Try.prog) Try.func51 (fun xs w => by kernel_rfl) _ _ (P26 ++ [.cg (ok_insn_callable hU a0 p0 q0 n0 k0 A0 hR0 (IntKind.i64.wrap ((IntKind.i64.wrap (y1 + 1)) + (ii ((A0 (y1).toNat)).fImm))) false e_r0), .o, .o, .o, .o]) [] (fun b => by kernel_rfl)
                    · injection e with e; subst e; exact fn_conG hU (P := Try.prog) Try.func51 (fun xs w => by kernel_rfl) _ _ (P25 ++ [.cg (ok_insn_names hU ((A0 (y1).toNat)) false hq9), .o, .o, .o, .o]) [] (fun b => by kernel_rfl)
                · replace e := cond_eq_or e
                  let P27 : List (PG Try.prog M B0 S) := P19 ++ [.t (u_eq ((A0 (y1).toNat)).fOp (133#8)) hq7, .o, .o, .o, .o, .o, .a 0]
                  rcases e with ⟨hq8, e⟩ | ⟨hq8, e⟩
                  · replace e := bindO_eq e
                    obtain ⟨r0, e_r0, e⟩ := e
                    try dsimp only at e
                    replace e := cond_eq_or e
                    let P28 : List (PG Try.prog M B0 S) := P27 ++ [.cg (ok_insn_names hU ((A0 (y1).toNat)) true hq8), .o, .o, .o, .o, .o, .a 0, .v .i64 (z_of_ii (by decide) ((A0 (y1).toNat)).fImm), .o]
                    rcases e with ⟨hq9, e⟩ | ⟨hq9, e⟩
                    · subst hq9
                      injection e with e; subst e; exact fn_conG hU (P := Try.prog) Try.func51 (fun xs w => by kernel_rfl) _ _ (P28 ++ [.cg (ok_insn_callable hU a0 p0 q0 n0 k0 A0 hR0 (IntKind.i64.wrap ((IntKind.i64.wrap (y1 + 1)) + (ii ((A0 (y1).toNat)).fImm))) true e_r0), .o, .o, .o, .o]) [] (fun b => by kernel_rfl)
                    · subst hq9
                      injection e with e; subst e; exact fn_conG hU (P := Try.prog) Try.func51 (fun xs w => by kernel_rfl) _ _ (P28 ++ [.cg (ok_insn_callable hU a0 p0 q0 n0 k0 A0 hR0 (IntKind.i64.wrap ((IntKind.i64.wrap (y1 + 1)) + (ii ((A0 (y1).toNat)).fImm))) false e_r0), .o, .o, .o, .o]) [] (fun b => by kernel_rfl)
                  · injection e with e; subst e; exact fn_conG hU (P := Try.prog) Try.func51 (fun xs w => by kernel_rfl) _ _ (P27 ++ [.cg (ok_insn_names hU ((A0 (y1).toNat)) false hq8), .o, .o, .o, .o]) [] (fun b => by kernel_rfl)
          · replace e := cond_eq_or e
            let P29 : List (PG Try.prog M B0 S) := P5 ++ [.t (u_eq ((A0 (y1).toNat)).fDst (10#8)) hq4, .o, .o, .o, .o, .o, .a 0]
            rcases e with ⟨hq5, e⟩ | ⟨hq5, e⟩
            · replace e := bindO_eq e
              obtain ⟨r0, e_r0, e⟩ := e
              try dsimp only at e
              replace e := cond_eq_or e
              let P30 : List (PG Try.prog M B0 S) := P29 ++ [.t (u_eq ((A0 (y1).toNat)).fOp (24#8)) hq5, .o, .o, .o]
              rcases e with ⟨hq6, e⟩ | ⟨hq6, e⟩
              · subst hq6
                replace e := cond_eq_or e
                let P31 : List (PG Try.prog M B0 S) := P30 ++ [.cg (ok_op_RightSecond hU a0 p0 q0 n0 k0 A0 hR0 y1 true e_r0), .o, .o, .o, .o, .a 0]
                rcases e with ⟨hq7, e⟩ | ⟨hq7, e⟩
                · replace e := cond_eq_or e
                  let P32 : List (PG Try.prog M B0 S) := P31 ++ [.t (u_eq ((A0 (y1).toNat)).fOp (133#8)) hq7, .o, .o, .a 0]
                  rcases e with ⟨hq8, e⟩ | ⟨hq8, e⟩
                  · replace e := cond_eq_or e
                    let P33 : List (PG Try.prog M B0 S) := P32 ++ [.t (u_eq ((A0 (y1).toNat)).fSrc (0#8)) hq8, .o, .o, .o, .a 0]
                    rcases e with ⟨hq9, e⟩ | ⟨hq9, e⟩
                    · injection e with e; subst e; exact fn_conG hU (P := Try.prog) Try.func51 (fun xs w => by kernel_rfl) _ _ (P33 ++ [.t (i_lt ((A0 (y1).toNat)).fImm (1#32)) hq9, .o, .o, .o, .o, .o]) [] (fun b => by kernel_rfl)
                    · replace e := cond_eq_or e
                      let P34 : List (PG Try.prog M B0 S) := P33 ++ [.t (i_lt ((A0 (y1).toNat)).fImm (1#32)) hq9, .o, .o, .a 0]
                      rcases e with ⟨hq10, e⟩ | ⟨hq10, e⟩
                      · injection e with e; subst e; exact fn_conG hU (P := Try.prog) Try.func51 (fun xs w => by kernel_rfl) _ _ (P34 ++ [.t (i_gt ((A0 (y1).toNat)).fImm (28#32)) hq10, .o, .o, .o, .o]) [] (fun b => by kernel_rfl)
                      · replace e := cond_eq_or e
                        let P35 : List (PG Try.prog M B0 S) := P34 ++ [.t (i_gt ((A0 (y1).toNat)).fImm (28#32)) hq10, .o, .o, .o, .a 0]
                        rcases e with ⟨hq11, e⟩ | ⟨hq11, e⟩
                        · replace e := bindO_eq e
                          obtain ⟨r1, e_r1, e⟩ := e
                          try dsimp only at e
                          replace e := cond_eq_or e
                          let P36 : List (PG Try.prog M B0 S) := P35 ++ [.cg (ok_insn_names hU ((A0 (y1).toNat)) true hq11), .o, .o, .o, .o, .o, .a 0, .v .i64 (z_of_ii (by decide) ((A0 (y1).toNat)).fImm), .o]
                          rcases e with ⟨hq12, e⟩ | ⟨hq12, e⟩
                          · subst hq12
                            injection e with e; subst e; exact fn_conG hU (P := Try.prog) Try.func51 (fun xs w => by kernel_rfl) _ _ (P36 ++ [.cg (ok_insn_callable hU a0 p0 q0 n0 k0 A0 hR0 (IntKind.i64.wrap ((IntKind.i64.wrap (y1 + 1)) + (ii ((A0 (y1).toNat)).fImm))) true e_r1), .o, .o, .o, .o]) [] (fun b => by kernel_rfl)
                          · subst hq12
                            injection e with e; subst e; exact fn_conG hU (P := Try.prog) Try.func51 (fun xs w => by kernel_rfl) _ _ (P36 ++ [.cg (ok_insn_callable hU a0 p0 q0 n0 k0 A0 hR0 (IntKind.i64.wrap ((IntKind.i64.wrap (y1 + 1)) + (ii ((A0 (y1).toNat)).fImm))) false e_r1), .o, .o, .o, .o]) [] (fun b => by kernel_rfl)
                        · injection e with e; subst e; exact fn_conG hU (P := Try.prog) Try.func51 (fun xs w => by kernel_rfl) _ _ (P35 ++ [.cg (ok_insn_names hU ((A0 (y1).toNat)) false hq11), .o, .o, .o, .o]) [] (fun b => by kernel_rfl)
                  · replace e := cond_eq_or e
                    let P37 : List (PG Try.prog M B0 S) := P32 ++ [.t (u_eq ((A0 (y1).toNat)).fSrc (0#8)) hq8, .o, .o, .o, .o, .a 0]
                    rcases e with ⟨hq9, e⟩ | ⟨hq9, e⟩
                    · replace e := bindO_eq e
                      obtain ⟨r1, e_r1, e⟩ := e
                      try dsimp only at e
                      replace e := cond_eq_or e
                      let P38 : List (PG Try.prog M B0 S) := P37 ++ [.cg (ok_insn_names hU ((A0 (y1).toNat)) true hq9), .o, .o, .o, .o, .o, .a 0, .v .i64 (z_of_ii (by decide) ((A0 (y1).toNat)).fImm), .o]
                      rcases e with ⟨hq10, e⟩ | ⟨hq10, e⟩
                      · subst hq10
                        injection e with e; subst e; exact fn_conG hU (P := Try.prog) Try.func51 (fun xs w => by kernel_rfl) _ _ (P38 ++ [.cg (ok_insn_callable hU a0 p0 q0 n0 k0 A0 hR0 (IntKind.i64.wrap ((IntKind.i64.wrap (y1 + 1)) + (ii ((A0 (y1).toNat)).fImm))) true e_r1), .o, .o, .o, .o]) [] (fun b => by kernel_rfl)
                      · subst hq10
                        injection e with e; subst e; exact fn_conG hU (P := Try.prog) Try.func51 (fun xs w => by kernel_rfl) _ _ (P38 ++ [.cg (ok_insn_callable hU a0 p0 q0 n0 k0 A0 hR0 (IntKind.i64.wrap ((IntKind.i64.wrap (y1 + 1)) + (ii ((A0 (y1).toNat)).fImm))) false e_r1), .o, .o, .o, .o]) [] (fun b => by kernel_rfl)
                    · injection e with e; subst e; exact fn_conG hU (P := Try.prog) Try.func51 (fun xs w => by kernel_rfl) _ _ (P37 ++ [.cg (ok_insn_names hU ((A0 (y1).toNat)) false hq9), .o, .o, .o, .o]) [] (fun b => by kernel_rfl)
                · replace e := cond_eq_or e
                  let P39 : List (PG Try.prog M B0 S) := P31 ++ [.t (u_eq ((A0 (y1).toNat)).fOp (133#8)) hq7, .o, .o, .o, .o, .o, .a 0]
                  rcases e with ⟨hq8, e⟩ | ⟨hq8, e⟩
                  · replace e := bindO_eq e
                    obtain ⟨r1, e_r1, e⟩ := e
                    try dsimp only at e
                    replace e := cond_eq_or e
                    let P40 : List (PG Try.prog M B0 S) := P39 ++ [.cg (ok_insn_names hU ((A0 (y1).toNat)) true hq8), .o, .o, .o, .o, .o, .a 0, .v .i64 (z_of_ii (by decide) ((A0 (y1).toNat)).fImm), .o]
                    rcases e with ⟨hq9, e⟩ | ⟨hq9, e⟩
                    · subst hq9
                      injection e with e; subst e; exact fn_conG hU (P := Try.prog) Try.func51 (fun xs w => by kernel_rfl) _ _ (P40 ++ [.cg (ok_insn_callable hU a0 p0 q0 n0 k0 A0 hR0 (IntKind.i64.wrap ((IntKind.i64.wrap (y1 + 1)) + (ii ((A0 (y1).toNat)).fImm))) true e_r1), .o, .o, .o, .o]) [] (fun b => by kernel_rfl)
                    · subst hq9
                      injection e with e; subst e; exact fn_conG hU (P := Try.prog) Try.func51 (fun xs w => by kernel_rfl) _ _ (P40 ++ [.cg (ok_insn_callable hU a0 p0 q0 n0 k0 A0 hR0 (IntKind.i64.wrap ((IntKind.i64.wrap (y1 + 1)) + (ii ((A0 (y1).toNat)).fImm))) false e_r1), .o, .o, .o, .o]) [] (fun b => by kernel_rfl)
                  · injection e with e; subst e; exact fn_conG hU (P := Try.prog) Try.func51 (fun xs w => by kernel_rfl) _ _ (P39 ++ [.cg (ok_insn_names hU ((A0 (y1).toNat)) false hq8), .o, .o, .o, .o]) [] (fun b => by kernel_rfl)
              · subst hq6
                injection e with e; subst e; exact fn_conG hU (P := Try.prog) Try.func51 (fun xs w => by kernel_rfl) _ _ (P30 ++ [.cg (ok_op_RightSecond hU a0 p0 q0 n0 k0 A0 hR0 y1 false e_r0), .o, .o, .o, .o]) [] (fun b => by kernel_rfl)
            · replace e := cond_eq_or e
              let P41 : List (PG Try.prog M B0 S) := P29 ++ [.t (u_eq ((A0 (y1).toNat)).fOp (24#8)) hq5, .o, .o, .o, .o, .a 0]
              rcases e with ⟨hq6, e⟩ | ⟨hq6, e⟩
              · replace e := cond_eq_or e
                let P42 : List (PG Try.prog M B0 S) := P41 ++ [.t (u_eq ((A0 (y1).toNat)).fOp (133#8)) hq6, .o, .o, .a 0]
                rcases e with ⟨hq7, e⟩ | ⟨hq7, e⟩
                · replace e := cond_eq_or e
                  let P43 : List (PG Try.prog M B0 S) := P42 ++ [.t (u_eq ((A0 (y1).toNat)).fSrc (0#8)) hq7, .o, .o, .o, .a 0]
                  rcases e with ⟨hq8, e⟩ | ⟨hq8, e⟩
                  · injection e with e; subst e; exact fn_conG hU (P := Try.prog) Try.func51 (fun xs w => by kernel_rfl) _ _ (P43 ++ [.t (i_lt ((A0 (y1).toNat)).fImm (1#32)) hq8, .o, .o, .o, .o, .o]) [] (fun b => by kernel_rfl)
                  · replace e := cond_eq_or e
                    let P44 : List (PG Try.prog M B0 S) := P43 ++ [.t (i_lt ((A0 (y1).toNat)).fImm (1#32)) hq8, .o, .o, .a 0]
                    rcases e with ⟨hq9, e⟩ | ⟨hq9, e⟩
                    · injection e with e; subst e; exact fn_conG hU (P := Try.prog) Try.func51 (fun xs w => by kernel_rfl) _ _ (P44 ++ [.t (i_gt ((A0 (y1).toNat)).fImm (28#32)) hq9, .o, .o, .o, .o]) [] (fun b => by kernel_rfl)
                    · replace e := cond_eq_or e
                      let P45 : List (PG Try.prog M B0 S) := P44 ++ [.t (i_gt ((A0 (y1).toNat)).fImm (28#32)) hq9, .o, .o, .o, .a 0]
                      rcases e with ⟨hq10, e⟩ | ⟨hq10, e⟩
                      · replace e := bindO_eq e
                        obtain ⟨r0, e_r0, e⟩ := e
                        try dsimp only at e
                        replace e := cond_eq_or e
                        let P46 : List (PG Try.prog M B0 S) := P45 ++ [.cg (ok_insn_names hU ((A0 (y1).toNat)) true hq10), .o, .o, .o, .o, .o, .a 0, .v .i64 (z_of_ii (by decide) ((A0 (y1).toNat)).fImm), .o]
                        rcases e with ⟨hq11, e⟩ | ⟨hq11, e⟩
                        · subst hq11
                          injection e with e; subst e; exact fn_conG hU (P := Try.prog) Try.func51 (fun xs w => by kernel_rfl) _ _ (P46 ++ [.cg (ok_insn_callable hU a0 p0 q0 n0 k0 A0 hR0 (IntKind.i64.wrap ((IntKind.i64.wrap (y1 + 1)) + (ii ((A0 (y1).toNat)).fImm))) true e_r0), .o, .o, .o, .o]) [] (fun b => by kernel_rfl)
                        · subst hq11
                          injection e with e; subst e; exact fn_conG hU (P := Try.prog) Try.func51 (fun xs w => by kernel_rfl) _ _ (P46 ++ [.cg (ok_insn_callable hU a0 p0 q0 n0 k0 A0 hR0 (IntKind.i64.wrap ((IntKind.i64.wrap (y1 + 1)) + (ii ((A0 (y1).toNat)).fImm))) false e_r0), .o, .o, .o, .o]) [] (fun b => by kernel_rfl)
                      · injection e with e; subst e; exact fn_conG hU (P := Try.prog) Try.func51 (fun xs w => by kernel_rfl) _ _ (P45 ++ [.cg (ok_insn_names hU ((A0 (y1).toNat)) false hq10), .o, .o, .o, .o]) [] (fun b => by kernel_rfl)
                · replace e := cond_eq_or e
                  let P47 : List (PG Try.prog M B0 S) := P42 ++ [.t (u_eq ((A0 (y1).toNat)).fSrc (0#8)) hq7, .o, .o, .o, .o, .a 0]
                  rcases e with ⟨hq8, e⟩ | ⟨hq8, e⟩
                  · replace e := bindO_eq e
                    obtain ⟨r0, e_r0, e⟩ := e
                    try dsimp only at e
                    replace e := cond_eq_or e
                    let P48 : List (PG Try.prog M B0 S) := P47 ++ [.cg (ok_insn_names hU ((A0 (y1).toNat)) true hq8), .o, .o, .o, .o, .o, .a 0, .v .i64 (z_of_ii (by decide) ((A0 (y1).toNat)).fImm), .o]
                    rcases e with ⟨hq9, e⟩ | ⟨hq9, e⟩
                    · subst hq9
                      injection e with e; subst e; exact fn_conG hU (P := Try.prog) Try.func51 (fun xs w => by kernel_rfl) _ _ (P48 ++ [.cg (ok_insn_callable hU a0 p0 q0 n0 k0 A0 hR0 (IntKind.i64.wrap ((IntKind.i64.wrap (y1 + 1)) + (ii ((A0 (y1).toNat)).fImm))) true e_r0), .o, .o, .o, .o]) [] (fun b => by kernel_rfl)
                    · subst hq9
                      injection e with e; subst e; exact fn_conG hU (P := Try.prog) Try.func51 (fun xs w => by kernel_rfl) _ _ (P48 ++ [.cg (ok_insn_callable hU a0 p0 q0 n0 k0 A0 hR0 (IntKind.i64.wrap ((IntKind.i64.wrap (y1 + 1)) + (ii ((A0 (y1).toNat)).fImm))) false e_r0), .o, .o, .o, .o]) [] (fun b => by kernel_rfl)
                  · injection e with e; subst e; exact fn_conG hU (P := Try.prog) Try.func51 (fun xs w => by kernel_rfl) _ _ (P47 ++ [.cg (ok_insn_names hU ((A0 (y1).toNat)) false hq8), .o, .o, .o, .o]) [] (fun b => by kernel_rfl)
              · replace e := cond_eq_or e
                let P49 : List (PG Try.prog M B0 S) := P41 ++ [.t (u_eq ((A0 (y1).toNat)).fOp (133#8)) hq6, .o, .o, .o, .o, .o, .a 0]
                rcases e with ⟨hq7, e⟩ | ⟨hq7, e⟩
                · replace e := bindO_eq e
                  obtain ⟨r0, e_r0, e⟩ := e
                  try dsimp only at e
                  replace e := cond_eq_or e
                  let P50 : List (PG Try.prog M B0 S) := P49 ++ [.cg (ok_insn_names hU ((A0 (y1).toNat)) true hq7), .o, .o, .o, .o, .o, .a 0, .v .i64 (z_of_ii (by decide) ((A0 (y1).toNat)).fImm), .o]
                  rcases e with ⟨hq8, e⟩ | ⟨hq8, e⟩
                  · subst hq8
                    injection e with e; subst e; exact fn_conG hU (P := Try.prog) Try.func51 (fun xs w => by kernel_rfl) _ _ (P50 ++ [.cg (ok_insn_callable hU a0 p0 q0 n0 k0 A0 hR0 (IntKind.i64.wrap ((IntKind.i64.wrap (y1 + 1)) + (ii ((A0 (y1).toNat)).fImm))) true e_r0), .o, .o, .o, .o]) [] (fun b => by kernel_rfl)
                  · subst hq8
                    injection e with e; subst e; exact fn_conG hU (P := Try.prog) Try.func51 (fun xs w => by kernel_rfl) _ _ (P50 ++ [.cg (ok_insn_callable hU a0 p0 q0 n0 k0 A0 hR0 (IntKind.i64.wrap ((IntKind.i64.wrap (y1 + 1)) + (ii ((A0 (y1).toNat)).fImm))) false e_r0), .o, .o, .o, .o]) [] (fun b => by kernel_rfl)
                · injection e with e; subst e; exact fn_conG hU (P := Try.prog) Try.func51 (fun xs w => by kernel_rfl) _ _ (P49 ++ [.cg (ok_insn_names hU ((A0 (y1).toNat)) false hq7), .o, .o, .o, .o]) [] (fun b => by kernel_rfl)
    · injection e with e; subst e; exact fn_conG hU (P := Try.prog) Try.func51 (fun xs w => by kernel_rfl) _ _ (P2 ++ [.cg (ok_insn_known hU ((A0 (y1).toNat)) false hq1), .o, .o, .o]) [] (fun b => by kernel_rfl)
  · exact none_some e
end

end Go.Proofs.Ytdgehbjiphahhaa


