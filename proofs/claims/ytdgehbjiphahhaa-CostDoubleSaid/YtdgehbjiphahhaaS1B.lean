/-
  Instructions: subprograms, jumps.
-/
import Derived.Test.YtdgehbjiphahhaaS1AB
namespace Go.Proofs.Ytdgehbjiphahhaa
open Go.RowKit
set_option linter.unusedVariables false
set_option linter.unusedSimpArgs false
set_option linter.unusedSectionVars false
set_option maxRecDepth 100000
set_option maxHeartbeats 4000000
structure Part where
  fFrom : Int
  fTo : Int
abbrev c_Part (x : Part) : List Value := [.int .i64 (x.fFrom), .int .i64 (x.fTo)]
def v_Part (x : Part) : Value := .agg #[.int .i64 (x.fFrom), .int .i64 (x.fTo)]
theorem c_Part_len (x : Part) : (c_Part x).length = 2 := rfl
theorem c_Part_one (x : Part) : ((c_Part x).all fun u => u.oneCell') = true := rfl
def vt0 (r : (Int) × (Bool)) : Value := .tuple #[(.int .i64 (r.1)), (.bool (r.2))]
noncomputable def zr82 : Value := (Try.prog.info? 86).bind TypeInfo.zero |>.getD undef
theorem rt82 : RowT Try.prog 82 86 ((Try.prog.info? 86).getD default) zr82 2 16 := ⟨by kernel_rfl, by kernel_rfl, by kernel_rfl, by kernel_rfl, by kernel_rfl, by kernel_rfl, by decide⟩
def vt1 (r : (Int) × (Int)) : Value := .tuple #[(.int .i64 (r.1)), (.int .i64 (r.2))]
noncomputable def m_insn_ends (n0 : Nat) (A0 : Nat → Insn) (y1 : Part) : Option ((Int) × (Bool)) :=
  (m_op_IsSecond n0 A0 (IntKind.i64.wrap (y1.fTo - 1))).bind fun r0 =>
  bif r0 then
    (bif inR (IntKind.i64.wrap ((IntKind.i64.wrap (y1.fTo - 1)) - 1)) n0 then
      (bif ((A0 ((IntKind.i64.wrap ((IntKind.i64.wrap (y1.fTo - 1)) - 1))).toNat)).fOp == 149#8 then
        (some ((IntKind.i64.wrap ((IntKind.i64.wrap (y1.fTo - 1)) - 1)), true))
      else (some ((IntKind.i64.wrap ((IntKind.i64.wrap (y1.fTo - 1)) - 1)), (((A0 ((IntKind.i64.wrap ((IntKind.i64.wrap (y1.fTo - 1)) - 1))).toNat)).fOp == 5#8))))
    else (none))
  else (bif inR (IntKind.i64.wrap (y1.fTo - 1)) n0 then
    (bif ((A0 ((IntKind.i64.wrap (y1.fTo - 1))).toNat)).fOp == 149#8 then
      (some ((IntKind.i64.wrap (y1.fTo - 1)), true))
    else (some ((IntKind.i64.wrap (y1.fTo - 1)), (((A0 ((IntKind.i64.wrap (y1.fTo - 1))).toNat)).fOp == 5#8))))
  else (none))
section
variable {M : Nat → Prop} {B0 : Nat} {S : World → Prop} (hU : Up M B0 S) (a0 : Option Addr) (p0 : Nat) (q0 : Nat) (n0 : Nat) (k0 : Nat) (A0 : Nat → Insn) (hR0 : Ro S c_Insn 5 a0 p0 q0 n0 A0) (y1 : Part)
include hU a0 p0 q0 n0 k0 A0 hR0 y1
theorem ok_insn_ends (r : (Int) × (Bool)) (e : m_insn_ends n0 A0 y1 = some r) : ConG Try.prog S 53 #[.slice a0 n0 (n0 + k0), (v_Part y1)] (vt0 r) := by
  unfold m_insn_ends at e
  replace e := bindO_eq e
  obtain ⟨r0, e_r0, e⟩ := e
  try dsimp only at e
  replace e := cond_eq_or e
  let P1 : List (PG Try.prog M B0 S) := [.o, .o, .o, .o, .a 0, .o, .o, .o, .o]
  rcases e with ⟨hq0, e⟩ | ⟨hq0, e⟩
  · subst hq0
    replace e := cond_eq_or e
    let P2 : List (PG Try.prog M B0 S) := P1 ++ [.cg (ok_op_IsSecond hU a0 p0 q0 n0 k0 A0 hR0 (IntKind.i64.wrap (y1.fTo - 1)) true e_r0), .o, .o, .o, .r [0, 1, 2, 3, 4, 5, 6, 7, 8, 9, 10, 11, 12, 13, 14, 15, 16] [] [], .o, .o, .o]
    rcases e with ⟨hq1, e⟩ | ⟨hq1, e⟩
    · replace e := cond_eq_or e
      let P3 : List (PG Try.prog M B0 S) := P2 ++ [.q (ixRo_ok (kd := .i64) (T := 26) (x := (IntKind.i64.wrap ((IntKind.i64.wrap (y1.fTo - 1)) - 1))) (sz := 5) rfl (fun w => by kernel_rfl) hR0 hq1), .o, .l (accRo hR0 c_Insn_len (inR_nat hq1) 0 [.int .u8 (nn ((A0 ((IntKind.i64.wrap ((IntKind.i64.wrap (y1.fTo - 1)) - 1))).toNat)).fOp)] rfl)]
      rcases e with ⟨hq2, e⟩ | ⟨hq2, e⟩
      · injection e with e; subst e; exact fn_conG hU (P := Try.prog) Try.func53 (fun xs w => by kernel_rfl) _ _ (P3 ++ [.t (u_eq ((A0 ((IntKind.i64.wrap ((IntKind.i64.wrap (y1.fTo - 1)) - 1))).toNat)).fOp (149#8)) hq2, .o, .o, .o, .o]) [] (fun b => by kernel_rfl)
      · injection e with e; subst e; exact fn_conG hU (P := Try.prog) Try.func53 (fun xs w => by kernel_rfl) _ _ (P3 ++ [.t (u_eq ((A0 ((IntKind.i64.wrap ((IntKind.i64.wrap (y1.fTo - 1)) - 1))).toNat)).fOp (149#8)) hq2, .o, .o, .o, .q (ixRo_ok (kd := .i64) (T := 26) (x := (IntKind.i64.wrap ((IntKind.i64.wrap (y1.fTo - 1)) - 1))) (sz := 5) rfl (fun w => by kernel_rfl) hR0 hq1), .o, .l (accRo hR0 c_Insn_len (inR_nat hq1) 0 [.int .u8 (nn ((A0 ((IntKind.i64.wrap ((IntKind.i64.wrap (y1.fTo - 1)) - 1))).toNat)).fOp)] rfl), .t (u_eq ((A0 ((IntKind.i64.wrap ((IntKind.i64.wrap (y1.fTo - 1)) - 1))).toNat)).fOp (5#8)) rfl, .o, .o, .o]) [] (fun b => by kernel_rfl)
    · exact none_some e
  · subst hq0
    replace e := cond_eq_or e
    let P4 : List (PG Try.prog M B0 S) := P1 ++ [.cg (ok_op_IsSecond hU a0 p0 q0 n0 k0 A0 hR0 (IntKind.i64.wrap (y1.fTo - 1)) false e_r0), .r [0, 1, 2, 3, 4, 5, 6, 7, 8, 9, 10, 11, 12, 13, 14, 15, 16] [] [], .o, .o, .o]
    rcases e with ⟨hq1, e⟩ | ⟨hq1, e⟩
    · replace e := cond_eq_or e
      let P5 : List (PG Try.prog M B0 S) := P4 ++ [.q (ixRo_ok (kd := .i64) (T := 26) (x := (IntKind.i64.wrap (y1.fTo - 1))) (sz := 5) rfl (fun w => by kernel_rfl) hR0 hq1), .o, .l (accRo hR0 c_Insn_len (inR_nat hq1) 0 [.int .u8 (nn ((A0 ((IntKind.i64.wrap (y1.fTo - 1))).toNat)).fOp)] rfl)]
      rcases e with ⟨hq2, e⟩ | ⟨hq2, e⟩
      · injection e with e; subst e; exact fn_conG hU (P := Try.prog) Try.func53 (fun xs w => by kernel_rfl) _ _ (P5 ++ [.t (u_eq ((A0 ((IntKind.i64.wrap (y1.fTo - 1))).toNat)).fOp (149#8)) hq2, .o, .o, .o, .o]) [] (fun b => by kernel_rfl)
      · injection e with e; subst e; exact fn_conG hU (P := Try.prog) Try.func53 (fun xs w => by kernel_rfl) _ _ (P5 ++ [.t (u_eq ((A0 ((IntKind.i64.wrap (y1.fTo - 1))).toNat)).fOp (149#8)) hq2, .o, .o, .o, .q (ixRo_ok (kd := .i64) (T := 26) (x := (IntKind.i64.wrap (y1.fTo - 1))) (sz := 5) rfl (fun w => by kernel_rfl) hR0 hq1), .o, .l (accRo hR0 c_Insn_len (inR_nat hq1) 0 [.int .u8 (nn ((A0 ((IntKind.i64.wrap (y1.fTo - 1))).toNat)).fOp)] rfl), .t (u_eq ((A0 ((IntKind.i64.wrap (y1.fTo - 1))).toNat)).fOp (5#8)) rfl, .o, .o, .o]) [] (fun b => by kernel_rfl)
    · exact none_some e
inductive Sh_insn_jumpsStay_L0 where
  | c0 (s0_0 : Int)
inductive Ex_insn_jumpsStay_L0 where
  | e0 
  | e1 (c1_0 : Int)
noncomputable def st_insn_jumpsStay_L0 (n0 : Nat) (A0 : Nat → Insn) (y1 : Part) : Sh_insn_jumpsStay_L0 → Option (Sh_insn_jumpsStay_L0 ⊕ Ex_insn_jumpsStay_L0)
  | .c0 s0_0 =>
    bif decide (s0_0 < y1.fTo) then
      (bif inR s0_0 n0 then
        (bif m_op_Jumps ((A0 (s0_0).toNat)) then
          (bif decide ((IntKind.i64.wrap ((IntKind.i64.wrap (s0_0 + 1)) + (ii ((A0 (s0_0).toNat)).fOff))) < y1.fFrom) then
            (some (.inr (.e1 s0_0)))
          else (bif decide (y1.fTo ≤ (IntKind.i64.wrap ((IntKind.i64.wrap (s0_0 + 1)) + (ii ((A0 (s0_0).toNat)).fOff)))) then
            (some (.inr (.e1 s0_0)))
          else ((m_op_IsSecond n0 A0 (IntKind.i64.wrap ((IntKind.i64.wrap (s0_0 + 1)) + (ii ((A0 (s0_0).toNat)).fOff)))).bind fun rb0 =>
          bif rb0 then
            (some (.inr (.e1 s0_0)))
          else (bindT (m_op_Width ((A0 (s0_0).toNat))) fun rb1 =>
          some (.inl (.c0 (IntKind.i64.wrap (s0_0 + rb1))))))))
        else (bindT (m_op_Width ((A0 (s0_0).toNat))) fun rb0 =>
        some (.inl (.c0 (IntKind.i64.wrap (s0_0 + rb0))))))
      else (none))
    else (some (.inr (.e0 )))
noncomputable def bd_insn_jumpsStay_L0 : Code := codeOf Try.f41 [1, 0, 1, 0, 0]
def fl_insn_jumpsStay_L0 (a0 : Option Addr) (p0 : Nat) (q0 : Nat) (n0 : Nat) (k0 : Nat) (A0 : Nat → Insn) (y1 : Part) : Sh_insn_jumpsStay_L0 → List L1 → List Value
  | .c0 s0_0, ls => [.slice a0 n0 (n0 + k0), .pointer (some ⟨(lget ls 0).n, 0, none⟩), .int .i64 (0), .bool false, .int .i64 (s0_0)]
def mf_insn_jumpsStay_L0 : Sh_insn_jumpsStay_L0 → List (Nat × Nat)
  | .c0 _ => [(1, 2), (4, 45)]
noncomputable def fr_insn_jumpsStay_L0 (a0 : Option Addr) (p0 : Nat) (q0 : Nat) (n0 : Nat) (k0 : Nat) (A0 : Nat → Insn) (y1 : Part) (s : Sh_insn_jumpsStay_L0) : List L1 → List Value := mrgF (mf_insn_jumpsStay_L0 s) (fl_insn_jumpsStay_L0 a0 p0 q0 n0 k0 A0 y1 s) 1
def Hs_insn_jumpsStay_L0 (a0 : Option Addr) (p0 : Nat) (q0 : Nat) (n0 : Nat) (k0 : Nat) (A0 : Nat → Insn) (y1 : Part) : Sh_insn_jumpsStay_L0 → List L1 → List Obj
  | .c0 s0_0, ls => [.cells #[.int .i64 (y1.fFrom), .int .i64 (y1.fTo)] 86, unb]
def vl_insn_jumpsStay_L0 (a0 : Option Addr) (p0 : Nat) (q0 : Nat) (n0 : Nat) (k0 : Nat) (A0 : Nat → Insn) (y1 : Part) : Ex_insn_jumpsStay_L0 → List L1 → List Value
  | .e0 , ls => [.slice a0 n0 (n0 + k0), .pointer (some ⟨(lget ls 0).n, 0, none⟩), .int .i64 (0), .bool false]
  | .e1 c1_0, ls => [.slice a0 n0 (n0 + k0), .pointer (some ⟨(lget ls 0).n, 0, none⟩), .int .i64 (c1_0), .bool false]
def mk_insn_jumpsStay_L0 : Ex_insn_jumpsStay_L0 → List (Nat × Nat)
  | .e0  => [(1, 2), (3, 46)]
  | .e1 _ => [(1, 2), (3, 46)]
noncomputable def vf_insn_jumpsStay_L0 (a0 : Option Addr) (p0 : Nat) (q0 : Nat) (n0 : Nat) (k0 : Nat) (A0 : Nat → Insn) (y1 : Part) (r : Ex_insn_jumpsStay_L0) : List L1 → List Value := mrgF (mk_insn_jumpsStay_L0 r) (vl_insn_jumpsStay_L0 a0 p0 q0 n0 k0 A0 y1 r) 1
def Hf_insn_jumpsStay_L0 (a0 : Option Addr) (p0 : Nat) (q0 : Nat) (n0 : Nat) (k0 : Nat) (A0 : Nat → Insn) (y1 : Part) : Ex_insn_jumpsStay_L0 → List L1 → List Obj
  | .e0 , ls => [.cells #[.int .i64 (y1.fFrom), .int .i64 (y1.fTo)] 86, unb]
  | .e1 c1_0, ls => [.cells #[.int .i64 (y1.fFrom), .int .i64 (y1.fTo)] 86, unb]
def ex_insn_jumpsStay_L0 : Ex_insn_jumpsStay_L0 → Ex
  | .e0  => (.exit 0)
  | .e1 _ => .ret
theorem go_insn_jumpsStay_L0 (s : Sh_insn_jumpsStay_L0) (r : Ex_insn_jumpsStay_L0) (h : lpO (st_insn_jumpsStay_L0 n0 A0 y1) s = some r) : GoesG Try.prog M B0 S (.loop bd_insn_jumpsStay_L0) 2 (fr_insn_jumpsStay_L0 a0 p0 q0 n0 k0 A0 y1 s) (Hs_insn_jumpsStay_L0 a0 p0 q0 n0 k0 A0 y1 s) (ex_insn_jumpsStay_L0 r) 1 (vf_insn_jumpsStay_L0 a0 p0 q0 n0 k0 A0 y1 r) (Hf_insn_jumpsStay_L0 a0 p0 q0 n0 k0 A0 y1 r) 2 :=
  goes_lpO (fun s q e => by
    cases s with
    | c0 s0_0 =>
      unfold st_insn_jumpsStay_L0 at e
      dsimp only at e
      replace e := cond_eq_or e
      rcases e with ⟨hq0, e⟩ | ⟨hq0, e⟩
      · replace e := cond_eq_or e
        let P1 : List (PG Try.prog M B0 S) := [.o, .o, .a 0, .b (z_lssT hq0), .o, .o]
        rcases e with ⟨hq1, e⟩ | ⟨hq1, e⟩
        · replace e := cond_eq_or e
          let P2 : List (PG Try.prog M B0 S) := P1 ++ [.q (ixRo_ok (kd := .i64) (T := 26) (x := s0_0) (sz := 5) rfl (fun w => by kernel_rfl) hR0 hq1), .l (accRo hR0 c_Insn_len (inR_nat hq1) 0 [.int .u8 (nn ((A0 (s0_0).toNat)).fOp), .int .u8 (nn ((A0 (s0_0).toNat)).fDst), .int .u8 (nn ((A0 (s0_0).toNat)).fSrc), .int .i16 (ii ((A0 (s0_0).toNat)).fOff), .int .i32 (ii ((A0 (s0_0).toNat)).fImm)] rfl)]
          rcases e with ⟨hq2, e⟩ | ⟨hq2, e⟩
          · replace e := cond_eq_or e
            let P3 : List (PG Try.prog M B0 S) := P2 ++ [.cg (ok_op_Jumps hU ((A0 (s0_0).toNat)) true hq2), .o, .o, .o, .o, .o, .q (ixRo_ok (kd := .i64) (T := 26) (x := s0_0) (sz := 5) rfl (fun w => by kernel_rfl) hR0 hq1), .o, .l (accRo hR0 c_Insn_len (inR_nat hq1) 3 [.int .i16 (ii ((A0 (s0_0).toNat)).fOff)] rfl), .v .i64 (z_of_ii (by decide) ((A0 (s0_0).toNat)).fOff), .o, .o, .o, .o, .a 0]
            rcases e with ⟨hq3, e⟩ | ⟨hq3, e⟩
            · cases e; exact ⟨ne_ret, goes_runM hU (P3 ++ [.b (z_lssT hq3), .o, .o, .o, .o, .o, .o, .o]) [0] (fun b => rfl) (by decide) rfl rfl (fun b => by kernel_rfl)⟩
            · replace e := cond_eq_or e
              rcases e with ⟨hq4, e⟩ | ⟨hq4, e⟩
              · cases e; exact ⟨ne_ret, goes_runM hU (P3 ++ [.b (z_lssF hq3), .o, .o, .o, .a 0, .b (z_geqT hq4), .o, .o, .o, .o, .o, .o]) [0] (fun b => rfl) (by decide) rfl rfl (fun b => by kernel_rfl)⟩
              · replace e := bindO_eq e
                obtain ⟨rb0, e_rb0, e⟩ := e
                try dsimp only at e
                replace e := cond_eq_or e
                rcases e with ⟨hq5, e⟩ | ⟨hq5, e⟩
                · subst hq5
                  cases e; exact ⟨ne_ret, goes_runM hU (P3 ++ [.b (z_lssF hq3), .o, .o, .o, .a 0, .b (z_geqF hq4), .o, .o, .o, .o, .cg (ok_op_IsSecond hU a0 p0 q0 n0 k0 A0 hR0 (IntKind.i64.wrap ((IntKind.i64.wrap (s0_0 + 1)) + (ii ((A0 (s0_0).toNat)).fOff))) true e_rb0), .o, .o, .o, .o]) [0] (fun b => rfl) (by decide) rfl rfl (fun b => by kernel_rfl)⟩
                · subst hq5
                  replace e := bindT_eq e
                  obtain ⟨rb1, e_rb1, e⟩ := e
                  try dsimp only at e
                  cases e; exact goes_runM hU (P3 ++ [.b (z_lssF hq3), .o, .o, .o, .a 0, .b (z_geqF hq4), .o, .o, .o, .o, .cg (ok_op_IsSecond hU a0 p0 q0 n0 k0 A0 hR0 (IntKind.i64.wrap ((IntKind.i64.wrap (s0_0 + 1)) + (ii ((A0 (s0_0).toNat)).fOff))) false e_rb0), .o, .o, .o, .o, .q (ixRo_ok (kd := .i64) (T := 26) (x := s0_0) (sz := 5) rfl (fun w => by kernel_rfl) hR0 hq1), .l (accRo hR0 c_Insn_len (inR_nat hq1) 0 [.int .u8 (nn ((A0 (s0_0).toNat)).fOp), .int .u8 (nn ((A0 (s0_0).toNat)).fDst), .int .u8 (nn ((A0 (s0_0).toNat)).fSrc), .int .i16 (ii ((A0 (s0_0).toNat)).fOff), .int .i32 (ii ((A0 (s0_0).toNat)).fImm)] rfl), .cg (ok_op_Width hU ((A0 (s0_0).toNat)) rb1 e_rb1), .o, .o]) [0] (fun b => rfl) (by decide) rfl rfl (fun b => by kernel_rfl)
          · replace e := bindT_eq e
            obtain ⟨rb0, e_rb0, e⟩ := e
            try dsimp only at e
            cases e; exact goes_runM hU (P2 ++ [.cg (ok_op_Jumps hU ((A0 (s0_0).toNat)) false hq2), .o, .o, .o, .o, .q (ixRo_ok (kd := .i64) (T := 26) (x := s0_0) (sz := 5) rfl (fun w => by kernel_rfl) hR0 hq1), .l (accRo hR0 c_Insn_len (inR_nat hq1) 0 [.int .u8 (nn ((A0 (s0_0).toNat)).fOp), .int .u8 (nn ((A0 (s0_0).toNat)).fDst), .int .u8 (nn ((A0 (s0_0).toNat)).fSrc), .int .i16 (ii ((A0 (s0_0).toNat)).fOff), .int .i32 (ii ((A0 (s0_0).toNat)).fImm)] rfl), .cg (ok_op_Width hU ((A0 (s0_0).toNat)) rb0 e_rb0), .o, .o]) [0] (fun b => rfl) (by decide) rfl rfl (fun b => by kernel_rfl)
        · exact none_some e
      · cases e; exact ⟨ne_exit 0, goes_runM hU [.o, .o, .a 0, .b (z_lssF hq0)] [0] (fun b => rfl) (by decide) rfl rfl (fun b => by kernel_rfl)⟩) s r h
noncomputable def t0_insn_jumpsStay_L0_0 (a0 : Option Addr) (p0 : Nat) (q0 : Nat) (n0 : Nat) (k0 : Nat) (A0 : Nat → Insn) (y1 : Part) (s0_0 : Int) (ls : List L1) : List Value := List.append [.slice a0 n0 (n0 + k0), (v_Part y1), undef, .pointer (some ⟨(lget ls 0).n, 0, none⟩), .int .i64 (0), .bool false, .int .i64 (s0_0), undef, .pointer (some ⟨(lget ls 0).n, 0, none⟩), .int .i64 (y1.fFrom)] (und 42)
def pre_insn_jumpsStay_L0_0 (a0 : Option Addr) (p0 : Nat) (q0 : Nat) (n0 : Nat) (k0 : Nat) (A0 : Nat → Insn) (y1 : Part) (s0_0 : Int) (ls : List L1) : List Obj := [.cells #[.int .i64 (y1.fFrom), .int .i64 (y1.fTo)] 86]
theorem sp0_insn_jumpsStay_L0_0_ok (s0_0 : Int) (h : lpO (st_insn_jumpsStay_L0 n0 A0 y1) (.c0 s0_0) = some (.e0 )) : SpcG Try.prog M B0 S ⟨fun ls => .code (.loop bd_insn_jumpsStay_L0) (t0_insn_jumpsStay_L0_0 a0 p0 q0 n0 k0 A0 y1 s0_0 ls), pre_insn_jumpsStay_L0_0 a0 p0 q0 n0 k0 A0 y1 s0_0, 1, (.exit 0), fun ls => vf_insn_jumpsStay_L0 a0 p0 q0 n0 k0 A0 y1 (.e0 ) (ls.take 1 ++ ls.drop 1), fun ls => (Hf_insn_jumpsStay_L0 a0 p0 q0 n0 k0 A0 y1 (.e0 ) (ls.take 1 ++ ls.drop 1)).take 1 ++ List.replicate 0 unb, fun ls => (Hf_insn_jumpsStay_L0 a0 p0 q0 n0 k0 A0 y1 (.e0 ) (ls.take 1 ++ ls.drop 1)).drop 1⟩ :=
  spc_of_goesM hU 0 (k0 := 1) (go_insn_jumpsStay_L0 hU a0 p0 q0 n0 k0 A0 hR0 y1 _ _ h) (t0_insn_jumpsStay_L0_0 a0 p0 q0 n0 k0 A0 y1 s0_0) (pre_insn_jumpsStay_L0_0 a0 p0 q0 n0 k0 A0 y1 s0_0) (fun _ => rfl) (fun ls h => by match ls, h with | [l0], _ => exact ⟨by kernel_rfl, by kernel_rfl⟩) (fun ls h => by match ls, h with | [l0], _ => rfl) (by decide) (by decide) (fun ls => rfl)
theorem sp1_insn_jumpsStay_L0_0_ok (s0_0 : Int) (c1_0 : Int) (h : lpO (st_insn_jumpsStay_L0 n0 A0 y1) (.c0 s0_0) = some (.e1 c1_0)) : SpcG Try.prog M B0 S ⟨fun ls => .code (.loop bd_insn_jumpsStay_L0) (t0_insn_jumpsStay_L0_0 a0 p0 q0 n0 k0 A0 y1 s0_0 ls), pre_insn_jumpsStay_L0_0 a0 p0 q0 n0 k0 A0 y1 s0_0, 1, .ret, fun ls => vf_insn_jumpsStay_L0 a0 p0 q0 n0 k0 A0 y1 (.e1 c1_0) (ls.take 1 ++ ls.drop 1), fun ls => (Hf_insn_jumpsStay_L0 a0 p0 q0 n0 k0 A0 y1 (.e1 c1_0) (ls.take 1 ++ ls.drop 1)).take 1 ++ List.replicate 0 unb, fun ls => (Hf_insn_jumpsStay_L0 a0 p0 q0 n0 k0 A0 y1 (.e1 c1_0) (ls.take 1 ++ ls.drop 1)).drop 1⟩ :=
  spc_of_goesM hU 0 (k0 := 1) (go_insn_jumpsStay_L0 hU a0 p0 q0 n0 k0 A0 hR0 y1 _ _ h) (t0_insn_jumpsStay_L0_0 a0 p0 q0 n0 k0 A0 y1 s0_0) (pre_insn_jumpsStay_L0_0 a0 p0 q0 n0 k0 A0 y1 s0_0) (fun _ => rfl) (fun ls h => by match ls, h with | [l0], _ => exact ⟨by kernel_rfl, by kernel_rfl⟩) (fun ls h => by match ls, h with | [l0], _ => rfl) (by decide) (by decide) (fun ls => rfl)
noncomputable def m_insn_jumpsStay (n0 : Nat) (A0 : Nat → Insn) (y1 : Part) : Option ((Int) × (Bool)) :=
  (lpO (st_insn_jumpsStay_L0 n0 A0 y1) (.c0 y1.fFrom)).bind fun g0 => match g0 with
  | .e0  => (some (0, true))
  | .e1 g0_0 => (some (g0_0, false))
theorem ok_insn_jumpsStay (r : (Int) × (Bool)) (e : m_insn_jumpsStay n0 A0 y1 = some r) : ConG Try.prog S 41 #[.slice a0 n0 (n0 + k0), (v_Part y1)] (vt0 r) := by
  unfold m_insn_jumpsStay at e
  replace e := bindO_eq e
  obtain ⟨g0, e_g0, e⟩ := e
  rcases g0 with _ | ⟨g0_0⟩
  · try dsimp only at e
    injection e with e; subst e; exact fn_conG hU (P := Try.prog) Try.func41 (fun xs w => by kernel_rfl) _ _ [.o, .o, .o, .o, .a 0, .o, .cp, .cx (sp0_insn_jumpsStay_L0_0_ok hU a0 p0 q0 n0 k0 A0 hR0 y1 y1.fFrom  e_g0) [0], .o, .o] [] (fun b => by kernel_rfl)
  · try dsimp only at e
    injection e with e; subst e; exact fn_conG hU (P := Try.prog) Try.func41 (fun xs w => by kernel_rfl) _ _ [.o, .o, .o, .o, .a 0, .o, .cp, .cx (sp1_insn_jumpsStay_L0_0_ok hU a0 p0 q0 n0 k0 A0 hR0 y1 y1.fFrom g0_0 e_g0) [0]] [] (fun b => by kernel_rfl)
inductive Sh_insn_split_L0 where
  | c0 (s0_0 : Nat → Bool) (s0_1 : Int)
inductive Ex_insn_split_L0 where
  | e0 (c0_0 : Nat → Bool)
noncomputable def st_insn_split_L0 (n0 : Nat) (A0 : Nat → Insn) : Sh_insn_split_L0 → Option (Sh_insn_split_L0 ⊕ Ex_insn_split_L0)
  | .c0 s0_0 s0_1 =>
    bif decide (s0_1 < (n0 : Int)) then
      (bif inR s0_1 n0 then
        (bif m_insn_names ((A0 (s0_1).toNat)) then
          (bif inR (IntKind.i64.wrap ((IntKind.i64.wrap (s0_1 + 1)) + (ii ((A0 (s0_1).toNat)).fImm))) 4096 then
            (bindT (updF s0_0 ((IntKind.i64.wrap ((IntKind.i64.wrap (s0_1 + 1)) + (ii ((A0 (s0_1).toNat)).fImm)))).toNat true) fun rb0 =>
            bindT (m_op_Width ((A0 (s0_1).toNat))) fun rb1 =>
            some (.inl (.c0 rb0 (IntKind.i64.wrap (s0_1 + rb1)))))
          else (none))
        else (bindT (m_op_Width ((A0 (s0_1).toNat))) fun rb0 =>
        some (.inl (.c0 s0_0 (IntKind.i64.wrap (s0_1 + rb0))))))
      else (none))
    else (some (.inr (.e0 s0_0)))
noncomputable def bd_insn_split_L0 : Code := codeOf Try.f52 [1, 1, 1, 0, 1, 0, 0]
def fl_insn_split_L0 (a0 : Option Addr) (p0 : Nat) (q0 : Nat) (n0 : Nat) (k0 : Nat) (A0 : Nat → Insn) : Sh_insn_split_L0 → List L1 → List Value
  | .c0 s0_0 s0_1, ls => [.slice a0 n0 (n0 + k0), .pointer (some ⟨(lget ls 0).n, 0, none⟩), .int .i64 (s0_1)]
def mf_insn_split_L0 : Sh_insn_split_L0 → List (Nat × Nat)
  | .c0 _ _ => [(1, 2), (2, 52)]
noncomputable def fr_insn_split_L0 (a0 : Option Addr) (p0 : Nat) (q0 : Nat) (n0 : Nat) (k0 : Nat) (A0 : Nat → Insn) (s : Sh_insn_split_L0) : List L1 → List Value := mrgF (mf_insn_split_L0 s) (fl_insn_split_L0 a0 p0 q0 n0 k0 A0 s) 1
def Hs_insn_split_L0 (a0 : Option Addr) (p0 : Nat) (q0 : Nat) (n0 : Nat) (k0 : Nat) (A0 : Nat → Insn) : Sh_insn_split_L0 → List L1 → List Obj
  | .c0 s0_0 s0_1, ls => [.cells ⟨esG cB 4096 s0_0⟩ 121, unb]
def vl_insn_split_L0 (a0 : Option Addr) (p0 : Nat) (q0 : Nat) (n0 : Nat) (k0 : Nat) (A0 : Nat → Insn) : Ex_insn_split_L0 → List L1 → List Value
  | .e0 c0_0, ls => [.slice a0 n0 (n0 + k0), .pointer (some ⟨(lget ls 0).n, 0, none⟩)]
def mk_insn_split_L0 : Ex_insn_split_L0 → List (Nat × Nat)
  | .e0 _ => [(1, 2), (1, 53)]
noncomputable def vf_insn_split_L0 (a0 : Option Addr) (p0 : Nat) (q0 : Nat) (n0 : Nat) (k0 : Nat) (A0 : Nat → Insn) (r : Ex_insn_split_L0) : List L1 → List Value := mrgF (mk_insn_split_L0 r) (vl_insn_split_L0 a0 p0 q0 n0 k0 A0 r) 1
def Hf_insn_split_L0 (a0 : Option Addr) (p0 : Nat) (q0 : Nat) (n0 : Nat) (k0 : Nat) (A0 : Nat → Insn) : Ex_insn_split_L0 → List L1 → List Obj
  | .e0 c0_0, ls => [.cells ⟨esG cB 4096 c0_0⟩ 121, unb]
def ex_insn_split_L0 : Ex_insn_split_L0 → Ex
  | .e0 _ => (.exit 0)
end
section
variable {M : Nat → Prop} {B0 : Nat} {S : World → Prop} (hU : Up M B0 S) (a0 : Option Addr) (p0 : Nat) (q0 : Nat) (n0 : Nat) (k0 : Nat) (A0 : Nat → Insn) (hR0 : Ro S c_Insn 5 a0 p0 q0 n0 A0)
include hU a0 p0 q0 n0 k0 A0 hR0
theorem go_insn_split_L0 (s : Sh_insn_split_L0) (r : Ex_insn_split_L0) (h : lpO (st_insn_split_L0 n0 A0) s = some r) : GoesG Try.prog M B0 S (.loop bd_insn_split_L0) 2 (fr_insn_split_L0 a0 p0 q0 n0 k0 A0 s) (Hs_insn_split_L0 a0 p0 q0 n0 k0 A0 s) (ex_insn_split_L0 r) 1 (vf_insn_split_L0 a0 p0 q0 n0 k0 A0 r) (Hf_insn_split_L0 a0 p0 q0 n0 k0 A0 r) 2 :=
  goes_lpO (fun s q e => by
    cases s with
    | c0 s0_0 s0_1 =>
      unfold st_insn_split_L0 at e
      dsimp only at e
      replace e := cond_eq_or e
      rcases e with ⟨hq0, e⟩ | ⟨hq0, e⟩
      · replace e := cond_eq_or e
        rcases e with ⟨hq1, e⟩ | ⟨hq1, e⟩
        · replace e := cond_eq_or e
          let P1 : List (PG Try.prog M B0 S) := [.o, .o, .o, .b (z_lssT hq0), .o, .o, .q (ixRo_ok (kd := .i64) (T := 26) (x := s0_1) (sz := 5) rfl (fun w => by kernel_rfl) hR0 hq1), .l (accRo hR0 c_Insn_len (inR_nat hq1) 0 [.int .u8 (nn ((A0 (s0_1).toNat)).fOp), .int .u8 (nn ((A0 (s0_1).toNat)).fDst), .int .u8 (nn ((A0 (s0_1).toNat)).fSrc), .int .i16 (ii ((A0 (s0_1).toNat)).fOff), .int .i32 (ii ((A0 (s0_1).toNat)).fImm)] rfl)]
          rcases e with ⟨hq2, e⟩ | ⟨hq2, e⟩
          · replace e := cond_eq_or e
            rcases e with ⟨hq3, e⟩ | ⟨hq3, e⟩
            · replace e := bindT_eq e
              obtain ⟨rb0, e_rb0, e⟩ := e
              try dsimp only at e
              replace e := bindT_eq e
              obtain ⟨rb1, e_rb1, e⟩ := e
              try dsimp only at e
              cases e; exact goes_runM hU (P1 ++ [.cg (ok_insn_names hU ((A0 (s0_1).toNat)) true hq2), .o, .o, .o, .o, .q (ixRo_ok (kd := .i64) (T := 26) (x := s0_1) (sz := 5) rfl (fun w => by kernel_rfl) hR0 hq1), .o, .l (accRo hR0 c_Insn_len (inR_nat hq1) 4 [.int .i32 (ii ((A0 (s0_1).toNat)).fImm)] rfl), .v .i64 (z_of_ii (by decide) ((A0 (s0_1).toNat)).fImm), .o, .q (ixA_ok (kd := .i64) (T := 121) (x := (IntKind.i64.wrap ((IntKind.i64.wrap (s0_1 + 1)) + (ii ((A0 (s0_1).toNat)).fImm)))) (sz := 1) (N := 4096) rfl rfl (fun w => by kernel_rfl) hq3), .x (sqStFr_ok (T := 4) (e := 121) (f := cB) (A := s0_0) (v := true) 0 (.bool true) cB_len cB_one rfl rfl (fun w => by kernel_rfl) (inR_nat hq3) e_rb0) [0], .o, .o, .o, .q (ixRo_ok (kd := .i64) (T := 26) (x := s0_1) (sz := 5) rfl (fun w => by kernel_rfl) hR0 hq1), .l (accRo hR0 c_Insn_len (inR_nat hq1) 0 [.int .u8 (nn ((A0 (s0_1).toNat)).fOp), .int .u8 (nn ((A0 (s0_1).toNat)).fDst), .int .u8 (nn ((A0 (s0_1).toNat)).fSrc), .int .i16 (ii ((A0 (s0_1).toNat)).fOff), .int .i32 (ii ((A0 (s0_1).toNat)).fImm)] rfl), .cg (ok_op_Width hU ((A0 (s0_1).toNat)) rb1 e_rb1), .o, .o]) [0] (fun b => rfl) (by decide) rfl rfl (fun b => by kernel_rfl)
            · exact none_some e
          · replace e := bindT_eq e
            obtain ⟨rb0, e_rb0, e⟩ := e
            try dsimp only at e
            cases e; exact goes_runM hU (P1 ++ [.cg (ok_insn_names hU ((A0 (s0_1).toNat)) false hq2), .o, .o, .o, .q (ixRo_ok (kd := .i64) (T := 26) (x := s0_1) (sz := 5) rfl (fun w => by kernel_rfl) hR0 hq1), .l (accRo hR0 c_Insn_len (inR_nat hq1) 0 [.int .u8 (nn ((A0 (s0_1).toNat)).fOp), .int .u8 (nn ((A0 (s0_1).toNat)).fDst), .int .u8 (nn ((A0 (s0_1).toNat)).fSrc), .int .i16 (ii ((A0 (s0_1).toNat)).fOff), .int .i32 (ii ((A0 (s0_1).toNat)).fImm)] rfl), .cg (ok_op_Width hU ((A0 (s0_1).toNat)) rb0 e_rb0), .o, .o]) [0] (fun b => rfl) (by decide) rfl rfl (fun b => by kernel_rfl)
        · exact none_some e
      · cases e; exact ⟨ne_exit 0, goes_runM hU [.o, .o, .o, .b (z_lssF hq0)] [0] (fun b => rfl) (by decide) rfl rfl (fun b => by kernel_rfl)⟩) s r h
noncomputable def t0_insn_split_L0_0 (a0 : Option Addr) (p0 : Nat) (q0 : Nat) (n0 : Nat) (k0 : Nat) (A0 : Nat → Insn) (s0_0 : Nat → Bool) (s0_1 : Int) (ls : List L1) : List Value := List.append [.slice a0 n0 (n0 + k0), undef, .slice none 0 0, .pointer (some ⟨(lget ls 0).n, 0, none⟩), .int .i64 (s0_1), undef, undef, .pointer (some ⟨(lget ls 0).n, 0 + 0 * 1, none⟩)] (und 49)
def pre_insn_split_L0_0 (a0 : Option Addr) (p0 : Nat) (q0 : Nat) (n0 : Nat) (k0 : Nat) (A0 : Nat → Insn) (s0_0 : Nat → Bool) (s0_1 : Int) (ls : List L1) : List Obj := [.cells ⟨esG cB 4096 s0_0⟩ 121]
theorem sp0_insn_split_L0_0_ok (s0_0 : Nat → Bool) (s0_1 : Int) (c0_0 : Nat → Bool) (h : lpO (st_insn_split_L0 n0 A0) (.c0 s0_0 s0_1) = some (.e0 c0_0)) : SpcG Try.prog M B0 S ⟨fun ls => .code (.loop bd_insn_split_L0) (t0_insn_split_L0_0 a0 p0 q0 n0 k0 A0 s0_0 s0_1 ls), pre_insn_split_L0_0 a0 p0 q0 n0 k0 A0 s0_0 s0_1, 1, (.exit 0), fun ls => vf_insn_split_L0 a0 p0 q0 n0 k0 A0 (.e0 c0_0) (ls.take 1 ++ ls.drop 1), fun ls => (Hf_insn_split_L0 a0 p0 q0 n0 k0 A0 (.e0 c0_0) (ls.take 1 ++ ls.drop 1)).take 1 ++ List.replicate 0 unb, fun ls => (Hf_insn_split_L0 a0 p0 q0 n0 k0 A0 (.e0 c0_0) (ls.take 1 ++ ls.drop 1)).drop 1⟩ :=
  spc_of_goesM hU 0 (k0 := 1) (go_insn_split_L0 hU a0 p0 q0 n0 k0 A0 hR0 _ _ h) (t0_insn_split_L0_0 a0 p0 q0 n0 k0 A0 s0_0 s0_1) (pre_insn_split_L0_0 a0 p0 q0 n0 k0 A0 s0_0 s0_1) (fun _ => rfl) (fun ls h => by match ls, h with | [l0], _ => exact ⟨by kernel_rfl, by kernel_rfl⟩) (fun ls h => by match ls, h with | [l0], _ => rfl) (by decide) (by decide) (fun ls => rfl)
inductive Sh_insn_split_L1 where
  | c0 
  | c1 (s0_0 : Nat) (s0_1 : Nat → Part) (s0_2 : Int)
inductive Ex_insn_split_L1 where
  | e0 
  | e1 (c1_0 : Nat) (c1_1 : Nat → Part)
noncomputable def st_insn_split_L1 (n0 : Nat) (g0_0 : Nat → Bool) : Sh_insn_split_L1 → Option (Sh_insn_split_L1 ⊕ Ex_insn_split_L1)
  | .c0  =>
    bif decide (0 < (n0 : Int)) then
      (bif (g0_0 0) then
        (some (.inl (.c1 1 (updF (fun _ => (⟨0, 0⟩ : Part)) 0 (⟨0, 1⟩ : Part)) 1)))
      else (none))
    else (some (.inr (.e0 )))
  | .c1 s0_0 s0_1 s0_2 =>
    bif decide (s0_2 < (n0 : Int)) then
      (bif inR s0_2 4096 then
        (bif (g0_0 (s0_2).toNat) then
          (bif decide (s0_0 ≤ 1000000) then
            (bif inR (IntKind.i64.wrap (((s0_0 + 1) : Int) - 1)) (s0_0 + 1) then
              (bindT (updF (updF s0_1 s0_0 (⟨s0_2, 0⟩ : Part)) ((IntKind.i64.wrap (((s0_0 + 1) : Int) - 1))).toNat (⟨(((updF s0_1 s0_0 (⟨s0_2, 0⟩ : Part)) ((IntKind.i64.wrap (((s0_0 + 1) : Int) - 1))).toNat)).fFrom, (IntKind.i64.wrap (s0_2 + 1))⟩ : Part)) fun rb0 =>
              some (.inl (.c1 (s0_0 + 1) rb0 (IntKind.i64.wrap (s0_2 + 1)))))
            else (none))
          else (none))
        else (bif inR (IntKind.i64.wrap ((s0_0 : Int) - 1)) s0_0 then
          (bindT (updF s0_1 ((IntKind.i64.wrap ((s0_0 : Int) - 1))).toNat (⟨((s0_1 ((IntKind.i64.wrap ((s0_0 : Int) - 1))).toNat)).fFrom, (IntKind.i64.wrap (s0_2 + 1))⟩ : Part)) fun rb0 =>
          some (.inl (.c1 s0_0 rb0 (IntKind.i64.wrap (s0_2 + 1)))))
        else (none)))
      else (none))
    else (some (.inr (.e1 s0_0 s0_1)))
noncomputable def bd_insn_split_L1 : Code := codeOf Try.f52 [1, 1, 1, 1, 1, 0, 1, 0, 0]
def fl_insn_split_L1 (a0 : Option Addr) (p0 : Nat) (q0 : Nat) (n0 : Nat) (k0 : Nat) (A0 : Nat → Insn) (g0_0 : Nat → Bool) : Sh_insn_split_L1 → List L1 → List Value
  | .c0 , ls => [.pointer (some ⟨(lget ls 0).n, 0, none⟩), .slice none 0 0, .int .i64 ((n0 : Int)), .int .i64 (0)]
  | .c1 s0_0 s0_1 s0_2, ls => [.pointer (some ⟨(lget ls 0).n, 0, none⟩), (rowV (lget ls 2) s0_0 2), .int .i64 ((n0 : Int)), .int .i64 (s0_2)]
def mf_insn_split_L1 : Sh_insn_split_L1 → List (Nat × Nat)
  | .c0  => [(0, 3), (1, 1), (1, 29), (2, 20)]
  | .c1 _ _ _ => [(0, 3), (1, 1), (1, 29), (2, 20)]
noncomputable def fr_insn_split_L1 (a0 : Option Addr) (p0 : Nat) (q0 : Nat) (n0 : Nat) (k0 : Nat) (A0 : Nat → Insn) (g0_0 : Nat → Bool) (s : Sh_insn_split_L1) : List L1 → List Value := mrgF (mf_insn_split_L1 s) (fl_insn_split_L1 a0 p0 q0 n0 k0 A0 g0_0 s) 3
def Hs_insn_split_L1 (a0 : Option Addr) (p0 : Nat) (q0 : Nat) (n0 : Nat) (k0 : Nat) (A0 : Nat → Insn) (g0_0 : Nat → Bool) : Sh_insn_split_L1 → List L1 → List Obj
  | .c0 , ls => [.cells ⟨esG cB 4096 g0_0⟩ 121, unb, unb, unb]
  | .c1 s0_0 s0_1 s0_2, ls => [.cells ⟨esG cB 4096 g0_0⟩ 121, unb, rowO (lget ls 2) (esG c_Part s0_0 s0_1) 86 s0_0 2, unb]
def vl_insn_split_L1 (a0 : Option Addr) (p0 : Nat) (q0 : Nat) (n0 : Nat) (k0 : Nat) (A0 : Nat → Insn) (g0_0 : Nat → Bool) : Ex_insn_split_L1 → List L1 → List Value
  | .e0 , ls => [.pointer (some ⟨(lget ls 0).n, 0, none⟩), .slice none 0 0, .int .i64 ((n0 : Int))]
  | .e1 c1_0 c1_1, ls => [.pointer (some ⟨(lget ls 0).n, 0, none⟩), (rowV (lget ls 2) c1_0 2), .int .i64 ((n0 : Int))]
def mk_insn_split_L1 : Ex_insn_split_L1 → List (Nat × Nat)
  | .e0  => [(0, 3), (1, 1), (1, 29), (1, 21)]
  | .e1 _ _ => [(0, 3), (1, 1), (1, 29), (1, 21)]
noncomputable def vf_insn_split_L1 (a0 : Option Addr) (p0 : Nat) (q0 : Nat) (n0 : Nat) (k0 : Nat) (A0 : Nat → Insn) (g0_0 : Nat → Bool) (r : Ex_insn_split_L1) : List L1 → List Value := mrgF (mk_insn_split_L1 r) (vl_insn_split_L1 a0 p0 q0 n0 k0 A0 g0_0 r) 3
def Hf_insn_split_L1 (a0 : Option Addr) (p0 : Nat) (q0 : Nat) (n0 : Nat) (k0 : Nat) (A0 : Nat → Insn) (g0_0 : Nat → Bool) : Ex_insn_split_L1 → List L1 → List Obj
  | .e0 , ls => [.cells ⟨esG cB 4096 g0_0⟩ 121, unb, unb, unb]
  | .e1 c1_0 c1_1, ls => [.cells ⟨esG cB 4096 g0_0⟩ 121, unb, rowO (lget ls 2) (esG c_Part c1_0 c1_1) 86 c1_0 2, unb]
def ex_insn_split_L1 : Ex_insn_split_L1 → Ex
  | .e0  => (.exit 2)
  | .e1 _ _ => (.exit 2)
theorem go_insn_split_L1 (g0_0 : Nat → Bool) (s : Sh_insn_split_L1) (r : Ex_insn_split_L1) (h : lpO (st_insn_split_L1 n0 g0_0) s = some r) : GoesG Try.prog M B0 S (.loop bd_insn_split_L1) 4 (fr_insn_split_L1 a0 p0 q0 n0 k0 A0 g0_0 s) (Hs_insn_split_L1 a0 p0 q0 n0 k0 A0 g0_0 s) (ex_insn_split_L1 r) 2 (vf_insn_split_L1 a0 p0 q0 n0 k0 A0 g0_0 r) (Hf_insn_split_L1 a0 p0 q0 n0 k0 A0 g0_0 r) 4 :=
  goes_lpO (fun s q e => by
    cases s with
    | c0  =>
      unfold st_insn_split_L1 at e
      dsimp only at e
      replace e := cond_eq_or e
      rcases e with ⟨hq0, e⟩ | ⟨hq0, e⟩
      · replace e := cond_eq_or e
        rcases e with ⟨hq1, e⟩ | ⟨hq1, e⟩
        · cases e; exact goes_runM hU [.b (z_lssT hq0), .o, .o, .o, .q (ixA_ok (kd := .i64) (T := 121) (x := 0) (sz := 1) (N := 4096) rfl rfl (fun w => by kernel_rfl) (show inR 0 4096 = true from by decide)), .l (accF (i := 0) (f := cB) (A := g0_0) (k := 0) 0 [.bool true] cB_len (inR_nat (show inR 0 4096 = true from by decide)) (congrArg (fun b => [Value.bool b]) hq1)), .o, .o, .o, .o, .x (sqAppL1_ok (ty := 82) rt82 #[false, false] (f := c_Part) (c := 1) (⟨0, 0⟩ : Part) (T' := 86) c_Part_len c_Part_one (by decide)) [4], .o, .o, .o, .o, .o, .o, .o, .q (ixM_ok (kd := .i64) (T := 82) (x := 0) (N := 1) (sz := 2) rfl (fun w => by kernel_rfl) (show inR 0 1 = true from by decide)), .o, .x (sqStG_ok (T := 3) (e := 86) (f := c_Part) (A := (fun _ => (⟨0, 0⟩ : Part))) (v := (⟨0, 1⟩ : Part)) 1 (.int .i64 (1)) c_Part_len c_Part_one rfl rfl (fun w => by kernel_rfl) (inR_nat (show inR 0 1 = true from by decide))) [5], .o, .o] [0, 1, 5] (fun b => rfl) (by decide) rfl rfl (fun b => by kernel_rfl)
        · exact none_some e
      · cases e; exact ⟨ne_exit 2, goes_runM hU [.b (z_lssF hq0)] [0, 1, 2] (fun b => rfl) (by decide) rfl rfl (fun b => by kernel_rfl)⟩
    | c1 s0_0 s0_1 s0_2 =>
      unfold st_insn_split_L1 at e
      dsimp only at e
      replace e := cond_eq_or e
      rcases e with ⟨hq0, e⟩ | ⟨hq0, e⟩
      · replace e := cond_eq_or e
        rcases e with ⟨hq1, e⟩ | ⟨hq1, e⟩
        · replace e := cond_eq_or e
          let P1 : List (PG Try.prog M B0 S) := [.b (z_lssT hq0), .o, .o, .o, .q (ixA_ok (kd := .i64) (T := 121) (x := s0_2) (sz := 1) (N := 4096) rfl rfl (fun w => by kernel_rfl) hq1)]
          rcases e with ⟨hq2, e⟩ | ⟨hq2, e⟩
          · replace e := cond_eq_or e
            rcases e with ⟨hq3, e⟩ | ⟨hq3, e⟩
            · replace e := cond_eq_or e
              rcases e with ⟨hq4, e⟩ | ⟨hq4, e⟩
              · replace e := bindT_eq e
                obtain ⟨rb0, e_rb0, e⟩ := e
                try dsimp only at e
                cases e; exact goes_runM hU (P1 ++ [.l (accF (i := 0) (f := cB) (A := g0_0) (k := (s0_2).toNat) 0 [.bool true] cB_len (inR_nat hq1) (congrArg (fun b => [Value.bool b]) hq2)), .o, .o, .o, .o, .x (sqAppL_ok (ty := 82) rt82 #[false, false] (f := c_Part) (N := s0_0) (A := s0_1) (c := 1) [(⟨s0_2, 0⟩ : Part)] (T' := 86) .row c_Part_len c_Part_one hq3 rfl (by decide)) [2, 4], .o, .o, .o, .o, .o, .o, .o, .q (ixM_ok (kd := .i64) (T := 82) (x := (IntKind.i64.wrap (((s0_0 + 1) : Int) - 1))) (N := (s0_0 + 1)) (sz := 2) rfl (fun w => by kernel_rfl) hq4), .o, .x (sqStGr_ok (T := 3) (e := 86) (f := c_Part) (A := updF s0_1 s0_0 (⟨s0_2, 0⟩ : Part)) (v := (⟨(((updF s0_1 s0_0 (⟨s0_2, 0⟩ : Part)) ((IntKind.i64.wrap (((s0_0 + 1) : Int) - 1))).toNat)).fFrom, (IntKind.i64.wrap (s0_2 + 1))⟩ : Part)) 1 (.int .i64 ((IntKind.i64.wrap (s0_2 + 1)))) c_Part_len c_Part_one rfl rfl (fun w => by kernel_rfl) (inR_nat hq4) e_rb0) [5], .o, .o]) [0, 1, 5] (fun b => rfl) (by decide) rfl rfl (fun b => by kernel_rfl)
              · exact none_some e
            · exact none_some e
          · replace e := cond_eq_or e
            rcases e with ⟨hq3, e⟩ | ⟨hq3, e⟩
            · replace e := bindT_eq e
              obtain ⟨rb0, e_rb0, e⟩ := e
              try dsimp only at e
              cases e; exact goes_runM hU (P1 ++ [.l (accF (i := 0) (f := cB) (A := g0_0) (k := (s0_2).toNat) 0 [.bool false] cB_len (inR_nat hq1) (congrArg (fun b => [Value.bool b]) hq2)), .o, .o, .o, .o, .o, .o, .q (ixM_ok (kd := .i64) (T := 82) (x := (IntKind.i64.wrap ((s0_0 : Int) - 1))) (N := s0_0) (sz := 2) rfl (fun w => by kernel_rfl) hq3), .o, .x (sqStGr_ok (T := 3) (e := 86) (f := c_Part) (A := s0_1) (v := (⟨((s0_1 ((IntKind.i64.wrap ((s0_0 : Int) - 1))).toNat)).fFrom, (IntKind.i64.wrap (s0_2 + 1))⟩ : Part)) 1 (.int .i64 ((IntKind.i64.wrap (s0_2 + 1)))) c_Part_len c_Part_one rfl rfl (fun w => by kernel_rfl) (inR_nat hq3) e_rb0) [2], .o, .o]) [0, 1, 2] (fun b => rfl) (by decide) rfl rfl (fun b => by kernel_rfl)
            · exact none_some e
        · exact none_some e
      · cases e; exact ⟨ne_exit 2, goes_runM hU [.b (z_lssF hq0)] [0, 1, 2] (fun b => rfl) (by decide) rfl rfl (fun b => by kernel_rfl)⟩) s r h
noncomputable def t0_insn_split_L1_0 (a0 : Option Addr) (p0 : Nat) (q0 : Nat) (n0 : Nat) (k0 : Nat) (A0 : Nat → Insn) (g0_0 : Nat → Bool)  (ls : List L1) : List Value := List.append [.slice a0 n0 (n0 + k0), ((lget ls 1).u 1), ((lget ls 1).u 2), .pointer (some ⟨(lget ls 0).n, 0, none⟩), ((lget ls 1).u 4), .slice none 0 0] (List.append (jks (lget ls 1).u 6 28) (List.append [.slice a0 n0 (n0 + k0), .int .i64 ((n0 : Int)), .int .i64 (0)] (jks (lget ls 1).u 37 20)))
def pre_insn_split_L1_0 (a0 : Option Addr) (p0 : Nat) (q0 : Nat) (n0 : Nat) (k0 : Nat) (A0 : Nat → Insn) (g0_0 : Nat → Bool)  (ls : List L1) : List Obj := [.cells ⟨esG cB 4096 g0_0⟩ 121, unb]
theorem sp0_insn_split_L1_0_ok (g0_0 : Nat → Bool) (h : lpO (st_insn_split_L1 n0 g0_0) (.c0) = some (.e0 )) : SpcG Try.prog M B0 S ⟨fun ls => .code (.loop bd_insn_split_L1) (t0_insn_split_L1_0 a0 p0 q0 n0 k0 A0 g0_0  ls), pre_insn_split_L1_0 a0 p0 q0 n0 k0 A0 g0_0 , 2, (.exit 2), fun ls => vf_insn_split_L1 a0 p0 q0 n0 k0 A0 g0_0 (.e0 ) (ls.take 2 ++ ls.drop 2), fun ls => (Hf_insn_split_L1 a0 p0 q0 n0 k0 A0 g0_0 (.e0 ) (ls.take 2 ++ ls.drop 2)).take 2 ++ List.replicate 0 unb, fun ls => (Hf_insn_split_L1 a0 p0 q0 n0 k0 A0 g0_0 (.e0 ) (ls.take 2 ++ ls.drop 2)).drop 2⟩ :=
  spc_of_goesM hU 1 (k0 := 2) (go_insn_split_L1 hU a0 p0 q0 n0 k0 A0 hR0 g0_0 _ _ h) (t0_insn_split_L1_0 a0 p0 q0 n0 k0 A0 g0_0 ) (pre_insn_split_L1_0 a0 p0 q0 n0 k0 A0 g0_0 ) (fun _ => rfl) (fun ls h => by match ls, h with | [l0, l1], _ => exact ⟨by kernel_rfl, by kernel_rfl⟩) (fun ls h => by match ls, h with | [l0, l1], _ => rfl) (by decide) (by decide) (fun ls => rfl)
theorem sp1_insn_split_L1_0_ok (g0_0 : Nat → Bool) (c1_0 : Nat) (c1_1 : Nat → Part) (h : lpO (st_insn_split_L1 n0 g0_0) (.c0) = some (.e1 c1_0 c1_1)) : SpcG Try.prog M B0 S ⟨fun ls => .code (.loop bd_insn_split_L1) (t0_insn_split_L1_0 a0 p0 q0 n0 k0 A0 g0_0  ls), pre_insn_split_L1_0 a0 p0 q0 n0 k0 A0 g0_0 , 2, (.exit 2), fun ls => vf_insn_split_L1 a0 p0 q0 n0 k0 A0 g0_0 (.e1 c1_0 c1_1) (ls.take 2 ++ ls.drop 2), fun ls => (Hf_insn_split_L1 a0 p0 q0 n0 k0 A0 g0_0 (.e1 c1_0 c1_1) (ls.take 2 ++ ls.drop 2)).take 2 ++ List.replicate 0 unb, fun ls => (Hf_insn_split_L1 a0 p0 q0 n0 k0 A0 g0_0 (.e1 c1_0 c1_1) (ls.take 2 ++ ls.drop 2)).drop 2⟩ :=
  spc_of_goesM hU 1 (k0 := 2) (go_insn_split_L1 hU a0 p0 q0 n0 k0 A0 hR0 g0_0 _ _ h) (t0_insn_split_L1_0 a0 p0 q0 n0 k0 A0 g0_0 ) (pre_insn_split_L1_0 a0 p0 q0 n0 k0 A0 g0_0 ) (fun _ => rfl) (fun ls h => by match ls, h with | [l0, l1], _ => exact ⟨by kernel_rfl, by kernel_rfl⟩) (fun ls h => by match ls, h with | [l0, l1], _ => rfl) (by decide) (by decide) (fun ls => rfl)
inductive R_insn_split where
  | e0 
  | e1 (c1_0 : Nat) (c1_1 : Nat → Part)
noncomputable def m_insn_split (n0 : Nat) (A0 : Nat → Insn) : Option R_insn_split :=
  (lpO (st_insn_split_L0 n0 A0) (.c0 (updF (fun _ => false) 0 true) 0)).bind fun g0 => match g0 with
  | .e0 g0_0 =>
  (lpO (st_insn_split_L1 n0 g0_0) (.c0)).bind fun g1 => match g1 with
  | .e0  => (some (.e0))
  | .e1 g1_0 g1_1 => (some (.e1 g1_0 g1_1))
def sq0_insn_split (a0 : Option Addr) (p0 : Nat) (q0 : Nat) (n0 : Nat) (k0 : Nat) (A0 : Nat → Insn)  : Spc := ⟨fun ls => .call 52 #[.slice a0 n0 (n0 + k0)], fun ls => [], 0, .normal, fun ls => [.slice none 0 0], fun ls => [], fun ls => []⟩
def sq1_insn_split (a0 : Option Addr) (p0 : Nat) (q0 : Nat) (n0 : Nat) (k0 : Nat) (A0 : Nat → Insn) (c1_0 : Nat) (c1_1 : Nat → Part) : Spc := ⟨fun ls => .call 52 #[.slice a0 n0 (n0 + k0)], fun ls => [], 1, .normal, fun ls => [(rowV (lget ls 0) c1_0 2)], fun ls => [], fun ls => [rowO (lget ls 0) (esG c_Part c1_0 c1_1) 86 c1_0 2]⟩
theorem ok0_insn_split (e : m_insn_split n0 A0 = some (.e0 )) : SpcG Try.prog M B0 S (sq0_insn_split a0 p0 q0 n0 k0 A0 ) := by
  unfold m_insn_split at e
  replace e := bindO_eq e
  obtain ⟨g0, e_g0, e⟩ := e
  obtain ⟨g0_0⟩ := g0
  try dsimp only at e
  replace e := bindO_eq e
  obtain ⟨g1, e_g1, e⟩ := e
  rcases g1 with _ | ⟨g1_0, g1_1⟩
  · try dsimp only at e
    exact fn_specG hU (P := Try.prog) Try.func52 (fun xs w => by kernel_rfl) 0 _ _ (fun _ => rfl) _ _ _ [] [.o, .o, .q (ixA_ok (kd := .i64) (T := 121) (x := 0) (sz := 1) (N := 4096) rfl rfl (fun w => by kernel_rfl) (show inR 0 4096 = true from by decide)), .x (sqStF_ok (T := 4) (e := 121) (f := cB) (A := (fun _ => false)) (v := true) 0 (.bool true) cB_len cB_one rfl rfl (fun w => by kernel_rfl) (inR_nat (show inR 0 4096 = true from by decide))) [0], .o, .cp, .cx (sp0_insn_split_L0_0_ok hU a0 p0 q0 n0 k0 A0 hR0 (updF (fun _ => false) 0 true) 0 g0_0 e_g0) [0], .o, .o, .o, .o, .cp, .cx (sp0_insn_split_L1_0_ok hU a0 p0 q0 n0 k0 A0 hR0 g0_0   e_g1) [0, 1], .o, .o] [] (fun b => by kernel_rfl)
  · try dsimp only at e
    cases e
theorem ok1_insn_split (c1_0 : Nat) (c1_1 : Nat → Part) (e : m_insn_split n0 A0 = some (.e1 c1_0 c1_1)) : SpcG Try.prog M B0 S (sq1_insn_split a0 p0 q0 n0 k0 A0 c1_0 c1_1) := by
  unfold m_insn_split at e
  replace e := bindO_eq e
  obtain ⟨g0, e_g0, e⟩ := e
  obtain ⟨g0_0⟩ := g0
  try dsimp only at e
  replace e := bindO_eq e
  obtain ⟨g1, e_g1, e⟩ := e
  rcases g1 with _ | ⟨g1_0, g1_1⟩
  · try dsimp only at e
    cases e
  · try dsimp only at e
    injection e with e; injection e with i0 i1; subst i0 i1; exact fn_specG hU (P := Try.prog) Try.func52 (fun xs w => by kernel_rfl) 0 _ _ (fun _ => rfl) _ _ _ [2] [.o, .o, .q (ixA_ok (kd := .i64) (T := 121) (x := 0) (sz := 1) (N := 4096) rfl rfl (fun w => by kernel_rfl) (show inR 0 4096 = true from by decide)), .x (sqStF_ok (T := 4) (e := 121) (f := cB) (A := (fun _ => false)) (v := true) 0 (.bool true) cB_len cB_one rfl rfl (fun w => by kernel_rfl) (inR_nat (show inR 0 4096 = true from by decide))) [0], .o, .cp, .cx (sp0_insn_split_L0_0_ok hU a0 p0 q0 n0 k0 A0 hR0 (updF (fun _ => false) 0 true) 0 g0_0 e_g0) [0], .o, .o, .o, .o, .cp, .cx (sp1_insn_split_L1_0_ok hU a0 p0 q0 n0 k0 A0 hR0 g0_0  g1_0 g1_1 e_g1) [0, 1], .o, .o] [] (fun b => by kernel_rfl)
inductive Sh_insn_Subs_L0 where
  | c0 (s0_0 : Int)
inductive Ex_insn_Subs_L0 where
  | e0 
  | e1 (c1_0 : Int) (c1_1 : Int)
noncomputable def st_insn_Subs_L0 (n0 : Nat) (A0 : Nat → Insn) : Sh_insn_Subs_L0 → Option (Sh_insn_Subs_L0 ⊕ Ex_insn_Subs_L0)
  | .c0 s0_0 =>
    bif decide (s0_0 < (n0 : Int)) then
      ((m_insn_checkSlot n0 A0 s0_0).bind fun rb0 =>
      bif rb0 == 0 then
        (bif inR s0_0 n0 then
          (bindT (m_op_Width ((A0 (s0_0).toNat))) fun rb1 =>
          some (.inl (.c0 (IntKind.i64.wrap (s0_0 + rb1)))))
        else (none))
      else (some (.inr (.e1 s0_0 rb0))))
    else (some (.inr (.e0 )))
noncomputable def bd_insn_Subs_L0 : Code := codeOf Try.f40 [1, 1, 0, 1, 0, 0]
def fl_insn_Subs_L0 (a0 : Option Addr) (p0 : Nat) (q0 : Nat) (n0 : Nat) (k0 : Nat) (A0 : Nat → Insn) : Sh_insn_Subs_L0 → List L1 → List Value
  | .c0 s0_0, ls => [.slice a0 n0 (n0 + k0), .slice none 0 0, .int .i64 (0), .int .i64 (0), .int .i64 (s0_0)]
def mf_insn_Subs_L0 : Sh_insn_Subs_L0 → List (Nat × Nat)
  | .c0 _ => [(1, 1), (4, 54)]
noncomputable def fr_insn_Subs_L0 (a0 : Option Addr) (p0 : Nat) (q0 : Nat) (n0 : Nat) (k0 : Nat) (A0 : Nat → Insn) (s : Sh_insn_Subs_L0) : List L1 → List Value := mrgF (mf_insn_Subs_L0 s) (fl_insn_Subs_L0 a0 p0 q0 n0 k0 A0 s) 0
def Hs_insn_Subs_L0 (a0 : Option Addr) (p0 : Nat) (q0 : Nat) (n0 : Nat) (k0 : Nat) (A0 : Nat → Insn) : Sh_insn_Subs_L0 → List L1 → List Obj
  | .c0 s0_0, ls => [unb]
def vl_insn_Subs_L0 (a0 : Option Addr) (p0 : Nat) (q0 : Nat) (n0 : Nat) (k0 : Nat) (A0 : Nat → Insn) : Ex_insn_Subs_L0 → List L1 → List Value
  | .e0 , ls => [.slice a0 n0 (n0 + k0), .slice none 0 0, .int .i64 (0), .int .i64 (0)]
  | .e1 c1_0 c1_1, ls => [.slice a0 n0 (n0 + k0), .slice none 0 0, .int .i64 (c1_0), .int .i64 (c1_1)]
def mk_insn_Subs_L0 : Ex_insn_Subs_L0 → List (Nat × Nat)
  | .e0  => [(1, 1), (3, 55)]
  | .e1 _ _ => [(1, 1), (3, 55)]
noncomputable def vf_insn_Subs_L0 (a0 : Option Addr) (p0 : Nat) (q0 : Nat) (n0 : Nat) (k0 : Nat) (A0 : Nat → Insn) (r : Ex_insn_Subs_L0) : List L1 → List Value := mrgF (mk_insn_Subs_L0 r) (vl_insn_Subs_L0 a0 p0 q0 n0 k0 A0 r) 0
def Hf_insn_Subs_L0 (a0 : Option Addr) (p0 : Nat) (q0 : Nat) (n0 : Nat) (k0 : Nat) (A0 : Nat → Insn) : Ex_insn_Subs_L0 → List L1 → List Obj
  | .e0 , ls => [unb]
  | .e1 c1_0 c1_1, ls => [unb]
def ex_insn_Subs_L0 : Ex_insn_Subs_L0 → Ex
  | .e0  => (.exit 0)
  | .e1 _ _ => .ret
theorem go_insn_Subs_L0 (s : Sh_insn_Subs_L0) (r : Ex_insn_Subs_L0) (h : lpO (st_insn_Subs_L0 n0 A0) s = some r) : GoesG Try.prog M B0 S (.loop bd_insn_Subs_L0) 1 (fr_insn_Subs_L0 a0 p0 q0 n0 k0 A0 s) (Hs_insn_Subs_L0 a0 p0 q0 n0 k0 A0 s) (ex_insn_Subs_L0 r) 0 (vf_insn_Subs_L0 a0 p0 q0 n0 k0 A0 r) (Hf_insn_Subs_L0 a0 p0 q0 n0 k0 A0 r) 1 :=
  goes_lpO (fun s q e => by
    cases s with
    | c0 s0_0 =>
      unfold st_insn_Subs_L0 at e
      dsimp only at e
      replace e := cond_eq_or e
      rcases e with ⟨hq0, e⟩ | ⟨hq0, e⟩
      · replace e := bindO_eq e
        obtain ⟨rb0, e_rb0, e⟩ := e
        try dsimp only at e
        replace e := cond_eq_or e
        let P1 : List (PG Try.prog M B0 S) := [.o, .o, .o, .b (z_lssT hq0), .o, .o, .cg (ok_insn_checkSlot hU a0 p0 q0 n0 k0 A0 hR0 s0_0 rb0 e_rb0), .o, .o]
        rcases e with ⟨hq1, e⟩ | ⟨hq1, e⟩
        · replace e := cond_eq_or e
          rcases e with ⟨hq2, e⟩ | ⟨hq2, e⟩
          · replace e := bindT_eq e
            obtain ⟨rb1, e_rb1, e⟩ := e
            try dsimp only at e
            cases e; exact goes_runM hU (P1 ++ [.b (z_neqT hq1), .o, .o, .o, .q (ixRo_ok (kd := .i64) (T := 26) (x := s0_0) (sz := 5) rfl (fun w => by kernel_rfl) hR0 hq2), .l (accRo hR0 c_Insn_len (inR_nat hq2) 0 [.int .u8 (nn ((A0 (s0_0).toNat)).fOp), .int .u8 (nn ((A0 (s0_0).toNat)).fDst), .int .u8 (nn ((A0 (s0_0).toNat)).fSrc), .int .i16 (ii ((A0 (s0_0).toNat)).fOff), .int .i32 (ii ((A0 (s0_0).toNat)).fImm)] rfl), .cg (ok_op_Width hU ((A0 (s0_0).toNat)) rb1 e_rb1), .o, .o]) [] (fun b => rfl) (by decide) rfl rfl (fun b => by kernel_rfl)
          · exact none_some e
        · cases e; exact ⟨ne_ret, goes_runM hU (P1 ++ [.b (z_neqF hq1), .o, .o, .o, .o, .o]) [] (fun b => rfl) (by decide) rfl rfl (fun b => by kernel_rfl)⟩
      · cases e; exact ⟨ne_exit 0, goes_runM hU [.o, .o, .o, .b (z_lssF hq0)] [] (fun b => rfl) (by decide) rfl rfl (fun b => by kernel_rfl)⟩) s r h
noncomputable def t0_insn_Subs_L0_0 (a0 : Option Addr) (p0 : Nat) (q0 : Nat) (n0 : Nat) (k0 : Nat) (A0 : Nat → Insn) (s0_0 : Int) (ls : List L1) : List Value := List.append [.slice a0 n0 (n0 + k0), undef, .slice none 0 0, .int .i64 (0), .int .i64 (0), .int .i64 (s0_0)] (List.append (und 6) (List.append [.slice a0 n0 (n0 + k0), .int .i64 ((n0 : Int)), .bool false, .bool false, .slice a0 n0 (n0 + k0), .int .i64 ((n0 : Int)), .bool false, .bool false] (und 40)))
def pre_insn_Subs_L0_0 (a0 : Option Addr) (p0 : Nat) (q0 : Nat) (n0 : Nat) (k0 : Nat) (A0 : Nat → Insn) (s0_0 : Int) (ls : List L1) : List Obj := []
theorem sp0_insn_Subs_L0_0_ok (s0_0 : Int) (h : lpO (st_insn_Subs_L0 n0 A0) (.c0 s0_0) = some (.e0 )) : SpcG Try.prog M B0 S ⟨fun ls => .code (.loop bd_insn_Subs_L0) (t0_insn_Subs_L0_0 a0 p0 q0 n0 k0 A0 s0_0 ls), pre_insn_Subs_L0_0 a0 p0 q0 n0 k0 A0 s0_0, 1, (.exit 0), fun ls => vf_insn_Subs_L0 a0 p0 q0 n0 k0 A0 (.e0 ) (ls.take 0 ++ ls.drop 0), fun ls => (Hf_insn_Subs_L0 a0 p0 q0 n0 k0 A0 (.e0 ) (ls.take 0 ++ ls.drop 0)).take 0 ++ List.replicate 0 unb, fun ls => (Hf_insn_Subs_L0 a0 p0 q0 n0 k0 A0 (.e0 ) (ls.take 0 ++ ls.drop 0)).drop 0⟩ :=
  spc_of_goesM hU 0 (k0 := 0) (go_insn_Subs_L0 hU a0 p0 q0 n0 k0 A0 hR0 _ _ h) (t0_insn_Subs_L0_0 a0 p0 q0 n0 k0 A0 s0_0) (pre_insn_Subs_L0_0 a0 p0 q0 n0 k0 A0 s0_0) (fun _ => rfl) (fun ls h => by match ls, h with | [], _ => exact ⟨by kernel_rfl, by kernel_rfl⟩) (fun ls h => by match ls, h with | [], _ => rfl) (by decide) (by decide) (fun ls => rfl)
theorem sp1_insn_Subs_L0_0_ok (s0_0 : Int) (c1_0 : Int) (c1_1 : Int) (h : lpO (st_insn_Subs_L0 n0 A0) (.c0 s0_0) = some (.e1 c1_0 c1_1)) : SpcG Try.prog M B0 S ⟨fun ls => .code (.loop bd_insn_Subs_L0) (t0_insn_Subs_L0_0 a0 p0 q0 n0 k0 A0 s0_0 ls), pre_insn_Subs_L0_0 a0 p0 q0 n0 k0 A0 s0_0, 1, .ret, fun ls => vf_insn_Subs_L0 a0 p0 q0 n0 k0 A0 (.e1 c1_0 c1_1) (ls.take 0 ++ ls.drop 0), fun ls => (Hf_insn_Subs_L0 a0 p0 q0 n0 k0 A0 (.e1 c1_0 c1_1) (ls.take 0 ++ ls.drop 0)).take 0 ++ List.replicate 0 unb, fun ls => (Hf_insn_Subs_L0 a0 p0 q0 n0 k0 A0 (.e1 c1_0 c1_1) (ls.take 0 ++ ls.drop 0)).drop 0⟩ :=
  spc_of_goesM hU 0 (k0 := 0) (go_insn_Subs_L0 hU a0 p0 q0 n0 k0 A0 hR0 _ _ h) (t0_insn_Subs_L0_0 a0 p0 q0 n0 k0 A0 s0_0) (pre_insn_Subs_L0_0 a0 p0 q0 n0 k0 A0 s0_0) (fun _ => rfl) (fun ls h => by match ls, h with | [], _ => exact ⟨by kernel_rfl, by kernel_rfl⟩) (fun ls h => by match ls, h with | [], _ => rfl) (by decide) (by decide) (fun ls => rfl)
inductive Sh_insn_Subs_L1 where
  | c0 (s0_0 : Int)
inductive Ex_insn_Subs_L1 where
  | e0 
  | e1 (c1_0 : Int)
noncomputable def st_insn_Subs_L1 (n0 : Nat) (A0 : Nat → Insn) (g1_0 : Nat) (g1_1 : Nat → Part) : Sh_insn_Subs_L1 → Option (Sh_insn_Subs_L1 ⊕ Ex_insn_Subs_L1)
  | .c0 s0_0 =>
    bif decide (s0_0 < (g1_0 : Int)) then
      (bif inR s0_0 g1_0 then
        ((m_insn_ends n0 A0 ((g1_1 (s0_0).toNat))).bind fun rb0 =>
        bif rb0.2 then
          (some (.inl (.c0 (IntKind.i64.wrap (s0_0 + 1)))))
        else (some (.inr (.e1 rb0.1))))
      else (none))
    else (some (.inr (.e0 )))
noncomputable def bd_insn_Subs_L1 : Code := codeOf Try.f40 [1, 1, 1, 1, 1, 0, 1, 0, 0]
def fl_insn_Subs_L1 (a0 : Option Addr) (p0 : Nat) (q0 : Nat) (n0 : Nat) (k0 : Nat) (A0 : Nat → Insn) (g1_0 : Nat) (g1_1 : Nat → Part) : Sh_insn_Subs_L1 → List L1 → List Value
  | .c0 s0_0, ls => [.slice a0 n0 (n0 + k0), .slice none 0 0, .int .i64 (0), .int .i64 (0), (rowV (lget ls 1) g1_0 2), (rowV (lget ls 1) g1_0 2), .int .i64 ((g1_0 : Int)), .int .i64 (s0_0)]
def mf_insn_Subs_L1 : Sh_insn_Subs_L1 → List (Nat × Nat)
  | .c0 _ => [(1, 1), (3, 2), (1, 35), (3, 14)]
noncomputable def fr_insn_Subs_L1 (a0 : Option Addr) (p0 : Nat) (q0 : Nat) (n0 : Nat) (k0 : Nat) (A0 : Nat → Insn) (g1_0 : Nat) (g1_1 : Nat → Part) (s : Sh_insn_Subs_L1) : List L1 → List Value := mrgF (mf_insn_Subs_L1 s) (fl_insn_Subs_L1 a0 p0 q0 n0 k0 A0 g1_0 g1_1 s) 2
def Hs_insn_Subs_L1 (a0 : Option Addr) (p0 : Nat) (q0 : Nat) (n0 : Nat) (k0 : Nat) (A0 : Nat → Insn) (g1_0 : Nat) (g1_1 : Nat → Part) : Sh_insn_Subs_L1 → List L1 → List Obj
  | .c0 s0_0, ls => [unb, rowO (lget ls 1) (esG c_Part g1_0 g1_1) 86 g1_0 2, unb]
def vl_insn_Subs_L1 (a0 : Option Addr) (p0 : Nat) (q0 : Nat) (n0 : Nat) (k0 : Nat) (A0 : Nat → Insn) (g1_0 : Nat) (g1_1 : Nat → Part) : Ex_insn_Subs_L1 → List L1 → List Value
  | .e0 , ls => [.slice a0 n0 (n0 + k0), .slice none 0 0, .int .i64 (0), .int .i64 (0), (rowV (lget ls 1) g1_0 2), (rowV (lget ls 1) g1_0 2), .int .i64 ((g1_0 : Int))]
  | .e1 c1_0, ls => [.slice a0 n0 (n0 + k0), .slice none 0 0, .int .i64 (c1_0), .int .i64 (16), (rowV (lget ls 1) g1_0 2), (rowV (lget ls 1) g1_0 2), .int .i64 ((g1_0 : Int))]
def mk_insn_Subs_L1 : Ex_insn_Subs_L1 → List (Nat × Nat)
  | .e0  => [(1, 1), (3, 2), (1, 35), (2, 15)]
  | .e1 _ => [(1, 1), (3, 2), (1, 35), (2, 15)]
noncomputable def vf_insn_Subs_L1 (a0 : Option Addr) (p0 : Nat) (q0 : Nat) (n0 : Nat) (k0 : Nat) (A0 : Nat → Insn) (g1_0 : Nat) (g1_1 : Nat → Part) (r : Ex_insn_Subs_L1) : List L1 → List Value := mrgF (mk_insn_Subs_L1 r) (vl_insn_Subs_L1 a0 p0 q0 n0 k0 A0 g1_0 g1_1 r) 2
def Hf_insn_Subs_L1 (a0 : Option Addr) (p0 : Nat) (q0 : Nat) (n0 : Nat) (k0 : Nat) (A0 : Nat → Insn) (g1_0 : Nat) (g1_1 : Nat → Part) : Ex_insn_Subs_L1 → List L1 → List Obj
  | .e0 , ls => [unb, rowO (lget ls 1) (esG c_Part g1_0 g1_1) 86 g1_0 2, unb]
  | .e1 c1_0, ls => [unb, rowO (lget ls 1) (esG c_Part g1_0 g1_1) 86 g1_0 2, unb]
def ex_insn_Subs_L1 : Ex_insn_Subs_L1 → Ex
  | .e0  => (.exit 2)
  | .e1 _ => .ret
theorem go_insn_Subs_L1 (g1_0 : Nat) (g1_1 : Nat → Part) (s : Sh_insn_Subs_L1) (r : Ex_insn_Subs_L1) (h : lpO (st_insn_Subs_L1 n0 A0 g1_0 g1_1) s = some r) : GoesG Try.prog M B0 S (.loop bd_insn_Subs_L1) 3 (fr_insn_Subs_L1 a0 p0 q0 n0 k0 A0 g1_0 g1_1 s) (Hs_insn_Subs_L1 a0 p0 q0 n0 k0 A0 g1_0 g1_1 s) (ex_insn_Subs_L1 r) 2 (vf_insn_Subs_L1 a0 p0 q0 n0 k0 A0 g1_0 g1_1 r) (Hf_insn_Subs_L1 a0 p0 q0 n0 k0 A0 g1_0 g1_1 r) 3 :=
  goes_lpO (fun s q e => by
    cases s with
    | c0 s0_0 =>
      unfold st_insn_Subs_L1 at e
      dsimp only at e
      replace e := cond_eq_or e
      rcases e with ⟨hq0, e⟩ | ⟨hq0, e⟩
      · replace e := cond_eq_or e
        rcases e with ⟨hq1, e⟩ | ⟨hq1, e⟩
        · replace e := bindO_eq e
          obtain ⟨rb0, e_rb0, e⟩ := e
          try dsimp only at e
          replace e := cond_eq_or e
          let P1 : List (PG Try.prog M B0 S) := [.b (z_lssT hq0), .q (ixM_ok (kd := .i64) (T := 82) (x := s0_0) (N := g1_0) (sz := 2) rfl (fun w => by kernel_rfl) hq1), .l (accG (i := 1) (f := c_Part) (A := g1_1) (k := (s0_0).toNat) 0 [.int .i64 (((g1_1 (s0_0).toNat)).fFrom), .int .i64 (((g1_1 (s0_0).toNat)).fTo)] c_Part_len (inR_nat hq1) rfl), .o, .a 3, .o, .a 3, .cg (ok_insn_ends hU a0 p0 q0 n0 k0 A0 hR0 ((g1_1 (s0_0).toNat)) rb0 e_rb0), .o, .o]
          rcases e with ⟨hq2, e⟩ | ⟨hq2, e⟩
          · cases e; exact goes_runM hU (P1 ++ [.b hq2, .o, .o, .o, .o, .o, .o]) [0, 1] (fun b => rfl) (by decide) rfl rfl (fun b => by kernel_rfl)
          · cases e; exact ⟨ne_ret, goes_runM hU (P1 ++ [.b hq2, .o, .o, .o, .o, .o, .o, .o, .o]) [0, 1] (fun b => rfl) (by decide) rfl rfl (fun b => by kernel_rfl)⟩
        · exact none_some e
      · cases e; exact ⟨ne_exit 2, goes_runM hU [.b (z_lssF hq0)] [0, 1] (fun b => rfl) (by decide) rfl rfl (fun b => by kernel_rfl)⟩) s r h
noncomputable def t0_insn_Subs_L1_0 (a0 : Option Addr) (p0 : Nat) (q0 : Nat) (n0 : Nat) (k0 : Nat) (A0 : Nat → Insn) (g1_0 : Nat) (g1_1 : Nat → Part) (s0_0 : Int) (ls : List L1) : List Value := List.append [.slice a0 n0 (n0 + k0), ((lget ls 0).u 1), .slice none 0 0, .int .i64 (0), .int .i64 (0), ((lget ls 0).u 5), ((lget ls 0).u 6), (rowV (lget ls 1) g1_0 2)] (List.append (jks (lget ls 0).u 8 30) (List.append [.slice a0 n0 (n0 + k0), (rowV (lget ls 1) g1_0 2), (rowV (lget ls 1) g1_0 2), .int .i64 ((g1_0 : Int)), .bool false, (rowV (lget ls 1) g1_0 2), .int .i64 ((g1_0 : Int)), .int .i64 (s0_0)] (jks (lget ls 0).u 46 14)))
def pre_insn_Subs_L1_0 (a0 : Option Addr) (p0 : Nat) (q0 : Nat) (n0 : Nat) (k0 : Nat) (A0 : Nat → Insn) (g1_0 : Nat) (g1_1 : Nat → Part) (s0_0 : Int) (ls : List L1) : List Obj := [unb, rowO (lget ls 1) (esG c_Part g1_0 g1_1) 86 g1_0 2]
theorem sp0_insn_Subs_L1_0_ok (g1_0 : Nat) (g1_1 : Nat → Part) (s0_0 : Int) (h : lpO (st_insn_Subs_L1 n0 A0 g1_0 g1_1) (.c0 s0_0) = some (.e0 )) : SpcG Try.prog M B0 S ⟨fun ls => .code (.loop bd_insn_Subs_L1) (t0_insn_Subs_L1_0 a0 p0 q0 n0 k0 A0 g1_0 g1_1 s0_0 ls), pre_insn_Subs_L1_0 a0 p0 q0 n0 k0 A0 g1_0 g1_1 s0_0, 1, (.exit 2), fun ls => vf_insn_Subs_L1 a0 p0 q0 n0 k0 A0 g1_0 g1_1 (.e0 ) (ls.take 2 ++ ls.drop 2), fun ls => (Hf_insn_Subs_L1 a0 p0 q0 n0 k0 A0 g1_0 g1_1 (.e0 ) (ls.take 2 ++ ls.drop 2)).take 2 ++ List.replicate 0 unb, fun ls => (Hf_insn_Subs_L1 a0 p0 q0 n0 k0 A0 g1_0 g1_1 (.e0 ) (ls.take 2 ++ ls.drop 2)).drop 2⟩ :=
  spc_of_goesM hU 0 (k0 := 2) (go_insn_Subs_L1 hU a0 p0 q0 n0 k0 A0 hR0 g1_0 g1_1 _ _ h) (t0_insn_Subs_L1_0 a0 p0 q0 n0 k0 A0 g1_0 g1_1 s0_0) (pre_insn_Subs_L1_0 a0 p0 q0 n0 k0 A0 g1_0 g1_1 s0_0) (fun _ => rfl) (fun ls h => by match ls, h with | [l0, l1], _ => exact ⟨by kernel_rfl, by kernel_rfl⟩) (fun ls h => by match ls, h with | [l0, l1], _ => rfl) (by decide) (by decide) (fun ls => rfl)
theorem sp1_insn_Subs_L1_0_ok (g1_0 : Nat) (g1_1 : Nat → Part) (s0_0 : Int) (c1_0 : Int) (h : lpO (st_insn_Subs_L1 n0 A0 g1_0 g1_1) (.c0 s0_0) = some (.e1 c1_0)) : SpcG Try.prog M B0 S ⟨fun ls => .code (.loop bd_insn_Subs_L1) (t0_insn_Subs_L1_0 a0 p0 q0 n0 k0 A0 g1_0 g1_1 s0_0 ls), pre_insn_Subs_L1_0 a0 p0 q0 n0 k0 A0 g1_0 g1_1 s0_0, 1, .ret, fun ls => vf_insn_Subs_L1 a0 p0 q0 n0 k0 A0 g1_0 g1_1 (.e1 c1_0) (ls.take 2 ++ ls.drop 2), fun ls => (Hf_insn_Subs_L1 a0 p0 q0 n0 k0 A0 g1_0 g1_1 (.e1 c1_0) (ls.take 2 ++ ls.drop 2)).take 2 ++ List.replicate 0 unb, fun ls => (Hf_insn_Subs_L1 a0 p0 q0 n0 k0 A0 g1_0 g1_1 (.e1 c1_0) (ls.take 2 ++ ls.drop 2)).drop 2⟩ :=
  spc_of_goesM hU 0 (k0 := 2) (go_insn_Subs_L1 hU a0 p0 q0 n0 k0 A0 hR0 g1_0 g1_1 _ _ h) (t0_insn_Subs_L1_0 a0 p0 q0 n0 k0 A0 g1_0 g1_1 s0_0) (pre_insn_Subs_L1_0 a0 p0 q0 n0 k0 A0 g1_0 g1_1 s0_0) (fun _ => rfl) (fun ls h => by match ls, h with | [l0, l1], _ => exact ⟨by kernel_rfl, by kernel_rfl⟩) (fun ls h => by match ls, h with | [l0, l1], _ => rfl) (by decide) (by decide) (fun ls => rfl)
inductive R_insn_Subs where
  | e0 (c0_0 : Int) (c0_1 : Int)
  | e1 (c1_0 : Nat) (c1_1 : Nat → Part)
noncomputable def m_insn_Subs (n0 : Nat) (A0 : Nat → Insn) : Option R_insn_Subs :=
  bif (n0 : Int) == 0 then
    (some (.e0 0 10))
  else (bif decide (4096 < (n0 : Int)) then
    (some (.e0 0 10))
  else ((lpO (st_insn_Subs_L0 n0 A0) (.c0 0)).bind fun g0 => match g0 with
  | .e0  => ((m_insn_split n0 A0).bind fun g1 => match g1 with
    | .e0  => (some (.e0 0 0))
    | .e1 g1_0 g1_1 => (bif decide (64 < (g1_0 : Int)) then
        (some (.e0 0 17))
      else ((lpO (st_insn_Subs_L1 n0 A0 g1_0 g1_1) (.c0 0)).bind fun g2 => match g2 with
      | .e0  => (some (.e1 g1_0 g1_1))
      | .e1 g2_0 => (some (.e0 g2_0 16)))))
  | .e1 g0_0 g0_1 => (some (.e0 g0_0 g0_1))))
def sq0_insn_Subs (a0 : Option Addr) (p0 : Nat) (q0 : Nat) (n0 : Nat) (k0 : Nat) (A0 : Nat → Insn) (c0_0 : Int) (c0_1 : Int) : Spc := ⟨fun ls => .call 40 #[.slice a0 n0 (n0 + k0)], fun ls => [], 0, .normal, fun ls => [.tuple #[.slice none 0 0, .int .i64 (c0_0), .int .i64 (c0_1)]], fun ls => [], fun ls => []⟩
def sq1_insn_Subs (a0 : Option Addr) (p0 : Nat) (q0 : Nat) (n0 : Nat) (k0 : Nat) (A0 : Nat → Insn) (c1_0 : Nat) (c1_1 : Nat → Part) : Spc := ⟨fun ls => .call 40 #[.slice a0 n0 (n0 + k0)], fun ls => [], 1, .normal, fun ls => [.tuple #[(rowV (lget ls 0) c1_0 2), .int .i64 (0), .int .i64 (0)]], fun ls => [], fun ls => [rowO (lget ls 0) (esG c_Part c1_0 c1_1) 86 c1_0 2]⟩
theorem ok0_insn_Subs (c0_0 : Int) (c0_1 : Int) (e : m_insn_Subs n0 A0 = some (.e0 c0_0 c0_1)) : SpcG Try.prog M B0 S (sq0_insn_Subs a0 p0 q0 n0 k0 A0 c0_0 c0_1) := by
  unfold m_insn_Subs at e
  replace e := cond_eq_or e
  let P1 : List (PG Try.prog M B0 S) := [.o, .o, .o, .o, .o]
  rcases e with ⟨hq0, e⟩ | ⟨hq0, e⟩
  · injection e with e; injection e with i0 i1; subst i0 i1; exact fn_specG hU (P := Try.prog) Try.func40 (fun xs w => by kernel_rfl) 0 _ _ (fun _ => rfl) _ _ _ [] (P1 ++ [.b (z_eqlT hq0), .o, .o, .o, .o, .o]) [] (fun b => by kernel_rfl)
  · replace e := cond_eq_or e
    let P2 : List (PG Try.prog M B0 S) := P1 ++ [.b (z_eqlF hq0), .o, .o, .o]
    rcases e with ⟨hq1, e⟩ | ⟨hq1, e⟩
    · injection e with e; injection e with i0 i1; subst i0 i1; exact fn_specG hU (P := Try.prog) Try.func40 (fun xs w => by kernel_rfl) 0 _ _ (fun _ => rfl) _ _ _ [] (P2 ++ [.b (z_gtrT hq1), .o, .o, .o, .o]) [] (fun b => by kernel_rfl)
    · replace e := bindO_eq e
      obtain ⟨g0, e_g0, e⟩ := e
      let P3 : List (PG Try.prog M B0 S) := P2 ++ [.b (z_gtrF hq1), .o, .o, .cp]
      rcases g0 with _ | ⟨g0_0, g0_1⟩
      · try dsimp only at e
        replace e := bindO_eq e
        obtain ⟨g1, e_g1, e⟩ := e
        let P4 : List (PG Try.prog M B0 S) := P3 ++ [.cx (sp0_insn_Subs_L0_0_ok hU a0 p0 q0 n0 k0 A0 hR0 0  e_g0) [], .o]
        rcases g1 with _ | ⟨g1_0, g1_1⟩
        · try dsimp only at e
          injection e with e; injection e with i0 i1; subst i0 i1; exact fn_specG hU (P := Try.prog) Try.func40 (fun xs w => by kernel_rfl) 0 _ _ (fun _ => rfl) _ _ _ [] (P4 ++ [.xg (ok0_insn_split hU a0 p0 q0 n0 k0 A0 hR0  e_g1) [], .o, .o, .o, .o, .o, .o, .o, .o, .o, .o, .o, .o]) [] (fun b => by kernel_rfl)
        · try dsimp only at e
          replace e := cond_eq_or e
          rcases e with ⟨hq2, e⟩ | ⟨hq2, e⟩
          · injection e with e; injection e with i0 i1; subst i0 i1; exact fn_specG hU (P := Try.prog) Try.func40 (fun xs w => by kernel_rfl) 0 _ _ (fun _ => rfl) _ _ _ [] (P4 ++ [.xg (ok1_insn_split hU a0 p0 q0 n0 k0 A0 hR0 g1_0 g1_1 e_g1) [], .o, .o, .o, .b (z_gtrT hq2), .o, .o, .o]) [] (fun b => by kernel_rfl)
          · replace e := bindO_eq e
            obtain ⟨g2, e_g2, e⟩ := e
            rcases g2 with _ | ⟨g2_0⟩
            · try dsimp only at e
              cases e
            · try dsimp only at e
              injection e with e; injection e with i0 i1; subst i0 i1; exact fn_specG hU (P := Try.prog) Try.func40 (fun xs w => by kernel_rfl) 0 _ _ (fun _ => rfl) _ _ _ [] (P4 ++ [.xg (ok1_insn_split hU a0 p0 q0 n0 k0 A0 hR0 g1_0 g1_1 e_g1) [], .o, .o, .o, .b (z_gtrF hq2), .o, .o, .o, .cp, .cx (sp1_insn_Subs_L1_0_ok hU a0 p0 q0 n0 k0 A0 hR0 g1_0 g1_1 0 g2_0 e_g2) [0, 1]]) [] (fun b => by kernel_rfl)
      · try dsimp only at e
        injection e with e; injection e with i0 i1; subst i0 i1; exact fn_specG hU (P := Try.prog) Try.func40 (fun xs w => by kernel_rfl) 0 _ _ (fun _ => rfl) _ _ _ [] (P3 ++ [.cx (sp1_insn_Subs_L0_0_ok hU a0 p0 q0 n0 k0 A0 hR0 0 g0_0 g0_1 e_g0) []]) [] (fun b => by kernel_rfl)
theorem ok1_insn_Subs (c1_0 : Nat) (c1_1 : Nat → Part) (e : m_insn_Subs n0 A0 = some (.e1 c1_0 c1_1)) : SpcG Try.prog M B0 S (sq1_insn_Subs a0 p0 q0 n0 k0 A0 c1_0 c1_1) := by
  unfold m_insn_Subs at e
  replace e := cond_eq_or e
  rcases e with ⟨hq0, e⟩ | ⟨hq0, e⟩
  · cases e
  · replace e := cond_eq_or e
    rcases e with ⟨hq1, e⟩ | ⟨hq1, e⟩
    · cases e
    · replace e := bindO_eq e
      obtain ⟨g0, e_g0, e⟩ := e
      rcases g0 with _ | ⟨g0_0, g0_1⟩
      · try dsimp only at e
        replace e := bindO_eq e
        obtain ⟨g1, e_g1, e⟩ := e
        rcases g1 with _ | ⟨g1_0, g1_1⟩
        · try dsimp only at e
          cases e
        · try dsimp only at e
          replace e := cond_eq_or e
          rcases e with ⟨hq2, e⟩ | ⟨hq2, e⟩
          · cases e
          · replace e := bindO_eq e
            obtain ⟨g2, e_g2, e⟩ := e
            rcases g2 with _ | ⟨g2_0⟩
            · try dsimp only at e
              injection e with e; injection e with i0 i1; subst i0 i1; exact fn_specG hU (P := Try.prog) Try.func40 (fun xs w => by kernel_rfl) 0 _ _ (fun _ => rfl) _ _ _ [1] [.o, .o, .o, .o, .o, .b (z_eqlF hq0), .o, .o, .o, .b (z_gtrF hq1), .o, .o, .cp, .cx (sp0_insn_Subs_L0_0_ok hU a0 p0 q0 n0 k0 A0 hR0 0  e_g0) [], .o, .xg (ok1_insn_split hU a0 p0 q0 n0 k0 A0 hR0 g1_0 g1_1 e_g1) [], .o, .o, .o, .b (z_gtrF hq2), .o, .o, .o, .cp, .cx (sp0_insn_Subs_L1_0_ok hU a0 p0 q0 n0 k0 A0 hR0 g1_0 g1_1 0  e_g2) [0, 1], .o, .o, .o, .o] [] (fun b => by kernel_rfl)
            · try dsimp only at e
              cases e
      · try dsimp only at e
        cases e
inductive Sh_insn_Check_L0 where
  | c0 (s0_0 : Int)
inductive Ex_insn_Check_L0 where
  | e0 
  | e1 (c1_0 : Int)
noncomputable def st_insn_Check_L0 (n0 : Nat) (A0 : Nat → Insn) (g0_0 : Nat) (g0_1 : Nat → Part) : Sh_insn_Check_L0 → Option (Sh_insn_Check_L0 ⊕ Ex_insn_Check_L0)
  | .c0 s0_0 =>
    bif decide (s0_0 < (g0_0 : Int)) then
      (bif inR s0_0 g0_0 then
        ((m_insn_jumpsStay n0 A0 ((g0_1 (s0_0).toNat))).bind fun rb0 =>
        bif rb0.2 then
          (some (.inl (.c0 (IntKind.i64.wrap (s0_0 + 1)))))
        else (some (.inr (.e1 rb0.1))))
      else (none))
    else (some (.inr (.e0 )))
noncomputable def bd_insn_Check_L0 : Code := codeOf Try.f31 [1, 1, 1, 0, 1, 0, 0]
def fl_insn_Check_L0 (a0 : Option Addr) (p0 : Nat) (q0 : Nat) (n0 : Nat) (k0 : Nat) (A0 : Nat → Insn) (g0_0 : Nat) (g0_1 : Nat → Part) : Sh_insn_Check_L0 → List L1 → List Value
  | .c0 s0_0, ls => [.slice a0 n0 (n0 + k0), .int .i64 (0), .int .i64 (0), (rowV (lget ls 0) g0_0 2), .int .i64 ((g0_0 : Int)), .int .i64 (s0_0)]
def mf_insn_Check_L0 : Sh_insn_Check_L0 → List (Nat × Nat)
  | .c0 _ => [(1, 1), (2, 17), (3, 13)]
noncomputable def fr_insn_Check_L0 (a0 : Option Addr) (p0 : Nat) (q0 : Nat) (n0 : Nat) (k0 : Nat) (A0 : Nat → Insn) (g0_0 : Nat) (g0_1 : Nat → Part) (s : Sh_insn_Check_L0) : List L1 → List Value := mrgF (mf_insn_Check_L0 s) (fl_insn_Check_L0 a0 p0 q0 n0 k0 A0 g0_0 g0_1 s) 1
def Hs_insn_Check_L0 (a0 : Option Addr) (p0 : Nat) (q0 : Nat) (n0 : Nat) (k0 : Nat) (A0 : Nat → Insn) (g0_0 : Nat) (g0_1 : Nat → Part) : Sh_insn_Check_L0 → List L1 → List Obj
  | .c0 s0_0, ls => [rowO (lget ls 0) (esG c_Part g0_0 g0_1) 86 g0_0 2, unb]
def vl_insn_Check_L0 (a0 : Option Addr) (p0 : Nat) (q0 : Nat) (n0 : Nat) (k0 : Nat) (A0 : Nat → Insn) (g0_0 : Nat) (g0_1 : Nat → Part) : Ex_insn_Check_L0 → List L1 → List Value
  | .e0 , ls => [.slice a0 n0 (n0 + k0), .int .i64 (0), .int .i64 (0), (rowV (lget ls 0) g0_0 2), .int .i64 ((g0_0 : Int))]
  | .e1 c1_0, ls => [.slice a0 n0 (n0 + k0), .int .i64 (c1_0), .int .i64 (15), (rowV (lget ls 0) g0_0 2), .int .i64 ((g0_0 : Int))]
def mk_insn_Check_L0 : Ex_insn_Check_L0 → List (Nat × Nat)
  | .e0  => [(1, 1), (2, 17), (2, 14)]
  | .e1 _ => [(1, 1), (2, 17), (2, 14)]
noncomputable def vf_insn_Check_L0 (a0 : Option Addr) (p0 : Nat) (q0 : Nat) (n0 : Nat) (k0 : Nat) (A0 : Nat → Insn) (g0_0 : Nat) (g0_1 : Nat → Part) (r : Ex_insn_Check_L0) : List L1 → List Value := mrgF (mk_insn_Check_L0 r) (vl_insn_Check_L0 a0 p0 q0 n0 k0 A0 g0_0 g0_1 r) 1
def Hf_insn_Check_L0 (a0 : Option Addr) (p0 : Nat) (q0 : Nat) (n0 : Nat) (k0 : Nat) (A0 : Nat → Insn) (g0_0 : Nat) (g0_1 : Nat → Part) : Ex_insn_Check_L0 → List L1 → List Obj
  | .e0 , ls => [rowO (lget ls 0) (esG c_Part g0_0 g0_1) 86 g0_0 2, unb]
  | .e1 c1_0, ls => [rowO (lget ls 0) (esG c_Part g0_0 g0_1) 86 g0_0 2, unb]
def ex_insn_Check_L0 : Ex_insn_Check_L0 → Ex
  | .e0  => (.exit 0)
  | .e1 _ => .ret
theorem go_insn_Check_L0 (g0_0 : Nat) (g0_1 : Nat → Part) (s : Sh_insn_Check_L0) (r : Ex_insn_Check_L0) (h : lpO (st_insn_Check_L0 n0 A0 g0_0 g0_1) s = some r) : GoesG Try.prog M B0 S (.loop bd_insn_Check_L0) 2 (fr_insn_Check_L0 a0 p0 q0 n0 k0 A0 g0_0 g0_1 s) (Hs_insn_Check_L0 a0 p0 q0 n0 k0 A0 g0_0 g0_1 s) (ex_insn_Check_L0 r) 1 (vf_insn_Check_L0 a0 p0 q0 n0 k0 A0 g0_0 g0_1 r) (Hf_insn_Check_L0 a0 p0 q0 n0 k0 A0 g0_0 g0_1 r) 2 :=
  goes_lpO (fun s q e => by
    cases s with
    | c0 s0_0 =>
      unfold st_insn_Check_L0 at e
      dsimp only at e
      replace e := cond_eq_or e
      rcases e with ⟨hq0, e⟩ | ⟨hq0, e⟩
      · replace e := cond_eq_or e
        rcases e with ⟨hq1, e⟩ | ⟨hq1, e⟩
        · replace e := bindO_eq e
          obtain ⟨rb0, e_rb0, e⟩ := e
          try dsimp only at e
          replace e := cond_eq_or e
          let P1 : List (PG Try.prog M B0 S) := [.b (z_lssT hq0), .q (ixM_ok (kd := .i64) (T := 82) (x := s0_0) (N := g0_0) (sz := 2) rfl (fun w => by kernel_rfl) hq1), .l (accG (i := 0) (f := c_Part) (A := g0_1) (k := (s0_0).toNat) 0 [.int .i64 (((g0_1 (s0_0).toNat)).fFrom), .int .i64 (((g0_1 (s0_0).toNat)).fTo)] c_Part_len (inR_nat hq1) rfl), .o, .a 2, .o, .a 2, .cg (ok_insn_jumpsStay hU a0 p0 q0 n0 k0 A0 hR0 ((g0_1 (s0_0).toNat)) rb0 e_rb0), .o, .o]
          rcases e with ⟨hq2, e⟩ | ⟨hq2, e⟩
          · cases e; exact goes_runM hU (P1 ++ [.b hq2, .o, .o, .o, .o, .o, .o]) [0] (fun b => rfl) (by decide) rfl rfl (fun b => by kernel_rfl)
          · cases e; exact ⟨ne_ret, goes_runM hU (P1 ++ [.b hq2, .o, .o, .o, .o, .o, .o, .o]) [0] (fun b => rfl) (by decide) rfl rfl (fun b => by kernel_rfl)⟩
        · exact none_some e
      · cases e; exact ⟨ne_exit 0, goes_runM hU [.b (z_lssF hq0)] [0] (fun b => rfl) (by decide) rfl rfl (fun b => by kernel_rfl)⟩) s r h
noncomputable def t0_insn_Check_L0_0 (a0 : Option Addr) (p0 : Nat) (q0 : Nat) (n0 : Nat) (k0 : Nat) (A0 : Nat → Insn) (g0_0 : Nat) (g0_1 : Nat → Part) (s0_0 : Int) (ls : List L1) : List Value := List.append [.slice a0 n0 (n0 + k0), undef, .int .i64 (0), .int .i64 (0), (rowV (lget ls 0) g0_0 2), .int .i64 (0), .int .i64 (0)] (List.append (und 4) (List.append [.tuple #[(rowV (lget ls 0) g0_0 2), .int .i64 (0), .int .i64 (0)], .slice a0 n0 (n0 + k0), .tuple #[(rowV (lget ls 0) g0_0 2), .int .i64 (0), .int .i64 (0)], (rowV (lget ls 0) g0_0 2), .int .i64 (0), .int .i64 (0), .int .i64 (0), .bool false, undef, undef, (rowV (lget ls 0) g0_0 2), .int .i64 ((g0_0 : Int)), .int .i64 (s0_0)] (und 13)))
def pre_insn_Check_L0_0 (a0 : Option Addr) (p0 : Nat) (q0 : Nat) (n0 : Nat) (k0 : Nat) (A0 : Nat → Insn) (g0_0 : Nat) (g0_1 : Nat → Part) (s0_0 : Int) (ls : List L1) : List Obj := [rowO (lget ls 0) (esG c_Part g0_0 g0_1) 86 g0_0 2]
theorem sp0_insn_Check_L0_0_ok (g0_0 : Nat) (g0_1 : Nat → Part) (s0_0 : Int) (h : lpO (st_insn_Check_L0 n0 A0 g0_0 g0_1) (.c0 s0_0) = some (.e0 )) : SpcG Try.prog M B0 S ⟨fun ls => .code (.loop bd_insn_Check_L0) (t0_insn_Check_L0_0 a0 p0 q0 n0 k0 A0 g0_0 g0_1 s0_0 ls), pre_insn_Check_L0_0 a0 p0 q0 n0 k0 A0 g0_0 g0_1 s0_0, 1, (.exit 0), fun ls => vf_insn_Check_L0 a0 p0 q0 n0 k0 A0 g0_0 g0_1 (.e0 ) (ls.take 1 ++ ls.drop 1), fun ls => (Hf_insn_Check_L0 a0 p0 q0 n0 k0 A0 g0_0 g0_1 (.e0 ) (ls.take 1 ++ ls.drop 1)).take 1 ++ List.replicate 0 unb, fun ls => (Hf_insn_Check_L0 a0 p0 q0 n0 k0 A0 g0_0 g0_1 (.e0 ) (ls.take 1 ++ ls.drop 1)).drop 1⟩ :=
  spc_of_goesM hU 0 (k0 := 1) (go_insn_Check_L0 hU a0 p0 q0 n0 k0 A0 hR0 g0_0 g0_1 _ _ h) (t0_insn_Check_L0_0 a0 p0 q0 n0 k0 A0 g0_0 g0_1 s0_0) (pre_insn_Check_L0_0 a0 p0 q0 n0 k0 A0 g0_0 g0_1 s0_0) (fun _ => rfl) (fun ls h => by match ls, h with | [l0], _ => exact ⟨by kernel_rfl, by kernel_rfl⟩) (fun ls h => by match ls, h with | [l0], _ => rfl) (by decide) (by decide) (fun ls => rfl)
theorem sp1_insn_Check_L0_0_ok (g0_0 : Nat) (g0_1 : Nat → Part) (s0_0 : Int) (c1_0 : Int) (h : lpO (st_insn_Check_L0 n0 A0 g0_0 g0_1) (.c0 s0_0) = some (.e1 c1_0)) : SpcG Try.prog M B0 S ⟨fun ls => .code (.loop bd_insn_Check_L0) (t0_insn_Check_L0_0 a0 p0 q0 n0 k0 A0 g0_0 g0_1 s0_0 ls), pre_insn_Check_L0_0 a0 p0 q0 n0 k0 A0 g0_0 g0_1 s0_0, 1, .ret, fun ls => vf_insn_Check_L0 a0 p0 q0 n0 k0 A0 g0_0 g0_1 (.e1 c1_0) (ls.take 1 ++ ls.drop 1), fun ls => (Hf_insn_Check_L0 a0 p0 q0 n0 k0 A0 g0_0 g0_1 (.e1 c1_0) (ls.take 1 ++ ls.drop 1)).take 1 ++ List.replicate 0 unb, fun ls => (Hf_insn_Check_L0 a0 p0 q0 n0 k0 A0 g0_0 g0_1 (.e1 c1_0) (ls.take 1 ++ ls.drop 1)).drop 1⟩ :=
  spc_of_goesM hU 0 (k0 := 1) (go_insn_Check_L0 hU a0 p0 q0 n0 k0 A0 hR0 g0_0 g0_1 _ _ h) (t0_insn_Check_L0_0 a0 p0 q0 n0 k0 A0 g0_0 g0_1 s0_0) (pre_insn_Check_L0_0 a0 p0 q0 n0 k0 A0 g0_0 g0_1 s0_0) (fun _ => rfl) (fun ls h => by match ls, h with | [l0], _ => exact ⟨by kernel_rfl, by kernel_rfl⟩) (fun ls h => by match ls, h with | [l0], _ => rfl) (by decide) (by decide) (fun ls => rfl)
noncomputable def m_insn_Check (n0 : Nat) (A0 : Nat → Insn) : Option ((Int) × (Int)) :=
  (m_insn_Subs n0 A0).bind fun g0 => match g0 with
  | .e0 g0_0 g0_1 => (bif g0_1 == 0 then
      (some (0, 0))
    else (some (g0_0, g0_1)))
  | .e1 g0_0 g0_1 => ((lpO (st_insn_Check_L0 n0 A0 g0_0 g0_1) (.c0 0)).bind fun g1 => match g1 with
    | .e0  => (some (0, 0))
    | .e1 g1_0 => (some (g1_0, 15)))
theorem ok_insn_Check (r : (Int) × (Int)) (e : m_insn_Check n0 A0 = some r) : ConG Try.prog S 31 #[.slice a0 n0 (n0 + k0)] (vt1 r) := by
  unfold m_insn_Check at e
  replace e := bindO_eq e
  obtain ⟨g0, e_g0, e⟩ := e
  rcases g0 with ⟨g0_0, g0_1⟩ | ⟨g0_0, g0_1⟩
  · try dsimp only at e
    replace e := cond_eq_or e
    let P1 : List (PG Try.prog M B0 S) := [.o, .o, .o, .xg (ok0_insn_Subs hU a0 p0 q0 n0 k0 A0 hR0 g0_0 g0_1 e_g0) [], .o, .o, .o, .o, .o, .o, .o, .o]
    rcases e with ⟨hq0, e⟩ | ⟨hq0, e⟩
    · injection e with e; subst e; exact fn_conG hU (P := Try.prog) Try.func31 (fun xs w => by kernel_rfl) _ _ (P1 ++ [.b (z_neqT hq0), .o, .o, .o, .o, .o, .o]) [] (fun b => by kernel_rfl)
    · injection e with e; subst e; exact fn_conG hU (P := Try.prog) Try.func31 (fun xs w => by kernel_rfl) _ _ (P1 ++ [.b (z_neqF hq0), .o, .o, .o, .o]) [] (fun b => by kernel_rfl)
  · try dsimp only at e
    replace e := bindO_eq e
    obtain ⟨g1, e_g1, e⟩ := e
    let P2 : List (PG Try.prog M B0 S) := [.o, .o, .o, .xg (ok1_insn_Subs hU a0 p0 q0 n0 k0 A0 hR0 g0_0 g0_1 e_g0) [], .o, .o, .o, .o, .o, .o, .o, .o, .o, .o, .o, .o, .cp]
    rcases g1 with _ | ⟨g1_0⟩
    · try dsimp only at e
      injection e with e; subst e; exact fn_conG hU (P := Try.prog) Try.func31 (fun xs w => by kernel_rfl) _ _ (P2 ++ [.cx (sp0_insn_Check_L0_0_ok hU a0 p0 q0 n0 k0 A0 hR0 g0_0 g0_1 0  e_g1) [0], .o, .o]) [] (fun b => by kernel_rfl)
    · try dsimp only at e
      injection e with e; subst e; exact fn_conG hU (P := Try.prog) Try.func31 (fun xs w => by kernel_rfl) _ _ (P2 ++ [.cx (sp1_insn_Check_L0_0_ok hU a0 p0 q0 n0 k0 A0 hR0 g0_0 g0_1 0 g1_0 e_g1) [0]]) [] (fun b => by kernel_rfl)
noncomputable def m_insn_operation (n0 : Nat) (A0 : Nat → Insn) (y1 : Int) : Option (Bool) :=
  bif decide (0 ≤ y1) then
    (bif decide (y1 < (n0 : Int)) then
      (bif inR y1 n0 then
        (bif m_insn_known ((A0 (y1).toNat)) then
          ((m_op_IsSecond n0 A0 y1).bind fun r0 =>
          bif r0 then
            (some false)
          else (some true))
        else (some false))
      else (none))
    else (some false))
  else (some false)
theorem ok_insn_operation (y1 : Int) (r : Bool) (e : m_insn_operation n0 A0 y1 = some r) : ConG Try.prog S 60 #[.slice a0 n0 (n0 + k0), .int .i64 (y1)] (.bool (r)) := by
  unfold m_insn_operation at e
  replace e := cond_eq_or e
  rcases e with ⟨hq0, e⟩ | ⟨hq0, e⟩
  · replace e := cond_eq_or e
    let P1 : List (PG Try.prog M B0 S) := [.o, .o, .b (z_geqT hq0), .o, .o, .o, .o]
    rcases e with ⟨hq1, e⟩ | ⟨hq1, e⟩
    · replace e := cond_eq_or e
      rcases e with ⟨hq2, e⟩ | ⟨hq2, e⟩
      · replace e := cond_eq_or e
        let P2 : List (PG Try.prog M B0 S) := P1 ++ [.b (z_lssT hq1), .o, .o, .o, .o, .q (ixRo_ok (kd := .i64) (T := 26) (x := y1) (sz := 5) rfl (fun w => by kernel_rfl) hR0 hq2), .l (accRo hR0 c_Insn_len (inR_nat hq2) 0 [.int .u8 (nn ((A0 (y1).toNat)).fOp), .int .u8 (nn ((A0 (y1).toNat)).fDst), .int .u8 (nn ((A0 (y1).toNat)).fSrc), .int .i16 (ii ((A0 (y1).toNat)).fOff), .int .i32 (ii ((A0 (y1).toNat)).fImm)] rfl)]
        rcases e with ⟨hq3, e⟩ | ⟨hq3, e⟩
        · replace e := bindO_eq e
          obtain ⟨r0, e_r0, e⟩ := e
          try dsimp only at e
          replace e := cond_eq_or e
          rcases e with ⟨hq4, e⟩ | ⟨hq4, e⟩
          · subst hq4
            injection e with e; subst e; exact fn_conG hU (P := Try.prog) Try.func60 (fun xs w => by kernel_rfl) _ _ (P2 ++ [.cg (ok_insn_known hU ((A0 (y1).toNat)) true hq3), .o, .o, .o, .o, .cg (ok_op_IsSecond hU a0 p0 q0 n0 k0 A0 hR0 y1 true e_r0), .o, .o, .o]) [] (fun b => by kernel_rfl)
          · subst hq4
            injection e with e; subst e; exact fn_conG hU (P := Try.prog) Try.func60 (fun xs w => by kernel_rfl) _ _ (P2 ++ [.cg (ok_insn_known hU ((A0 (y1).toNat)) true hq3), .o, .o, .o, .o, .cg (ok_op_IsSecond hU a0 p0 q0 n0 k0 A0 hR0 y1 false e_r0), .o, .o, .o]) [] (fun b => by kernel_rfl)
        · injection e with e; subst e; exact fn_conG hU (P := Try.prog) Try.func60 (fun xs w => by kernel_rfl) _ _ (P2 ++ [.cg (ok_insn_known hU ((A0 (y1).toNat)) false hq3), .o, .o, .o, .o]) [] (fun b => by kernel_rfl)
      · exact none_some e
    · injection e with e; subst e; exact fn_conG hU (P := Try.prog) Try.func60 (fun xs w => by kernel_rfl) _ _ (P1 ++ [.b (z_lssF hq1), .o, .o, .o, .o, .o, .o]) [] (fun b => by kernel_rfl)
  · injection e with e; subst e; exact fn_conG hU (P := Try.prog) Try.func60 (fun xs w => by kernel_rfl) _ _ [.o, .o, .b (z_geqF hq0), .o, .o, .o, .o, .o, .o, .o] [] (fun b => by kernel_rfl)
noncomputable def m_insn_Target (n0 : Nat) (A0 : Nat → Insn) (y1 : Int) : Option ((Int) × (Bool)) :=
  (m_insn_operation n0 A0 y1).bind fun r0 =>
  bif r0 then
    (bif inR y1 n0 then
      (bif m_insn_names ((A0 (y1).toNat)) then
        (bif decide ((IntKind.i64.wrap ((IntKind.i64.wrap (y1 + 1)) + (ii ((A0 (y1).toNat)).fImm))) < 0) then
          (some (0, false))
        else (bif decide ((n0 : Int) ≤ (IntKind.i64.wrap ((IntKind.i64.wrap (y1 + 1)) + (ii ((A0 (y1).toNat)).fImm)))) then
          (some (0, false))
        else (some ((IntKind.i64.wrap ((IntKind.i64.wrap (y1 + 1)) + (ii ((A0 (y1).toNat)).fImm))), true))))
      else (bif m_op_Jumps ((A0 (y1).toNat)) then
        (bif decide ((IntKind.i64.wrap ((IntKind.i64.wrap (y1 + 1)) + (ii ((A0 (y1).toNat)).fOff))) < 0) then
          (some (0, false))
        else (bif decide ((n0 : Int) ≤ (IntKind.i64.wrap ((IntKind.i64.wrap (y1 + 1)) + (ii ((A0 (y1).toNat)).fOff)))) then
          (some (0, false))
        else (some ((IntKind.i64.wrap ((IntKind.i64.wrap (y1 + 1)) + (ii ((A0 (y1).toNat)).fOff))), true))))
      else (some (0, false))))
    else (none))
  else (some (0, false))
theorem ok_insn_Target (y1 : Int) (r : (Int) × (Bool)) (e : m_insn_Target n0 A0 y1 = some r) : ConG Try.prog S 46 #[.slice a0 n0 (n0 + k0), .int .i64 (y1)] (vt0 r) := by
  unfold m_insn_Target at e
  replace e := bindO_eq e
  obtain ⟨r0, e_r0, e⟩ := e
  try dsimp only at e
  replace e := cond_eq_or e
  let P1 : List (PG Try.prog M B0 S) := [.o, .o, .o, .o]
  rcases e with ⟨hq0, e⟩ | ⟨hq0, e⟩
  · subst hq0
    replace e := cond_eq_or e
    let P2 : List (PG Try.prog M B0 S) := P1 ++ [.cg (ok_insn_operation hU a0 p0 q0 n0 k0 A0 hR0 y1 true e_r0), .o, .o, .o]
    rcases e with ⟨hq1, e⟩ | ⟨hq1, e⟩
    · replace e := cond_eq_or e
      let P3 : List (PG Try.prog M B0 S) := P2 ++ [.q (ixRo_ok (kd := .i64) (T := 26) (x := y1) (sz := 5) rfl (fun w => by kernel_rfl) hR0 hq1), .l (accRo hR0 c_Insn_len (inR_nat hq1) 0 [.int .u8 (nn ((A0 (y1).toNat)).fOp), .int .u8 (nn ((A0 (y1).toNat)).fDst), .int .u8 (nn ((A0 (y1).toNat)).fSrc), .int .i16 (ii ((A0 (y1).toNat)).fOff), .int .i32 (ii ((A0 (y1).toNat)).fImm)] rfl), .o, .a 0, .o, .o, .o, .a 0]
      rcases e with ⟨hq2, e⟩ | ⟨hq2, e⟩
      · replace e := cond_eq_or e
        let P4 : List (PG Try.prog M B0 S) := P3 ++ [.cg (ok_insn_names hU ((A0 (y1).toNat)) true hq2), .o, .o, .o, .a 0, .v .i64 (z_of_ii (by decide) ((A0 (y1).toNat)).fImm), .o, .o, .o]
        rcases e with ⟨hq3, e⟩ | ⟨hq3, e⟩
        · injection e with e; subst e; exact fn_conG hU (P := Try.prog) Try.func46 (fun xs w => by kernel_rfl) _ _ (P4 ++ [.b (z_lssT hq3), .o, .o, .o, .o]) [] (fun b => by kernel_rfl)
        · replace e := cond_eq_or e
          rcases e with ⟨hq4, e⟩ | ⟨hq4, e⟩
          · injection e with e; subst e; exact fn_conG hU (P := Try.prog) Try.func46 (fun xs w => by kernel_rfl) _ _ (P4 ++ [.b (z_lssF hq3), .o, .o, .o, .o, .b (z_geqT hq4), .o, .o, .o]) [] (fun b => by kernel_rfl)
          · injection e with e; subst e; exact fn_conG hU (P := Try.prog) Try.func46 (fun xs w => by kernel_rfl) _ _ (P4 ++ [.b (z_lssF hq3), .o, .o, .o, .o, .b (z_geqF hq4), .o, .o, .o, .o]) [] (fun b => by kernel_rfl)
      · replace e := cond_eq_or e
        let P5 : List (PG Try.prog M B0 S) := P3 ++ [.cg (ok_insn_names hU ((A0 (y1).toNat)) false hq2), .o, .a 0]
        rcases e with ⟨hq3, e⟩ | ⟨hq3, e⟩
        · replace e := cond_eq_or e
          let P6 : List (PG Try.prog M B0 S) := P5 ++ [.cg (ok_op_Jumps hU ((A0 (y1).toNat)) true hq3), .o, .o, .o, .a 0, .v .i64 (z_of_ii (by decide) ((A0 (y1).toNat)).fOff), .o, .o, .o]
          rcases e with ⟨hq4, e⟩ | ⟨hq4, e⟩
          · injection e with e; subst e; exact fn_conG hU (P := Try.prog) Try.func46 (fun xs w => by kernel_rfl) _ _ (P6 ++ [.b (z_lssT hq4), .o, .o, .o, .o]) [] (fun b => by kernel_rfl)
          · replace e := cond_eq_or e
            rcases e with ⟨hq5, e⟩ | ⟨hq5, e⟩
            · injection e with e; subst e; exact fn_conG hU (P := Try.prog) Try.func46 (fun xs w => by kernel_rfl) _ _ (P6 ++ [.b (z_lssF hq4), .o, .o, .o, .o, .b (z_geqT hq5), .o, .o, .o]) [] (fun b => by kernel_rfl)
            · injection e with e; subst e; exact fn_conG hU (P := Try.prog) Try.func46 (fun xs w => by kernel_rfl) _ _ (P6 ++ [.b (z_lssF hq4), .o, .o, .o, .o, .b (z_geqF hq5), .o, .o, .o, .o]) [] (fun b => by kernel_rfl)
        · injection e with e; subst e; exact fn_conG hU (P := Try.prog) Try.func46 (fun xs w => by kernel_rfl) _ _ (P5 ++ [.cg (ok_op_Jumps hU ((A0 (y1).toNat)) false hq3), .o, .o, .o]) [] (fun b => by kernel_rfl)
    · exact none_some e
  · subst hq0
    injection e with e; subst e; exact fn_conG hU (P := Try.prog) Try.func46 (fun xs w => by kernel_rfl) _ _ (P1 ++ [.cg (ok_insn_operation hU a0 p0 q0 n0 k0 A0 hR0 y1 false e_r0), .o, .o, .o]) [] (fun b => by kernel_rfl)
end

end Go.Proofs.Ytdgehbjiphahhaa


