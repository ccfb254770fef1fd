/-
  What is known of registers, and what is folded.
-/
import Derived.Test.YtcdkghdjfcccfaaGreatL25K
namespace Go.Proofs.YtcdkghdjfcccfaaGreat
open Go.RowKit
set_option linter.unusedVariables false
set_option linter.unusedSimpArgs false
set_option linter.unusedSectionVars false
set_option maxRecDepth 100000
set_option maxHeartbeats 4000000
structure Arr42 where
  x0 : Val
  x1 : Val
  x2 : Val
  x3 : Val
  x4 : Val
  x5 : Val
  x6 : Val
  x7 : Val
  x8 : Val
  x9 : Val
  x10 : Val
abbrev c_Arr42 (x : Arr42) : List Value := [.int .i64 (x.x0.fKind), .int .u64 (nn x.x0.fNum), .int .i64 (x.x0.fId), .int .i64 (x.x0.fOff), .int .i64 (x.x1.fKind), .int .u64 (nn x.x1.fNum), .int .i64 (x.x1.fId), .int .i64 (x.x1.fOff), .int .i64 (x.x2.fKind), .int .u64 (nn x.x2.fNum), .int .i64 (x.x2.fId), .int .i64 (x.x2.fOff), .int .i64 (x.x3.fKind), .int .u64 (nn x.x3.fNum), .int .i64 (x.x3.fId), .int .i64 (x.x3.fOff), .int .i64 (x.x4.fKind), .int .u64 (nn x.x4.fNum), .int .i64 (x.x4.fId), .int .i64 (x.x4.fOff), .int .i64 (x.x5.fKind), .int .u64 (nn x.x5.fNum), .int .i64 (x.x5.fId), .int .i64 (x.x5.fOff), .int .i64 (x.x6.fKind), .int .u64 (nn x.x6.fNum), .int .i64 (x.x6.fId), .int .i64 (x.x6.fOff), .int .i64 (x.x7.fKind), .int .u64 (nn x.x7.fNum), .int .i64 (x.x7.fId), .int .i64 (x.x7.fOff), .int .i64 (x.x8.fKind), .int .u64 (nn x.x8.fNum), .int .i64 (x.x8.fId), .int .i64 (x.x8.fOff), .int .i64 (x.x9.fKind), .int .u64 (nn x.x9.fNum), .int .i64 (x.x9.fId), .int .i64 (x.x9.fOff), .int .i64 (x.x10.fKind), .int .u64 (nn x.x10.fNum), .int .i64 (x.x10.fId), .int .i64 (x.x10.fOff)]
def v_Arr42 (x : Arr42) : Value := .agg #[.int .i64 (x.x0.fKind), .int .u64 (nn x.x0.fNum), .int .i64 (x.x0.fId), .int .i64 (x.x0.fOff), .int .i64 (x.x1.fKind), .int .u64 (nn x.x1.fNum), .int .i64 (x.x1.fId), .int .i64 (x.x1.fOff), .int .i64 (x.x2.fKind), .int .u64 (nn x.x2.fNum), .int .i64 (x.x2.fId), .int .i64 (x.x2.fOff), .int .i64 (x.x3.fKind), .int .u64 (nn x.x3.fNum), .int .i64 (x.x3.fId), .int .i64 (x.x3.fOff), .int .i64 (x.x4.fKind), .int .u64 (nn x.x4.fNum), .int .i64 (x.x4.fId), .int .i64 (x.x4.fOff), .int .i64 (x.x5.fKind), .int .u64 (nn x.x5.fNum), .int .i64 (x.x5.fId), .int .i64 (x.x5.fOff), .int .i64 (x.x6.fKind), .int .u64 (nn x.x6.fNum), .int .i64 (x.x6.fId), .int .i64 (x.x6.fOff), .int .i64 (x.x7.fKind), .int .u64 (nn x.x7.fNum), .int .i64 (x.x7.fId), .int .i64 (x.x7.fOff), .int .i64 (x.x8.fKind), .int .u64 (nn x.x8.fNum), .int .i64 (x.x8.fId), .int .i64 (x.x8.fOff), .int .i64 (x.x9.fKind), .int .u64 (nn x.x9.fNum), .int .i64 (x.x9.fId), .int .i64 (x.x9.fOff), .int .i64 (x.x10.fKind), .int .u64 (nn x.x10.fNum), .int .i64 (x.x10.fId), .int .i64 (x.x10.fOff)]
theorem c_Arr42_len (x : Arr42) : (c_Arr42 x).length = 44 := rfl
theorem c_Arr42_one (x : Arr42) : ((c_Arr42 x).all fun u => u.oneCell') = true := rfl
def g_Arr42 (x : Arr42) (j : Nat) : Val := if j = 0 then x.x0 else if j = 1 then x.x1 else if j = 2 then x.x2 else if j = 3 then x.x3 else if j = 4 then x.x4 else if j = 5 then x.x5 else if j = 6 then x.x6 else if j = 7 then x.x7 else if j = 8 then x.x8 else if j = 9 then x.x9 else x.x10
theorem g_Arr42_at (x : Arr42) {j : Nat} (h : j < 11) : Value.agg ((⟨c_Arr42 x⟩ : Array Value).extract (j * 4) (j * 4 + 4)) = (v_Val (g_Arr42 x j)) := by
  match j, h with
  | 0, _ => show _ = _; kernel_rfl
  | 1, _ => show _ = _; kernel_rfl
  | 2, _ => show _ = _; kernel_rfl
  | 3, _ => show _ = _; kernel_rfl
  | 4, _ => show _ = _; kernel_rfl
  | 5, _ => show _ = _; kernel_rfl
  | 6, _ => show _ = _; kernel_rfl
  | 7, _ => show _ = _; kernel_rfl
  | 8, _ => show _ = _; kernel_rfl
  | 9, _ => show _ = _; kernel_rfl
  | 10, _ => show _ = _; kernel_rfl
  | j + 11, h => omega
theorem g_Arr42_dt (x : Arr42) {j : Nat} (h : j < 11) : ((c_Arr42 x).drop (j * 4)).take 4 = [.int .i64 (((g_Arr42 x j)).fKind), .int .u64 (nn ((g_Arr42 x j)).fNum), .int .i64 (((g_Arr42 x j)).fId), .int .i64 (((g_Arr42 x j)).fOff)] := by
  match j, h with
  | 0, _ => show _ = _; kernel_rfl
  | 1, _ => show _ = _; kernel_rfl
  | 2, _ => show _ = _; kernel_rfl
  | 3, _ => show _ = _; kernel_rfl
  | 4, _ => show _ = _; kernel_rfl
  | 5, _ => show _ = _; kernel_rfl
  | 6, _ => show _ = _; kernel_rfl
  | 7, _ => show _ = _; kernel_rfl
  | 8, _ => show _ = _; kernel_rfl
  | 9, _ => show _ = _; kernel_rfl
  | 10, _ => show _ = _; kernel_rfl
  | j + 11, h => omega
def vt6 (r : (BitVec 16) × (Bool)) : Value := .tuple #[(.int .u16 (nn r.1)), (.bool (r.2))]
noncomputable def zr81 : Value := (Tryz.prog.info? 80).bind TypeInfo.zero |>.getD undef
theorem rt81 : RowT Tryz.prog 81 80 ((Tryz.prog.info? 80).getD default) zr81 1 24 := ⟨by kernel_rfl, by kernel_rfl, by kernel_rfl, by kernel_rfl, by kernel_rfl, by kernel_rfl, by decide⟩
noncomputable def m_live_known_v3 (y0 : Insn) : Option (Bool) :=
  (m_insn_Check 1 (fun _ => y0)).bind fun r0 =>
  bif r0.2 == 11 then
    (some false)
  else (bif BitVec.ult (10#8) y0.fDst then
    (some false)
  else (some (!(BitVec.ult (10#8) y0.fSrc))))
section
variable {M : Nat → Prop} {B0 : Nat} {S : World → Prop} (hU : Up M B0 S)
include hU
theorem ok_live_known_v3 (y0 : Insn) (r : Bool) (e : m_live_known_v3 y0 = some r) : ConG Tryz.prog S 66 #[(v_Insn y0)] (.bool (r)) := by
  unfold m_live_known_v3 at e
  replace e := bindO_eq e
  obtain ⟨r0, e_r0, e⟩ := e
  try dsimp only at e
  replace e := cond_eq_or e
  let P1 : List (PG Tryz.prog M B0 S) := [.o, .o, .a 0, .o, .xg (SpcG.own hU (f := c_Insn) c_Insn_len 1 (fun _ => y0) 29 (fun _ => []) (fun _ => 0) _ 0 .normal (by intros; rfl) (by intros; rfl) (by intros; rfl) (fun M0 B0 S0 x0 u0 v0 z0 hU0 hs0 hr0 => ConG.sp (ok_insn_Check hU0 x0 u0 v0 1 z0 (fun _ => y0) hr0 r0 e_r0))) [1], .o, .o, .o, .o, .o, .o]
  rcases e with ⟨hq0, e⟩ | ⟨hq0, e⟩
  · injection e with e; subst e; exact fn_conG hU (P := Tryz.prog) Tryz.func66 (fun xs w => by kernel_rfl) _ _ (P1 ++ [.b (z_neqT hq0), .o, .o, .o, .o, .o]) [] (fun b => by kernel_rfl)
  · replace e := cond_eq_or e
    rcases e with ⟨hq1, e⟩ | ⟨hq1, e⟩
    · injection e with e; subst e; exact fn_conG hU (P := Tryz.prog) Tryz.func66 (fun xs w => by kernel_rfl) _ _ (P1 ++ [.b (z_neqF hq0), .o, .o, .a 0, .tn (u_le y0.fDst (10#8)) hq1, .o, .o, .o, .o]) [] (fun b => by kernel_rfl)
    · injection e with e; subst e; exact fn_conG hU (P := Tryz.prog) Tryz.func66 (fun xs w => by kernel_rfl) _ _ (P1 ++ [.b (z_neqF hq0), .o, .o, .a 0, .tn (u_le y0.fDst (10#8)) hq1, .o, .o, .o, .a 0, .tn (u_le y0.fSrc (10#8)) rfl, .o, .o]) [] (fun b => by kernel_rfl)
noncomputable def m_live_bit_v2 (y0 : BitVec 8) : BitVec 16 :=
  (1#16 <<< (y0).toNat)
theorem ok_live_bit_v2 (y0 : BitVec 8) (r : BitVec 16) (e : m_live_bit_v2 y0 = r) : ConG Tryz.prog S 67 #[.int .u8 (nn y0)] (.int .u16 (nn r)) := by
  unfold m_live_bit_v2 at e
  subst e; exact fn_conG hU (P := Tryz.prog) Tryz.func67 (fun xs w => by kernel_rfl) _ _ [.o, .o, .ov (u16_shl Tryz.prog 87 (.const (.int .u16 (1))) (.tmp 3) (1#16) (y0).toNat .u8 rfl), .o] [] (fun b => by kernel_rfl)
noncomputable def m_live_operand_v3 (y0 : Insn) : BitVec 16 :=
  bif (y0.fOp &&& 8#8) == 0#8 then
    (0#16)
  else (bindT (m_live_bit_v2 y0.fSrc) fun r0 =>
  r0)
end
section
variable {M : Nat → Prop} {B0 : Nat} {S : World → Prop} (hU : Up M B0 S) (y0 : Insn) (r : BitVec 16)
include hU y0 r
theorem ok_live_operand_v3 (e : m_live_operand_v3 y0 = r) : ConG Tryz.prog S 83 #[(v_Insn y0)] (.int .u16 (nn r)) := by
  unfold m_live_operand_v3 at e
  replace e := cond_eq_or e
  rcases e with ⟨hq0, e⟩ | ⟨hq0, e⟩
  · subst e; exact fn_conG hU (P := Tryz.prog) Tryz.func83 (fun xs w => by kernel_rfl) _ _ [.o, .o, .o, .a 0, .v .u8 (u8_and y0.fOp (8#8)), .t (u_eq (y0.fOp &&& 8#8) (0#8)) hq0, .o] [] (fun b => by kernel_rfl)
  · replace e := bindT_eq e
    obtain ⟨r0, e_r0, e⟩ := e
    try dsimp only at e
    subst e; exact fn_conG hU (P := Tryz.prog) Tryz.func83 (fun xs w => by kernel_rfl) _ _ [.o, .o, .o, .a 0, .v .u8 (u8_and y0.fOp (8#8)), .t (u_eq (y0.fOp &&& 8#8) (0#8)) hq0, .o, .a 0, .cg (ok_live_bit_v2 hU y0.fSrc r0 e_r0), .o] [] (fun b => by kernel_rfl)
noncomputable def m_live_aluReads_v3 (y0 : Insn) : Option (BitVec 16) :=
  bif (y0.fOp >>> 4) == 11#8 then
    (bindT (m_live_operand_v3 y0) fun r0 =>
    some r0)
  else (bif (y0.fOp >>> 4) == 13#8 then
    (none)
  else (bindT (m_live_bit_v2 y0.fDst) fun r0 =>
  bindT (m_live_operand_v3 y0) fun r1 =>
  some (r0 ||| r1)))
theorem ok_live_aluReads_v3 (e : m_live_aluReads_v3 y0 = some r) : ConG Tryz.prog S 68 #[(v_Insn y0)] (.int .u16 (nn r)) := by
  unfold m_live_aluReads_v3 at e
  replace e := cond_eq_or e
  let P1 : List (PG Tryz.prog M B0 S) := [.o, .o, .o, .a 0, .ov (u8_shr Tryz.prog 5 (.tmp 4) (.const (.int .u64 (4))) y0.fOp 4 .u64 rfl)]
  rcases e with ⟨hq0, e⟩ | ⟨hq0, e⟩
  · replace e := bindT_eq e
    obtain ⟨r0, e_r0, e⟩ := e
    try dsimp only at e
    injection e with e; subst e; exact fn_conG hU (P := Tryz.prog) Tryz.func68 (fun xs w => by kernel_rfl) _ _ (P1 ++ [.t (u_eq (y0.fOp >>> 4) (11#8)) hq0, .o, .a 0, .cg (ok_live_operand_v3 hU y0 r0 e_r0), .o]) [] (fun b => by kernel_rfl)
  · replace e := cond_eq_or e
    rcases e with ⟨hq1, e⟩ | ⟨hq1, e⟩
    · exact none_some e
    · replace e := bindT_eq e
      obtain ⟨r0, e_r0, e⟩ := e
      try dsimp only at e
      replace e := bindT_eq e
      obtain ⟨r1, e_r1, e⟩ := e
      try dsimp only at e
      injection e with e; subst e; exact fn_conG hU (P := Tryz.prog) Tryz.func68 (fun xs w => by kernel_rfl) _ _ (P1 ++ [.t (u_eq (y0.fOp >>> 4) (11#8)) hq0, .o, .t (u_eq (y0.fOp >>> 4) (13#8)) hq1, .o, .r [0, 1, 2, 3, 4, 5, 6] [] [], .o, .a 0, .cg (ok_live_bit_v2 hU y0.fDst r0 e_r0), .a 0, .cg (ok_live_operand_v3 hU y0 r1 e_r1), .v .u16 (u16_or r0 r1), .o]) [] (fun b => by kernel_rfl)
noncomputable def m_live_Reads_v3 (y0 : Insn) : Option ((BitVec 16) × (Bool)) :=
  (m_live_known_v3 y0).bind fun r0 =>
  bif r0 then
    (bif (y0.fOp &&& 7#8) == 1#8 then
      (none)
    else (bif (y0.fOp &&& 7#8) == 2#8 then
      (none)
    else (bif (y0.fOp &&& 7#8) == 3#8 then
      (none)
    else (bif (y0.fOp &&& 7#8) == 4#8 then
      ((m_live_aluReads_v3 y0).bind fun r1 =>
      some (r1, true))
    else (bif (y0.fOp &&& 7#8) == 7#8 then
      ((m_live_aluReads_v3 y0).bind fun r1 =>
      some (r1, true))
    else (none))))))
  else (some (0#16, false))
end
section
variable {M : Nat → Prop} {B0 : Nat} {S : World → Prop} (hU : Up M B0 S)
include hU
theorem ok_live_Reads_v3 (y0 : Insn) (r : (BitVec 16) × (Bool)) (e : m_live_Reads_v3 y0 = some r) : ConG Tryz.prog S 50 #[(v_Insn y0)] (vt6 r) := by
  unfold m_live_Reads_v3 at e
  replace e := bindO_eq e
  obtain ⟨r0, e_r0, e⟩ := e
  try dsimp only at e
  replace e := cond_eq_or e
  rcases e with ⟨hq0, e⟩ | ⟨hq0, e⟩
  · subst hq0
    replace e := cond_eq_or e
    let P1 : List (PG Tryz.prog M B0 S) := [.o, .o, .o, .a 0, .cg (ok_live_known_v3 hU y0 true e_r0), .o, .o, .a 0, .v .u8 (u8_and y0.fOp (7#8))]
    rcases e with ⟨hq1, e⟩ | ⟨hq1, e⟩
    · exact none_some e
    · replace e := cond_eq_or e
      rcases e with ⟨hq2, e⟩ | ⟨hq2, e⟩
      · exact none_some e
      · replace e := cond_eq_or e
        rcases e with ⟨hq3, e⟩ | ⟨hq3, e⟩
        · exact none_some e
        · replace e := cond_eq_or e
          let P2 : List (PG Tryz.prog M B0 S) := P1 ++ [.t (u_eq (y0.fOp &&& 7#8) (1#8)) hq1, .o, .t (u_eq (y0.fOp &&& 7#8) (2#8)) hq2, .o, .t (u_eq (y0.fOp &&& 7#8) (3#8)) hq3, .o]
          rcases e with ⟨hq4, e⟩ | ⟨hq4, e⟩
          · replace e := bindO_eq e
            obtain ⟨r1, e_r1, e⟩ := e
            try dsimp only at e
            injection e with e; subst e; exact fn_conG hU (P := Tryz.prog) Tryz.func50 (fun xs w => by kernel_rfl) _ _ (P2 ++ [.t (u_eq (y0.fOp &&& 7#8) (4#8)) hq4, .o, .a 0, .cg (ok_live_aluReads_v3 hU y0 r1 e_r1), .o, .o]) [] (fun b => by kernel_rfl)
          · replace e := cond_eq_or e
            rcases e with ⟨hq5, e⟩ | ⟨hq5, e⟩
            · replace e := bindO_eq e
              obtain ⟨r1, e_r1, e⟩ := e
              try dsimp only at e
              injection e with e; subst e; exact fn_conG hU (P := Tryz.prog) Tryz.func50 (fun xs w => by kernel_rfl) _ _ (P2 ++ [.t (u_eq (y0.fOp &&& 7#8) (4#8)) hq4, .o, .t (u_eq (y0.fOp &&& 7#8) (7#8)) hq5, .o, .a 0, .cg (ok_live_aluReads_v3 hU y0 r1 e_r1), .o, .o]) [] (fun b => by kernel_rfl)
            · exact none_some e
  · subst hq0
    injection e with e; subst e; exact fn_conG hU (P := Tryz.prog) Tryz.func50 (fun xs w => by kernel_rfl) _ _ [.o, .o, .o, .a 0, .cg (ok_live_known_v3 hU y0 false e_r0), .o, .o, .o] [] (fun b => by kernel_rfl)
noncomputable def m_alu_Sign_v3 (y0 : BitVec 32) : BitVec 64 :=
  (BitVec.ofInt 64 (ii y0))
theorem ok_alu_Sign_v3 (y0 : BitVec 32) (r : BitVec 64) (e : m_alu_Sign_v3 y0 = r) : ConG Tryz.prog S 16 #[.int .i32 (ii y0)] (.int .u64 (nn r)) := by
  unfold m_alu_Sign_v3 at e
  subst e; exact fn_conG hU (P := Tryz.prog) Tryz.func16 (fun xs w => by kernel_rfl) _ _ [.o, .o, .v .i64 (z_of_ii (by decide) y0), .v .u64 (u64_of_z (ii y0)), .o] [] (fun b => by kernel_rfl)
noncomputable def m_fold_number_v2 (y0 : BitVec 64) : Val :=
  (⟨1, y0, 0, 0⟩ : Val)
theorem ok_fold_number_v2 (y0 : BitVec 64) (r : Val) (e : m_fold_number_v2 y0 = r) : ConG Tryz.prog S 53 #[.int .u64 (nn y0)] ((v_Val r)) := by
  unfold m_fold_number_v2 at e
  subst e; exact fn_conG hU (P := Tryz.prog) Tryz.func53 (fun xs w => by kernel_rfl) _ _ [.o, .o, .o, .a 0] [0, 0, 0, 0] (fun b => by kernel_rfl)
inductive Sh_fold_result_v3_L0 where
  | c0 (s0_0 : Int)
inductive Ex_fold_result_v3_L0 where
  | e0 (c0_0 : Nat → Val)
noncomputable def st_fold_result_v3_L0 (y1 : Arr42) (r0 : (BitVec 16) × (Bool)) : Sh_fold_result_v3_L0 → Option (Sh_fold_result_v3_L0 ⊕ Ex_fold_result_v3_L0)
  | .c0 s0_0 =>
    bif decide (s0_0 < 11) then
      (bif inR s0_0 11 then
        (bif decide (0 ≤ s0_0) then
          (bif ((r0.1 >>> (s0_0).toNat) &&& 1#16) == 1#16 then
            (bif ((g_Arr42 y1 (s0_0).toNat)).fKind == 1 then
              (some (.inl (.c0 (IntKind.i64.wrap (s0_0 + 1)))))
            else (none))
          else (some (.inl (.c0 (IntKind.i64.wrap (s0_0 + 1))))))
        else (none))
      else (none))
    else (some (.inr (.e0 (fun k => g_Arr42 y1 k))))
noncomputable def bd_fold_result_v3_L0 : Code := codeOf Tryz.f15 [1, 1, 0, 1, 0, 0]
def fl_fold_result_v3_L0 (y0 : Insn) (y1 : Arr42) (r0 : (BitVec 16) × (Bool)) : Sh_fold_result_v3_L0 → List L1 → List Value
  | .c0 s0_0, ls => [.pointer (some ⟨(lget ls 0).n, 0, none⟩), .pointer (some ⟨(lget ls 1).n, 0, none⟩), .pointer (some ⟨(lget ls 2).n, 0, none⟩), .int .u16 (nn r0.1), (v_Arr42 y1), .int .i64 (s0_0)]
def mf_fold_result_v3_L0 : Sh_fold_result_v3_L0 → List (Nat × Nat)
  | .c0 _ => [(0, 2), (4, 12), (2, 86)]
noncomputable def fr_fold_result_v3_L0 (y0 : Insn) (y1 : Arr42) (r0 : (BitVec 16) × (Bool)) (s : Sh_fold_result_v3_L0) : List L1 → List Value := mrgF (mf_fold_result_v3_L0 s) (fl_fold_result_v3_L0 y0 y1 r0 s) 3
def Hs_fold_result_v3_L0 (y0 : Insn) (y1 : Arr42) (r0 : (BitVec 16) × (Bool)) : Sh_fold_result_v3_L0 → List L1 → List Obj
  | .c0 s0_0, ls => [.cells #[.int .u8 (nn y0.fOp), .int .u8 (nn y0.fDst), .int .u8 (nn y0.fSrc), .int .i16 (ii y0.fOff), .int .i32 (ii y0.fImm)] 29, .cells ⟨esG c_Val 11 (fun k => g_Arr42 y1 k)⟩ 42, .cells #[.int .i64 (0), .int .u64 (0), .int .i64 (0), .int .i64 (0)] 41, unb]
def vl_fold_result_v3_L0 (y0 : Insn) (y1 : Arr42) (r0 : (BitVec 16) × (Bool)) : Ex_fold_result_v3_L0 → List L1 → List Value
  | .e0 c0_0, ls => [.pointer (some ⟨(lget ls 0).n, 0, none⟩), .pointer (some ⟨(lget ls 1).n, 0, none⟩), .pointer (some ⟨(lget ls 2).n, 0, none⟩), .int .u16 (nn r0.1), (v_Arr42 y1)]
def mk_fold_result_v3_L0 : Ex_fold_result_v3_L0 → List (Nat × Nat)
  | .e0 _ => [(0, 2), (4, 12), (1, 87)]
noncomputable def vf_fold_result_v3_L0 (y0 : Insn) (y1 : Arr42) (r0 : (BitVec 16) × (Bool)) (r : Ex_fold_result_v3_L0) : List L1 → List Value := mrgF (mk_fold_result_v3_L0 r) (vl_fold_result_v3_L0 y0 y1 r0 r) 3
def Hf_fold_result_v3_L0 (y0 : Insn) (y1 : Arr42) (r0 : (BitVec 16) × (Bool)) : Ex_fold_result_v3_L0 → List L1 → List Obj
  | .e0 c0_0, ls => [.cells #[.int .u8 (nn y0.fOp), .int .u8 (nn y0.fDst), .int .u8 (nn y0.fSrc), .int .i16 (ii y0.fOff), .int .i32 (ii y0.fImm)] 29, .cells ⟨esG c_Val 11 c0_0⟩ 42, .cells #[.int .i64 (0), .int .u64 (0), .int .i64 (0), .int .i64 (0)] 41, unb]
def ex_fold_result_v3_L0 : Ex_fold_result_v3_L0 → Ex
  | .e0 _ => (.exit 0)
end
section
variable {M : Nat → Prop} {B0 : Nat} {S : World → Prop} (hU : Up M B0 S) (y0 : Insn) (y1 : Arr42) (r0 : (BitVec 16) × (Bool))
include hU y0 y1 r0
theorem go_fold_result_v3_L0 (s : Sh_fold_result_v3_L0) (r : Ex_fold_result_v3_L0) (h : lpO (st_fold_result_v3_L0 y1 r0) s = some r) : GoesG Tryz.prog M B0 S (.loop bd_fold_result_v3_L0) 4 (fr_fold_result_v3_L0 y0 y1 r0 s) (Hs_fold_result_v3_L0 y0 y1 r0 s) (ex_fold_result_v3_L0 r) 3 (vf_fold_result_v3_L0 y0 y1 r0 r) (Hf_fold_result_v3_L0 y0 y1 r0 r) 4 :=
  goes_lpO (fun s q e => by
    cases s with
    | c0 s0_0 =>
      unfold st_fold_result_v3_L0 at e
      dsimp only at e
      replace e := cond_eq_or e
      rcases e with ⟨hq0, e⟩ | ⟨hq0, e⟩
      · replace e := cond_eq_or e
        rcases e with ⟨hq1, e⟩ | ⟨hq1, e⟩
        · replace e := cond_eq_or e
          let P1 : List (PG Tryz.prog M B0 S) := [.b (z_lssT hq0), .o, .ov (idxV_ok (kd := .i64) (T := 42) (e := 41) (n := 11) (sz := 4) (cs := ⟨c_Arr42 y1⟩) (x := s0_0) (by kernel_rfl) (fun w => by kernel_rfl) (fun w => by kernel_rfl) hq1 (g_Arr42_at y1 (inR_nat hq1))), .o, .o, .a 4, .o, .o]
          rcases e with ⟨hq2, e⟩ | ⟨hq2, e⟩
          · replace e := cond_eq_or e
            let P2 : List (PG Tryz.prog M B0 S) := P1 ++ [.ov (u16_shr Tryz.prog 87 (.tmp 23) (.tmp 24) r0.1 (s0_0).toNat .i64 (z_pos hq2)), .v .u16 (u16_and (r0.1 >>> (s0_0).toNat) (1#16))]
            rcases e with ⟨hq3, e⟩ | ⟨hq3, e⟩
            · replace e := cond_eq_or e
              rcases e with ⟨hq4, e⟩ | ⟨hq4, e⟩
              · cases e; exact goes_runM hU (P2 ++ [.t (u_eq ((r0.1 >>> (s0_0).toNat) &&& 1#16) (1#16)) hq3, .o, .o, .a 4, .b (z_neqT hq4), .o, .o, .o]) [0, 1, 2] (fun b => rfl) (by decide) rfl rfl (fun b => by kernel_rfl)
              · exact none_some e
            · cases e; exact goes_runM hU (P2 ++ [.t (u_eq ((r0.1 >>> (s0_0).toNat) &&& 1#16) (1#16)) hq3, .o, .o, .o, .o]) [0, 1, 2] (fun b => rfl) (by decide) rfl rfl (fun b => by kernel_rfl)
          · exact none_some e
        · exact none_some e
      · cases e; exact ⟨ne_exit 0, goes_runM hU [.b (z_lssF hq0)] [0, 1, 2] (fun b => rfl) (by decide) rfl rfl (fun b => by kernel_rfl)⟩) s r h
noncomputable def t0_fold_result_v3_L0_0 (y0 : Insn) (y1 : Arr42) (r0 : (BitVec 16) × (Bool)) (s0_0 : Int) (ls : List L1) : List Value := List.append [(v_Insn y0), (v_Arr42 y1), .pointer (some ⟨(lget ls 0).n, 0, none⟩), .pointer (some ⟨(lget ls 1).n, 0, none⟩), .pointer (some ⟨(lget ls 2).n, 0, none⟩), .int .u16 (nn r0.1), .bool ((r0.2))] (List.append (und 6) (List.append [.tuple #[.int .u16 (nn r0.1), .bool (r0.2)], .agg #[.int .u8 (nn y0.fOp), .int .u8 (nn y0.fDst), .int .u8 (nn y0.fSrc), .int .i16 (ii y0.fOff), .int .i32 (ii y0.fImm)], .tuple #[.int .u16 (nn r0.1), .bool (r0.2)], .int .u16 (nn r0.1), .bool ((r0.2)), (v_Arr42 y1), .int .i64 (s0_0)] (und 86)))
def pre_fold_result_v3_L0_0 (y0 : Insn) (y1 : Arr42) (r0 : (BitVec 16) × (Bool)) (s0_0 : Int) (ls : List L1) : List Obj := [.cells #[.int .u8 (nn y0.fOp), .int .u8 (nn y0.fDst), .int .u8 (nn y0.fSrc), .int .i16 (ii y0.fOff), .int .i32 (ii y0.fImm)] 29, .cells ⟨esG c_Val 11 (fun k => g_Arr42 y1 k)⟩ 42, .cells #[.int .i64 (0), .int .u64 (0), .int .i64 (0), .int .i64 (0)] 41]
theorem sp0_fold_result_v3_L0_0_ok (s0_0 : Int) (c0_0 : Nat → Val) (h : lpO (st_fold_result_v3_L0 y1 r0) (.c0 s0_0) = some (.e0 c0_0)) : SpcG Tryz.prog M B0 S ⟨fun ls => .code (.loop bd_fold_result_v3_L0) (t0_fold_result_v3_L0_0 y0 y1 r0 s0_0 ls), pre_fold_result_v3_L0_0 y0 y1 r0 s0_0, 1, (.exit 0), fun ls => vf_fold_result_v3_L0 y0 y1 r0 (.e0 c0_0) (ls.take 3 ++ ls.drop 3), fun ls => (Hf_fold_result_v3_L0 y0 y1 r0 (.e0 c0_0) (ls.take 3 ++ ls.drop 3)).take 3 ++ List.replicate 0 unb, fun ls => (Hf_fold_result_v3_L0 y0 y1 r0 (.e0 c0_0) (ls.take 3 ++ ls.drop 3)).drop 3⟩ :=
  spc_of_goesM hU 0 (k0 := 3) (go_fold_result_v3_L0 hU y0 y1 r0 _ _ h) (t0_fold_result_v3_L0_0 y0 y1 r0 s0_0) (pre_fold_result_v3_L0_0 y0 y1 r0 s0_0) (fun _ => rfl) (fun ls h => by match ls, h with | [l0, l1, l2], _ => exact ⟨by kernel_rfl, by kernel_rfl⟩) (fun ls h => by match ls, h with | [l0, l1, l2], _ => rfl) (by decide) (by decide) (fun ls => rfl)
noncomputable def m_fold_result_v3 (y0 : Insn) (y1 : Arr42) : Option (Val) :=
  (m_live_Reads_v3 y0).bind fun r0 =>
  (lpO (st_fold_result_v3_L0 y1 r0) (.c0 0)).bind fun g1 => match g1 with
  | .e0 g1_0 =>
  bif (y0.fOp &&& 7#8) == 7#8 then
    (bif inR (nn y0.fDst) 11 then
      (bif (nn (y0.fOp >>> 4)) == 13 then
        (none)
      else (bif (y0.fOp &&& 8#8) == 0#8 then
        (bindT (m_alu_Sign_v3 y0.fImm) fun r2 =>
        (m_alu_Do (nn (y0.fOp >>> 4)) true ((g1_0 (nn y0.fDst).toNat)).fNum r2).bind fun r3 =>
        bindT (m_fold_number_v2 r3.1) fun r4 =>
        some r4)
      else (bif inR (nn y0.fSrc) 11 then
        ((m_alu_Do (nn (y0.fOp >>> 4)) true ((g1_0 (nn y0.fDst).toNat)).fNum ((g1_0 (nn y0.fSrc).toNat)).fNum).bind fun r2 =>
        bindT (m_fold_number_v2 r2.1) fun r3 =>
        some r3)
      else (none))))
    else (none))
  else (bif inR (nn y0.fDst) 11 then
    (bif (nn (y0.fOp >>> 4)) == 13 then
      (none)
    else (bif (y0.fOp &&& 8#8) == 0#8 then
      (bindT (m_alu_Sign_v3 y0.fImm) fun r2 =>
      (m_alu_Do (nn (y0.fOp >>> 4)) false ((g1_0 (nn y0.fDst).toNat)).fNum r2).bind fun r3 =>
      bindT (m_fold_number_v2 r3.1) fun r4 =>
      some r4)
    else (bif inR (nn y0.fSrc) 11 then
      ((m_alu_Do (nn (y0.fOp >>> 4)) false ((g1_0 (nn y0.fDst).toNat)).fNum ((g1_0 (nn y0.fSrc).toNat)).fNum).bind fun r2 =>
      bindT (m_fold_number_v2 r2.1) fun r3 =>
      some r3)
    else (none))))
  else (none))
end
section
variable {M : Nat → Prop} {B0 : Nat} {S : World → Prop} (hU : Up M B0 S) (y0 : Insn)
include hU y0
theorem ok_fold_result_v3 (y1 : Arr42) (r : Val) (e : m_fold_result_v3 y0 y1 = some r) : ConG Tryz.prog S 15 #[(v_Insn y0), (v_Arr42 y1)] ((v_Val r)) := by
  unfold m_fold_result_v3 at e
  replace e := bindO_eq e
  obtain ⟨r0, e_r0, e⟩ := e
  try dsimp only at e
  replace e := bindO_eq e
  obtain ⟨g1, e_g1, e⟩ := e
  obtain ⟨g1_0⟩ := g1
  try dsimp only at e
  replace e := cond_eq_or e
  let P1 : List (PG Tryz.prog M B0 S) := [.o, .o, .o, .a 0, .cg (ok_live_Reads_v3 hU y0 r0 e_r0), .o, .o, .o, .o, .o, .a 1, .o, .cp, .cx (sp0_fold_result_v3_L0_0_ok hU y0 y1 r0 0 g1_0 e_g1) [0, 1, 2], .r [0, 1, 2, 3, 4, 5, 6, 7, 8, 9, 10, 11, 12, 13, 14, 15] [] [], .o, .a 0, .ov (u8_shr Tryz.prog 5 (.tmp 36) (.const (.int .u64 (4))) y0.fOp 4 .u64 rfl), .v .i64 (z_of_nn (by decide) (y0.fOp >>> 4)), .o, .a 0, .v .u8 (u8_and y0.fOp (7#8))]
  rcases e with ⟨hq0, e⟩ | ⟨hq0, e⟩
  · replace e := cond_eq_or e
    rcases e with ⟨hq1, e⟩ | ⟨hq1, e⟩
    · replace e := cond_eq_or e
      let P2 : List (PG Tryz.prog M B0 S) := P1 ++ [.t (u_eq (y0.fOp &&& 7#8) (7#8)) hq0, .o, .a 0, .q (ixA_ok (kd := .u8) (T := 42) (x := nn y0.fDst) (sz := 4) (N := 11) rfl rfl (fun w => by kernel_rfl) hq1), .o, .l (accF (i := 1) (f := c_Val) (A := g1_0) (k := (nn y0.fDst).toNat) 1 [.int .u64 (nn ((g1_0 (nn y0.fDst).toNat)).fNum)] c_Val_len (inR_nat hq1) rfl), .o, .o, .o, .o, .o]
      rcases e with ⟨hq2, e⟩ | ⟨hq2, e⟩
      · exact none_some e
      · replace e := cond_eq_or e
        let P3 : List (PG Tryz.prog M B0 S) := P2 ++ [.b (z_eqlF hq2), .o, .o, .o, .o, .b (z_eqlF hq2), .o, .o, .a 0, .v .u8 (u8_and y0.fOp (8#8))]
        rcases e with ⟨hq3, e⟩ | ⟨hq3, e⟩
        · replace e := bindT_eq e
          obtain ⟨r2, e_r2, e⟩ := e
          try dsimp only at e
          replace e := bindO_eq e
          obtain ⟨r3, e_r3, e⟩ := e
          try dsimp only at e
          replace e := bindT_eq e
          obtain ⟨r4, e_r4, e⟩ := e
          try dsimp only at e
          injection e with e; subst e; exact fn_conG hU (P := Tryz.prog) Tryz.func15 (fun xs w => by kernel_rfl) _ _ (P3 ++ [.tn (u_ne (y0.fOp &&& 8#8) (0#8)) hq3, .o, .o, .o, .o, .o, .a 0, .cg (ok_alu_Sign_v3 hU y0.fImm r2 e_r2), .cg (ok_alu_Do hU (nn (y0.fOp >>> 4)) true ((g1_0 (nn y0.fDst).toNat)).fNum r2 r3 e_r3), .o, .o, .o, .o, .o, .cg (ok_fold_number_v2 hU r3.1 r4 e_r4), .a 2]) [2, 2, 2, 2] (fun b => by kernel_rfl)
        · replace e := cond_eq_or e
          rcases e with ⟨hq4, e⟩ | ⟨hq4, e⟩
          · replace e := bindO_eq e
            obtain ⟨r2, e_r2, e⟩ := e
            try dsimp only at e
            replace e := bindT_eq e
            obtain ⟨r3, e_r3, e⟩ := e
            try dsimp only at e
            injection e with e; subst e; exact fn_conG hU (P := Tryz.prog) Tryz.func15 (fun xs w => by kernel_rfl) _ _ (P3 ++ [.tn (u_ne (y0.fOp &&& 8#8) (0#8)) hq3, .o, .o, .o, .o, .o, .a 0, .q (ixA_ok (kd := .u8) (T := 42) (x := nn y0.fSrc) (sz := 4) (N := 11) rfl rfl (fun w => by kernel_rfl) hq4), .o, .l (accF (i := 1) (f := c_Val) (A := g1_0) (k := (nn y0.fSrc).toNat) 1 [.int .u64 (nn ((g1_0 (nn y0.fSrc).toNat)).fNum)] c_Val_len (inR_nat hq4) rfl), .cg (ok_alu_Do hU (nn (y0.fOp >>> 4)) true ((g1_0 (nn y0.fDst).toNat)).fNum ((g1_0 (nn y0.fSrc).toNat)).fNum r2 e_r2), .o, .o, .o, .o, .o, .cg (ok_fold_number_v2 hU r2.1 r3 e_r3), .a 2]) [2, 2, 2, 2] (fun b => by kernel_rfl)
          · exact none_some e
    · exact none_some e
  · replace e := cond_eq_or e
    rcases e with ⟨hq1, e⟩ | ⟨hq1, e⟩
    · replace e := cond_eq_or e
      let P4 : List (PG Tryz.prog M B0 S) := P1 ++ [.t (u_eq (y0.fOp &&& 7#8) (7#8)) hq0, .o, .a 0, .q (ixA_ok (kd := .u8) (T := 42) (x := nn y0.fDst) (sz := 4) (N := 11) rfl rfl (fun w => by kernel_rfl) hq1), .o, .l (accF (i := 1) (f := c_Val) (A := g1_0) (k := (nn y0.fDst).toNat) 1 [.int .u64 (nn ((g1_0 (nn y0.fDst).toNat)).fNum)] c_Val_len (inR_nat hq1) rfl), .o, .o, .o, .o, .o]
      rcases e with ⟨hq2, e⟩ | ⟨hq2, e⟩
      · exact none_some e
      · replace e := cond_eq_or e
        let P5 : List (PG Tryz.prog M B0 S) := P4 ++ [.b (z_eqlF hq2), .o, .o, .o, .o, .b (z_eqlF hq2), .o, .o, .a 0, .v .u8 (u8_and y0.fOp (8#8))]
        rcases e with ⟨hq3, e⟩ | ⟨hq3, e⟩
        · replace e := bindT_eq e
          obtain ⟨r2, e_r2, e⟩ := e
          try dsimp only at e
          replace e := bindO_eq e
          obtain ⟨r3, e_r3, e⟩ := e
          try dsimp only at e
          replace e := bindT_eq e
          obtain ⟨r4, e_r4, e⟩ := e
          try dsimp only at e
          injection e with e; subst e; exact fn_conG hU (P := Tryz.prog) Tryz.func15 (fun xs w => by kernel_rfl) _ _ (P5 ++ [.tn (u_ne (y0.fOp &&& 8#8) (0#8)) hq3, .o, .o, .o, .o, .o, .a 0, .cg (ok_alu_Sign_v3 hU y0.fImm r2 e_r2), .cg (ok_alu_Do hU (nn (y0.fOp >>> 4)) false ((g1_0 (nn y0.fDst).toNat)).fNum r2 r3 e_r3), .o, .o, .o, .o, .o, .cg (ok_fold_number_v2 hU r3.1 r4 e_r4), .a 2]) [2, 2, 2, 2] (fun b => by kernel_rfl)
        · replace e := cond_eq_or e
          rcases e with ⟨hq4, e⟩ | ⟨hq4, e⟩
          · replace e := bindO_eq e
            obtain ⟨r2, e_r2, e⟩ := e
            try dsimp only at e
            replace e := bindT_eq e
            obtain ⟨r3, e_r3, e⟩ := e
            try dsimp only at e
            injection e with e; subst e; exact fn_conG hU (P := Tryz.prog) Tryz.func15 (fun xs w => by kernel_rfl) _ _ (P5 ++ [.tn (u_ne (y0.fOp &&& 8#8) (0#8)) hq3, .o, .o, .o, .o, .o, .a 0, .q (ixA_ok (kd := .u8) (T := 42) (x := nn y0.fSrc) (sz := 4) (N := 11) rfl rfl (fun w => by kernel_rfl) hq4), .o, .l (accF (i := 1) (f := c_Val) (A := g1_0) (k := (nn y0.fSrc).toNat) 1 [.int .u64 (nn ((g1_0 (nn y0.fSrc).toNat)).fNum)] c_Val_len (inR_nat hq4) rfl), .cg (ok_alu_Do hU (nn (y0.fOp >>> 4)) false ((g1_0 (nn y0.fDst).toNat)).fNum ((g1_0 (nn y0.fSrc).toNat)).fNum r2 e_r2), .o, .o, .o, .o, .o, .cg (ok_fold_number_v2 hU r2.1 r3 e_r3), .a 2]) [2, 2, 2, 2] (fun b => by kernel_rfl)
          · exact none_some e
    · exact none_some e
noncomputable def m_live_Writes_v3 (y0 : Insn) : Option ((BitVec 16) × (Bool)) :=
  (m_live_known_v3 y0).bind fun r0 =>
  bif r0 then
    (bif (y0.fOp &&& 7#8) == 0#8 then
      (none)
    else (bif (y0.fOp &&& 7#8) == 1#8 then
      (none)
    else (bif (y0.fOp &&& 7#8) == 4#8 then
      (bindT (m_live_bit_v2 y0.fDst) fun r1 =>
      some (r1, true))
    else (bif (y0.fOp &&& 7#8) == 7#8 then
      (bindT (m_live_bit_v2 y0.fDst) fun r1 =>
      some (r1, true))
    else (none)))))
  else (some (0#16, false))
theorem ok_live_Writes_v3 (r : (BitVec 16) × (Bool)) (e : m_live_Writes_v3 y0 = some r) : ConG Tryz.prog S 64 #[(v_Insn y0)] (vt6 r) := by
  unfold m_live_Writes_v3 at e
  replace e := bindO_eq e
  obtain ⟨r0, e_r0, e⟩ := e
  try dsimp only at e
  replace e := cond_eq_or e
  rcases e with ⟨hq0, e⟩ | ⟨hq0, e⟩
  · subst hq0
    replace e := cond_eq_or e
    let P1 : List (PG Tryz.prog M B0 S) := [.o, .o, .o, .a 0, .cg (ok_live_known_v3 hU y0 true e_r0), .o, .o, .a 0, .v .u8 (u8_and y0.fOp (7#8))]
    rcases e with ⟨hq1, e⟩ | ⟨hq1, e⟩
    · exact none_some e
    · replace e := cond_eq_or e
      rcases e with ⟨hq2, e⟩ | ⟨hq2, e⟩
      · exact none_some e
      · replace e := cond_eq_or e
        rcases e with ⟨hq3, e⟩ | ⟨hq3, e⟩
        · replace e := bindT_eq e
          obtain ⟨r1, e_r1, e⟩ := e
          try dsimp only at e
          injection e with e; subst e; exact fn_conG hU (P := Tryz.prog) Tryz.func64 (fun xs w => by kernel_rfl) _ _ (P1 ++ [.t (u_eq (y0.fOp &&& 7#8) (0#8)) hq1, .o, .t (u_eq (y0.fOp &&& 7#8) (1#8)) hq2, .o, .t (u_eq (y0.fOp &&& 7#8) (4#8)) hq3, .o, .o, .a 0, .cg (ok_live_bit_v2 hU y0.fDst r1 e_r1), .o, .o]) [] (fun b => by kernel_rfl)
        · replace e := cond_eq_or e
          rcases e with ⟨hq4, e⟩ | ⟨hq4, e⟩
          · replace e := bindT_eq e
            obtain ⟨r1, e_r1, e⟩ := e
            try dsimp only at e
            injection e with e; subst e; exact fn_conG hU (P := Tryz.prog) Tryz.func64 (fun xs w => by kernel_rfl) _ _ (P1 ++ [.t (u_eq (y0.fOp &&& 7#8) (0#8)) hq1, .o, .t (u_eq (y0.fOp &&& 7#8) (1#8)) hq2, .o, .t (u_eq (y0.fOp &&& 7#8) (4#8)) hq3, .o, .t (u_eq (y0.fOp &&& 7#8) (7#8)) hq4, .o, .o, .a 0, .cg (ok_live_bit_v2 hU y0.fDst r1 e_r1), .o, .o]) [] (fun b => by kernel_rfl)
          · exact none_some e
  · subst hq0
    injection e with e; subst e; exact fn_conG hU (P := Tryz.prog) Tryz.func64 (fun xs w => by kernel_rfl) _ _ [.o, .o, .o, .a 0, .cg (ok_live_known_v3 hU y0 false e_r0), .o, .o, .o] [] (fun b => by kernel_rfl)
noncomputable def m_fold_isAlu_v4 (y0 : Insn) : Bool :=
  bif (y0.fOp &&& 7#8) == 4#8 then
    (true)
  else (((y0.fOp &&& 7#8) == 7#8))
theorem ok_fold_isAlu_v4 (r : Bool) (e : m_fold_isAlu_v4 y0 = r) : ConG Tryz.prog S 13 #[(v_Insn y0)] (.bool (r)) := by
  unfold m_fold_isAlu_v4 at e
  replace e := cond_eq_or e
  rcases e with ⟨hq0, e⟩ | ⟨hq0, e⟩
  · subst e; exact fn_conG hU (P := Tryz.prog) Tryz.func13 (fun xs w => by kernel_rfl) _ _ [.o, .o, .o, .a 0, .v .u8 (u8_and y0.fOp (7#8)), .t (u_eq (y0.fOp &&& 7#8) (4#8)) hq0, .o, .o, .o] [] (fun b => by kernel_rfl)
  · subst e; exact fn_conG hU (P := Tryz.prog) Tryz.func13 (fun xs w => by kernel_rfl) _ _ [.o, .o, .o, .a 0, .v .u8 (u8_and y0.fOp (7#8)), .t (u_eq (y0.fOp &&& 7#8) (4#8)) hq0, .o, .o, .a 0, .v .u8 (u8_and y0.fOp (7#8)), .t (u_eq (y0.fOp &&& 7#8) (7#8)) rfl, .o, .o] [] (fun b => by kernel_rfl)
inductive Sh_fold_behind_v3_L0 where
  | c0 (s0_0 : Nat → Val) (s0_1 : Int)
inductive Ex_fold_behind_v3_L0 where
  | e0 (c0_0 : Nat → Val) (c0_1 : Nat → Val) (c0_2 : BitVec 8) (c0_3 : BitVec 8) (c0_4 : BitVec 8) (c0_5 : BitVec 16) (c0_6 : BitVec 32) (c0_7 : Nat → Val)
noncomputable def st_fold_behind_v3_L0 (A0 : Nat → Insn) (y1 : Int) (y2 : Arr42) (r0 : (BitVec 16) × (Bool)) : Sh_fold_behind_v3_L0 → Option (Sh_fold_behind_v3_L0 ⊕ Ex_fold_behind_v3_L0)
  | .c0 s0_0 s0_1 =>
    bif decide (s0_1 < 11) then
      (bif decide (0 ≤ s0_1) then
        (bif ((r0.1 >>> (s0_1).toNat) &&& 1#16) == 1#16 then
          (bif inR s0_1 11 then
            (some (.inl (.c0 (updF s0_0 (s0_1).toNat (⟨0, 0#64, 0, 0⟩ : Val)) (IntKind.i64.wrap (s0_1 + 1)))))
          else (none))
        else (some (.inl (.c0 s0_0 (IntKind.i64.wrap (s0_1 + 1))))))
      else (none))
    else (some (.inr (.e0 (fun k => g_Arr42 y2 k) (fun _ => (⟨0, 0#64, 0, 0⟩ : Val)) ((A0 (y1).toNat)).fOp ((A0 (y1).toNat)).fDst ((A0 (y1).toNat)).fSrc ((A0 (y1).toNat)).fOff ((A0 (y1).toNat)).fImm s0_0)))
noncomputable def bd_fold_behind_v3_L0 : Code := codeOf Tryz.f48 [1, 1, 1, 1, 0, 1, 0, 0]
def fl_fold_behind_v3_L0 (a0 : Option Addr) (p0 : Nat) (q0 : Nat) (n0 : Nat) (k0 : Nat) (A0 : Nat → Insn) (y1 : Int) (y2 : Arr42) (r0 : (BitVec 16) × (Bool)) : Sh_fold_behind_v3_L0 → List L1 → List Value
  | .c0 s0_0 s0_1, ls => [.slice a0 n0 (n0 + k0), .int .i64 (y1), .pointer (some ⟨(lget ls 0).n, 0, none⟩), .pointer (some ⟨(lget ls 1).n, 0, none⟩), .pointer (some ⟨(lget ls 2).n, 0, none⟩), .int .u16 (nn r0.1), .pointer (some ⟨(lget ls 3).n, 0, none⟩), .int .i64 (s0_1)]
def mf_fold_behind_v3_L0 : Sh_fold_behind_v3_L0 → List (Nat × Nat)
  | .c0 _ _ => [(2, 3), (4, 1), (1, 13), (1, 37)]
noncomputable def fr_fold_behind_v3_L0 (a0 : Option Addr) (p0 : Nat) (q0 : Nat) (n0 : Nat) (k0 : Nat) (A0 : Nat → Insn) (y1 : Int) (y2 : Arr42) (r0 : (BitVec 16) × (Bool)) (s : Sh_fold_behind_v3_L0) : List L1 → List Value := mrgF (mf_fold_behind_v3_L0 s) (fl_fold_behind_v3_L0 a0 p0 q0 n0 k0 A0 y1 y2 r0 s) 4
def Hs_fold_behind_v3_L0 (a0 : Option Addr) (p0 : Nat) (q0 : Nat) (n0 : Nat) (k0 : Nat) (A0 : Nat → Insn) (y1 : Int) (y2 : Arr42) (r0 : (BitVec 16) × (Bool)) : Sh_fold_behind_v3_L0 → List L1 → List Obj
  | .c0 s0_0 s0_1, ls => [.cells ⟨esG c_Val 11 (fun k => g_Arr42 y2 k)⟩ 42, .cells ⟨esG c_Val 11 (fun _ => (⟨0, 0#64, 0, 0⟩ : Val))⟩ 42, .cells #[.int .u8 (nn ((A0 (y1).toNat)).fOp), .int .u8 (nn ((A0 (y1).toNat)).fDst), .int .u8 (nn ((A0 (y1).toNat)).fSrc), .int .i16 (ii ((A0 (y1).toNat)).fOff), .int .i32 (ii ((A0 (y1).toNat)).fImm)] 29, .cells ⟨esG c_Val 11 s0_0⟩ 42, unb]
def vl_fold_behind_v3_L0 (a0 : Option Addr) (p0 : Nat) (q0 : Nat) (n0 : Nat) (k0 : Nat) (A0 : Nat → Insn) (y1 : Int) (y2 : Arr42) (r0 : (BitVec 16) × (Bool)) : Ex_fold_behind_v3_L0 → List L1 → List Value
  | .e0 c0_0 c0_1 c0_2 c0_3 c0_4 c0_5 c0_6 c0_7, ls => [.slice a0 n0 (n0 + k0), .int .i64 (y1), .pointer (some ⟨(lget ls 0).n, 0, none⟩), .pointer (some ⟨(lget ls 1).n, 0, none⟩), .pointer (some ⟨(lget ls 2).n, 0, none⟩), .int .u16 (nn r0.1), .pointer (some ⟨(lget ls 3).n, 0, none⟩)]
def mk_fold_behind_v3_L0 : Ex_fold_behind_v3_L0 → List (Nat × Nat)
  | .e0 _ _ _ _ _ _ _ _ => [(2, 3), (4, 1), (1, 51)]
noncomputable def vf_fold_behind_v3_L0 (a0 : Option Addr) (p0 : Nat) (q0 : Nat) (n0 : Nat) (k0 : Nat) (A0 : Nat → Insn) (y1 : Int) (y2 : Arr42) (r0 : (BitVec 16) × (Bool)) (r : Ex_fold_behind_v3_L0) : List L1 → List Value := mrgF (mk_fold_behind_v3_L0 r) (vl_fold_behind_v3_L0 a0 p0 q0 n0 k0 A0 y1 y2 r0 r) 4
def Hf_fold_behind_v3_L0 (a0 : Option Addr) (p0 : Nat) (q0 : Nat) (n0 : Nat) (k0 : Nat) (A0 : Nat → Insn) (y1 : Int) (y2 : Arr42) (r0 : (BitVec 16) × (Bool)) : Ex_fold_behind_v3_L0 → List L1 → List Obj
  | .e0 c0_0 c0_1 c0_2 c0_3 c0_4 c0_5 c0_6 c0_7, ls => [.cells ⟨esG c_Val 11 c0_0⟩ 42, .cells ⟨esG c_Val 11 c0_1⟩ 42, .cells #[.int .u8 (nn c0_2), .int .u8 (nn c0_3), .int .u8 (nn c0_4), .int .i16 (ii c0_5), .int .i32 (ii c0_6)] 29, .cells ⟨esG c_Val 11 c0_7⟩ 42, unb]
def ex_fold_behind_v3_L0 : Ex_fold_behind_v3_L0 → Ex
  | .e0 _ _ _ _ _ _ _ _ => (.exit 0)
end
section
variable {M : Nat → Prop} {B0 : Nat} {S : World → Prop} (hU : Up M B0 S) (a0 : Option Addr) (p0 : Nat) (q0 : Nat) (n0 : Nat) (k0 : Nat) (A0 : Nat → Insn) (hR0 : Ro S c_Insn 5 a0 p0 q0 n0 A0) (y1 : Int) (y2 : Arr42) (r0 : (BitVec 16) × (Bool))
include hU a0 p0 q0 n0 k0 A0 hR0 y1 y2 r0
theorem go_fold_behind_v3_L0 (s : Sh_fold_behind_v3_L0) (r : Ex_fold_behind_v3_L0) (h : lpO (st_fold_behind_v3_L0 A0 y1 y2 r0) s = some r) : GoesG Tryz.prog M B0 S (.loop bd_fold_behind_v3_L0) 5 (fr_fold_behind_v3_L0 a0 p0 q0 n0 k0 A0 y1 y2 r0 s) (Hs_fold_behind_v3_L0 a0 p0 q0 n0 k0 A0 y1 y2 r0 s) (ex_fold_behind_v3_L0 r) 4 (vf_fold_behind_v3_L0 a0 p0 q0 n0 k0 A0 y1 y2 r0 r) (Hf_fold_behind_v3_L0 a0 p0 q0 n0 k0 A0 y1 y2 r0 r) 5 :=
  goes_lpO (fun s q e => by
    cases s with
    | c0 s0_0 s0_1 =>
      unfold st_fold_behind_v3_L0 at e
      dsimp only at e
      replace e := cond_eq_or e
      rcases e with ⟨hq0, e⟩ | ⟨hq0, e⟩
      · replace e := cond_eq_or e
        rcases e with ⟨hq1, e⟩ | ⟨hq1, e⟩
        · replace e := cond_eq_or e
          let P1 : List (PG Tryz.prog M B0 S) := [.b (z_lssT hq0), .o, .o, .o, .o, .ov (u16_shr Tryz.prog 87 (.tmp 27) (.tmp 28) r0.1 (s0_1).toNat .i64 (z_pos hq1)), .v .u16 (u16_and (r0.1 >>> (s0_1).toNat) (1#16))]
          rcases e with ⟨hq2, e⟩ | ⟨hq2, e⟩
          · replace e := cond_eq_or e
            rcases e with ⟨hq3, e⟩ | ⟨hq3, e⟩
            · cases e; exact goes_runM hU (P1 ++ [.t (u_eq ((r0.1 >>> (s0_1).toNat) &&& 1#16) (1#16)) hq2, .o, .o, .q (ixA_ok (kd := .i64) (T := 42) (x := s0_1) (sz := 4) (N := 11) rfl rfl (fun w => by kernel_rfl) hq3), .x (sqStF_ok (T := 41) (e := 42) (f := c_Val) (A := s0_0) (v := (⟨0, 0#64, 0, 0⟩ : Val)) 0 (.agg #[.int .i64 (0), .int .u64 (0), .int .i64 (0), .int .i64 (0)]) c_Val_len c_Val_one rfl rfl (fun w => by kernel_rfl) (inR_nat hq3)) [3], .o, .o]) [0, 1, 2, 3] (fun b => rfl) (by decide) rfl rfl (fun b => by kernel_rfl)
            · exact none_some e
          · cases e; exact goes_runM hU (P1 ++ [.t (u_eq ((r0.1 >>> (s0_1).toNat) &&& 1#16) (1#16)) hq2, .o, .o]) [0, 1, 2, 3] (fun b => rfl) (by decide) rfl rfl (fun b => by kernel_rfl)
        · exact none_some e
      · cases e; exact ⟨ne_exit 0, goes_runM hU [.b (z_lssF hq0)] [0, 1, 2, 3] (fun b => rfl) (by decide) rfl rfl (fun b => by kernel_rfl)⟩) s r h
noncomputable def t0_fold_behind_v3_L0_0 (a0 : Option Addr) (p0 : Nat) (q0 : Nat) (n0 : Nat) (k0 : Nat) (A0 : Nat → Insn) (y1 : Int) (y2 : Arr42) (r0 : (BitVec 16) × (Bool)) (s0_0 : Nat → Val) (s0_1 : Int) (ls : List L1) : List Value := List.append [.slice a0 n0 (n0 + k0), .int .i64 (y1), (v_Arr42 y2), undef, undef, .pointer (some ⟨(lget ls 0).n, 0, none⟩), .pointer (some ⟨(lget ls 1).n, 0, none⟩), .pointer (some ⟨(lget ls 2).n, 0, none⟩), .int .u16 (nn r0.1), .bool ((r0.2)), .pointer (some ⟨(lget ls 3).n, 0, none⟩), undef, undef, undef, .slice a0 n0 (n0 + k0), .int .i64 (y1), .pointer (some ⟨p0, q0 + (y1).toNat * 5, none⟩), .agg #[.int .u8 (nn ((A0 (y1).toNat)).fOp), .int .u8 (nn ((A0 (y1).toNat)).fDst), .int .u8 (nn ((A0 (y1).toNat)).fSrc), .int .i16 (ii ((A0 (y1).toNat)).fOff), .int .i32 (ii ((A0 (y1).toNat)).fImm)], .tuple #[.int .u16 (nn r0.1), .bool (r0.2)], .agg #[.int .u8 (nn ((A0 (y1).toNat)).fOp), .int .u8 (nn ((A0 (y1).toNat)).fDst), .int .u8 (nn ((A0 (y1).toNat)).fSrc), .int .i16 (ii ((A0 (y1).toNat)).fOff), .int .i32 (ii ((A0 (y1).toNat)).fImm)], .tuple #[.int .u16 (nn r0.1), .bool (r0.2)], .int .u16 (nn r0.1), .bool ((r0.2)), (v_Arr42 y2), .int .i64 (s0_1)] (und 37)
def pre_fold_behind_v3_L0_0 (a0 : Option Addr) (p0 : Nat) (q0 : Nat) (n0 : Nat) (k0 : Nat) (A0 : Nat → Insn) (y1 : Int) (y2 : Arr42) (r0 : (BitVec 16) × (Bool)) (s0_0 : Nat → Val) (s0_1 : Int) (ls : List L1) : List Obj := [.cells ⟨esG c_Val 11 (fun k => g_Arr42 y2 k)⟩ 42, .cells ⟨esG c_Val 11 (fun _ => (⟨0, 0#64, 0, 0⟩ : Val))⟩ 42, .cells #[.int .u8 (nn ((A0 (y1).toNat)).fOp), .int .u8 (nn ((A0 (y1).toNat)).fDst), .int .u8 (nn ((A0 (y1).toNat)).fSrc), .int .i16 (ii ((A0 (y1).toNat)).fOff), .int .i32 (ii ((A0 (y1).toNat)).fImm)] 29, .cells ⟨esG c_Val 11 s0_0⟩ 42]
theorem sp0_fold_behind_v3_L0_0_ok (s0_0 : Nat → Val) (s0_1 : Int) (c0_0 : Nat → Val) (c0_1 : Nat → Val) (c0_2 : BitVec 8) (c0_3 : BitVec 8) (c0_4 : BitVec 8) (c0_5 : BitVec 16) (c0_6 : BitVec 32) (c0_7 : Nat → Val) (h : lpO (st_fold_behind_v3_L0 A0 y1 y2 r0) (.c0 s0_0 s0_1) = some (.e0 c0_0 c0_1 c0_2 c0_3 c0_4 c0_5 c0_6 c0_7)) : SpcG Tryz.prog M B0 S ⟨fun ls => .code (.loop bd_fold_behind_v3_L0) (t0_fold_behind_v3_L0_0 a0 p0 q0 n0 k0 A0 y1 y2 r0 s0_0 s0_1 ls), pre_fold_behind_v3_L0_0 a0 p0 q0 n0 k0 A0 y1 y2 r0 s0_0 s0_1, 1, (.exit 0), fun ls => vf_fold_behind_v3_L0 a0 p0 q0 n0 k0 A0 y1 y2 r0 (.e0 c0_0 c0_1 c0_2 c0_3 c0_4 c0_5 c0_6 c0_7) (ls.take 4 ++ ls.drop 4), fun ls => (Hf_fold_behind_v3_L0 a0 p0 q0 n0 k0 A0 y1 y2 r0 (.e0 c0_0 c0_1 c0_2 c0_3 c0_4 c0_5 c0_6 c0_7) (ls.take 4 ++ ls.drop 4)).take 4 ++ List.replicate 0 unb, fun ls => (Hf_fold_behind_v3_L0 a0 p0 q0 n0 k0 A0 y1 y2 r0 (.e0 c0_0 c0_1 c0_2 c0_3 c0_4 c0_5 c0_6 c0_7) (ls.take 4 ++ ls.drop 4)).drop 4⟩ :=
  spc_of_goesM hU 0 (k0 := 4) (go_fold_behind_v3_L0 hU a0 p0 q0 n0 k0 A0 hR0 y1 y2 r0 _ _ h) (t0_fold_behind_v3_L0_0 a0 p0 q0 n0 k0 A0 y1 y2 r0 s0_0 s0_1) (pre_fold_behind_v3_L0_0 a0 p0 q0 n0 k0 A0 y1 y2 r0 s0_0 s0_1) (fun _ => rfl) (fun ls h => by match ls, h with | [l0, l1, l2, l3], _ => exact ⟨by kernel_rfl, by kernel_rfl⟩) (fun ls h => by match ls, h with | [l0, l1, l2, l3], _ => rfl) (by decide) (by decide) (fun ls => rfl)
noncomputable def m_fold_behind_v3 (n0 : Nat) (A0 : Nat → Insn) (y1 : Int) (y2 : Arr42) : Option (Arr42) :=
  bif inR y1 n0 then
    ((m_live_Writes_v3 ((A0 (y1).toNat))).bind fun r0 =>
    (lpO (st_fold_behind_v3_L0 A0 y1 y2 r0) (.c0 (fun k => g_Arr42 y2 k) 0)).bind fun g1 => match g1 with
    | .e0 g1_0 g1_1 g1_2 g1_3 g1_4 g1_5 g1_6 g1_7 =>
    bif m_fold_isAlu_v4 (⟨g1_2, g1_3, g1_4, g1_5, g1_6⟩ : Insn) then
      ((m_fold_result_v3 (⟨g1_2, g1_3, g1_4, g1_5, g1_6⟩ : Insn) (⟨g1_0 0, g1_0 1, g1_0 2, g1_0 3, g1_0 4, g1_0 5, g1_0 6, g1_0 7, g1_0 8, g1_0 9, g1_0 10⟩ : Arr42)).bind fun r2 =>
      bif inR (nn g1_3) 11 then
        (some (⟨((updF g1_7 (nn g1_3).toNat r2) 0), ((updF g1_7 (nn g1_3).toNat r2) 1), ((updF g1_7 (nn g1_3).toNat r2) 2), ((updF g1_7 (nn g1_3).toNat r2) 3), ((updF g1_7 (nn g1_3).toNat r2) 4), ((updF g1_7 (nn g1_3).toNat r2) 5), ((updF g1_7 (nn g1_3).toNat r2) 6), ((updF g1_7 (nn g1_3).toNat r2) 7), ((updF g1_7 (nn g1_3).toNat r2) 8), ((updF g1_7 (nn g1_3).toNat r2) 9), ((updF g1_7 (nn g1_3).toNat r2) 10)⟩ : Arr42))
      else (none))
    else (none))
  else (none)
end
section
variable {M : Nat → Prop} {B0 : Nat} {S : World → Prop} (hU : Up M B0 S) (a0 : Option Addr) (p0 : Nat) (q0 : Nat) (n0 : Nat) (k0 : Nat) (A0 : Nat → Insn) (hR0 : Ro S c_Insn 5 a0 p0 q0 n0 A0) (y1 : Int)
include hU a0 p0 q0 n0 k0 A0 hR0 y1
theorem ok_fold_behind_v3 (y2 : Arr42) (r : Arr42) (e : m_fold_behind_v3 n0 A0 y1 y2 = some r) : ConG Tryz.prog S 48 #[.slice a0 n0 (n0 + k0), .int .i64 (y1), (v_Arr42 y2)] ((v_Arr42 r)) := by
  unfold m_fold_behind_v3 at e
  replace e := cond_eq_or e
  rcases e with ⟨hq0, e⟩ | ⟨hq0, e⟩
  · replace e := bindO_eq e
    obtain ⟨r0, e_r0, e⟩ := e
    try dsimp only at e
    replace e := bindO_eq e
    obtain ⟨g1, e_g1, e⟩ := e
    obtain ⟨g1_0, g1_1, g1_2, g1_3, g1_4, g1_5, g1_6, g1_7⟩ := g1
    try dsimp only at e
    replace e := cond_eq_or e
    rcases e with ⟨hq1, e⟩ | ⟨hq1, e⟩
    · replace e := bindO_eq e
      obtain ⟨r2, e_r2, e⟩ := e
      try dsimp only at e
      replace e := cond_eq_or e
      rcases e with ⟨hq2, e⟩ | ⟨hq2, e⟩
      · injection e with e; subst e; exact fn_conG hU (P := Tryz.prog) Tryz.func48 (fun xs w => by kernel_rfl) _ _ [.o, .o, .o, .o, .q (ixRo_ok (kd := .i64) (T := 23) (x := y1) (sz := 5) rfl (fun w => by kernel_rfl) hR0 hq0), .l (accRo hR0 c_Insn_len (inR_nat hq0) 0 [.int .u8 (nn ((A0 (y1).toNat)).fOp), .int .u8 (nn ((A0 (y1).toNat)).fDst), .int .u8 (nn ((A0 (y1).toNat)).fSrc), .int .i16 (ii ((A0 (y1).toNat)).fOff), .int .i32 (ii ((A0 (y1).toNat)).fImm)] rfl), .o, .a 2, .a 2, .cg (ok_live_Writes_v3 hU ((A0 (y1).toNat)) r0 e_r0), .o, .o, .o, .o, .o, .a 0, .o, .a 3, .o, .cp, .cx (sp0_fold_behind_v3_L0_0_ok hU a0 p0 q0 n0 k0 A0 hR0 y1 y2 r0 (fun k => g_Arr42 y2 k) 0 g1_0 g1_1 g1_2 g1_3 g1_4 g1_5 g1_6 g1_7 e_g1) [0, 1, 2, 3], .a 2, .cg (ok_fold_isAlu_v4 hU (⟨g1_2, g1_3, g1_4, g1_5, g1_6⟩ : Insn) true hq1), .o, .r [0, 1, 2, 3, 4, 5] [] [6], .o, .a 2, .a 2, .a 0, .cg (ok_fold_result_v3 hU (⟨g1_2, g1_3, g1_4, g1_5, g1_6⟩ : Insn) (⟨g1_0 0, g1_0 1, g1_0 2, g1_0 3, g1_0 4, g1_0 5, g1_0 6, g1_0 7, g1_0 8, g1_0 9, g1_0 10⟩ : Arr42) r2 e_r2), .q (ixA_ok (kd := .u8) (T := 42) (x := nn g1_3) (sz := 4) (N := 11) rfl rfl (fun w => by kernel_rfl) hq2), .x (sqStF_ok (T := 41) (e := 42) (f := c_Val) (A := g1_7) (v := r2) 0 ((v_Val r2)) c_Val_len c_Val_one rfl rfl (fun w => by kernel_rfl) (inR_nat hq2)) [3], .a 3, .a 1] [1, 1, 1, 1, 1, 1, 1, 1, 1, 1, 1, 1, 1, 1, 1, 1, 1, 1, 1, 1, 1, 1, 1, 1, 1, 1, 1, 1, 1, 1, 1, 1, 1, 1, 1, 1, 1, 1, 1, 1, 1, 1, 1, 1] (fun b => by kernel_rfl)
      · exact none_some e
    · exact none_some e
  · exact none_some e
inductive R_flow_program_next_v4 where
  | e0 
  | e1 (c1_0 : Int)
noncomputable def m_flow_program_next_v4 (n0 : Nat) (A0 : Nat → Insn) (y1 : Int) : Option R_flow_program_next_v4 :=
  bif inR y1 n0 then
    (bindT (m_op_Width ((A0 (y1).toNat))) fun r0 =>
    bif ((A0 (y1).toNat)).fOp == 149#8 then
      (some (.e0))
    else (bif m_op_Jumps ((A0 (y1).toNat)) then
      (none)
    else (some (.e1 (IntKind.i64.wrap (y1 + r0))))))
  else (none)
def sq0_flow_program_next_v4 (a0 : Option Addr) (p0 : Nat) (q0 : Nat) (n0 : Nat) (k0 : Nat) (A0 : Nat → Insn) (y1 : Int)  : Spc := ⟨fun ls => .call 63 #[.slice a0 n0 (n0 + k0), .int .i64 (y1)], fun ls => [], 0, .normal, fun ls => [.slice none 0 0], fun ls => [], fun ls => []⟩
def sq1_flow_program_next_v4 (a0 : Option Addr) (p0 : Nat) (q0 : Nat) (n0 : Nat) (k0 : Nat) (A0 : Nat → Insn) (y1 : Int) (c1_0 : Int) : Spc := ⟨fun ls => .call 63 #[.slice a0 n0 (n0 + k0), .int .i64 (y1)], fun ls => [], 1, .normal, fun ls => [.slice (some ⟨(lget ls 0).n, 0, none⟩) 1 1], fun ls => [], fun ls => [.cells #[.int .i64 (c1_0)] 3]⟩
theorem ok0_flow_program_next_v4 (e : m_flow_program_next_v4 n0 A0 y1 = some (.e0 )) : SpcG Tryz.prog M B0 S (sq0_flow_program_next_v4 a0 p0 q0 n0 k0 A0 y1 ) := by
  unfold m_flow_program_next_v4 at e
  replace e := cond_eq_or e
  rcases e with ⟨hq0, e⟩ | ⟨hq0, e⟩
  · replace e := bindT_eq e
    obtain ⟨r0, e_r0, e⟩ := e
    try dsimp only at e
    replace e := cond_eq_or e
    rcases e with ⟨hq1, e⟩ | ⟨hq1, e⟩
    · exact fn_specG hU (P := Tryz.prog) Tryz.func63 (fun xs w => by kernel_rfl) 0 _ _ (fun _ => rfl) _ _ _ [] [.o, .o, .o, .o, .q (ixRo_ok (kd := .i64) (T := 99) (x := y1) (sz := 5) rfl (fun w => by kernel_rfl) hR0 hq0), .l (accRo hR0 c_Insn_len (inR_nat hq0) 0 [.int .u8 (nn ((A0 (y1).toNat)).fOp), .int .u8 (nn ((A0 (y1).toNat)).fDst), .int .u8 (nn ((A0 (y1).toNat)).fSrc), .int .i16 (ii ((A0 (y1).toNat)).fOff), .int .i32 (ii ((A0 (y1).toNat)).fImm)] rfl), .cg (ok_op_Width hU ((A0 (y1).toNat)) r0 e_r0), .o, .o, .o, .o, .q (ixRo_ok (kd := .i64) (T := 99) (x := y1) (sz := 5) rfl (fun w => by kernel_rfl) hR0 hq0), .o, .l (accRo hR0 c_Insn_len (inR_nat hq0) 0 [.int .u8 (nn ((A0 (y1).toNat)).fOp)] rfl), .t (u_eq ((A0 (y1).toNat)).fOp (149#8)) hq1, .o] [] (fun b => by kernel_rfl)
    · replace e := cond_eq_or e
      rcases e with ⟨hq2, e⟩ | ⟨hq2, e⟩
      · exact none_some e
      · cases e
  · exact none_some e
theorem ok1_flow_program_next_v4 (c1_0 : Int) (e : m_flow_program_next_v4 n0 A0 y1 = some (.e1 c1_0)) : SpcG Tryz.prog M B0 S (sq1_flow_program_next_v4 a0 p0 q0 n0 k0 A0 y1 c1_0) := by
  unfold m_flow_program_next_v4 at e
  replace e := cond_eq_or e
  rcases e with ⟨hq0, e⟩ | ⟨hq0, e⟩
  · replace e := bindT_eq e
    obtain ⟨r0, e_r0, e⟩ := e
    try dsimp only at e
    replace e := cond_eq_or e
    rcases e with ⟨hq1, e⟩ | ⟨hq1, e⟩
    · cases e
    · replace e := cond_eq_or e
      rcases e with ⟨hq2, e⟩ | ⟨hq2, e⟩
      · exact none_some e
      · injection e with e; injection e with i0; subst i0; exact fn_specG hU (P := Tryz.prog) Tryz.func63 (fun xs w => by kernel_rfl) 0 _ _ (fun _ => rfl) _ _ _ [0] [.o, .o, .o, .o, .q (ixRo_ok (kd := .i64) (T := 99) (x := y1) (sz := 5) rfl (fun w => by kernel_rfl) hR0 hq0), .l (accRo hR0 c_Insn_len (inR_nat hq0) 0 [.int .u8 (nn ((A0 (y1).toNat)).fOp), .int .u8 (nn ((A0 (y1).toNat)).fDst), .int .u8 (nn ((A0 (y1).toNat)).fSrc), .int .i16 (ii ((A0 (y1).toNat)).fOff), .int .i32 (ii ((A0 (y1).toNat)).fImm)] rfl), .cg (ok_op_Width hU ((A0 (y1).toNat)) r0 e_r0), .o, .o, .o, .o, .q (ixRo_ok (kd := .i64) (T := 99) (x := y1) (sz := 5) rfl (fun w => by kernel_rfl) hR0 hq0), .o, .l (accRo hR0 c_Insn_len (inR_nat hq0) 0 [.int .u8 (nn ((A0 (y1).toNat)).fOp)] rfl), .t (u_eq ((A0 (y1).toNat)).fOp (149#8)) hq1, .o, .o, .q (ixRo_ok (kd := .i64) (T := 99) (x := y1) (sz := 5) rfl (fun w => by kernel_rfl) hR0 hq0), .l (accRo hR0 c_Insn_len (inR_nat hq0) 0 [.int .u8 (nn ((A0 (y1).toNat)).fOp), .int .u8 (nn ((A0 (y1).toNat)).fDst), .int .u8 (nn ((A0 (y1).toNat)).fSrc), .int .i16 (ii ((A0 (y1).toNat)).fOff), .int .i32 (ii ((A0 (y1).toNat)).fImm)] rfl), .cg (ok_op_Jumps hU ((A0 (y1).toNat)) false hq2), .o, .o, .o, .o] [] (fun b => by kernel_rfl)
  · exact none_some e
noncomputable def m_flow_program_named_v4 (n0 : Nat) (A0 : Nat → Insn) (y1 : Int) : Option ((Int) × (Bool)) :=
  bif inR y1 n0 then
    (bif m_op_Jumps ((A0 (y1).toNat)) then
      (some (0, false))
    else ((m_insn_Target n0 A0 y1).bind fun r0 =>
    some (r0.1, (r0.2))))
  else (none)
theorem ok_flow_program_named_v4 (r : (Int) × (Bool)) (e : m_flow_program_named_v4 n0 A0 y1 = some r) : ConG Tryz.prog S 80 #[.slice a0 n0 (n0 + k0), .int .i64 (y1)] (vt0 r) := by
  unfold m_flow_program_named_v4 at e
  replace e := cond_eq_or e
  rcases e with ⟨hq0, e⟩ | ⟨hq0, e⟩
  · replace e := cond_eq_or e
    let P1 : List (PG Tryz.prog M B0 S) := [.o, .o, .o, .o, .q (ixRo_ok (kd := .i64) (T := 99) (x := y1) (sz := 5) rfl (fun w => by kernel_rfl) hR0 hq0), .l (accRo hR0 c_Insn_len (inR_nat hq0) 0 [.int .u8 (nn ((A0 (y1).toNat)).fOp), .int .u8 (nn ((A0 (y1).toNat)).fDst), .int .u8 (nn ((A0 (y1).toNat)).fSrc), .int .i16 (ii ((A0 (y1).toNat)).fOff), .int .i32 (ii ((A0 (y1).toNat)).fImm)] rfl)]
    rcases e with ⟨hq1, e⟩ | ⟨hq1, e⟩
    · injection e with e; subst e; exact fn_conG hU (P := Tryz.prog) Tryz.func80 (fun xs w => by kernel_rfl) _ _ (P1 ++ [.cg (ok_op_Jumps hU ((A0 (y1).toNat)) true hq1), .o, .o]) [] (fun b => by kernel_rfl)
    · replace e := bindO_eq e
      obtain ⟨r0, e_r0, e⟩ := e
      try dsimp only at e
      injection e with e; subst e; exact fn_conG hU (P := Tryz.prog) Tryz.func80 (fun xs w => by kernel_rfl) _ _ (P1 ++ [.cg (ok_op_Jumps hU ((A0 (y1).toNat)) false hq1), .o, .o, .cg (ok_insn_Target hU a0 p0 q0 n0 k0 A0 hR0 y1 r0 e_r0), .o, .o, .o, .o]) [] (fun b => by kernel_rfl)
  · exact none_some e
inductive Sh_flow_program_reached_v1_L0 where
  | c0 
  | c1 (s0_0 : Nat → Bool) (s0_1 : Nat) (s0_2 : Nat → Int)
inductive Ex_flow_program_reached_v1_L0 where
  | e0 (c0_0 : Nat → Bool)
noncomputable def st_flow_program_reached_v1_L0 (n0 : Nat) (A0 : Nat → Insn) : Sh_flow_program_reached_v1_L0 → Option (Sh_flow_program_reached_v1_L0 ⊕ Ex_flow_program_reached_v1_L0)
  | .c0  =>
    (m_flow_program_next_v4 n0 A0 0).bind fun gb0 => match gb0 with
    | .e0  => ((m_flow_program_named_v4 n0 A0 0).bind fun rb1 =>
      bif rb1.2 then
        (none)
      else (some (.inl (.c1 (updF (fun _ => false) 0 true) 0 (fun _ => 0)))))
    | .e1 gb0_0 => ((m_flow_program_named_v4 n0 A0 0).bind fun rb1 =>
      bif rb1.2 then
        (none)
      else (bif inR gb0_0 n0 then
        (bif ((updF (fun _ => false) 0 true) (gb0_0).toNat) then
          (some (.inl (.c1 (updF (fun _ => false) 0 true) 0 (fun _ => 0))))
        else (some (.inl (.c1 (updF (updF (fun _ => false) 0 true) (gb0_0).toNat true) 1 (updF (fun _ => 0) 0 gb0_0)))))
      else (none)))
  | .c1 s0_0 s0_1 s0_2 =>
    bif decide (0 < (s0_1 : Int)) then
      (bif inR (IntKind.i64.wrap ((s0_1 : Int) - 1)) s0_1 then
        (bif inR (IntKind.i64.wrap ((s0_1 : Int) - 1)) (s0_1 + 1) then
          (bif decide (s0_1 ≤ 1000000) then
            ((m_flow_program_next_v4 n0 A0 (s0_2 ((IntKind.i64.wrap ((s0_1 : Int) - 1))).toNat)).bind fun gb0 => match gb0 with
            | .e0  => ((m_flow_program_named_v4 n0 A0 (s0_2 ((IntKind.i64.wrap ((s0_1 : Int) - 1))).toNat)).bind fun rb1 =>
              bif rb1.2 then
                (none)
              else (some (.inl (.c1 s0_0 ((IntKind.i64.wrap ((s0_1 : Int) - 1))).toNat s0_2))))
            | .e1 gb0_0 => ((m_flow_program_named_v4 n0 A0 (s0_2 ((IntKind.i64.wrap ((s0_1 : Int) - 1))).toNat)).bind fun rb1 =>
              bif rb1.2 then
                (none)
              else (bif inR gb0_0 n0 then
                (bif (s0_0 (gb0_0).toNat) then
                  (some (.inl (.c1 s0_0 ((IntKind.i64.wrap ((s0_1 : Int) - 1))).toNat s0_2)))
                else (bif decide (((IntKind.i64.wrap ((s0_1 : Int) - 1))).toNat ≤ 1000000) then
                  (some (.inl (.c1 (updF s0_0 (gb0_0).toNat true) (((IntKind.i64.wrap ((s0_1 : Int) - 1))).toNat + 1) (updF s0_2 ((IntKind.i64.wrap ((s0_1 : Int) - 1))).toNat gb0_0))))
                else (none)))
              else (none))))
          else (none))
        else (none))
      else (none))
    else (some (.inr (.e0 s0_0)))
noncomputable def bd_flow_program_reached_v1_L0 : Code := codeOf Tryz.f61 [1, 1, 1, 1, 0, 0, 0]
def fl_flow_program_reached_v1_L0 (a0 : Option Addr) (p0 : Nat) (q0 : Nat) (n0 : Nat) (k0 : Nat) (A0 : Nat → Insn) : Sh_flow_program_reached_v1_L0 → List L1 → List Value
  | .c0 , ls => [.slice a0 n0 (n0 + k0), (rowV (lget ls 0) n0 1), .slice (some ⟨(lget ls 1).n, 0, none⟩) 1 1]
  | .c1 s0_0 s0_1 s0_2, ls => [.slice a0 n0 (n0 + k0), (rowV (lget ls 0) n0 1), (rowV (lget ls 1) s0_1 1)]
def mf_flow_program_reached_v1_L0 : Sh_flow_program_reached_v1_L0 → List (Nat × Nat)
  | .c0  => [(1, 2), (2, 60)]
  | .c1 _ _ _ => [(1, 2), (2, 60)]
noncomputable def fr_flow_program_reached_v1_L0 (a0 : Option Addr) (p0 : Nat) (q0 : Nat) (n0 : Nat) (k0 : Nat) (A0 : Nat → Insn) (s : Sh_flow_program_reached_v1_L0) : List L1 → List Value := mrgF (mf_flow_program_reached_v1_L0 s) (fl_flow_program_reached_v1_L0 a0 p0 q0 n0 k0 A0 s) 2
def Hs_flow_program_reached_v1_L0 (a0 : Option Addr) (p0 : Nat) (q0 : Nat) (n0 : Nat) (k0 : Nat) (A0 : Nat → Insn) : Sh_flow_program_reached_v1_L0 → List L1 → List Obj
  | .c0 , ls => [rowO (lget ls 0) (esG cB n0 (updF (fun _ => false) 0 true)) 4 n0 1, .cells #[.int .i64 (0)] 3, unb]
  | .c1 s0_0 s0_1 s0_2, ls => [rowO (lget ls 0) (esG cB n0 s0_0) 4 n0 1, rowO (lget ls 1) (esG cZ s0_1 s0_2) 3 s0_1 1, unb]
def vl_flow_program_reached_v1_L0 (a0 : Option Addr) (p0 : Nat) (q0 : Nat) (n0 : Nat) (k0 : Nat) (A0 : Nat → Insn) : Ex_flow_program_reached_v1_L0 → List L1 → List Value
  | .e0 c0_0, ls => [.slice a0 n0 (n0 + k0), (rowV (lget ls 0) n0 1)]
def mk_flow_program_reached_v1_L0 : Ex_flow_program_reached_v1_L0 → List (Nat × Nat)
  | .e0 _ => [(1, 2), (1, 61)]
noncomputable def vf_flow_program_reached_v1_L0 (a0 : Option Addr) (p0 : Nat) (q0 : Nat) (n0 : Nat) (k0 : Nat) (A0 : Nat → Insn) (r : Ex_flow_program_reached_v1_L0) : List L1 → List Value := mrgF (mk_flow_program_reached_v1_L0 r) (vl_flow_program_reached_v1_L0 a0 p0 q0 n0 k0 A0 r) 2
def Hf_flow_program_reached_v1_L0 (a0 : Option Addr) (p0 : Nat) (q0 : Nat) (n0 : Nat) (k0 : Nat) (A0 : Nat → Insn) : Ex_flow_program_reached_v1_L0 → List L1 → List Obj
  | .e0 c0_0, ls => [rowO (lget ls 0) (esG cB n0 c0_0) 4 n0 1, unb, unb]
def ex_flow_program_reached_v1_L0 : Ex_flow_program_reached_v1_L0 → Ex
  | .e0 _ => (.exit 0)
end
section
variable {M : Nat → Prop} {B0 : Nat} {S : World → Prop} (hU : Up M B0 S) (a0 : Option Addr) (p0 : Nat) (q0 : Nat) (n0 : Nat) (k0 : Nat) (A0 : Nat → Insn) (hR0 : Ro S c_Insn 5 a0 p0 q0 n0 A0)
include hU a0 p0 q0 n0 k0 A0 hR0
theorem go_flow_program_reached_v1_L0 (s : Sh_flow_program_reached_v1_L0) (r : Ex_flow_program_reached_v1_L0) (h : lpO (st_flow_program_reached_v1_L0 n0 A0) s = some r) : GoesG Tryz.prog M B0 S (.loop bd_flow_program_reached_v1_L0) 3 (fr_flow_program_reached_v1_L0 a0 p0 q0 n0 k0 A0 s) (Hs_flow_program_reached_v1_L0 a0 p0 q0 n0 k0 A0 s) (ex_flow_program_reached_v1_L0 r) 1 (vf_flow_program_reached_v1_L0 a0 p0 q0 n0 k0 A0 r) (Hf_flow_program_reached_v1_L0 a0 p0 q0 n0 k0 A0 r) 3 :=
  goes_lpO (fun s q e => by
    cases s with
    | c0  =>
      unfold st_flow_program_reached_v1_L0 at e
      dsimp only at e
      replace e := bindO_eq e
      obtain ⟨gb0, e_gb0, e⟩ := e
      let P1 : List (PG Tryz.prog M B0 S) := [.o, .o, .o, .o, .o, .o, .o, .o, .a 1, .o, .o, .o, .o, .o, .x (sqShrP_ok rt80 (f := cZ) (N := 1) (A := (fun _ => 0)) (x := 0) [.int .i64 (0)] rfl cZ_len (fun w => by kernel_rfl) (show inR 0 (1 + 1) = true from by decide) (by decide)) [1], .o, .o, .o]
      rcases gb0 with _ | ⟨gb0_0⟩
      · try dsimp only at e
        replace e := bindO_eq e
        obtain ⟨rb1, e_rb1, e⟩ := e
        try dsimp only at e
        replace e := cond_eq_or e
        rcases e with ⟨hq0, e⟩ | ⟨hq0, e⟩
        · exact none_some e
        · cases e; exact goes_runM hU (P1 ++ [.xg (ok0_flow_program_next_v4 hU a0 p0 q0 n0 k0 A0 hR0 0  e_gb0) [], .o, .o, .o, .cg (ok_flow_program_named_v4 hU a0 p0 q0 n0 k0 A0 hR0 0 rb1 e_rb1), .o, .o, .b hq0, .o, .o, .o, .o, .o, .o, .o]) [0, 3] (fun b => rfl) (by decide) rfl rfl (fun b => by kernel_rfl)
      · try dsimp only at e
        replace e := bindO_eq e
        obtain ⟨rb1, e_rb1, e⟩ := e
        try dsimp only at e
        replace e := cond_eq_or e
        let P2 : List (PG Tryz.prog M B0 S) := P1 ++ [.xg (ok1_flow_program_next_v4 hU a0 p0 q0 n0 k0 A0 hR0 0 gb0_0 e_gb0) [], .o, .o, .o, .cg (ok_flow_program_named_v4 hU a0 p0 q0 n0 k0 A0 hR0 0 rb1 e_rb1), .o, .o]
        rcases e with ⟨hq0, e⟩ | ⟨hq0, e⟩
        · exact none_some e
        · replace e := cond_eq_or e
          rcases e with ⟨hq1, e⟩ | ⟨hq1, e⟩
          · replace e := cond_eq_or e
            let P3 : List (PG Tryz.prog M B0 S) := P2 ++ [.b hq0, .o, .o, .o, .o, .o, .o, .o, .o, .a 4, .o, .o, .o, .q (ixM_ok (kd := .i64) (T := 61) (x := gb0_0) (N := n0) (sz := 1) rfl (fun w => by kernel_rfl) hq1)]
            rcases e with ⟨hq2, e⟩ | ⟨hq2, e⟩
            · cases e; exact goes_runM hU (P3 ++ [.l (accG (i := 0) (f := cB) (A := updF (fun _ => false) 0 true) (k := (gb0_0).toNat) 0 [.bool true] cB_len (inR_nat hq1) (congrArg (fun b => [Value.bool b]) hq2)), .o, .o, .o, .o]) [0, 3] (fun b => rfl) (by decide) rfl rfl (fun b => by kernel_rfl)
            · cases e; exact goes_runM hU (P3 ++ [.l (accG (i := 0) (f := cB) (A := updF (fun _ => false) 0 true) (k := (gb0_0).toNat) 0 [.bool false] cB_len (inR_nat hq1) (congrArg (fun b => [Value.bool b]) hq2)), .o, .o, .o, .q (ixM_ok (kd := .i64) (T := 61) (x := gb0_0) (N := n0) (sz := 1) rfl (fun w => by kernel_rfl) hq1), .x (sqStG_ok (T := 4) (e := 4) (f := cB) (A := updF (fun _ => false) 0 true) (v := true) 0 (.bool true) cB_len cB_one rfl rfl (fun w => by kernel_rfl) (inR_nat hq1)) [0], .o, .o, .o, .x (sqAppL_ok (ty := 80) rt80 #[false, false] (f := cZ) (N := 0) (A := (fun _ => 0)) (c := 1) [gb0_0] (T' := 3) .row cZ_len cZ_one (by decide) rfl (by decide)) [3, 5], .o, .o, .o, .o]) [0, 6] (fun b => rfl) (by decide) rfl rfl (fun b => by kernel_rfl)
          · exact none_some e
    | c1 s0_0 s0_1 s0_2 =>
      unfold st_flow_program_reached_v1_L0 at e
      dsimp only at e
      replace e := cond_eq_or e
      rcases e with ⟨hq0, e⟩ | ⟨hq0, e⟩
      · replace e := cond_eq_or e
        rcases e with ⟨hq1, e⟩ | ⟨hq1, e⟩
        · replace e := cond_eq_or e
          let P4 : List (PG Tryz.prog M B0 S) := [.o, .o, .b (z_gtrT hq0), .o, .o, .o, .o, .q (ixM_ok (kd := .i64) (T := 80) (x := (IntKind.i64.wrap ((s0_1 : Int) - 1))) (N := s0_1) (sz := 1) rfl (fun w => by kernel_rfl) hq1), .l (accG (i := 1) (f := cZ) (A := s0_2) (k := ((IntKind.i64.wrap ((s0_1 : Int) - 1))).toNat) 0 [.int .i64 ((s0_2 ((IntKind.i64.wrap ((s0_1 : Int) - 1))).toNat))] cZ_len (inR_nat hq1) rfl), .o, .o, .o, .o, .o]
          rcases e with ⟨hq2, e⟩ | ⟨hq2, e⟩
          · replace e := cond_eq_or e
            rcases e with ⟨hq3, e⟩ | ⟨hq3, e⟩
            · replace e := bindO_eq e
              obtain ⟨gb0, e_gb0, e⟩ := e
              let P5 : List (PG Tryz.prog M B0 S) := P4 ++ [.x (sqShr_ok rt80 (f := cZ) (N := s0_1) (A := s0_2) (x := (IntKind.i64.wrap ((s0_1 : Int) - 1))) cZ_len (fun w => by kernel_rfl) hq2 hq3) [1], .o, .o, .o]
              rcases gb0 with _ | ⟨gb0_0⟩
              · try dsimp only at e
                replace e := bindO_eq e
                obtain ⟨rb1, e_rb1, e⟩ := e
                try dsimp only at e
                replace e := cond_eq_or e
                rcases e with ⟨hq4, e⟩ | ⟨hq4, e⟩
                · exact none_some e
                · cases e; exact goes_runM hU (P5 ++ [.xg (ok0_flow_program_next_v4 hU a0 p0 q0 n0 k0 A0 hR0 (s0_2 ((IntKind.i64.wrap ((s0_1 : Int) - 1))).toNat)  e_gb0) [], .o, .o, .o, .cg (ok_flow_program_named_v4 hU a0 p0 q0 n0 k0 A0 hR0 (s0_2 ((IntKind.i64.wrap ((s0_1 : Int) - 1))).toNat) rb1 e_rb1), .o, .o, .b hq4, .o, .o, .o, .o, .o, .o, .o]) [0, 3] (fun b => rfl) (by decide) rfl rfl (fun b => by kernel_rfl)
              · try dsimp only at e
                replace e := bindO_eq e
                obtain ⟨rb1, e_rb1, e⟩ := e
                try dsimp only at e
                replace e := cond_eq_or e
                let P6 : List (PG Tryz.prog M B0 S) := P5 ++ [.xg (ok1_flow_program_next_v4 hU a0 p0 q0 n0 k0 A0 hR0 (s0_2 ((IntKind.i64.wrap ((s0_1 : Int) - 1))).toNat) gb0_0 e_gb0) [], .o, .o, .o, .cg (ok_flow_program_named_v4 hU a0 p0 q0 n0 k0 A0 hR0 (s0_2 ((IntKind.i64.wrap ((s0_1 : Int) - 1))).toNat) rb1 e_rb1), .o, .o]
                rcases e with ⟨hq4, e⟩ | ⟨hq4, e⟩
                · exact none_some e
                · replace e := cond_eq_or e
                  rcases e with ⟨hq5, e⟩ | ⟨hq5, e⟩
                  · replace e := cond_eq_or e
                    let P7 : List (PG Tryz.prog M B0 S) := P6 ++ [.b hq4, .o, .o, .o, .o, .o, .o, .o, .o, .a 4, .o, .o, .o, .q (ixM_ok (kd := .i64) (T := 61) (x := gb0_0) (N := n0) (sz := 1) rfl (fun w => by kernel_rfl) hq5)]
                    rcases e with ⟨hq6, e⟩ | ⟨hq6, e⟩
                    · cases e; exact goes_runM hU (P7 ++ [.l (accG (i := 0) (f := cB) (A := s0_0) (k := (gb0_0).toNat) 0 [.bool true] cB_len (inR_nat hq5) (congrArg (fun b => [Value.bool b]) hq6)), .o, .o, .o, .o]) [0, 3] (fun b => rfl) (by decide) rfl rfl (fun b => by kernel_rfl)
                    · replace e := cond_eq_or e
                      rcases e with ⟨hq7, e⟩ | ⟨hq7, e⟩
                      · cases e; exact goes_runM hU (P7 ++ [.l (accG (i := 0) (f := cB) (A := s0_0) (k := (gb0_0).toNat) 0 [.bool false] cB_len (inR_nat hq5) (congrArg (fun b => [Value.bool b]) hq6)), .o, .o, .o, .q (ixM_ok (kd := .i64) (T := 61) (x := gb0_0) (N := n0) (sz := 1) rfl (fun w => by kernel_rfl) hq5), .x (sqStG_ok (T := 4) (e := 4) (f := cB) (A := s0_0) (v := true) 0 (.bool true) cB_len cB_one rfl rfl (fun w => by kernel_rfl) (inR_nat hq5)) [0], .o, .o, .o, .x (sqAppL_ok (ty := 80) rt80 #[false, false] (f := cZ) (N := ((IntKind.i64.wrap ((s0_1 : Int) - 1))).toNat) (A := s0_2) (c := 1) [gb0_0] (T' := 3) .row cZ_len cZ_one hq7 rfl (by decide)) [3, 5], .o, .o, .o, .o]) [0, 6] (fun b => rfl) (by decide) rfl rfl (fun b => by kernel_rfl)
                      · exact none_some e
                  · exact none_some e
            · exact none_some e
          · exact none_some e
        · exact none_some e
      · cases e; exact ⟨ne_exit 0, goes_runM hU [.o, .o, .b (z_gtrF hq0)] [0, 2] (fun b => rfl) (by decide) rfl rfl (fun b => by kernel_rfl)⟩) s r h
noncomputable def t0_flow_program_reached_v1_L0_0 (a0 : Option Addr) (p0 : Nat) (q0 : Nat) (n0 : Nat) (k0 : Nat) (A0 : Nat → Insn)  (ls : List L1) : List Value := List.append [.slice a0 n0 (n0 + k0), undef, .slice none 0 0, (rowV (lget ls 0) n0 1), .slice (some ⟨(lget ls 1).n, 0, none⟩) 1 1] (List.append (und 6) (List.append [.slice a0 n0 (n0 + k0), .int .i64 ((n0 : Int)), (rowV (lget ls 0) n0 1), (rowV (lget ls 0) n0 1), .pointer (some ⟨(lget ls 0).n, 0 + 0 * 1, none⟩), .slice (some ⟨(lget ls 1).n, 0, none⟩) 1 1] (und 48)))
def pre_flow_program_reached_v1_L0_0 (a0 : Option Addr) (p0 : Nat) (q0 : Nat) (n0 : Nat) (k0 : Nat) (A0 : Nat → Insn)  (ls : List L1) : List Obj := [rowO (lget ls 0) (esG cB n0 (updF (fun _ => false) 0 true)) 4 n0 1, .cells #[.int .i64 (0)] 3]
theorem sp0_flow_program_reached_v1_L0_0_ok (c0_0 : Nat → Bool) (h : lpO (st_flow_program_reached_v1_L0 n0 A0) (.c0) = some (.e0 c0_0)) : SpcG Tryz.prog M B0 S ⟨fun ls => .code (.loop bd_flow_program_reached_v1_L0) (t0_flow_program_reached_v1_L0_0 a0 p0 q0 n0 k0 A0  ls), pre_flow_program_reached_v1_L0_0 a0 p0 q0 n0 k0 A0 , 2, (.exit 0), fun ls => vf_flow_program_reached_v1_L0 a0 p0 q0 n0 k0 A0 (.e0 c0_0) (ls.take 1 ++ ls.drop 2), fun ls => (Hf_flow_program_reached_v1_L0 a0 p0 q0 n0 k0 A0 (.e0 c0_0) (ls.take 1 ++ ls.drop 2)).take 1 ++ List.replicate 1 unb, fun ls => (Hf_flow_program_reached_v1_L0 a0 p0 q0 n0 k0 A0 (.e0 c0_0) (ls.take 1 ++ ls.drop 2)).drop 1⟩ :=
  spc_of_goesM hU 0 (k0 := 2) (go_flow_program_reached_v1_L0 hU a0 p0 q0 n0 k0 A0 hR0 _ _ h) (t0_flow_program_reached_v1_L0_0 a0 p0 q0 n0 k0 A0 ) (pre_flow_program_reached_v1_L0_0 a0 p0 q0 n0 k0 A0 ) (fun _ => rfl) (fun ls h => by match ls, h with | [l0, l1], _ => exact ⟨by kernel_rfl, by kernel_rfl⟩) (fun ls h => by match ls, h with | [l0, l1], _ => rfl) (by decide) (by decide) (fun ls => rfl)
inductive R_flow_program_reached_v1 where
  | e0 (c0_0 : Nat → Bool)
noncomputable def m_flow_program_reached_v1 (n0 : Nat) (A0 : Nat → Insn) : Option R_flow_program_reached_v1 :=
  bif decide (n0 ≤ 1000000) then
    (bif inR 0 n0 then
      ((lpO (st_flow_program_reached_v1_L0 n0 A0) (.c0)).bind fun g0 => match g0 with
      | .e0 g0_0 =>
      some (.e0 g0_0))
    else (none))
  else (none)
def sq0_flow_program_reached_v1 (a0 : Option Addr) (p0 : Nat) (q0 : Nat) (n0 : Nat) (k0 : Nat) (A0 : Nat → Insn) (c0_0 : Nat → Bool) : Spc := ⟨fun ls => .call 61 #[.slice a0 n0 (n0 + k0)], fun ls => [], 1, .normal, fun ls => [(rowV (lget ls 0) n0 1)], fun ls => [], fun ls => [rowO (lget ls 0) (esG cB n0 c0_0) 4 n0 1]⟩
theorem ok0_flow_program_reached_v1 (c0_0 : Nat → Bool) (e : m_flow_program_reached_v1 n0 A0 = some (.e0 c0_0)) : SpcG Tryz.prog M B0 S (sq0_flow_program_reached_v1 a0 p0 q0 n0 k0 A0 c0_0) := by
  unfold m_flow_program_reached_v1 at e
  replace e := cond_eq_or e
  rcases e with ⟨hq0, e⟩ | ⟨hq0, e⟩
  · replace e := cond_eq_or e
    rcases e with ⟨hq1, e⟩ | ⟨hq1, e⟩
    · replace e := bindO_eq e
      obtain ⟨g0, e_g0, e⟩ := e
      obtain ⟨g0_0⟩ := g0
      try dsimp only at e
      injection e with e; injection e with i0; subst i0; exact fn_specG hU (P := Tryz.prog) Tryz.func61 (fun xs w => by kernel_rfl) 0 _ _ (fun _ => rfl) _ _ _ [0] [.o, .o, .o, .x (sqMkN_ok rt61 (f := cB) (a0 := false) cB_len (by kernel_rfl) hq0 (by decide)) [], .o, .o, .q (ixM_ok (kd := .i64) (T := 61) (x := 0) (N := n0) (sz := 1) rfl (fun w => by kernel_rfl) hq1), .x (sqStG_ok (T := 4) (e := 4) (f := cB) (A := (fun _ => false)) (v := true) 0 (.bool true) cB_len cB_one rfl rfl (fun w => by kernel_rfl) (inR_nat hq1)) [0], .o, .o, .cp, .cx (sp0_flow_program_reached_v1_L0_0_ok hU a0 p0 q0 n0 k0 A0 hR0  g0_0 e_g0) [0, 1], .o, .o] [] (fun b => by kernel_rfl)
    · exact none_some e
  · exact none_some e
inductive R_flow_Reached_v1 where
  | e0 (c0_0 : Nat → Bool)
noncomputable def m_flow_Reached_v1 (n0 : Nat) (A0 : Nat → Insn) : Option R_flow_Reached_v1 :=
  (m_insn_Check n0 A0).bind fun r0 =>
  bif r0.2 == 0 then
    ((m_flow_program_reached_v1 n0 A0).bind fun g1 => match g1 with
    | .e0 g1_0 =>
    some (.e0 g1_0))
  else (none)
def sq0_flow_Reached_v1 (a0 : Option Addr) (p0 : Nat) (q0 : Nat) (n0 : Nat) (k0 : Nat) (A0 : Nat → Insn) (c0_0 : Nat → Bool) : Spc := ⟨fun ls => .call 46 #[.slice a0 n0 (n0 + k0)], fun ls => [], 1, .normal, fun ls => [.tuple #[(rowV (lget ls 0) n0 1), .int .i64 (0)]], fun ls => [], fun ls => [rowO (lget ls 0) (esG cB n0 c0_0) 4 n0 1]⟩
theorem ok0_flow_Reached_v1 (c0_0 : Nat → Bool) (e : m_flow_Reached_v1 n0 A0 = some (.e0 c0_0)) : SpcG Tryz.prog M B0 S (sq0_flow_Reached_v1 a0 p0 q0 n0 k0 A0 c0_0) := by
  unfold m_flow_Reached_v1 at e
  replace e := bindO_eq e
  obtain ⟨r0, e_r0, e⟩ := e
  try dsimp only at e
  replace e := cond_eq_or e
  rcases e with ⟨hq0, e⟩ | ⟨hq0, e⟩
  · replace e := bindO_eq e
    obtain ⟨g1, e_g1, e⟩ := e
    obtain ⟨g1_0⟩ := g1
    try dsimp only at e
    injection e with e; injection e with i0; subst i0; exact fn_specG hU (P := Tryz.prog) Tryz.func46 (fun xs w => by kernel_rfl) 0 _ _ (fun _ => rfl) _ _ _ [0] [.o, .o, .o, .cg (ok_insn_Check hU a0 p0 q0 n0 k0 A0 hR0 r0 e_r0), .o, .o, .o, .o, .o, .o, .b (z_neqT hq0), .o, .xg (ok0_flow_program_reached_v1 hU a0 p0 q0 n0 k0 A0 hR0 g1_0 e_g1) [], .o, .o] [] (fun b => by kernel_rfl)
  · exact none_some e
inductive R_fold_facts_join_v3 where
  | e0 (c0_0 : Nat → Bool) (c0_1 : Nat → Arr42)
noncomputable def m_fold_facts_join_v3 (y1 : Int) (y2 : Arr42) (w0 : Nat) (w1 : Nat → Bool) (w2 : Nat → Bool) (w3 : Nat → Arr42) : Option R_fold_facts_join_v3 :=
  bif inR y1 w0 then
    (bif (w2 (y1).toNat) then
      (none)
    else (some (.e0 (updF w2 (y1).toNat true) (updF w3 (y1).toNat y2))))
  else (none)
def sq0_fold_facts_join_v3 (y1 : Int) (y2 : Arr42) (w0 : Nat) (w1 : Nat → Bool) (w2 : Nat → Bool) (w3 : Nat → Arr42) (c0_0 : Nat → Bool) (c0_1 : Nat → Arr42) : Spc := ⟨fun ls => .call 49 #[.pointer (some ⟨(lget ls 0).n, 0, none⟩), .int .i64 (y1), (v_Arr42 y2)], fun ls => [.cells #[(rowV (lget ls 1) w0 1), (rowV (lget ls 2) w0 1), (rowV (lget ls 3) w0 44)] 63, rowO (lget ls 1) (esG cB w0 w1) 4 w0 1, rowO (lget ls 2) (esG cB w0 w2) 4 w0 1, rowO (lget ls 3) (esG c_Arr42 w0 w3) 42 w0 44], 0, .normal, fun ls => [.bool true], fun ls => [.cells #[(rowV (lget ls 1) w0 1), (rowV (lget ls 2) w0 1), (rowV (lget ls 3) w0 44)] 63, rowO (lget ls 1) (esG cB w0 w1) 4 w0 1, rowO (lget ls 2) (esG cB w0 c0_0) 4 w0 1, rowO (lget ls 3) (esG c_Arr42 w0 c0_1) 42 w0 44], fun ls => []⟩
end
section
variable {M : Nat → Prop} {B0 : Nat} {S : World → Prop} (hU : Up M B0 S)
include hU
theorem ok0_fold_facts_join_v3 (y1 : Int) (y2 : Arr42) (w0 : Nat) (w1 : Nat → Bool) (w2 : Nat → Bool) (w3 : Nat → Arr42) (c0_0 : Nat → Bool) (c0_1 : Nat → Arr42) (e : m_fold_facts_join_v3 y1 y2 w0 w1 w2 w3 = some (.e0 c0_0 c0_1)) : SpcG Tryz.prog M B0 S (sq0_fold_facts_join_v3 y1 y2 w0 w1 w2 w3 c0_0 c0_1) := by
  unfold m_fold_facts_join_v3 at e
  replace e := cond_eq_or e
  rcases e with ⟨hq0, e⟩ | ⟨hq0, e⟩
  · replace e := cond_eq_or e
    rcases e with ⟨hq1, e⟩ | ⟨hq1, e⟩
    · exact none_some e
    · injection e with e; injection e with i0 i1; subst i0 i1; exact fn_specG hU (P := Tryz.prog) Tryz.func49 (fun xs w => by kernel_rfl) 4 _ _ (fun _ => rfl) _ _ _ [] [.o, .o, .o, .o, .o, .a 0, .o, .q (ixM_ok (kd := .i64) (T := 61) (x := y1) (N := w0) (sz := 1) rfl (fun w => by kernel_rfl) hq0), .l (accG (i := 2) (f := cB) (A := w2) (k := (y1).toNat) 0 [.bool false] cB_len (inR_nat hq0) (congrArg (fun b => [Value.bool b]) hq1)), .o, .r [0, 1, 2, 3, 4, 5, 6, 7, 8, 9, 10, 11] [] [12, 13, 14], .o, .o, .o, .a 0, .o, .o, .o, .o, .a 0, .o, .a 4, .q (ixM_ok (kd := .i64) (T := 61) (x := y1) (N := w0) (sz := 1) rfl (fun w => by kernel_rfl) hq0), .x (sqStG_ok (T := 4) (e := 4) (f := cB) (A := w2) (v := true) 0 (.bool true) cB_len cB_one rfl rfl (fun w => by kernel_rfl) (inR_nat hq0)) [2], .q (ixM_ok (kd := .i64) (T := 34) (x := y1) (N := w0) (sz := 44) rfl (fun w => by kernel_rfl) hq0), .x (sqStG_ok (T := 42) (e := 42) (f := c_Arr42) (A := w3) (v := y2) 0 ((v_Arr42 y2)) c_Arr42_len c_Arr42_one rfl rfl (fun w => by kernel_rfl) (inR_nat hq0)) [3], .o] [] (fun b => by kernel_rfl)
  · exact none_some e
noncomputable def m_flow_program_isSecond_v4 (n0 : Nat) (A0 : Nat → Insn) (y1 : Int) : Option (Bool) :=
  bif decide (0 < y1) then
    (bif inR (IntKind.i64.wrap (y1 - 1)) n0 then
      (some (((A0 ((IntKind.i64.wrap (y1 - 1))).toNat)).fOp == 24#8))
    else (none))
  else (some false)
end
section
variable {M : Nat → Prop} {B0 : Nat} {S : World → Prop} (hU : Up M B0 S) (a0 : Option Addr) (p0 : Nat) (q0 : Nat) (n0 : Nat) (k0 : Nat) (A0 : Nat → Insn) (hR0 : Ro S c_Insn 5 a0 p0 q0 n0 A0) (y1 : Int)
include hU a0 p0 q0 n0 k0 A0 hR0 y1
theorem ok_flow_program_isSecond_v4 (r : Bool) (e : m_flow_program_isSecond_v4 n0 A0 y1 = some r) : ConG Tryz.prog S 62 #[.slice a0 n0 (n0 + k0), .int .i64 (y1)] (.bool (r)) := by
  unfold m_flow_program_isSecond_v4 at e
  replace e := cond_eq_or e
  rcases e with ⟨hq0, e⟩ | ⟨hq0, e⟩
  · replace e := cond_eq_or e
    rcases e with ⟨hq1, e⟩ | ⟨hq1, e⟩
    · injection e with e; subst e; exact fn_conG hU (P := Tryz.prog) Tryz.func62 (fun xs w => by kernel_rfl) _ _ [.o, .o, .b (z_gtrT hq0), .o, .o, .o, .o, .q (ixRo_ok (kd := .i64) (T := 99) (x := (IntKind.i64.wrap (y1 - 1))) (sz := 5) rfl (fun w => by kernel_rfl) hR0 hq1), .o, .l (accRo hR0 c_Insn_len (inR_nat hq1) 0 [.int .u8 (nn ((A0 ((IntKind.i64.wrap (y1 - 1))).toNat)).fOp)] rfl), .t (u_eq ((A0 ((IntKind.i64.wrap (y1 - 1))).toNat)).fOp (24#8)) rfl, .o, .o] [] (fun b => by kernel_rfl)
    · exact none_some e
  · injection e with e; subst e; exact fn_conG hU (P := Tryz.prog) Tryz.func62 (fun xs w => by kernel_rfl) _ _ [.o, .o, .b (z_gtrF hq0), .o, .o, .o] [] (fun b => by kernel_rfl)
inductive R_flow_Next_v4 where
  | e0 (c0_0 : Int)
  | e1 (c1_0 : Int)
noncomputable def m_flow_Next_v4 (n0 : Nat) (A0 : Nat → Insn) (y1 : Int) : Option R_flow_Next_v4 :=
  (m_insn_Check n0 A0).bind fun r0 =>
  bif r0.2 == 0 then
    (bif decide (y1 < 0) then
      (none)
    else (bif decide ((n0 : Int) ≤ y1) then
      (none)
    else ((m_flow_program_isSecond_v4 n0 A0 y1).bind fun r1 =>
    bif r1 then
      (some (.e0 150))
    else ((m_flow_program_next_v4 n0 A0 y1).bind fun g2 => match g2 with
    | .e0  => (some (.e0 0))
    | .e1 g2_0 => (some (.e1 g2_0))))))
  else (none)
def sq0_flow_Next_v4 (a0 : Option Addr) (p0 : Nat) (q0 : Nat) (n0 : Nat) (k0 : Nat) (A0 : Nat → Insn) (y1 : Int) (c0_0 : Int) : Spc := ⟨fun ls => .call 47 #[.slice a0 n0 (n0 + k0), .int .i64 (y1)], fun ls => [], 0, .normal, fun ls => [.tuple #[.slice none 0 0, .int .i64 (c0_0)]], fun ls => [], fun ls => []⟩
def sq1_flow_Next_v4 (a0 : Option Addr) (p0 : Nat) (q0 : Nat) (n0 : Nat) (k0 : Nat) (A0 : Nat → Insn) (y1 : Int) (c1_0 : Int) : Spc := ⟨fun ls => .call 47 #[.slice a0 n0 (n0 + k0), .int .i64 (y1)], fun ls => [], 1, .normal, fun ls => [.tuple #[.slice (some ⟨(lget ls 0).n, 0, none⟩) 1 1, .int .i64 (0)]], fun ls => [], fun ls => [.cells #[.int .i64 (c1_0)] 3]⟩
theorem ok0_flow_Next_v4 (c0_0 : Int) (e : m_flow_Next_v4 n0 A0 y1 = some (.e0 c0_0)) : SpcG Tryz.prog M B0 S (sq0_flow_Next_v4 a0 p0 q0 n0 k0 A0 y1 c0_0) := by
  unfold m_flow_Next_v4 at e
  replace e := bindO_eq e
  obtain ⟨r0, e_r0, e⟩ := e
  try dsimp only at e
  replace e := cond_eq_or e
  let P1 : List (PG Tryz.prog M B0 S) := [.o, .o, .o, .cg (ok_insn_Check hU a0 p0 q0 n0 k0 A0 hR0 r0 e_r0), .o, .o, .o, .o, .o, .o]
  rcases e with ⟨hq0, e⟩ | ⟨hq0, e⟩
  · replace e := cond_eq_or e
    rcases e with ⟨hq1, e⟩ | ⟨hq1, e⟩
    · exact none_some e
    · replace e := cond_eq_or e
      rcases e with ⟨hq2, e⟩ | ⟨hq2, e⟩
      · exact none_some e
      · replace e := bindO_eq e
        obtain ⟨r1, e_r1, e⟩ := e
        try dsimp only at e
        replace e := cond_eq_or e
        rcases e with ⟨hq3, e⟩ | ⟨hq3, e⟩
        · subst hq3
          injection e with e; injection e with i0; subst i0; exact fn_specG hU (P := Tryz.prog) Tryz.func47 (fun xs w => by kernel_rfl) 0 _ _ (fun _ => rfl) _ _ _ [] (P1 ++ [.b (z_neqT hq0), .o, .b (z_lssF hq1), .o, .o, .o, .o, .b (z_geqF hq2), .o, .o, .o, .o, .cg (ok_flow_program_isSecond_v4 hU a0 p0 q0 n0 k0 A0 hR0 y1 true e_r1), .o, .o, .o]) [] (fun b => by kernel_rfl)
        · subst hq3
          replace e := bindO_eq e
          obtain ⟨g2, e_g2, e⟩ := e
          rcases g2 with _ | ⟨g2_0⟩
          · try dsimp only at e
            injection e with e; injection e with i0; subst i0; exact fn_specG hU (P := Tryz.prog) Tryz.func47 (fun xs w => by kernel_rfl) 0 _ _ (fun _ => rfl) _ _ _ [] (P1 ++ [.b (z_neqT hq0), .o, .b (z_lssF hq1), .o, .o, .o, .o, .b (z_geqF hq2), .o, .o, .o, .o, .cg (ok_flow_program_isSecond_v4 hU a0 p0 q0 n0 k0 A0 hR0 y1 false e_r1), .o, .o, .o, .xg (ok0_flow_program_next_v4 hU a0 p0 q0 n0 k0 A0 hR0 y1  e_g2) [], .o, .o]) [] (fun b => by kernel_rfl)
          · try dsimp only at e
            cases e
  · exact none_some e
theorem ok1_flow_Next_v4 (c1_0 : Int) (e : m_flow_Next_v4 n0 A0 y1 = some (.e1 c1_0)) : SpcG Tryz.prog M B0 S (sq1_flow_Next_v4 a0 p0 q0 n0 k0 A0 y1 c1_0) := by
  unfold m_flow_Next_v4 at e
  replace e := bindO_eq e
  obtain ⟨r0, e_r0, e⟩ := e
  try dsimp only at e
  replace e := cond_eq_or e
  rcases e with ⟨hq0, e⟩ | ⟨hq0, e⟩
  · replace e := cond_eq_or e
    rcases e with ⟨hq1, e⟩ | ⟨hq1, e⟩
    · exact none_some e
    · replace e := cond_eq_or e
      rcases e with ⟨hq2, e⟩ | ⟨hq2, e⟩
      · exact none_some e
      · replace e := bindO_eq e
        obtain ⟨r1, e_r1, e⟩ := e
        try dsimp only at e
        replace e := cond_eq_or e
        rcases e with ⟨hq3, e⟩ | ⟨hq3, e⟩
        · subst hq3
          cases e
        · subst hq3
          replace e := bindO_eq e
          obtain ⟨g2, e_g2, e⟩ := e
          rcases g2 with _ | ⟨g2_0⟩
          · try dsimp only at e
            cases e
          · try dsimp only at e
            injection e with e; injection e with i0; subst i0; exact fn_specG hU (P := Tryz.prog) Tryz.func47 (fun xs w => by kernel_rfl) 0 _ _ (fun _ => rfl) _ _ _ [0] [.o, .o, .o, .cg (ok_insn_Check hU a0 p0 q0 n0 k0 A0 hR0 r0 e_r0), .o, .o, .o, .o, .o, .o, .b (z_neqT hq0), .o, .b (z_lssF hq1), .o, .o, .o, .o, .b (z_geqF hq2), .o, .o, .o, .o, .cg (ok_flow_program_isSecond_v4 hU a0 p0 q0 n0 k0 A0 hR0 y1 false e_r1), .o, .o, .o, .xg (ok1_flow_program_next_v4 hU a0 p0 q0 n0 k0 A0 hR0 y1 g2_0 e_g2) [], .o, .o] [] (fun b => by kernel_rfl)
  · exact none_some e
inductive Sh_fold_look_v1_L0 where
  | c0 
  | c1 (s0_0 : Nat → Bool) (s0_1 : Nat → Arr42) (s0_2 : Nat) (s0_3 : Nat → Int) (s0_4 : Int)
inductive Ex_fold_look_v1_L0 where
  | e0 (c0_0 : Nat → Bool) (c0_1 : Nat → Arr42) (c0_2 : Nat) (c0_3 : Nat → Int)
noncomputable def st_fold_look_v1_L0 (n0 : Nat) (g0_0 : Nat → Bool) (g1_0 : Nat) (g1_1 : Nat → Part) : Sh_fold_look_v1_L0 → Option (Sh_fold_look_v1_L0 ⊕ Ex_fold_look_v1_L0)
  | .c0  =>
    bif decide (0 < (g1_0 : Int)) then
      (bif inR 0 g1_0 then
        (bif inR ((g1_1 0)).fFrom n0 then
          (bif (g0_0 (((g1_1 0)).fFrom).toNat) then
            (some (.inl (.c1 (updF (fun _ => false) (((g1_1 0)).fFrom).toNat true) (fun _ => (⟨(⟨0, 0#64, 0, 0⟩ : Val), (⟨0, 0#64, 0, 0⟩ : Val), (⟨0, 0#64, 0, 0⟩ : Val), (⟨0, 0#64, 0, 0⟩ : Val), (⟨0, 0#64, 0, 0⟩ : Val), (⟨0, 0#64, 0, 0⟩ : Val), (⟨0, 0#64, 0, 0⟩ : Val), (⟨0, 0#64, 0, 0⟩ : Val), (⟨0, 0#64, 0, 0⟩ : Val), (⟨0, 0#64, 0, 0⟩ : Val), (⟨0, 0#64, 0, 0⟩ : Val)⟩ : Arr42)) 1 (fun _ => ((g1_1 0)).fFrom) 1)))
          else (none))
        else (none))
      else (none))
    else (none)
  | .c1 s0_0 s0_1 s0_2 s0_3 s0_4 =>
    bif decide (s0_4 < (g1_0 : Int)) then
      (none)
    else (some (.inr (.e0 s0_0 s0_1 s0_2 s0_3)))
noncomputable def bd_fold_look_v1_L0 : Code := codeOf Tryz.f11 [1, 0, 1, 1, 1, 1, 0, 1, 0, 0]
def fl_fold_look_v1_L0 (a0 : Option Addr) (p0 : Nat) (q0 : Nat) (n0 : Nat) (k0 : Nat) (A0 : Nat → Insn) (g0_0 : Nat → Bool) (g1_0 : Nat) (g1_1 : Nat → Part) : Sh_fold_look_v1_L0 → List L1 → List Value
  | .c0 , ls => [.slice a0 n0 (n0 + k0), .pointer (some ⟨(lget ls 2).n, 0, none⟩), .slice none 0 0, (rowV (lget ls 4) g1_0 2), .int .i64 ((g1_0 : Int)), .int .i64 (0)]
  | .c1 s0_0 s0_1 s0_2 s0_3 s0_4, ls => [.slice a0 n0 (n0 + k0), .pointer (some ⟨(lget ls 2).n, 0, none⟩), (rowV (lget ls 5) s0_2 1), (rowV (lget ls 4) g1_0 2), .int .i64 ((g1_0 : Int)), .int .i64 (s0_4)]
def mf_fold_look_v1_L0 : Sh_fold_look_v1_L0 → List (Nat × Nat)
  | .c0  => [(1, 2), (1, 3), (1, 29), (3, 90)]
  | .c1 _ _ _ _ _ => [(1, 2), (1, 3), (1, 29), (3, 90)]
noncomputable def fr_fold_look_v1_L0 (a0 : Option Addr) (p0 : Nat) (q0 : Nat) (n0 : Nat) (k0 : Nat) (A0 : Nat → Insn) (g0_0 : Nat → Bool) (g1_0 : Nat) (g1_1 : Nat → Part) (s : Sh_fold_look_v1_L0) : List L1 → List Value := mrgF (mf_fold_look_v1_L0 s) (fl_fold_look_v1_L0 a0 p0 q0 n0 k0 A0 g0_0 g1_0 g1_1 s) 6
def Hs_fold_look_v1_L0 (a0 : Option Addr) (p0 : Nat) (q0 : Nat) (n0 : Nat) (k0 : Nat) (A0 : Nat → Insn) (g0_0 : Nat → Bool) (g1_0 : Nat) (g1_1 : Nat → Part) : Sh_fold_look_v1_L0 → List L1 → List Obj
  | .c0 , ls => [rowO (lget ls 0) (esG cB n0 (fun _ => false)) 4 n0 1, rowO (lget ls 1) (esG c_Arr42 n0 (fun _ => (⟨(⟨0, 0#64, 0, 0⟩ : Val), (⟨0, 0#64, 0, 0⟩ : Val), (⟨0, 0#64, 0, 0⟩ : Val), (⟨0, 0#64, 0, 0⟩ : Val), (⟨0, 0#64, 0, 0⟩ : Val), (⟨0, 0#64, 0, 0⟩ : Val), (⟨0, 0#64, 0, 0⟩ : Val), (⟨0, 0#64, 0, 0⟩ : Val), (⟨0, 0#64, 0, 0⟩ : Val), (⟨0, 0#64, 0, 0⟩ : Val), (⟨0, 0#64, 0, 0⟩ : Val)⟩ : Arr42))) 42 n0 44, .cells #[(rowV (lget ls 3) n0 1), (rowV (lget ls 0) n0 1), (rowV (lget ls 1) n0 44)] 63, rowO (lget ls 3) (esG cB n0 g0_0) 4 n0 1, rowO (lget ls 4) (esG c_Part g1_0 g1_1) 75 g1_0 2, unb, unb]
  | .c1 s0_0 s0_1 s0_2 s0_3 s0_4, ls => [rowO (lget ls 0) (esG cB n0 s0_0) 4 n0 1, rowO (lget ls 1) (esG c_Arr42 n0 s0_1) 42 n0 44, .cells #[(rowV (lget ls 3) n0 1), (rowV (lget ls 0) n0 1), (rowV (lget ls 1) n0 44)] 63, rowO (lget ls 3) (esG cB n0 g0_0) 4 n0 1, rowO (lget ls 4) (esG c_Part g1_0 g1_1) 75 g1_0 2, rowO (lget ls 5) (esG cZ s0_2 s0_3) 3 s0_2 1, unb]
def vl_fold_look_v1_L0 (a0 : Option Addr) (p0 : Nat) (q0 : Nat) (n0 : Nat) (k0 : Nat) (A0 : Nat → Insn) (g0_0 : Nat → Bool) (g1_0 : Nat) (g1_1 : Nat → Part) : Ex_fold_look_v1_L0 → List L1 → List Value
  | .e0 c0_0 c0_1 c0_2 c0_3, ls => [.slice a0 n0 (n0 + k0), .pointer (some ⟨(lget ls 2).n, 0, none⟩), (rowV (lget ls 5) c0_2 1), (rowV (lget ls 4) g1_0 2), .int .i64 ((g1_0 : Int))]
def mk_fold_look_v1_L0 : Ex_fold_look_v1_L0 → List (Nat × Nat)
  | .e0 _ _ _ _ => [(1, 2), (1, 3), (1, 29), (2, 91)]
noncomputable def vf_fold_look_v1_L0 (a0 : Option Addr) (p0 : Nat) (q0 : Nat) (n0 : Nat) (k0 : Nat) (A0 : Nat → Insn) (g0_0 : Nat → Bool) (g1_0 : Nat) (g1_1 : Nat → Part) (r : Ex_fold_look_v1_L0) : List L1 → List Value := mrgF (mk_fold_look_v1_L0 r) (vl_fold_look_v1_L0 a0 p0 q0 n0 k0 A0 g0_0 g1_0 g1_1 r) 6
def Hf_fold_look_v1_L0 (a0 : Option Addr) (p0 : Nat) (q0 : Nat) (n0 : Nat) (k0 : Nat) (A0 : Nat → Insn) (g0_0 : Nat → Bool) (g1_0 : Nat) (g1_1 : Nat → Part) : Ex_fold_look_v1_L0 → List L1 → List Obj
  | .e0 c0_0 c0_1 c0_2 c0_3, ls => [rowO (lget ls 0) (esG cB n0 c0_0) 4 n0 1, rowO (lget ls 1) (esG c_Arr42 n0 c0_1) 42 n0 44, .cells #[(rowV (lget ls 3) n0 1), (rowV (lget ls 0) n0 1), (rowV (lget ls 1) n0 44)] 63, rowO (lget ls 3) (esG cB n0 g0_0) 4 n0 1, rowO (lget ls 4) (esG c_Part g1_0 g1_1) 75 g1_0 2, rowO (lget ls 5) (esG cZ c0_2 c0_3) 3 c0_2 1, unb]
def ex_fold_look_v1_L0 : Ex_fold_look_v1_L0 → Ex
  | .e0 _ _ _ _ => (.exit 0)
end
section
variable {M : Nat → Prop} {B0 : Nat} {S : World → Prop} (hU : Up M B0 S) (a0 : Option Addr) (p0 : Nat) (q0 : Nat) (n0 : Nat) (k0 : Nat) (A0 : Nat → Insn) (hR0 : Ro S c_Insn 5 a0 p0 q0 n0 A0) (g0_0 : Nat → Bool) (g1_0 : Nat) (g1_1 : Nat → Part)
include hU a0 p0 q0 n0 k0 A0 hR0 g0_0 g1_0 g1_1
theorem go_fold_look_v1_L0 (s : Sh_fold_look_v1_L0) (r : Ex_fold_look_v1_L0) (h : lpO (st_fold_look_v1_L0 n0 g0_0 g1_0 g1_1) s = some r) : GoesG Tryz.prog M B0 S (.loop bd_fold_look_v1_L0) 7 (fr_fold_look_v1_L0 a0 p0 q0 n0 k0 A0 g0_0 g1_0 g1_1 s) (Hs_fold_look_v1_L0 a0 p0 q0 n0 k0 A0 g0_0 g1_0 g1_1 s) (ex_fold_look_v1_L0 r) 5 (vf_fold_look_v1_L0 a0 p0 q0 n0 k0 A0 g0_0 g1_0 g1_1 r) (Hf_fold_look_v1_L0 a0 p0 q0 n0 k0 A0 g0_0 g1_0 g1_1 r) 7 :=
  goes_lpO (fun s q e => by
    cases s with
    | c0  =>
      unfold st_fold_look_v1_L0 at e
      dsimp only at e
      replace e := cond_eq_or e
      rcases e with ⟨hq0, e⟩ | ⟨hq0, e⟩
      · replace e := cond_eq_or e
        rcases e with ⟨hq1, e⟩ | ⟨hq1, e⟩
        · replace e := cond_eq_or e
          rcases e with ⟨hq2, e⟩ | ⟨hq2, e⟩
          · replace e := cond_eq_or e
            rcases e with ⟨hq3, e⟩ | ⟨hq3, e⟩
            · cases e; exact goes_runM hU [.b (z_lssT hq0), .q (ixM_ok (kd := .i64) (T := 71) (x := 0) (N := g1_0) (sz := 2) rfl (fun w => by kernel_rfl) hq1), .l (accG (i := 4) (f := c_Part) (A := g1_1) (k := 0) 0 [.int .i64 (((g1_1 0)).fFrom), .int .i64 (((g1_1 0)).fTo)] c_Part_len (inR_nat hq1) rfl), .o, .a 7, .r [0, 1, 2, 3, 4, 5, 6, 7] [] [], .o, .o, .o, .a 2, .o, .a 7, .q (ixM_ok (kd := .i64) (T := 61) (x := ((g1_1 0)).fFrom) (N := n0) (sz := 1) rfl (fun w => by kernel_rfl) hq2), .l (accG (i := 3) (f := cB) (A := g0_0) (k := (((g1_1 0)).fFrom).toNat) 0 [.bool true] cB_len (inR_nat hq2) (congrArg (fun b => [Value.bool b]) hq3)), .r [0, 1, 2, 3, 4, 5, 6] [] [7], .o, .o, .o, .a 2, .o, .a 7, .q (ixM_ok (kd := .i64) (T := 61) (x := ((g1_1 0)).fFrom) (N := n0) (sz := 1) rfl (fun w => by kernel_rfl) hq2), .x (sqStG_ok (T := 4) (e := 4) (f := cB) (A := (fun _ => false)) (v := true) 0 (.bool true) cB_len cB_one rfl rfl (fun w => by kernel_rfl) (inR_nat hq2)) [0], .o, .o, .a 7, .o, .x (sqAppL1_ok (ty := 80) rt80 #[false, false] (f := cZ) (c := 1) ((g1_1 0)).fFrom (T' := 3) cZ_len cZ_one (by decide)) [8], .o, .o, .o] [0, 1, 2, 3, 4, 9] (fun b => rfl) (by decide) rfl rfl (fun b => by kernel_rfl)
            · exact none_some e
          · exact none_some e
        · exact none_some e
      · exact none_some e
    | c1 s0_0 s0_1 s0_2 s0_3 s0_4 =>
      unfold st_fold_look_v1_L0 at e
      dsimp only at e
      replace e := cond_eq_or e
      rcases e with ⟨hq0, e⟩ | ⟨hq0, e⟩
      · exact none_some e
      · cases e; exact ⟨ne_exit 0, goes_runM hU [.b (z_lssF hq0)] [0, 1, 2, 3, 4, 5] (fun b => rfl) (by decide) rfl rfl (fun b => by kernel_rfl)⟩) s r h
noncomputable def t0_fold_look_v1_L0_0 (a0 : Option Addr) (p0 : Nat) (q0 : Nat) (n0 : Nat) (k0 : Nat) (A0 : Nat → Insn) (g0_0 : Nat → Bool) (g1_0 : Nat) (g1_1 : Nat → Part)  (ls : List L1) : List Value := List.append [.slice a0 n0 (n0 + k0), undef, .pointer none, .pointer (some ⟨(lget ls 2).n, 0, none⟩), (rowV (lget ls 4) g1_0 2), .int .i64 (0), .int .i64 (0), .slice none 0 0] (List.append (und 7) (List.append [.slice a0 n0 (n0 + k0), .int .i64 ((n0 : Int)), (rowV (lget ls 0) n0 1), .slice a0 n0 (n0 + k0), .int .i64 ((n0 : Int)), (rowV (lget ls 1) n0 44), .agg #[.slice none 0 0, (rowV (lget ls 0) n0 1), (rowV (lget ls 1) n0 44)], .pointer (some ⟨(lget ls 2).n, 0, none⟩), .tuple #[(rowV (lget ls 3) n0 1), .int .i64 (0)], .pointer (some ⟨(lget ls 2).n, 0, none⟩), .slice a0 n0 (n0 + k0), .tuple #[(rowV (lget ls 3) n0 1), .int .i64 (0)], (rowV (lget ls 3) n0 1), .int .i64 (0), .pointer (some ⟨(lget ls 2).n, 0, none⟩), .pointer (some ⟨(lget ls 2).n, 0, none⟩), .tuple #[(rowV (lget ls 4) g1_0 2), .int .i64 (0), .int .i64 (0)], .slice a0 n0 (n0 + k0), .tuple #[(rowV (lget ls 4) g1_0 2), .int .i64 (0), .int .i64 (0)], (rowV (lget ls 4) g1_0 2), .int .i64 (0), .int .i64 (0), (rowV (lget ls 4) g1_0 2), .int .i64 ((g1_0 : Int)), .int .i64 (0)] (und 90)))
def pre_fold_look_v1_L0_0 (a0 : Option Addr) (p0 : Nat) (q0 : Nat) (n0 : Nat) (k0 : Nat) (A0 : Nat → Insn) (g0_0 : Nat → Bool) (g1_0 : Nat) (g1_1 : Nat → Part)  (ls : List L1) : List Obj := [rowO (lget ls 0) (esG cB n0 (fun _ => false)) 4 n0 1, rowO (lget ls 1) (esG c_Arr42 n0 (fun _ => (⟨(⟨0, 0#64, 0, 0⟩ : Val), (⟨0, 0#64, 0, 0⟩ : Val), (⟨0, 0#64, 0, 0⟩ : Val), (⟨0, 0#64, 0, 0⟩ : Val), (⟨0, 0#64, 0, 0⟩ : Val), (⟨0, 0#64, 0, 0⟩ : Val), (⟨0, 0#64, 0, 0⟩ : Val), (⟨0, 0#64, 0, 0⟩ : Val), (⟨0, 0#64, 0, 0⟩ : Val), (⟨0, 0#64, 0, 0⟩ : Val), (⟨0, 0#64, 0, 0⟩ : Val)⟩ : Arr42))) 42 n0 44, .cells #[(rowV (lget ls 3) n0 1), (rowV (lget ls 0) n0 1), (rowV (lget ls 1) n0 44)] 63, rowO (lget ls 3) (esG cB n0 g0_0) 4 n0 1, rowO (lget ls 4) (esG c_Part g1_0 g1_1) 75 g1_0 2]
theorem sp0_fold_look_v1_L0_0_ok (c0_0 : Nat → Bool) (c0_1 : Nat → Arr42) (c0_2 : Nat) (c0_3 : Nat → Int) (h : lpO (st_fold_look_v1_L0 n0 g0_0 g1_0 g1_1) (.c0) = some (.e0 c0_0 c0_1 c0_2 c0_3)) : SpcG Tryz.prog M B0 S ⟨fun ls => .code (.loop bd_fold_look_v1_L0) (t0_fold_look_v1_L0_0 a0 p0 q0 n0 k0 A0 g0_0 g1_0 g1_1  ls), pre_fold_look_v1_L0_0 a0 p0 q0 n0 k0 A0 g0_0 g1_0 g1_1 , 2, (.exit 0), fun ls => vf_fold_look_v1_L0 a0 p0 q0 n0 k0 A0 g0_0 g1_0 g1_1 (.e0 c0_0 c0_1 c0_2 c0_3) (ls.take 5 ++ ls.drop 5), fun ls => (Hf_fold_look_v1_L0 a0 p0 q0 n0 k0 A0 g0_0 g1_0 g1_1 (.e0 c0_0 c0_1 c0_2 c0_3) (ls.take 5 ++ ls.drop 5)).take 5 ++ List.replicate 0 unb, fun ls => (Hf_fold_look_v1_L0 a0 p0 q0 n0 k0 A0 g0_0 g1_0 g1_1 (.e0 c0_0 c0_1 c0_2 c0_3) (ls.take 5 ++ ls.drop 5)).drop 5⟩ :=
  spc_of_goesM hU 1 (k0 := 5) (go_fold_look_v1_L0 hU a0 p0 q0 n0 k0 A0 hR0 g0_0 g1_0 g1_1 _ _ h) (t0_fold_look_v1_L0_0 a0 p0 q0 n0 k0 A0 g0_0 g1_0 g1_1 ) (pre_fold_look_v1_L0_0 a0 p0 q0 n0 k0 A0 g0_0 g1_0 g1_1 ) (fun _ => rfl) (fun ls h => by match ls, h with | [l0, l1, l2, l3, l4], _ => exact ⟨by kernel_rfl, by kernel_rfl⟩) (fun ls h => by match ls, h with | [l0, l1, l2, l3, l4], _ => rfl) (by decide) (by decide) (fun ls => rfl)
inductive Sh_fold_look_v1_L1_L2v17 where
  | c0 (sb0_0 : Nat → Bool) (sb0_1 : Nat → Arr42) (sb0_2 : Nat) (sb0_3 : Nat → Int) (sb0_4 : Int)
inductive Ex_fold_look_v1_L1_L2v17 where
  | e0 (c0_0 : Nat → Bool) (c0_1 : Nat → Arr42) (c0_2 : Nat → (Nat × (Nat → Int))) (c0_3 : Nat → Val) (c0_4 : Nat) (c0_5 : Nat → Int)
noncomputable def st_fold_look_v1_L1_L2v17 (n0 : Nat) (g0_0 : Nat → Bool) (s0_2 : Nat → (Nat × (Nat → Int))) (s0_3 : Nat) (s0_4 : Nat → Int) (gb0_0 : Int) (rb1 : Arr42) : Sh_fold_look_v1_L1_L2v17 → Option (Sh_fold_look_v1_L1_L2v17 ⊕ Ex_fold_look_v1_L1_L2v17)
  | .c0 sb0_0 sb0_1 sb0_2 sb0_3 sb0_4 =>
    bif decide (sb0_4 < (((updF s0_2 ((s0_4 ((IntKind.i64.wrap ((s0_3 : Int) - 1))).toNat)).toNat (1, (fun _ => gb0_0))) ((s0_4 ((IntKind.i64.wrap ((s0_3 : Int) - 1))).toNat)).toNat).1 : Int)) then
      (bif inR sb0_4 ((updF s0_2 ((s0_4 ((IntKind.i64.wrap ((s0_3 : Int) - 1))).toNat)).toNat (1, (fun _ => gb0_0))) ((s0_4 ((IntKind.i64.wrap ((s0_3 : Int) - 1))).toNat)).toNat).1 then
        (bif inR (s0_4 ((IntKind.i64.wrap ((s0_3 : Int) - 1))).toNat) n0 then
          ((m_fold_facts_join_v3 (((updF s0_2 ((s0_4 ((IntKind.i64.wrap ((s0_3 : Int) - 1))).toNat)).toNat (1, (fun _ => gb0_0))) ((s0_4 ((IntKind.i64.wrap ((s0_3 : Int) - 1))).toNat)).toNat).2 (sb0_4).toNat) rb1 n0 g0_0 sb0_0 sb0_1).bind fun gc0 => match gc0 with
          | .e0 gc0_0 gc0_1 =>
          bif decide (sb0_2 ≤ 1000000) then
            (bindT (updF sb0_3 sb0_2 (((updF s0_2 ((s0_4 ((IntKind.i64.wrap ((s0_3 : Int) - 1))).toNat)).toNat (1, (fun _ => gb0_0))) ((s0_4 ((IntKind.i64.wrap ((s0_3 : Int) - 1))).toNat)).toNat).2 (sb0_4).toNat)) fun rc1 =>
            some (.inl (.c0 gc0_0 gc0_1 (sb0_2 + 1) rc1 (IntKind.i64.wrap (sb0_4 + 1)))))
          else (none))
        else (none))
      else (none))
    else (some (.inr (.e0 sb0_0 sb0_1 (updF s0_2 ((s0_4 ((IntKind.i64.wrap ((s0_3 : Int) - 1))).toNat)).toNat (1, (fun _ => gb0_0))) (fun k => g_Arr42 rb1 k) sb0_2 sb0_3)))
noncomputable def bd_fold_look_v1_L1_L2v17 : Code := codeOf Tryz.f11 [1, 0, 1, 1, 1, 1, 1, 1, 1, 0, 0, 0, 1, 0, 1, 1, 1, 1, 1, 1, 0, 0]
def fl_fold_look_v1_L1_L2v17 (a0 : Option Addr) (p0 : Nat) (q0 : Nat) (n0 : Nat) (k0 : Nat) (A0 : Nat → Insn) (g0_0 : Nat → Bool) (g1_0 : Nat) (g1_1 : Nat → Part) (g2_0 : Nat → Bool) (g2_1 : Nat → Arr42) (g2_2 : Nat) (g2_3 : Nat → Int) (s0_0 : Nat → Bool) (s0_1 : Nat → Arr42) (s0_2 : Nat → (Nat × (Nat → Int))) (s0_3 : Nat) (s0_4 : Nat → Int) (gb0_0 : Int) (rb1 : Arr42) : Sh_fold_look_v1_L1_L2v17 → List L1 → List Value
  | .c0 sb0_0 sb0_1 sb0_2 sb0_3 sb0_4, ls => [.slice a0 n0 (n0 + k0), .pointer (some ⟨(lget ls 2).n, 0, none⟩), (rowV (lget ls 13) sb0_2 1), (rowV (lget ls 6) n0 1), .pointer (some ⟨(lget ls 12).n, 0, none⟩), (rowV (mfl (lget ls 11) ((s0_4 ((IntKind.i64.wrap ((s0_3 : Int) - 1))).toNat)).toNat) ((updF s0_2 ((s0_4 ((IntKind.i64.wrap ((s0_3 : Int) - 1))).toNat)).toNat (1, (fun _ => gb0_0))) ((s0_4 ((IntKind.i64.wrap ((s0_3 : Int) - 1))).toNat)).toNat).1 1), .int .i64 ((((updF s0_2 ((s0_4 ((IntKind.i64.wrap ((s0_3 : Int) - 1))).toNat)).toNat (1, (fun _ => gb0_0))) ((s0_4 ((IntKind.i64.wrap ((s0_3 : Int) - 1))).toNat)).toNat).1 : Int)), .int .i64 (sb0_4)]
def mf_fold_look_v1_L1_L2v17 : Sh_fold_look_v1_L1_L2v17 → List (Nat × Nat)
  | .c0 _ _ _ _ _ => [(1, 2), (1, 3), (1, 2), (1, 1), (1, 101), (3, 13)]
noncomputable def fr_fold_look_v1_L1_L2v17 (a0 : Option Addr) (p0 : Nat) (q0 : Nat) (n0 : Nat) (k0 : Nat) (A0 : Nat → Insn) (g0_0 : Nat → Bool) (g1_0 : Nat) (g1_1 : Nat → Part) (g2_0 : Nat → Bool) (g2_1 : Nat → Arr42) (g2_2 : Nat) (g2_3 : Nat → Int) (s0_0 : Nat → Bool) (s0_1 : Nat → Arr42) (s0_2 : Nat → (Nat × (Nat → Int))) (s0_3 : Nat) (s0_4 : Nat → Int) (gb0_0 : Int) (rb1 : Arr42) (s : Sh_fold_look_v1_L1_L2v17) : List L1 → List Value := mrgF (mf_fold_look_v1_L1_L2v17 s) (fl_fold_look_v1_L1_L2v17 a0 p0 q0 n0 k0 A0 g0_0 g1_0 g1_1 g2_0 g2_1 g2_2 g2_3 s0_0 s0_1 s0_2 s0_3 s0_4 gb0_0 rb1 s) 14
def Hs_fold_look_v1_L1_L2v17 (a0 : Option Addr) (p0 : Nat) (q0 : Nat) (n0 : Nat) (k0 : Nat) (A0 : Nat → Insn) (g0_0 : Nat → Bool) (g1_0 : Nat) (g1_1 : Nat → Part) (g2_0 : Nat → Bool) (g2_1 : Nat → Arr42) (g2_2 : Nat) (g2_3 : Nat → Int) (s0_0 : Nat → Bool) (s0_1 : Nat → Arr42) (s0_2 : Nat → (Nat × (Nat → Int))) (s0_3 : Nat) (s0_4 : Nat → Int) (gb0_0 : Int) (rb1 : Arr42) : Sh_fold_look_v1_L1_L2v17 → List L1 → List Obj
  | .c0 sb0_0 sb0_1 sb0_2 sb0_3 sb0_4, ls => [rowO (lget ls 0) (esG cB n0 sb0_0) 4 n0 1, rowO (lget ls 1) (esG c_Arr42 n0 sb0_1) 42 n0 44, .cells #[(rowV (lget ls 3) n0 1), (rowV (lget ls 0) n0 1), (rowV (lget ls 1) n0 44)] 63, rowO (lget ls 3) (esG cB n0 g0_0) 4 n0 1, rowO (lget ls 4) (esG c_Part g1_0 g1_1) 75 g1_0 2, unb, rfR (lget ls 6) (lget ls 11) 80 1 n0 (updF s0_2 ((s0_4 ((IntKind.i64.wrap ((s0_3 : Int) - 1))).toNat)).toNat (1, (fun _ => gb0_0))), unb, unb, unb, unb, rfO 3 cZ 1 n0 (updF s0_2 ((s0_4 ((IntKind.i64.wrap ((s0_3 : Int) - 1))).toNat)).toNat (1, (fun _ => gb0_0))), .cells ⟨esG c_Val 11 (fun k => g_Arr42 rb1 k)⟩ 42, rowO (lget ls 13) (esG cZ sb0_2 sb0_3) 3 sb0_2 1, unb]
def vl_fold_look_v1_L1_L2v17 (a0 : Option Addr) (p0 : Nat) (q0 : Nat) (n0 : Nat) (k0 : Nat) (A0 : Nat → Insn) (g0_0 : Nat → Bool) (g1_0 : Nat) (g1_1 : Nat → Part) (g2_0 : Nat → Bool) (g2_1 : Nat → Arr42) (g2_2 : Nat) (g2_3 : Nat → Int) (s0_0 : Nat → Bool) (s0_1 : Nat → Arr42) (s0_2 : Nat → (Nat × (Nat → Int))) (s0_3 : Nat) (s0_4 : Nat → Int) (gb0_0 : Int) (rb1 : Arr42) : Ex_fold_look_v1_L1_L2v17 → List L1 → List Value
  | .e0 c0_0 c0_1 c0_2 c0_3 c0_4 c0_5, ls => [.slice a0 n0 (n0 + k0), .pointer (some ⟨(lget ls 2).n, 0, none⟩), (rowV (lget ls 13) c0_4 1), (rowV (lget ls 6) n0 1), .pointer (some ⟨(lget ls 12).n, 0, none⟩), (rowV (mfl (lget ls 11) ((s0_4 ((IntKind.i64.wrap ((s0_3 : Int) - 1))).toNat)).toNat) ((updF s0_2 ((s0_4 ((IntKind.i64.wrap ((s0_3 : Int) - 1))).toNat)).toNat (1, (fun _ => gb0_0))) ((s0_4 ((IntKind.i64.wrap ((s0_3 : Int) - 1))).toNat)).toNat).1 1), .int .i64 ((((updF s0_2 ((s0_4 ((IntKind.i64.wrap ((s0_3 : Int) - 1))).toNat)).toNat (1, (fun _ => gb0_0))) ((s0_4 ((IntKind.i64.wrap ((s0_3 : Int) - 1))).toNat)).toNat).1 : Int))]
def mk_fold_look_v1_L1_L2v17 : Ex_fold_look_v1_L1_L2v17 → List (Nat × Nat)
  | .e0 _ _ _ _ _ _ => [(1, 2), (1, 3), (1, 2), (1, 1), (1, 101), (2, 14)]
noncomputable def vf_fold_look_v1_L1_L2v17 (a0 : Option Addr) (p0 : Nat) (q0 : Nat) (n0 : Nat) (k0 : Nat) (A0 : Nat → Insn) (g0_0 : Nat → Bool) (g1_0 : Nat) (g1_1 : Nat → Part) (g2_0 : Nat → Bool) (g2_1 : Nat → Arr42) (g2_2 : Nat) (g2_3 : Nat → Int) (s0_0 : Nat → Bool) (s0_1 : Nat → Arr42) (s0_2 : Nat → (Nat × (Nat → Int))) (s0_3 : Nat) (s0_4 : Nat → Int) (gb0_0 : Int) (rb1 : Arr42) (r : Ex_fold_look_v1_L1_L2v17) : List L1 → List Value := mrgF (mk_fold_look_v1_L1_L2v17 r) (vl_fold_look_v1_L1_L2v17 a0 p0 q0 n0 k0 A0 g0_0 g1_0 g1_1 g2_0 g2_1 g2_2 g2_3 s0_0 s0_1 s0_2 s0_3 s0_4 gb0_0 rb1 r) 14
def Hf_fold_look_v1_L1_L2v17 (a0 : Option Addr) (p0 : Nat) (q0 : Nat) (n0 : Nat) (k0 : Nat) (A0 : Nat → Insn) (g0_0 : Nat → Bool) (g1_0 : Nat) (g1_1 : Nat → Part) (g2_0 : Nat → Bool) (g2_1 : Nat → Arr42) (g2_2 : Nat) (g2_3 : Nat → Int) (s0_0 : Nat → Bool) (s0_1 : Nat → Arr42) (s0_2 : Nat → (Nat × (Nat → Int))) (s0_3 : Nat) (s0_4 : Nat → Int) (gb0_0 : Int) (rb1 : Arr42) : Ex_fold_look_v1_L1_L2v17 → List L1 → List Obj
  | .e0 c0_0 c0_1 c0_2 c0_3 c0_4 c0_5, ls => [rowO (lget ls 0) (esG cB n0 c0_0) 4 n0 1, rowO (lget ls 1) (esG c_Arr42 n0 c0_1) 42 n0 44, .cells #[(rowV (lget ls 3) n0 1), (rowV (lget ls 0) n0 1), (rowV (lget ls 1) n0 44)] 63, rowO (lget ls 3) (esG cB n0 g0_0) 4 n0 1, rowO (lget ls 4) (esG c_Part g1_0 g1_1) 75 g1_0 2, unb, rfR (lget ls 6) (lget ls 11) 80 1 n0 c0_2, unb, unb, unb, unb, rfO 3 cZ 1 n0 c0_2, .cells ⟨esG c_Val 11 c0_3⟩ 42, rowO (lget ls 13) (esG cZ c0_4 c0_5) 3 c0_4 1, unb]
def ex_fold_look_v1_L1_L2v17 : Ex_fold_look_v1_L1_L2v17 → Ex
  | .e0 _ _ _ _ _ _ => (.exit 4)
theorem go_fold_look_v1_L1_L2v17 (g2_0 : Nat → Bool) (g2_1 : Nat → Arr42) (g2_2 : Nat) (g2_3 : Nat → Int) (s0_0 : Nat → Bool) (s0_1 : Nat → Arr42) (s0_2 : Nat → (Nat × (Nat → Int))) (s0_3 : Nat) (s0_4 : Nat → Int) (gb0_0 : Int) (rb1 : Arr42) (s : Sh_fold_look_v1_L1_L2v17) (r : Ex_fold_look_v1_L1_L2v17) (h : lpO (st_fold_look_v1_L1_L2v17 n0 g0_0 s0_2 s0_3 s0_4 gb0_0 rb1) s = some r) : GoesG Tryz.prog M B0 S (.loop bd_fold_look_v1_L1_L2v17) 15 (fr_fold_look_v1_L1_L2v17 a0 p0 q0 n0 k0 A0 g0_0 g1_0 g1_1 g2_0 g2_1 g2_2 g2_3 s0_0 s0_1 s0_2 s0_3 s0_4 gb0_0 rb1 s) (Hs_fold_look_v1_L1_L2v17 a0 p0 q0 n0 k0 A0 g0_0 g1_0 g1_1 g2_0 g2_1 g2_2 g2_3 s0_0 s0_1 s0_2 s0_3 s0_4 gb0_0 rb1 s) (ex_fold_look_v1_L1_L2v17 r) 13 (vf_fold_look_v1_L1_L2v17 a0 p0 q0 n0 k0 A0 g0_0 g1_0 g1_1 g2_0 g2_1 g2_2 g2_3 s0_0 s0_1 s0_2 s0_3 s0_4 gb0_0 rb1 r) (Hf_fold_look_v1_L1_L2v17 a0 p0 q0 n0 k0 A0 g0_0 g1_0 g1_1 g2_0 g2_1 g2_2 g2_3 s0_0 s0_1 s0_2 s0_3 s0_4 gb0_0 rb1 r) 15 :=
  goes_lpO (fun s q e => by
    cases s with
    | c0 sb0_0 sb0_1 sb0_2 sb0_3 sb0_4 =>
      unfold st_fold_look_v1_L1_L2v17 at e
      dsimp only at e
      replace e := cond_eq_or e
      rcases e with ⟨hq0, e⟩ | ⟨hq0, e⟩
      · replace e := cond_eq_or e
        rcases e with ⟨hq1, e⟩ | ⟨hq1, e⟩
        · replace e := cond_eq_or e
          rcases e with ⟨hq2, e⟩ | ⟨hq2, e⟩
          · replace e := bindO_eq e
            obtain ⟨gc0, e_gc0, e⟩ := e
            obtain ⟨gc0_0, gc0_1⟩ := gc0
            try dsimp only at e
            replace e := cond_eq_or e
            rcases e with ⟨hq3, e⟩ | ⟨hq3, e⟩
            · replace e := bindT_eq e
              obtain ⟨rc1, e_rc1, e⟩ := e
              try dsimp only at e
              cases e; exact goes_runM hU [.b (z_lssT hq0), .q (ixM_ok (kd := .i64) (T := 80) (x := sb0_4) (N := ((updF s0_2 ((s0_4 ((IntKind.i64.wrap ((s0_3 : Int) - 1))).toNat)).toNat (1, (fun _ => gb0_0))) ((s0_4 ((IntKind.i64.wrap ((s0_3 : Int) - 1))).toNat)).toNat).1) (sz := 1) rfl (fun w => by kernel_rfl) hq1), .xg (ldFM_ok (T := 3) (e := 80) (T2 := 3) (f := cZ) (sz := 1) (N := n0) (k := ((s0_4 ((IntKind.i64.wrap ((s0_3 : Int) - 1))).toNat)).toNat) (D := (updF s0_2 ((s0_4 ((IntKind.i64.wrap ((s0_3 : Int) - 1))).toNat)).toNat (1, (fun _ => gb0_0)))) (fun w => by kernel_rfl) cZ_len 0 (v := .int .i64 ((((updF s0_2 ((s0_4 ((IntKind.i64.wrap ((s0_3 : Int) - 1))).toNat)).toNat (1, (fun _ => gb0_0))) ((s0_4 ((IntKind.i64.wrap ((s0_3 : Int) - 1))).toNat)).toNat).2 (sb0_4).toNat))) (inR_nat hq2) (inR_nat hq1) (by decide) rfl) [6, 11], .o, .o, .o, .a 12, .xg (ok0_fold_facts_join_v3 hU (((updF s0_2 ((s0_4 ((IntKind.i64.wrap ((s0_3 : Int) - 1))).toNat)).toNat (1, (fun _ => gb0_0))) ((s0_4 ((IntKind.i64.wrap ((s0_3 : Int) - 1))).toNat)).toNat).2 (sb0_4).toNat) rb1 n0 g0_0 sb0_0 sb0_1 gc0_0 gc0_1 e_gc0) [2, 3, 0, 1], .o, .o, .o, .x (sqAppLr_ok (ty := 80) rt80 #[false, false] (f := cZ) (N := sb0_2) (A := sb0_3) (c := 1) [(((updF s0_2 ((s0_4 ((IntKind.i64.wrap ((s0_3 : Int) - 1))).toNat)).toNat (1, (fun _ => gb0_0))) ((s0_4 ((IntKind.i64.wrap ((s0_3 : Int) - 1))).toNat)).toNat).2 (sb0_4).toNat)] (T' := 3) .row cZ_len cZ_one hq3 rfl (by decide) e_rc1) [13, 15], .o, .o, .o] [0, 1, 2, 3, 4, 5, 6, 7, 8, 9, 10, 11, 12, 16] (fun b => rfl) (by decide) rfl rfl (fun b => by kernel_rfl)
            · exact none_some e
          · exact none_some e
        · exact none_some e
      · cases e; exact ⟨ne_exit 4, goes_runM hU [.b (z_lssF hq0)] [0, 1, 2, 3, 4, 5, 6, 7, 8, 9, 10, 11, 12, 13] (fun b => rfl) (by decide) rfl rfl (fun b => by kernel_rfl)⟩) s r h
noncomputable def t0_fold_look_v1_L1_L2v17_0 (a0 : Option Addr) (p0 : Nat) (q0 : Nat) (n0 : Nat) (k0 : Nat) (A0 : Nat → Insn) (g0_0 : Nat → Bool) (g1_0 : Nat) (g1_1 : Nat → Part) (g2_0 : Nat → Bool) (g2_1 : Nat → Arr42) (g2_2 : Nat) (g2_3 : Nat → Int) (s0_0 : Nat → Bool) (s0_1 : Nat → Arr42) (s0_2 : Nat → (Nat × (Nat → Int))) (s0_3 : Nat) (s0_4 : Nat → Int) (gb0_0 : Int) (rb1 : Arr42) (sb0_0 : Nat → Bool) (sb0_1 : Nat → Arr42) (sb0_2 : Nat) (sb0_3 : Nat → Int) (sb0_4 : Int) (ls : List L1) : List Value := List.append [.slice a0 n0 (n0 + k0), ((lget ls 9).u 1), ((lget ls 9).u 2), .pointer (some ⟨(lget ls 2).n, 0, none⟩), ((lget ls 9).u 4), ((lget ls 9).u 5), ((lget ls 9).u 6), (rowV (lget ls 13) sb0_2 1), ((lget ls 9).u 8), ((lget ls 9).u 9), (rowV (lget ls 6) n0 1), .int .i64 ((s0_4 ((IntKind.i64.wrap ((s0_3 : Int) - 1))).toNat)), .pointer (some ⟨(lget ls 12).n, 0, none⟩)] (List.append (jks (lget ls 9).u 13 54) (List.append [(rowV (lget ls 8) s0_3 1), .int .i64 ((s0_3 : Int)), .bool true, (rowV (lget ls 8) s0_3 1), (rowV (lget ls 8) s0_3 1), .int .i64 ((s0_3 : Int)), .int .i64 ((IntKind.i64.wrap ((s0_3 : Int) - 1))), .pointer (some ⟨(lget ls 8).n, 0 + ((IntKind.i64.wrap ((s0_3 : Int) - 1))).toNat * 1, none⟩), .int .i64 ((s0_4 ((IntKind.i64.wrap ((s0_3 : Int) - 1))).toNat)), (rowV (lget ls 8) s0_3 1), (rowV (lget ls 8) s0_3 1), .int .i64 ((s0_3 : Int)), .int .i64 ((IntKind.i64.wrap ((s0_3 : Int) - 1))), (rowV (lget ls 13) ((IntKind.i64.wrap ((s0_3 : Int) - 1))).toNat 1), (rowV (lget ls 6) n0 1), .int .i64 ((s0_4 ((IntKind.i64.wrap ((s0_3 : Int) - 1))).toNat)), .pointer (some ⟨(lget ls 6).n, 0 + ((s0_4 ((IntKind.i64.wrap ((s0_3 : Int) - 1))).toNat)).toNat * 1, none⟩), .slice none 0 0, .bool true, .tuple #[.slice (some ⟨(lget ls 10).n, 0, none⟩) 1 1, .int .i64 (0)], (rowV (lget ls 6) n0 1), .int .i64 ((s0_4 ((IntKind.i64.wrap ((s0_3 : Int) - 1))).toNat)), .slice a0 n0 (n0 + k0), .int .i64 ((s0_4 ((IntKind.i64.wrap ((s0_3 : Int) - 1))).toNat)), .tuple #[.slice (some ⟨(lget ls 10).n, 0, none⟩) 1 1, .int .i64 (0)], .slice (some ⟨(lget ls 10).n, 0, none⟩) 1 1, .int .i64 (0), .pointer (some ⟨(lget ls 6).n, 0 + ((s0_4 ((IntKind.i64.wrap ((s0_3 : Int) - 1))).toNat)).toNat * 1, none⟩), (rowV (lget ls 6) n0 1), .int .i64 ((s0_4 ((IntKind.i64.wrap ((s0_3 : Int) - 1))).toNat)), .pointer (some ⟨(lget ls 6).n, 0 + ((s0_4 ((IntKind.i64.wrap ((s0_3 : Int) - 1))).toNat)).toNat * 1, none⟩), (rowV (mfl (lget ls 11) ((s0_4 ((IntKind.i64.wrap ((s0_3 : Int) - 1))).toNat)).toNat) ((updF s0_2 ((s0_4 ((IntKind.i64.wrap ((s0_3 : Int) - 1))).toNat)).toNat (1, (fun _ => gb0_0))) ((s0_4 ((IntKind.i64.wrap ((s0_3 : Int) - 1))).toNat)).toNat).1 1), .int .i64 ((((updF s0_2 ((s0_4 ((IntKind.i64.wrap ((s0_3 : Int) - 1))).toNat)).toNat (1, (fun _ => gb0_0))) ((s0_4 ((IntKind.i64.wrap ((s0_3 : Int) - 1))).toNat)).toNat).1 : Int)), .bool false, .slice a0 n0 (n0 + k0), .int .i64 ((s0_4 ((IntKind.i64.wrap ((s0_3 : Int) - 1))).toNat)), .pointer (some ⟨(lget ls 2).n, 0, none⟩), .pointer (some ⟨(lget ls 2).n, 0, none⟩), .pointer (some ⟨(lget ls 2).n, 2, none⟩), (rowV (lget ls 1) n0 44), .int .i64 ((s0_4 ((IntKind.i64.wrap ((s0_3 : Int) - 1))).toNat)), .pointer (some ⟨(lget ls 1).n, 0 + ((s0_4 ((IntKind.i64.wrap ((s0_3 : Int) - 1))).toNat)).toNat * 44, none⟩), .agg #[.int .i64 ((((s0_1 ((s0_4 ((IntKind.i64.wrap ((s0_3 : Int) - 1))).toNat)).toNat)).x0).fKind), .int .u64 (nn (((s0_1 ((s0_4 ((IntKind.i64.wrap ((s0_3 : Int) - 1))).toNat)).toNat)).x0).fNum), .int .i64 ((((s0_1 ((s0_4 ((IntKind.i64.wrap ((s0_3 : Int) - 1))).toNat)).toNat)).x0).fId), .int .i64 ((((s0_1 ((s0_4 ((IntKind.i64.wrap ((s0_3 : Int) - 1))).toNat)).toNat)).x0).fOff), .int .i64 ((((s0_1 ((s0_4 ((IntKind.i64.wrap ((s0_3 : Int) - 1))).toNat)).toNat)).x1).fKind), .int .u64 (nn (((s0_1 ((s0_4 ((IntKind.i64.wrap ((s0_3 : Int) - 1))).toNat)).toNat)).x1).fNum), .int .i64 ((((s0_1 ((s0_4 ((IntKind.i64.wrap ((s0_3 : Int) - 1))).toNat)).toNat)).x1).fId), .int .i64 ((((s0_1 ((s0_4 ((IntKind.i64.wrap ((s0_3 : Int) - 1))).toNat)).toNat)).x1).fOff), .int .i64 ((((s0_1 ((s0_4 ((IntKind.i64.wrap ((s0_3 : Int) - 1))).toNat)).toNat)).x2).fKind), .int .u64 (nn (((s0_1 ((s0_4 ((IntKind.i64.wrap ((s0_3 : Int) - 1))).toNat)).toNat)).x2).fNum), .int .i64 ((((s0_1 ((s0_4 ((IntKind.i64.wrap ((s0_3 : Int) - 1))).toNat)).toNat)).x2).fId), .int .i64 ((((s0_1 ((s0_4 ((IntKind.i64.wrap ((s0_3 : Int) - 1))).toNat)).toNat)).x2).fOff), .int .i64 ((((s0_1 ((s0_4 ((IntKind.i64.wrap ((s0_3 : Int) - 1))).toNat)).toNat)).x3).fKind), .int .u64 (nn (((s0_1 ((s0_4 ((IntKind.i64.wrap ((s0_3 : Int) - 1))).toNat)).toNat)).x3).fNum), .int .i64 ((((s0_1 ((s0_4 ((IntKind.i64.wrap ((s0_3 : Int) - 1))).toNat)).toNat)).x3).fId), .int .i64 ((((s0_1 ((s0_4 ((IntKind.i64.wrap ((s0_3 : Int) - 1))).toNat)).toNat)).x3).fOff), .int .i64 ((((s0_1 ((s0_4 ((IntKind.i64.wrap ((s0_3 : Int) - 1))).toNat)).toNat)).x4).fKind), .int .u64 (nn (((s0_1 ((s0_4 ((IntKind.i64.wrap ((s0_3 : Int) - 1))).toNat)).toNat)).x4).fNum), .int .i64 ((((s0_1 ((s0_4 ((IntKind.i64.wrap ((s0_3 : Int) - 1))).toNat)).toNat)).x4).fId), .int .i64 ((((s0_1 ((s0_4 ((IntKind.i64.wrap ((s0_3 : Int) - 1))).toNat)).toNat)).x4).fOff), .int .i64 ((((s0_1 ((s0_4 ((IntKind.i64.wrap ((s0_3 : Int) - 1))).toNat)).toNat)).x5).fKind), .int .u64 (nn (((s0_1 ((s0_4 ((IntKind.i64.wrap ((s0_3 : Int) - 1))).toNat)).toNat)).x5).fNum), .int .i64 ((((s0_1 ((s0_4 ((IntKind.i64.wrap ((s0_3 : Int) - 1))).toNat)).toNat)).x5).fId), .int .i64 ((((s0_1 ((s0_4 ((IntKind.i64.wrap ((s0_3 : Int) - 1))).toNat)).toNat)).x5).fOff), .int .i64 ((((s0_1 ((s0_4 ((IntKind.i64.wrap ((s0_3 : Int) - 1))).toNat)).toNat)).x6).fKind), .int .u64 (nn (((s0_1 ((s0_4 ((IntKind.i64.wrap ((s0_3 : Int) - 1))).toNat)).toNat)).x6).fNum), .int .i64 ((((s0_1 ((s0_4 ((IntKind.i64.wrap ((s0_3 : Int) - 1))).toNat)).toNat)).x6).fId), .int .i64 ((((s0_1 ((s0_4 ((IntKind.i64.wrap ((s0_3 : Int) - 1))).toNat)).toNat)).x6).fOff), .int .i64 ((((s0_1 ((s0_4 ((IntKind.i64.wrap ((s0_3 : Int) - 1))).toNat)).toNat)).x7).fKind), .int .u64 (nn (((s0_1 ((s0_4 ((IntKind.i64.wrap ((s0_3 : Int) - 1))).toNat)).toNat)).x7).fNum), .int .i64 ((((s0_1 ((s0_4 ((IntKind.i64.wrap ((s0_3 : Int) - 1))).toNat)).toNat)).x7).fId), .int .i64 ((((s0_1 ((s0_4 ((IntKind.i64.wrap ((s0_3 : Int) - 1))).toNat)).toNat)).x7).fOff), .int .i64 ((((s0_1 ((s0_4 ((IntKind.i64.wrap ((s0_3 : Int) - 1))).toNat)).toNat)).x8).fKind), .int .u64 (nn (((s0_1 ((s0_4 ((IntKind.i64.wrap ((s0_3 : Int) - 1))).toNat)).toNat)).x8).fNum), .int .i64 ((((s0_1 ((s0_4 ((IntKind.i64.wrap ((s0_3 : Int) - 1))).toNat)).toNat)).x8).fId), .int .i64 ((((s0_1 ((s0_4 ((IntKind.i64.wrap ((s0_3 : Int) - 1))).toNat)).toNat)).x8).fOff), .int .i64 ((((s0_1 ((s0_4 ((IntKind.i64.wrap ((s0_3 : Int) - 1))).toNat)).toNat)).x9).fKind), .int .u64 (nn (((s0_1 ((s0_4 ((IntKind.i64.wrap ((s0_3 : Int) - 1))).toNat)).toNat)).x9).fNum), .int .i64 ((((s0_1 ((s0_4 ((IntKind.i64.wrap ((s0_3 : Int) - 1))).toNat)).toNat)).x9).fId), .int .i64 ((((s0_1 ((s0_4 ((IntKind.i64.wrap ((s0_3 : Int) - 1))).toNat)).toNat)).x9).fOff), .int .i64 ((((s0_1 ((s0_4 ((IntKind.i64.wrap ((s0_3 : Int) - 1))).toNat)).toNat)).x10).fKind), .int .u64 (nn (((s0_1 ((s0_4 ((IntKind.i64.wrap ((s0_3 : Int) - 1))).toNat)).toNat)).x10).fNum), .int .i64 ((((s0_1 ((s0_4 ((IntKind.i64.wrap ((s0_3 : Int) - 1))).toNat)).toNat)).x10).fId), .int .i64 ((((s0_1 ((s0_4 ((IntKind.i64.wrap ((s0_3 : Int) - 1))).toNat)).toNat)).x10).fOff)], (v_Arr42 rb1), (rowV (lget ls 6) n0 1), .int .i64 ((s0_4 ((IntKind.i64.wrap ((s0_3 : Int) - 1))).toNat)), .pointer (some ⟨(lget ls 6).n, 0 + ((s0_4 ((IntKind.i64.wrap ((s0_3 : Int) - 1))).toNat)).toNat * 1, none⟩), (rowV (mfl (lget ls 11) ((s0_4 ((IntKind.i64.wrap ((s0_3 : Int) - 1))).toNat)).toNat) ((updF s0_2 ((s0_4 ((IntKind.i64.wrap ((s0_3 : Int) - 1))).toNat)).toNat (1, (fun _ => gb0_0))) ((s0_4 ((IntKind.i64.wrap ((s0_3 : Int) - 1))).toNat)).toNat).1 1), .int .i64 ((((updF s0_2 ((s0_4 ((IntKind.i64.wrap ((s0_3 : Int) - 1))).toNat)).toNat (1, (fun _ => gb0_0))) ((s0_4 ((IntKind.i64.wrap ((s0_3 : Int) - 1))).toNat)).toNat).1 : Int)), .int .i64 (sb0_4)] (jks (lget ls 9).u 117 13)))
def pre_fold_look_v1_L1_L2v17_0 (a0 : Option Addr) (p0 : Nat) (q0 : Nat) (n0 : Nat) (k0 : Nat) (A0 : Nat → Insn) (g0_0 : Nat → Bool) (g1_0 : Nat) (g1_1 : Nat → Part) (g2_0 : Nat → Bool) (g2_1 : Nat → Arr42) (g2_2 : Nat) (g2_3 : Nat → Int) (s0_0 : Nat → Bool) (s0_1 : Nat → Arr42) (s0_2 : Nat → (Nat × (Nat → Int))) (s0_3 : Nat) (s0_4 : Nat → Int) (gb0_0 : Int) (rb1 : Arr42) (sb0_0 : Nat → Bool) (sb0_1 : Nat → Arr42) (sb0_2 : Nat) (sb0_3 : Nat → Int) (sb0_4 : Int) (ls : List L1) : List Obj := [rowO (lget ls 0) (esG cB n0 sb0_0) 4 n0 1, rowO (lget ls 1) (esG c_Arr42 n0 sb0_1) 42 n0 44, .cells #[(rowV (lget ls 3) n0 1), (rowV (lget ls 0) n0 1), (rowV (lget ls 1) n0 44)] 63, rowO (lget ls 3) (esG cB n0 g0_0) 4 n0 1, rowO (lget ls 4) (esG c_Part g1_0 g1_1) 75 g1_0 2, unb, rfR (lget ls 6) (lget ls 11) 80 1 n0 (updF s0_2 ((s0_4 ((IntKind.i64.wrap ((s0_3 : Int) - 1))).toNat)).toNat (1, (fun _ => gb0_0))), unb, unb, unb, unb, rfO 3 cZ 1 n0 (updF s0_2 ((s0_4 ((IntKind.i64.wrap ((s0_3 : Int) - 1))).toNat)).toNat (1, (fun _ => gb0_0))), .cells ⟨esG c_Val 11 (fun k => g_Arr42 rb1 k)⟩ 42, rowO (lget ls 13) (esG cZ sb0_2 sb0_3) 3 sb0_2 1]
theorem sp0_fold_look_v1_L1_L2v17_0_ok (g2_0 : Nat → Bool) (g2_1 : Nat → Arr42) (g2_2 : Nat) (g2_3 : Nat → Int) (s0_0 : Nat → Bool) (s0_1 : Nat → Arr42) (s0_2 : Nat → (Nat × (Nat → Int))) (s0_3 : Nat) (s0_4 : Nat → Int) (gb0_0 : Int) (rb1 : Arr42) (sb0_0 : Nat → Bool) (sb0_1 : Nat → Arr42) (sb0_2 : Nat) (sb0_3 : Nat → Int) (sb0_4 : Int) (c0_0 : Nat → Bool) (c0_1 : Nat → Arr42) (c0_2 : Nat → (Nat × (Nat → Int))) (c0_3 : Nat → Val) (c0_4 : Nat) (c0_5 : Nat → Int) (h : lpO (st_fold_look_v1_L1_L2v17 n0 g0_0 s0_2 s0_3 s0_4 gb0_0 rb1) (.c0 sb0_0 sb0_1 sb0_2 sb0_3 sb0_4) = some (.e0 c0_0 c0_1 c0_2 c0_3 c0_4 c0_5)) : SpcG Tryz.prog M B0 S ⟨fun ls => .code (.loop bd_fold_look_v1_L1_L2v17) (t0_fold_look_v1_L1_L2v17_0 a0 p0 q0 n0 k0 A0 g0_0 g1_0 g1_1 g2_0 g2_1 g2_2 g2_3 s0_0 s0_1 s0_2 s0_3 s0_4 gb0_0 rb1 sb0_0 sb0_1 sb0_2 sb0_3 sb0_4 ls), pre_fold_look_v1_L1_L2v17_0 a0 p0 q0 n0 k0 A0 g0_0 g1_0 g1_1 g2_0 g2_1 g2_2 g2_3 s0_0 s0_1 s0_2 s0_3 s0_4 gb0_0 rb1 sb0_0 sb0_1 sb0_2 sb0_3 sb0_4, 2, (.exit 4), fun ls => vf_fold_look_v1_L1_L2v17 a0 p0 q0 n0 k0 A0 g0_0 g1_0 g1_1 g2_0 g2_1 g2_2 g2_3 s0_0 s0_1 s0_2 s0_3 s0_4 gb0_0 rb1 (.e0 c0_0 c0_1 c0_2 c0_3 c0_4 c0_5) (ls.take 13 ++ ls.drop 14), fun ls => (Hf_fold_look_v1_L1_L2v17 a0 p0 q0 n0 k0 A0 g0_0 g1_0 g1_1 g2_0 g2_1 g2_2 g2_3 s0_0 s0_1 s0_2 s0_3 s0_4 gb0_0 rb1 (.e0 c0_0 c0_1 c0_2 c0_3 c0_4 c0_5) (ls.take 13 ++ ls.drop 14)).take 13 ++ List.replicate 1 unb, fun ls => (Hf_fold_look_v1_L1_L2v17 a0 p0 q0 n0 k0 A0 g0_0 g1_0 g1_1 g2_0 g2_1 g2_2 g2_3 s0_0 s0_1 s0_2 s0_3 s0_4 gb0_0 rb1 (.e0 c0_0 c0_1 c0_2 c0_3 c0_4 c0_5) (ls.take 13 ++ ls.drop 14)).drop 13⟩ :=
  spc_of_goesM hU 0 (k0 := 14) (go_fold_look_v1_L1_L2v17 hU a0 p0 q0 n0 k0 A0 hR0 g0_0 g1_0 g1_1 g2_0 g2_1 g2_2 g2_3 s0_0 s0_1 s0_2 s0_3 s0_4 gb0_0 rb1 _ _ h) (t0_fold_look_v1_L1_L2v17_0 a0 p0 q0 n0 k0 A0 g0_0 g1_0 g1_1 g2_0 g2_1 g2_2 g2_3 s0_0 s0_1 s0_2 s0_3 s0_4 gb0_0 rb1 sb0_0 sb0_1 sb0_2 sb0_3 sb0_4) (pre_fold_look_v1_L1_L2v17_0 a0 p0 q0 n0 k0 A0 g0_0 g1_0 g1_1 g2_0 g2_1 g2_2 g2_3 s0_0 s0_1 s0_2 s0_3 s0_4 gb0_0 rb1 sb0_0 sb0_1 sb0_2 sb0_3 sb0_4) (fun _ => rfl) (fun ls h => by match ls, h with | [l0, l1, l2, l3, l4, l5, l6, l7, l8, l9, l10, l11, l12, l13], _ => exact ⟨by kernel_rfl, by kernel_rfl⟩) (fun ls h => by match ls, h with | [l0, l1, l2, l3, l4, l5, l6, l7, l8, l9, l10, l11, l12, l13], _ => rfl) (by decide) (by decide) (fun ls => rfl)
inductive Sh_fold_look_v1_L1 where
  | c0 (s0_0 : Nat → Bool) (s0_1 : Nat → Arr42) (s0_2 : Nat → (Nat × (Nat → Int))) (s0_3 : Nat) (s0_4 : Nat → Int)
inductive Ex_fold_look_v1_L1 where
  | e0 (c0_0 : Nat → Bool) (c0_1 : Nat → Arr42) (c0_2 : Nat → (Nat × (Nat → Int)))
noncomputable def st_fold_look_v1_L1 (n0 : Nat) (A0 : Nat → Insn) (g0_0 : Nat → Bool) : Sh_fold_look_v1_L1 → Option (Sh_fold_look_v1_L1 ⊕ Ex_fold_look_v1_L1)
  | .c0 s0_0 s0_1 s0_2 s0_3 s0_4 =>
    bif decide (0 < (s0_3 : Int)) then
      (bif inR (IntKind.i64.wrap ((s0_3 : Int) - 1)) s0_3 then
        (bif inR (IntKind.i64.wrap ((s0_3 : Int) - 1)) (s0_3 + 1) then
          (bif decide (s0_3 ≤ 1000000) then
            (bif inR (s0_4 ((IntKind.i64.wrap ((s0_3 : Int) - 1))).toNat) n0 then
              (bif decide (0 < (s0_2 ((s0_4 ((IntKind.i64.wrap ((s0_3 : Int) - 1))).toNat)).toNat).1) then
                (none)
              else ((m_flow_Next_v4 n0 A0 (s0_4 ((IntKind.i64.wrap ((s0_3 : Int) - 1))).toNat)).bind fun gb0 => match gb0 with
              | .e0 gb0_0 => (bif decide (0 < ((updF s0_2 ((s0_4 ((IntKind.i64.wrap ((s0_3 : Int) - 1))).toNat)).toNat (0, fun _ => 0)) ((s0_4 ((IntKind.i64.wrap ((s0_3 : Int) - 1))).toNat)).toNat).1) then
                  (none)
                else (some (.inl (.c0 s0_0 s0_1 (updF s0_2 ((s0_4 ((IntKind.i64.wrap ((s0_3 : Int) - 1))).toNat)).toNat (0, fun _ => 0)) ((IntKind.i64.wrap ((s0_3 : Int) - 1))).toNat s0_4))))
              | .e1 gb0_0 => (bif decide (0 < ((updF s0_2 ((s0_4 ((IntKind.i64.wrap ((s0_3 : Int) - 1))).toNat)).toNat (1, (fun _ => gb0_0))) ((s0_4 ((IntKind.i64.wrap ((s0_3 : Int) - 1))).toNat)).toNat).1) then
                  (bif (((updF s0_2 ((s0_4 ((IntKind.i64.wrap ((s0_3 : Int) - 1))).toNat)).toNat (1, (fun _ => gb0_0))) ((s0_4 ((IntKind.i64.wrap ((s0_3 : Int) - 1))).toNat)).toNat).1 : Int) == 0 then
                    (none)
                  else ((m_fold_behind_v3 n0 A0 (s0_4 ((IntKind.i64.wrap ((s0_3 : Int) - 1))).toNat) (⟨(((s0_1 ((s0_4 ((IntKind.i64.wrap ((s0_3 : Int) - 1))).toNat)).toNat)).x0), (((s0_1 ((s0_4 ((IntKind.i64.wrap ((s0_3 : Int) - 1))).toNat)).toNat)).x1), (((s0_1 ((s0_4 ((IntKind.i64.wrap ((s0_3 : Int) - 1))).toNat)).toNat)).x2), (((s0_1 ((s0_4 ((IntKind.i64.wrap ((s0_3 : Int) - 1))).toNat)).toNat)).x3), (((s0_1 ((s0_4 ((IntKind.i64.wrap ((s0_3 : Int) - 1))).toNat)).toNat)).x4), (((s0_1 ((s0_4 ((IntKind.i64.wrap ((s0_3 : Int) - 1))).toNat)).toNat)).x5), (((s0_1 ((s0_4 ((IntKind.i64.wrap ((s0_3 : Int) - 1))).toNat)).toNat)).x6), (((s0_1 ((s0_4 ((IntKind.i64.wrap ((s0_3 : Int) - 1))).toNat)).toNat)).x7), (((s0_1 ((s0_4 ((IntKind.i64.wrap ((s0_3 : Int) - 1))).toNat)).toNat)).x8), (((s0_1 ((s0_4 ((IntKind.i64.wrap ((s0_3 : Int) - 1))).toNat)).toNat)).x9), (((s0_1 ((s0_4 ((IntKind.i64.wrap ((s0_3 : Int) - 1))).toNat)).toNat)).x10)⟩ : Arr42)).bind fun rb1 =>
                  (lpO (st_fold_look_v1_L1_L2v17 n0 g0_0 s0_2 s0_3 s0_4 gb0_0 rb1) (.c0 s0_0 s0_1 ((IntKind.i64.wrap ((s0_3 : Int) - 1))).toNat s0_4 0)).bind fun gb2 => match gb2 with
                  | .e0 gb2_0 gb2_1 gb2_2 gb2_3 gb2_4 gb2_5 =>
                  some (.inl (.c0 gb2_0 gb2_1 gb2_2 gb2_4 gb2_5))))
                else (none))))
            else (none))
          else (none))
        else (none))
      else (none))
    else (some (.inr (.e0 s0_0 s0_1 s0_2)))
noncomputable def bd_fold_look_v1_L1 : Code := codeOf Tryz.f11 [1, 0, 1, 1, 1, 1, 1, 1, 1, 0, 0, 0]
def fl_fold_look_v1_L1 (a0 : Option Addr) (p0 : Nat) (q0 : Nat) (n0 : Nat) (k0 : Nat) (A0 : Nat → Insn) (g0_0 : Nat → Bool) (g1_0 : Nat) (g1_1 : Nat → Part) (g2_0 : Nat → Bool) (g2_1 : Nat → Arr42) (g2_2 : Nat) (g2_3 : Nat → Int) : Sh_fold_look_v1_L1 → List L1 → List Value
  | .c0 s0_0 s0_1 s0_2 s0_3 s0_4, ls => [.slice a0 n0 (n0 + k0), .pointer (some ⟨(lget ls 2).n, 0, none⟩), (rowV (lget ls 8) s0_3 1), (rowV (lget ls 6) n0 1)]
def mf_fold_look_v1_L1 : Sh_fold_look_v1_L1 → List (Nat × Nat)
  | .c0 _ _ _ _ _ => [(1, 2), (1, 3), (1, 2), (1, 119)]
noncomputable def fr_fold_look_v1_L1 (a0 : Option Addr) (p0 : Nat) (q0 : Nat) (n0 : Nat) (k0 : Nat) (A0 : Nat → Insn) (g0_0 : Nat → Bool) (g1_0 : Nat) (g1_1 : Nat → Part) (g2_0 : Nat → Bool) (g2_1 : Nat → Arr42) (g2_2 : Nat) (g2_3 : Nat → Int) (s : Sh_fold_look_v1_L1) : List L1 → List Value := mrgF (mf_fold_look_v1_L1 s) (fl_fold_look_v1_L1 a0 p0 q0 n0 k0 A0 g0_0 g1_0 g1_1 g2_0 g2_1 g2_2 g2_3 s) 9
def Hs_fold_look_v1_L1 (a0 : Option Addr) (p0 : Nat) (q0 : Nat) (n0 : Nat) (k0 : Nat) (A0 : Nat → Insn) (g0_0 : Nat → Bool) (g1_0 : Nat) (g1_1 : Nat → Part) (g2_0 : Nat → Bool) (g2_1 : Nat → Arr42) (g2_2 : Nat) (g2_3 : Nat → Int) : Sh_fold_look_v1_L1 → List L1 → List Obj
  | .c0 s0_0 s0_1 s0_2 s0_3 s0_4, ls => [rowO (lget ls 0) (esG cB n0 s0_0) 4 n0 1, rowO (lget ls 1) (esG c_Arr42 n0 s0_1) 42 n0 44, .cells #[(rowV (lget ls 3) n0 1), (rowV (lget ls 0) n0 1), (rowV (lget ls 1) n0 44)] 63, rowO (lget ls 3) (esG cB n0 g0_0) 4 n0 1, rowO (lget ls 4) (esG c_Part g1_0 g1_1) 75 g1_0 2, unb, rfR (lget ls 6) (lget ls 7) 80 1 n0 s0_2, rfO 3 cZ 1 n0 s0_2, rowO (lget ls 8) (esG cZ s0_3 s0_4) 3 s0_3 1, unb]
def vl_fold_look_v1_L1 (a0 : Option Addr) (p0 : Nat) (q0 : Nat) (n0 : Nat) (k0 : Nat) (A0 : Nat → Insn) (g0_0 : Nat → Bool) (g1_0 : Nat) (g1_1 : Nat → Part) (g2_0 : Nat → Bool) (g2_1 : Nat → Arr42) (g2_2 : Nat) (g2_3 : Nat → Int) : Ex_fold_look_v1_L1 → List L1 → List Value
  | .e0 c0_0 c0_1 c0_2, ls => [.slice a0 n0 (n0 + k0), .pointer (some ⟨(lget ls 2).n, 0, none⟩), (rowV (lget ls 6) n0 1)]
def mk_fold_look_v1_L1 : Ex_fold_look_v1_L1 → List (Nat × Nat)
  | .e0 _ _ _ => [(1, 2), (1, 6), (1, 119)]
noncomputable def vf_fold_look_v1_L1 (a0 : Option Addr) (p0 : Nat) (q0 : Nat) (n0 : Nat) (k0 : Nat) (A0 : Nat → Insn) (g0_0 : Nat → Bool) (g1_0 : Nat) (g1_1 : Nat → Part) (g2_0 : Nat → Bool) (g2_1 : Nat → Arr42) (g2_2 : Nat) (g2_3 : Nat → Int) (r : Ex_fold_look_v1_L1) : List L1 → List Value := mrgF (mk_fold_look_v1_L1 r) (vl_fold_look_v1_L1 a0 p0 q0 n0 k0 A0 g0_0 g1_0 g1_1 g2_0 g2_1 g2_2 g2_3 r) 9
def Hf_fold_look_v1_L1 (a0 : Option Addr) (p0 : Nat) (q0 : Nat) (n0 : Nat) (k0 : Nat) (A0 : Nat → Insn) (g0_0 : Nat → Bool) (g1_0 : Nat) (g1_1 : Nat → Part) (g2_0 : Nat → Bool) (g2_1 : Nat → Arr42) (g2_2 : Nat) (g2_3 : Nat → Int) : Ex_fold_look_v1_L1 → List L1 → List Obj
  | .e0 c0_0 c0_1 c0_2, ls => [rowO (lget ls 0) (esG cB n0 c0_0) 4 n0 1, rowO (lget ls 1) (esG c_Arr42 n0 c0_1) 42 n0 44, .cells #[(rowV (lget ls 3) n0 1), (rowV (lget ls 0) n0 1), (rowV (lget ls 1) n0 44)] 63, rowO (lget ls 3) (esG cB n0 g0_0) 4 n0 1, rowO (lget ls 4) (esG c_Part g1_0 g1_1) 75 g1_0 2, unb, rfR (lget ls 6) (lget ls 7) 80 1 n0 c0_2, rfO 3 cZ 1 n0 c0_2, unb, unb]
def ex_fold_look_v1_L1 : Ex_fold_look_v1_L1 → Ex
  | .e0 _ _ _ => (.exit 2)
theorem go_fold_look_v1_L1 (g2_0 : Nat → Bool) (g2_1 : Nat → Arr42) (g2_2 : Nat) (g2_3 : Nat → Int) (s : Sh_fold_look_v1_L1) (r : Ex_fold_look_v1_L1) (h : lpO (st_fold_look_v1_L1 n0 A0 g0_0) s = some r) : GoesG Tryz.prog M B0 S (.loop bd_fold_look_v1_L1) 10 (fr_fold_look_v1_L1 a0 p0 q0 n0 k0 A0 g0_0 g1_0 g1_1 g2_0 g2_1 g2_2 g2_3 s) (Hs_fold_look_v1_L1 a0 p0 q0 n0 k0 A0 g0_0 g1_0 g1_1 g2_0 g2_1 g2_2 g2_3 s) (ex_fold_look_v1_L1 r) 7 (vf_fold_look_v1_L1 a0 p0 q0 n0 k0 A0 g0_0 g1_0 g1_1 g2_0 g2_1 g2_2 g2_3 r) (Hf_fold_look_v1_L1 a0 p0 q0 n0 k0 A0 g0_0 g1_0 g1_1 g2_0 g2_1 g2_2 g2_3 r) 10 :=
  goes_lpO (fun s q e => by
    cases s with
    | c0 s0_0 s0_1 s0_2 s0_3 s0_4 =>
      unfold st_fold_look_v1_L1 at e
      dsimp only at e
      replace e := cond_eq_or e
      rcases e with ⟨hq0, e⟩ | ⟨hq0, e⟩
      · replace e := cond_eq_or e
        rcases e with ⟨hq1, e⟩ | ⟨hq1, e⟩
        · replace e := cond_eq_or e
          let P1 : List (PG Tryz.prog M B0 S) := [.o, .o, .b (z_gtrT hq0), .o, .o, .o, .o, .q (ixM_ok (kd := .i64) (T := 80) (x := (IntKind.i64.wrap ((s0_3 : Int) - 1))) (N := s0_3) (sz := 1) rfl (fun w => by kernel_rfl) hq1), .l (accG (i := 8) (f := cZ) (A := s0_4) (k := ((IntKind.i64.wrap ((s0_3 : Int) - 1))).toNat) 0 [.int .i64 ((s0_4 ((IntKind.i64.wrap ((s0_3 : Int) - 1))).toNat))] cZ_len (inR_nat hq1) rfl), .o, .o, .o, .o, .o]
          rcases e with ⟨hq2, e⟩ | ⟨hq2, e⟩
          · replace e := cond_eq_or e
            rcases e with ⟨hq3, e⟩ | ⟨hq3, e⟩
            · replace e := cond_eq_or e
              let P2 : List (PG Tryz.prog M B0 S) := P1 ++ [.x (sqShr_ok rt80 (f := cZ) (N := s0_3) (A := s0_4) (x := (IntKind.i64.wrap ((s0_3 : Int) - 1))) cZ_len (fun w => by kernel_rfl) hq2 hq3) [8], .o, .o, .o]
              rcases e with ⟨hq4, e⟩ | ⟨hq4, e⟩
              · replace e := cond_eq_or e
                let P3 : List (PG Tryz.prog M B0 S) := P2 ++ [.q (ixM_ok (kd := .i64) (T := 81) (x := (s0_4 ((IntKind.i64.wrap ((s0_3 : Int) - 1))).toNat)) (N := n0) (sz := 1) rfl (fun w => by kernel_rfl) hq4)]
                rcases e with ⟨hq5, e⟩ | ⟨hq5, e⟩
                · exact none_some e
                · replace e := bindO_eq e
                  obtain ⟨gb0, e_gb0, e⟩ := e
                  let P4 : List (PG Tryz.prog M B0 S) := P3 ++ [.xg (ldRF0_ok (T := 80) (e := 80) (T2 := 3) (f := cZ) (sz := 1) (N := n0) (k := ((s0_4 ((IntKind.i64.wrap ((s0_3 : Int) - 1))).toNat)).toNat) (D := s0_2) (fun w => by kernel_rfl) (inR_nat hq4) hq5) [6, 7], .o, .o, .o, .o, .o]
                  rcases gb0 with ⟨gb0_0⟩ | ⟨gb0_0⟩
                  · try dsimp only at e
                    replace e := cond_eq_or e
                    rcases e with ⟨hq6, e⟩ | ⟨hq6, e⟩
                    · exact none_some e
                    · cases e; exact goes_runM hU (P4 ++ [.xg (ok0_flow_Next_v4 hU a0 p0 q0 n0 k0 A0 hR0 (s0_4 ((IntKind.i64.wrap ((s0_3 : Int) - 1))).toNat) gb0_0 e_gb0) [], .o, .o, .o, .q (ixM_ok (kd := .i64) (T := 81) (x := (s0_4 ((IntKind.i64.wrap ((s0_3 : Int) - 1))).toNat)) (N := n0) (sz := 1) rfl (fun w => by kernel_rfl) hq4), .xg (sqStRFn_ok (T := 80) (e := 80) (T2 := 3) (f := cZ) (sz := 1) (N := n0) (k := ((s0_4 ((IntKind.i64.wrap ((s0_3 : Int) - 1))).toNat)).toNat) (D := s0_2) (g := fun _ => 0) (fun w => by kernel_rfl) (inR_nat hq4)) [6, 7], .o, .o, .q (ixM_ok (kd := .i64) (T := 81) (x := (s0_4 ((IntKind.i64.wrap ((s0_3 : Int) - 1))).toNat)) (N := n0) (sz := 1) rfl (fun w => by kernel_rfl) hq4), .xg (ldRF0_ok (T := 80) (e := 80) (T2 := 3) (f := cZ) (sz := 1) (N := n0) (k := ((s0_4 ((IntKind.i64.wrap ((s0_3 : Int) - 1))).toNat)).toNat) (D := (updF s0_2 ((s0_4 ((IntKind.i64.wrap ((s0_3 : Int) - 1))).toNat)).toNat (0, fun _ => 0))) (fun w => by kernel_rfl) (inR_nat hq4) hq6) [6, 7], .o, .o]) [0, 1, 2, 3, 4, 5, 6, 7, 10] (fun b => rfl) (by decide) rfl rfl (fun b => by kernel_rfl)
                  · try dsimp only at e
                    replace e := cond_eq_or e
                    rcases e with ⟨hq6, e⟩ | ⟨hq6, e⟩
                    · replace e := cond_eq_or e
                      rcases e with ⟨hq7, e⟩ | ⟨hq7, e⟩
                      · exact none_some e
                      · replace e := bindO_eq e
                        obtain ⟨rb1, e_rb1, e⟩ := e
                        try dsimp only at e
                        replace e := bindO_eq e
                        obtain ⟨gb2, e_gb2, e⟩ := e
                        obtain ⟨gb2_0, gb2_1, gb2_2, gb2_3, gb2_4, gb2_5⟩ := gb2
                        try dsimp only at e
                        cases e; exact goes_runM hU (P4 ++ [.xg (ok1_flow_Next_v4 hU a0 p0 q0 n0 k0 A0 hR0 (s0_4 ((IntKind.i64.wrap ((s0_3 : Int) - 1))).toNat) gb0_0 e_gb0) [], .o, .o, .o, .q (ixM_ok (kd := .i64) (T := 81) (x := (s0_4 ((IntKind.i64.wrap ((s0_3 : Int) - 1))).toNat)) (N := n0) (sz := 1) rfl (fun w => by kernel_rfl) hq4), .xg (sqStRF_ok (T := 80) (e := 80) (T2 := 3) .plain (f := cZ) (sz := 1) (N := n0) (k := ((s0_4 ((IntKind.i64.wrap ((s0_3 : Int) - 1))).toNat)).toNat) (D := s0_2) (m := 1) (B := (fun _ => gb0_0)) (fun w => by kernel_rfl) (inR_nat hq4) (by decide) (by decide)) [6, 7, 11], .o, .o, .q (ixM_ok (kd := .i64) (T := 81) (x := (s0_4 ((IntKind.i64.wrap ((s0_3 : Int) - 1))).toNat)) (N := n0) (sz := 1) rfl (fun w => by kernel_rfl) hq4), .xg (ldRF_ok (T := 80) (e := 80) (T2 := 3) (f := cZ) (sz := 1) (N := n0) (k := ((s0_4 ((IntKind.i64.wrap ((s0_3 : Int) - 1))).toNat)).toNat) (D := (updF s0_2 ((s0_4 ((IntKind.i64.wrap ((s0_3 : Int) - 1))).toNat)).toNat (1, (fun _ => gb0_0)))) (fun w => by kernel_rfl) (inR_nat hq4) hq6) [6, 12], .o, .b (z_eqlF hq7), .o, .o, .o, .o, .o, .a 2, .o, .q (ixM_ok (kd := .i64) (T := 34) (x := (s0_4 ((IntKind.i64.wrap ((s0_3 : Int) - 1))).toNat)) (N := n0) (sz := 44) rfl (fun w => by kernel_rfl) hq4), .l (accG (i := 1) (f := c_Arr42) (A := s0_1) (k := ((s0_4 ((IntKind.i64.wrap ((s0_3 : Int) - 1))).toNat)).toNat) 0 [.int .i64 ((((s0_1 ((s0_4 ((IntKind.i64.wrap ((s0_3 : Int) - 1))).toNat)).toNat)).x0).fKind), .int .u64 (nn (((s0_1 ((s0_4 ((IntKind.i64.wrap ((s0_3 : Int) - 1))).toNat)).toNat)).x0).fNum), .int .i64 ((((s0_1 ((s0_4 ((IntKind.i64.wrap ((s0_3 : Int) - 1))).toNat)).toNat)).x0).fId), .int .i64 ((((s0_1 ((s0_4 ((IntKind.i64.wrap ((s0_3 : Int) - 1))).toNat)).toNat)).x0).fOff), .int .i64 ((((s0_1 ((s0_4 ((IntKind.i64.wrap ((s0_3 : Int) - 1))).toNat)).toNat)).x1).fKind), .int .u64 (nn (((s0_1 ((s0_4 ((IntKind.i64.wrap ((s0_3 : Int) - 1))).toNat)).toNat)).x1).fNum), .int .i64 ((((s0_1 ((s0_4 ((IntKind.i64.wrap ((s0_3 : Int) - 1))).toNat)).toNat)).x1).fId), .int .i64 ((((s0_1 ((s0_4 ((IntKind.i64.wrap ((s0_3 : Int) - 1))).toNat)).toNat)).x1).fOff), .int .i64 ((((s0_1 ((s0_4 ((IntKind.i64.wrap ((s0_3 : Int) - 1))).toNat)).toNat)).x2).fKind), .int .u64 (nn (((s0_1 ((s0_4 ((IntKind.i64.wrap ((s0_3 : Int) - 1))).toNat)).toNat)).x2).fNum), .int .i64 ((((s0_1 ((s0_4 ((IntKind.i64.wrap ((s0_3 : Int) - 1))).toNat)).toNat)).x2).fId), .int .i64 ((((s0_1 ((s0_4 ((IntKind.i64.wrap ((s0_3 : Int) - 1))).toNat)).toNat)).x2).fOff), .int .i64 ((((s0_1 ((s0_4 ((IntKind.i64.wrap ((s0_3 : Int) - 1))).toNat)).toNat)).x3).fKind), .int .u64 (nn (((s0_1 ((s0_4 ((IntKind.i64.wrap ((s0_3 : Int) - 1))).toNat)).toNat)).x3).fNum), .int .i64 ((((s0_1 ((s0_4 ((IntKind.i64.wrap ((s0_3 : Int) - 1))).toNat)).toNat)).x3).fId), .int .i64 ((((s0_1 ((s0_4 ((IntKind.i64.wrap ((s0_3 : Int) - 1))).toNat)).toNat)).x3).fOff), .int .i64 ((((s0_1 ((s0_4 ((IntKind.i64.wrap ((s0_3 : Int) - 1))).toNat)).toNat)).x4).fKind), .int .u64 (nn (((s0_1 ((s0_4 ((IntKind.i64.wrap ((s0_3 : Int) - 1))).toNat)).toNat)).x4).fNum), .int .i64 ((((s0_1 ((s0_4 ((IntKind.i64.wrap ((s0_3 : Int) - 1))).toNat)).toNat)).x4).fId), .int .i64 ((((s0_1 ((s0_4 ((IntKind.i64.wrap ((s0_3 : Int) - 1))).toNat)).toNat)).x4).fOff), .int .i64 ((((s0_1 ((s0_4 ((IntKind.i64.wrap ((s0_3 : Int) - 1))).toNat)).toNat)).x5).fKind), .int .u64 (nn (((s0_1 ((s0_4 ((IntKind.i64.wrap ((s0_3 : Int) - 1))).toNat)).toNat)).x5).fNum), .int .i64 ((((s0_1 ((s0_4 ((IntKind.i64.wrap ((s0_3 : Int) - 1))).toNat)).toNat)).x5).fId), .int .i64 ((((s0_1 ((s0_4 ((IntKind.i64.wrap ((s0_3 : Int) - 1))).toNat)).toNat)).x5).fOff), .int .i64 ((((s0_1 ((s0_4 ((IntKind.i64.wrap ((s0_3 : Int) - 1))).toNat)).toNat)).x6).fKind), .int .u64 (nn (((s0_1 ((s0_4 ((IntKind.i64.wrap ((s0_3 : Int) - 1))).toNat)).toNat)).x6).fNum), .int .i64 ((((s0_1 ((s0_4 ((IntKind.i64.wrap ((s0_3 : Int) - 1))).toNat)).toNat)).x6).fId), .int .i64 ((((s0_1 ((s0_4 ((IntKind.i64.wrap ((s0_3 : Int) - 1))).toNat)).toNat)).x6).fOff), .int .i64 ((((s0_1 ((s0_4 ((IntKind.i64.wrap ((s0_3 : Int) - 1))).toNat)).toNat)).x7).fKind), .int .u64 (nn (((s0_1 ((s0_4 ((IntKind.i64.wrap ((s0_3 : Int) - 1))).toNat)).toNat)).x7).fNum), .int .i64 ((((s0_1 ((s0_4 ((IntKind.i64.wrap ((s0_3 : Int) - 1))).toNat)).toNat)).x7).fId), .int .i64 ((((s0_1 ((s0_4 ((IntKind.i64.wrap ((s0_3 : Int) - 1))).toNat)).toNat)).x7).fOff), .int .i64 ((((s0_1 ((s0_4 ((IntKind.i64.wrap ((s0_3 : Int) - 1))).toNat)).toNat)).x8).fKind), .int .u64 (nn (((s0_1 ((s0_4 ((IntKind.i64.wrap ((s0_3 : Int) - 1))).toNat)).toNat)).x8).fNum), .int .i64 ((((s0_1 ((s0_4 ((IntKind.i64.wrap ((s0_3 : Int) - 1))).toNat)).toNat)).x8).fId), .int .i64 ((((s0_1 ((s0_4 ((IntKind.i64.wrap ((s0_3 : Int) - 1))).toNat)).toNat)).x8).fOff), .int .i64 ((((s0_1 ((s0_4 ((IntKind.i64.wrap ((s0_3 : Int) - 1))).toNat)).toNat)).x9).fKind), .int .u64 (nn (((s0_1 ((s0_4 ((IntKind.i64.wrap ((s0_3 : Int) - 1))).toNat)).toNat)).x9).fNum), .int .i64 ((((s0_1 ((s0_4 ((IntKind.i64.wrap ((s0_3 : Int) - 1))).toNat)).toNat)).x9).fId), .int .i64 ((((s0_1 ((s0_4 ((IntKind.i64.wrap ((s0_3 : Int) - 1))).toNat)).toNat)).x9).fOff), .int .i64 ((((s0_1 ((s0_4 ((IntKind.i64.wrap ((s0_3 : Int) - 1))).toNat)).toNat)).x10).fKind), .int .u64 (nn (((s0_1 ((s0_4 ((IntKind.i64.wrap ((s0_3 : Int) - 1))).toNat)).toNat)).x10).fNum), .int .i64 ((((s0_1 ((s0_4 ((IntKind.i64.wrap ((s0_3 : Int) - 1))).toNat)).toNat)).x10).fId), .int .i64 ((((s0_1 ((s0_4 ((IntKind.i64.wrap ((s0_3 : Int) - 1))).toNat)).toNat)).x10).fOff)] c_Arr42_len (inR_nat hq4) rfl), .cg (ok_fold_behind_v3 hU a0 p0 q0 n0 k0 A0 hR0 (s0_4 ((IntKind.i64.wrap ((s0_3 : Int) - 1))).toNat) (⟨(((s0_1 ((s0_4 ((IntKind.i64.wrap ((s0_3 : Int) - 1))).toNat)).toNat)).x0), (((s0_1 ((s0_4 ((IntKind.i64.wrap ((s0_3 : Int) - 1))).toNat)).toNat)).x1), (((s0_1 ((s0_4 ((IntKind.i64.wrap ((s0_3 : Int) - 1))).toNat)).toNat)).x2), (((s0_1 ((s0_4 ((IntKind.i64.wrap ((s0_3 : Int) - 1))).toNat)).toNat)).x3), (((s0_1 ((s0_4 ((IntKind.i64.wrap ((s0_3 : Int) - 1))).toNat)).toNat)).x4), (((s0_1 ((s0_4 ((IntKind.i64.wrap ((s0_3 : Int) - 1))).toNat)).toNat)).x5), (((s0_1 ((s0_4 ((IntKind.i64.wrap ((s0_3 : Int) - 1))).toNat)).toNat)).x6), (((s0_1 ((s0_4 ((IntKind.i64.wrap ((s0_3 : Int) - 1))).toNat)).toNat)).x7), (((s0_1 ((s0_4 ((IntKind.i64.wrap ((s0_3 : Int) - 1))).toNat)).toNat)).x8), (((s0_1 ((s0_4 ((IntKind.i64.wrap ((s0_3 : Int) - 1))).toNat)).toNat)).x9), (((s0_1 ((s0_4 ((IntKind.i64.wrap ((s0_3 : Int) - 1))).toNat)).toNat)).x10)⟩ : Arr42) rb1 e_rb1), .o, .a 13, .o, .o, .q (ixM_ok (kd := .i64) (T := 81) (x := (s0_4 ((IntKind.i64.wrap ((s0_3 : Int) - 1))).toNat)) (N := n0) (sz := 1) rfl (fun w => by kernel_rfl) hq4), .xg (ldRF_ok (T := 80) (e := 80) (T2 := 3) (f := cZ) (sz := 1) (N := n0) (k := ((s0_4 ((IntKind.i64.wrap ((s0_3 : Int) - 1))).toNat)).toNat) (D := (updF s0_2 ((s0_4 ((IntKind.i64.wrap ((s0_3 : Int) - 1))).toNat)).toNat (1, (fun _ => gb0_0)))) (fun w => by kernel_rfl) (inR_nat hq4) hq6) [6, 12], .o, .o, .cp, .cx (sp0_fold_look_v1_L1_L2v17_0_ok hU a0 p0 q0 n0 k0 A0 hR0 g0_0 g1_0 g1_1 g2_0 g2_1 g2_2 g2_3 s0_0 s0_1 s0_2 s0_3 s0_4 gb0_0 rb1 s0_0 s0_1 ((IntKind.i64.wrap ((s0_3 : Int) - 1))).toNat s0_4 0 gb2_0 gb2_1 gb2_2 gb2_3 gb2_4 gb2_5 e_gb2) [0, 1, 2, 3, 4, 5, 6, 7, 8, 9, 11, 12, 13, 10]]) [0, 1, 2, 3, 4, 5, 6, 12, 14] (fun b => rfl) (by decide) rfl rfl (fun b => by kernel_rfl)
                    · exact none_some e
              · exact none_some e
            · exact none_some e
          · exact none_some e
        · exact none_some e
      · cases e; exact ⟨ne_exit 2, goes_runM hU [.o, .o, .b (z_gtrF hq0)] [0, 1, 2, 3, 4, 5, 6, 7, 9] (fun b => rfl) (by decide) rfl rfl (fun b => by kernel_rfl)⟩) s r h
noncomputable def t0_fold_look_v1_L1_0 (a0 : Option Addr) (p0 : Nat) (q0 : Nat) (n0 : Nat) (k0 : Nat) (A0 : Nat → Insn) (g0_0 : Nat → Bool) (g1_0 : Nat) (g1_1 : Nat → Part) (g2_0 : Nat → Bool) (g2_1 : Nat → Arr42) (g2_2 : Nat) (g2_3 : Nat → Int) (s0_0 : Nat → Bool) (s0_1 : Nat → Arr42) (s0_2 : Nat → (Nat × (Nat → Int))) (s0_3 : Nat) (s0_4 : Nat → Int) (ls : List L1) : List Value := List.append [.slice a0 n0 (n0 + k0), ((lget ls 5).u 1), ((lget ls 5).u 2), .pointer (some ⟨(lget ls 2).n, 0, none⟩), ((lget ls 5).u 4), ((lget ls 5).u 5), ((lget ls 5).u 6), (rowV (lget ls 8) s0_3 1), ((lget ls 5).u 8), ((lget ls 5).u 9), (rowV (lget ls 6) n0 1)] (List.append (jks (lget ls 5).u 11 26) (List.append [(rowV (lget ls 4) g1_0 2), .int .i64 ((g1_0 : Int))] (List.append (jks (lget ls 5).u 39 25) (List.append [.slice a0 n0 (n0 + k0), .int .i64 ((n0 : Int)), (rowV (lget ls 6) n0 1)] (jks (lget ls 5).u 67 63)))))
def pre_fold_look_v1_L1_0 (a0 : Option Addr) (p0 : Nat) (q0 : Nat) (n0 : Nat) (k0 : Nat) (A0 : Nat → Insn) (g0_0 : Nat → Bool) (g1_0 : Nat) (g1_1 : Nat → Part) (g2_0 : Nat → Bool) (g2_1 : Nat → Arr42) (g2_2 : Nat) (g2_3 : Nat → Int) (s0_0 : Nat → Bool) (s0_1 : Nat → Arr42) (s0_2 : Nat → (Nat × (Nat → Int))) (s0_3 : Nat) (s0_4 : Nat → Int) (ls : List L1) : List Obj := [rowO (lget ls 0) (esG cB n0 s0_0) 4 n0 1, rowO (lget ls 1) (esG c_Arr42 n0 s0_1) 42 n0 44, .cells #[(rowV (lget ls 3) n0 1), (rowV (lget ls 0) n0 1), (rowV (lget ls 1) n0 44)] 63, rowO (lget ls 3) (esG cB n0 g0_0) 4 n0 1, rowO (lget ls 4) (esG c_Part g1_0 g1_1) 75 g1_0 2, unb, rfR (lget ls 6) (lget ls 7) 80 1 n0 s0_2, rfO 3 cZ 1 n0 s0_2, rowO (lget ls 8) (esG cZ s0_3 s0_4) 3 s0_3 1]
theorem sp0_fold_look_v1_L1_0_ok (g2_0 : Nat → Bool) (g2_1 : Nat → Arr42) (g2_2 : Nat) (g2_3 : Nat → Int) (s0_0 : Nat → Bool) (s0_1 : Nat → Arr42) (s0_2 : Nat → (Nat × (Nat → Int))) (s0_3 : Nat) (s0_4 : Nat → Int) (c0_0 : Nat → Bool) (c0_1 : Nat → Arr42) (c0_2 : Nat → (Nat × (Nat → Int))) (h : lpO (st_fold_look_v1_L1 n0 A0 g0_0) (.c0 s0_0 s0_1 s0_2 s0_3 s0_4) = some (.e0 c0_0 c0_1 c0_2)) : SpcG Tryz.prog M B0 S ⟨fun ls => .code (.loop bd_fold_look_v1_L1) (t0_fold_look_v1_L1_0 a0 p0 q0 n0 k0 A0 g0_0 g1_0 g1_1 g2_0 g2_1 g2_2 g2_3 s0_0 s0_1 s0_2 s0_3 s0_4 ls), pre_fold_look_v1_L1_0 a0 p0 q0 n0 k0 A0 g0_0 g1_0 g1_1 g2_0 g2_1 g2_2 g2_3 s0_0 s0_1 s0_2 s0_3 s0_4, 3, (.exit 2), fun ls => vf_fold_look_v1_L1 a0 p0 q0 n0 k0 A0 g0_0 g1_0 g1_1 g2_0 g2_1 g2_2 g2_3 (.e0 c0_0 c0_1 c0_2) (ls.take 7 ++ ls.drop 9), fun ls => (Hf_fold_look_v1_L1 a0 p0 q0 n0 k0 A0 g0_0 g1_0 g1_1 g2_0 g2_1 g2_2 g2_3 (.e0 c0_0 c0_1 c0_2) (ls.take 7 ++ ls.drop 9)).take 7 ++ List.replicate 2 unb, fun ls => (Hf_fold_look_v1_L1 a0 p0 q0 n0 k0 A0 g0_0 g1_0 g1_1 g2_0 g2_1 g2_2 g2_3 (.e0 c0_0 c0_1 c0_2) (ls.take 7 ++ ls.drop 9)).drop 7⟩ :=
  spc_of_goesM hU 0 (k0 := 9) (go_fold_look_v1_L1 hU a0 p0 q0 n0 k0 A0 hR0 g0_0 g1_0 g1_1 g2_0 g2_1 g2_2 g2_3 _ _ h) (t0_fold_look_v1_L1_0 a0 p0 q0 n0 k0 A0 g0_0 g1_0 g1_1 g2_0 g2_1 g2_2 g2_3 s0_0 s0_1 s0_2 s0_3 s0_4) (pre_fold_look_v1_L1_0 a0 p0 q0 n0 k0 A0 g0_0 g1_0 g1_1 g2_0 g2_1 g2_2 g2_3 s0_0 s0_1 s0_2 s0_3 s0_4) (fun _ => rfl) (fun ls h => by match ls, h with | [l0, l1, l2, l3, l4, l5, l6, l7, l8], _ => exact ⟨by kernel_rfl, by kernel_rfl⟩) (fun ls h => by match ls, h with | [l0, l1, l2, l3, l4, l5, l6, l7, l8], _ => rfl) (by decide) (by decide) (fun ls => rfl)
inductive R_fold_look_v1 where
  | e0 (c0_0 : Nat → Bool) (c0_1 : Nat → Bool) (c0_2 : Nat → Arr42)
noncomputable def m_fold_look_v1 (n0 : Nat) (A0 : Nat → Insn) : Option R_fold_look_v1 :=
  bif decide (n0 ≤ 1000000) then
    ((m_flow_Reached_v1 n0 A0).bind fun g0 => match g0 with
    | .e0 g0_0 =>
    (m_insn_Subs n0 A0).bind fun g1 => match g1 with
    | .e0 g1_0 g1_1 => (some (.e0 g0_0 (fun _ => false) (fun _ => (⟨(⟨0, 0#64, 0, 0⟩ : Val), (⟨0, 0#64, 0, 0⟩ : Val), (⟨0, 0#64, 0, 0⟩ : Val), (⟨0, 0#64, 0, 0⟩ : Val), (⟨0, 0#64, 0, 0⟩ : Val), (⟨0, 0#64, 0, 0⟩ : Val), (⟨0, 0#64, 0, 0⟩ : Val), (⟨0, 0#64, 0, 0⟩ : Val), (⟨0, 0#64, 0, 0⟩ : Val), (⟨0, 0#64, 0, 0⟩ : Val), (⟨0, 0#64, 0, 0⟩ : Val)⟩ : Arr42))))
    | .e1 g1_0 g1_1 => ((lpO (st_fold_look_v1_L0 n0 g0_0 g1_0 g1_1) (.c0)).bind fun g2 => match g2 with
      | .e0 g2_0 g2_1 g2_2 g2_3 =>
      (lpO (st_fold_look_v1_L1 n0 A0 g0_0) (.c0 g2_0 g2_1 (fun _ => (0, fun _ => 0)) g2_2 g2_3)).bind fun g3 => match g3 with
      | .e0 g3_0 g3_1 g3_2 =>
      some (.e0 g0_0 g3_0 g3_1)))
  else (none)
def sq0_fold_look_v1 (a0 : Option Addr) (p0 : Nat) (q0 : Nat) (n0 : Nat) (k0 : Nat) (A0 : Nat → Insn) (c0_0 : Nat → Bool) (c0_1 : Nat → Bool) (c0_2 : Nat → Arr42) : Spc := ⟨fun ls => .call 11 #[.slice a0 n0 (n0 + k0)], fun ls => [], 4, .normal, fun ls => [.pointer (some ⟨(lget ls 0).n, 0, none⟩)], fun ls => [], fun ls => [.cells #[(rowV (lget ls 1) n0 1), (rowV (lget ls 2) n0 1), (rowV (lget ls 3) n0 44)] 63, rowO (lget ls 1) (esG cB n0 c0_0) 4 n0 1, rowO (lget ls 2) (esG cB n0 c0_1) 4 n0 1, rowO (lget ls 3) (esG c_Arr42 n0 c0_2) 42 n0 44]⟩
end
section
variable {M : Nat → Prop} {B0 : Nat} {S : World → Prop} (hU : Up M B0 S)
include hU
theorem ok0_fold_look_v1 (a0 : Option Addr) (p0 : Nat) (q0 : Nat) (n0 : Nat) (k0 : Nat) (A0 : Nat → Insn) (hR0 : Ro S c_Insn 5 a0 p0 q0 n0 A0) (c0_0 : Nat → Bool) (c0_1 : Nat → Bool) (c0_2 : Nat → Arr42) (e : m_fold_look_v1 n0 A0 = some (.e0 c0_0 c0_1 c0_2)) : SpcG Tryz.prog M B0 S (sq0_fold_look_v1 a0 p0 q0 n0 k0 A0 c0_0 c0_1 c0_2) := by
  unfold m_fold_look_v1 at e
  replace e := cond_eq_or e
  rcases e with ⟨hq0, e⟩ | ⟨hq0, e⟩
  · replace e := bindO_eq e
    obtain ⟨g0, e_g0, e⟩ := e
    obtain ⟨g0_0⟩ := g0
    try dsimp only at e
    replace e := bindO_eq e
    obtain ⟨g1, e_g1, e⟩ := e
    let P1 : List (PG Tryz.prog M B0 S) := [.o, .rm [0, 1, 3, 4] [2, 5] [6, 7, 8] [(2, ⟨_, mkRow_ok rt61 (f := cB) (a0 := false) cB_len (by kernel_rfl) hq0 (by decide)⟩), (5, ⟨_, mkRow_ok rt34 (f := c_Arr42) (a0 := (⟨(⟨0, 0#64, 0, 0⟩ : Val), (⟨0, 0#64, 0, 0⟩ : Val), (⟨0, 0#64, 0, 0⟩ : Val), (⟨0, 0#64, 0, 0⟩ : Val), (⟨0, 0#64, 0, 0⟩ : Val), (⟨0, 0#64, 0, 0⟩ : Val), (⟨0, 0#64, 0, 0⟩ : Val), (⟨0, 0#64, 0, 0⟩ : Val), (⟨0, 0#64, 0, 0⟩ : Val), (⟨0, 0#64, 0, 0⟩ : Val), (⟨0, 0#64, 0, 0⟩ : Val)⟩ : Arr42)) c_Arr42_len (by kernel_rfl) hq0 (by decide)⟩)], .o, .o, .o, .o, .o, .o, .o, .o, .o, .xg (ok0_flow_Reached_v1 hU a0 p0 q0 n0 k0 A0 hR0 g0_0 e_g0) [], .o, .o, .o, .o, .o, .a 2, .o]
    rcases g1 with ⟨g1_0, g1_1⟩ | ⟨g1_0, g1_1⟩
    · try dsimp only at e
      injection e with e; injection e with i0 i1 i2; subst i0 i1 i2; exact fn_specG hU (P := Tryz.prog) Tryz.func11 (fun xs w => by kernel_rfl) 0 _ _ (fun _ => rfl) _ _ _ [2, 3, 0, 1] (P1 ++ [.xg (ok0_insn_Subs hU a0 p0 q0 n0 k0 A0 hR0 g1_0 g1_1 e_g1) [], .o, .o, .o, .o, .o, .o, .o, .o, .o, .o, .o, .o, .o, .o, .xg (sqMkRF_ok (T2 := 3) rt81 (f := cZ) (sz := 1) (g0 := fun _ => 0) (by kernel_rfl) hq0 (by decide)) [], .o, .o, .o, .o, .o, .o]) [] (fun b => by kernel_rfl)
    · try dsimp only at e
      replace e := bindO_eq e
      obtain ⟨g2, e_g2, e⟩ := e
      obtain ⟨g2_0, g2_1, g2_2, g2_3⟩ := g2
      try dsimp only at e
      replace e := bindO_eq e
      obtain ⟨g3, e_g3, e⟩ := e
      obtain ⟨g3_0, g3_1, g3_2⟩ := g3
      try dsimp only at e
      injection e with e; injection e with i0 i1 i2; subst i0 i1 i2; exact fn_specG hU (P := Tryz.prog) Tryz.func11 (fun xs w => by kernel_rfl) 0 _ _ (fun _ => rfl) _ _ _ [2, 3, 0, 1] (P1 ++ [.xg (ok1_insn_Subs hU a0 p0 q0 n0 k0 A0 hR0 g1_0 g1_1 e_g1) [], .o, .o, .o, .o, .o, .o, .o, .o, .o, .o, .o, .cp, .cx (sp0_fold_look_v1_L0_0_ok hU a0 p0 q0 n0 k0 A0 hR0 g0_0 g1_0 g1_1  g2_0 g2_1 g2_2 g2_3 e_g2) [0, 1, 2, 3, 4], .o, .o, .xg (sqMkRF_ok (T2 := 3) rt81 (f := cZ) (sz := 1) (g0 := fun _ => 0) (by kernel_rfl) hq0 (by decide)) [], .o, .cp, .cx (sp0_fold_look_v1_L1_0_ok hU a0 p0 q0 n0 k0 A0 hR0 g0_0 g1_0 g1_1 g2_0 g2_1 g2_2 g2_3 g2_0 g2_1 (fun _ => (0, fun _ => 0)) g2_2 g2_3 g3_0 g3_1 g3_2 e_g3) [0, 1, 2, 3, 4, 6, 7, 8, 5], .o, .o]) [] (fun b => by kernel_rfl)
  · exact none_some e
end

end Go.Proofs.YtcdkghdjfcccfaaGreat


