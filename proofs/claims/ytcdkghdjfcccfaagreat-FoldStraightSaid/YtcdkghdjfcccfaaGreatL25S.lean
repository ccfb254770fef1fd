/-
  The law on operations without jumps, by the program's text.
-/
import Derived.Test.YtcdkghdjfcccfaaGreatL25F
namespace Go.Proofs.YtcdkghdjfcccfaaGreat
open Go.RowKit
set_option linter.unusedVariables false
set_option linter.unusedSimpArgs false
set_option linter.unusedSectionVars false
set_option maxRecDepth 100000
set_option maxHeartbeats 4000000
structure Arr22 where
  x0 : BitVec 32
  x1 : BitVec 32
  x2 : BitVec 32
  x3 : BitVec 32
abbrev c_Arr22 (x : Arr22) : List Value := [.int .i32 (ii x.x0), .int .i32 (ii x.x1), .int .i32 (ii x.x2), .int .i32 (ii x.x3)]
def v_Arr22 (x : Arr22) : Value := .agg #[.int .i32 (ii x.x0), .int .i32 (ii x.x1), .int .i32 (ii x.x2), .int .i32 (ii x.x3)]
def g_Arr22 (x : Arr22) (j : Nat) : BitVec 32 := if j = 0 then x.x0 else if j = 1 then x.x1 else if j = 2 then x.x2 else x.x3
abbrev ci32 (x : BitVec 32) : List Value := [.int .i32 (ii x)]
theorem ci32_len (x : BitVec 32) : (ci32 x).length = 1 := rfl
abbrev cu64 (x : BitVec 64) : List Value := [.int .u64 (nn x)]
theorem cu64_len (x : BitVec 64) : (cu64 x).length = 1 := rfl
theorem cu64_one (x : BitVec 64) : ((cu64 x).all fun u => u.oneCell') = true := rfl
structure Arr26 where
  x0 : BitVec 64
  x1 : BitVec 64
  x2 : BitVec 64
  x3 : BitVec 64
abbrev c_Arr26 (x : Arr26) : List Value := [.int .u64 (nn x.x0), .int .u64 (nn x.x1), .int .u64 (nn x.x2), .int .u64 (nn x.x3)]
def v_Arr26 (x : Arr26) : Value := .agg #[.int .u64 (nn x.x0), .int .u64 (nn x.x1), .int .u64 (nn x.x2), .int .u64 (nn x.x3)]
theorem c_Arr26_len (x : Arr26) : (c_Arr26 x).length = 4 := rfl
theorem c_Arr26_one (x : Arr26) : ((c_Arr26 x).all fun u => u.oneCell') = true := rfl
def g_Arr26 (x : Arr26) (j : Nat) : BitVec 64 := if j = 0 then x.x0 else if j = 1 then x.x1 else if j = 2 then x.x2 else x.x3
theorem g_Arr26_at (x : Arr26) {j : Nat} (h : j < 4) : ((c_Arr26 x).drop (j * 1)).take 1 = [.int .u64 (nn (g_Arr26 x j))] := by
  match j, h with
  | 0, _ => rfl
  | 1, _ => rfl
  | 2, _ => rfl
  | 3, _ => rfl
  | j + 4, h => omega
noncomputable def zr30 : Value := (Tryz.prog.info? 26).bind TypeInfo.zero |>.getD undef
theorem rt30 : RowT Tryz.prog 30 26 ((Tryz.prog.info? 26).getD default) zr30 4 32 := ⟨by kernel_rfl, by kernel_rfl, by kernel_rfl, by kernel_rfl, by kernel_rfl, by kernel_rfl, by decide⟩
theorem eqi41 (d : Nat) (a0 b0 : Int) (a1 b1 : BitVec 64) (a2 b2 : Int) (a3 b3 : Int) (w : World) : (Op.equalIn (d + 2) 41 (.agg #[.int .i64 (a0), .int .u64 (nn a1), .int .i64 (a2), .int .i64 (a3)]) (.agg #[.int .i64 (b0), .int .u64 (nn b1), .int .i64 (b2), .int .i64 (b3)])).run Tryz.prog w = .ok ((a0 == b0) && ((a1 == b1) && ((a2 == b2) && (a3 == b3)))) w :=
  eqi_of (d := d + 1) (l := [fl Tryz.prog 41 0, fl Tryz.prog 41 1, fl Tryz.prog 41 2, fl Tryz.prog 41 3]) (by kernel_rfl) (by kernel_rfl) (by kernel_rfl) (eqf_cons (f := fl Tryz.prog 41 0) (a := .int .i64 (a0)) (b := .int .i64 (b0)) (by kernel_rfl) (by kernel_rfl) (by kernel_rfl) (eq_z (d := d + 0) (k' := .i64) a0 b0 (by kernel_rfl)) (eqf_cons (f := fl Tryz.prog 41 1) (a := .int .u64 (nn a1)) (b := .int .u64 (nn b1)) (by kernel_rfl) (by kernel_rfl) (by kernel_rfl) (eq_u (d := d + 0) (k' := .u64) a1 b1 (by kernel_rfl)) (eqf_cons (f := fl Tryz.prog 41 2) (a := .int .i64 (a2)) (b := .int .i64 (b2)) (by kernel_rfl) (by kernel_rfl) (by kernel_rfl) (eq_z (d := d + 0) (k' := .i64) a2 b2 (by kernel_rfl)) (eqf_last (f := fl Tryz.prog 41 3) (a := .int .i64 (a3)) (b := .int .i64 (b3)) (by kernel_rfl) (by kernel_rfl) (by kernel_rfl) (eq_z (d := d + 0) (k' := .i64) a3 b3 (by kernel_rfl)) ))))
inductive R_fold_Known where
  | e0 (c0_0 : Nat → Arr42)
noncomputable def m_fold_Known (n0 : Nat) (A0 : Nat → Insn) : Option R_fold_Known :=
  (m_insn_Check n0 A0).bind fun r0 =>
  bif r0.2 == 0 then
    ((m_fold_look_v1 n0 A0).bind fun g1 => match g1 with
    | .e0 g1_0 g1_1 g1_2 =>
    some (.e0 g1_2))
  else (none)
def sq0_fold_Known (a0 : Option Addr) (p0 : Nat) (q0 : Nat) (n0 : Nat) (k0 : Nat) (A0 : Nat → Insn) (c0_0 : Nat → Arr42) : Spc := ⟨fun ls => .call 6 #[.slice a0 n0 (n0 + k0)], fun ls => [], 1, .normal, fun ls => [.tuple #[(rowV (lget ls 0) n0 44), .int .i64 (0)]], fun ls => [], fun ls => [rowO (lget ls 0) (esG c_Arr42 n0 c0_0) 42 n0 44]⟩
section
variable {M : Nat → Prop} {B0 : Nat} {S : World → Prop} (hU : Up M B0 S)
include hU
theorem ok0_fold_Known (a0 : Option Addr) (p0 : Nat) (q0 : Nat) (n0 : Nat) (k0 : Nat) (A0 : Nat → Insn) (hR0 : Ro S c_Insn 5 a0 p0 q0 n0 A0) (c0_0 : Nat → Arr42) (e : m_fold_Known n0 A0 = some (.e0 c0_0)) : SpcG Tryz.prog M B0 S (sq0_fold_Known a0 p0 q0 n0 k0 A0 c0_0) := by
  unfold m_fold_Known at e
  replace e := bindO_eq e
  obtain ⟨r0, e_r0, e⟩ := e
  try dsimp only at e
  replace e := cond_eq_or e
  rcases e with ⟨hq0, e⟩ | ⟨hq0, e⟩
  · replace e := bindO_eq e
    obtain ⟨g1, e_g1, e⟩ := e
    obtain ⟨g1_0, g1_1, g1_2⟩ := g1
    try dsimp only at e
    injection e with e; injection e with i0; subst i0; exact fn_specG hU (P := Tryz.prog) Tryz.func6 (fun xs w => by kernel_rfl) 0 _ _ (fun _ => rfl) _ _ _ [3] [.o, .o, .o, .cg (ok_insn_Check hU a0 p0 q0 n0 k0 A0 hR0 r0 e_r0), .o, .o, .o, .o, .o, .o, .b (z_neqT hq0), .o, .xg (ok0_fold_look_v1 hU a0 p0 q0 n0 k0 A0 hR0 g1_0 g1_1 g1_2 e_g1) [], .o, .o, .a 0, .o, .o] [] (fun b => by kernel_rfl)
  · exact none_some e
inductive R_slices_Clone_api_Insn_api_Insn_v1 where
  | e0 (c0_0 : Nat → Insn)
noncomputable def m_slices_Clone_api_Insn_api_Insn_v1 (w0 : Nat) (w1 : Nat → Insn) : Option R_slices_Clone_api_Insn_api_Insn_v1 :=
  bif decide (w0 ≤ 1000000) then
    (some (.e0 (catF (fun _ => (⟨0#8, 0#8, 0#8, 0#16, 0#32⟩ : Insn)) 0 w1)))
  else (none)
def sq0_slices_Clone_api_Insn_api_Insn_v1 (w0 : Nat) (w1 : Nat → Insn) (c0_0 : Nat → Insn) : Spc := ⟨fun ls => .call 12 #[(rowV (lget ls 0) w0 5)], fun ls => [rowO (lget ls 0) (esG c_Insn w0 w1) 29 w0 5], 1, .normal, fun ls => [(rowV (lget ls 1) (0 + w0) 5)], fun ls => [rowO (lget ls 0) (esG c_Insn w0 w1) 29 w0 5], fun ls => [rowO (lget ls 1) (esG c_Insn (0 + w0) c0_0) 29 (0 + w0) 5]⟩
theorem ok0_slices_Clone_api_Insn_api_Insn_v1 (w0 : Nat) (w1 : Nat → Insn) (c0_0 : Nat → Insn) (e : m_slices_Clone_api_Insn_api_Insn_v1 w0 w1 = some (.e0 c0_0)) : SpcG Tryz.prog M B0 S (sq0_slices_Clone_api_Insn_api_Insn_v1 w0 w1 c0_0) := by
  unfold m_slices_Clone_api_Insn_api_Insn_v1 at e
  replace e := cond_eq_or e
  rcases e with ⟨hq0, e⟩ | ⟨hq0, e⟩
  · injection e with e; injection e with i0; subst i0; exact fn_specG hU (P := Tryz.prog) Tryz.func12 (fun xs w => by kernel_rfl) 1 _ _ (fun _ => rfl) _ _ _ [2] [.o, .o, .o, .o, .o, .x (sqApS_ok (ty := 23) rt23 #[false, false] (N := 0) (m := w0) (A := (fun _ => (⟨0#8, 0#8, 0#8, 0#16, 0#32⟩ : Insn))) (B := w1) (T' := 29) .plain c_Insn_len c_Insn_one (by decide) hq0 (by decide) rfl) [1, 0], .o] [] (fun b => by kernel_rfl)
  · exact none_some e
noncomputable def m_fold_movesImmediate_v3 (y0 : Insn) : Bool :=
  bif m_fold_isAlu_v4 y0 then
    (bif (y0.fOp >>> 4) == 11#8 then
      (((y0.fOp &&& 8#8) == 0#8))
    else (false))
  else (false)
theorem ok_fold_movesImmediate_v3 (y0 : Insn) (r : Bool) (e : m_fold_movesImmediate_v3 y0 = r) : ConG Tryz.prog S 14 #[(v_Insn y0)] (.bool (r)) := by
  unfold m_fold_movesImmediate_v3 at e
  replace e := cond_eq_or e
  rcases e with ⟨hq0, e⟩ | ⟨hq0, e⟩
  · replace e := cond_eq_or e
    let P1 : List (PG Tryz.prog M B0 S) := [.o, .o, .a 0, .cg (ok_fold_isAlu_v4 hU y0 true hq0), .o, .o, .a 0, .ov (u8_shr Tryz.prog 5 (.tmp 7) (.const (.int .u64 (4))) y0.fOp 4 .u64 rfl)]
    rcases e with ⟨hq1, e⟩ | ⟨hq1, e⟩
    · subst e; exact fn_conG hU (P := Tryz.prog) Tryz.func14 (fun xs w => by kernel_rfl) _ _ (P1 ++ [.t (u_eq (y0.fOp >>> 4) (11#8)) hq1, .o, .o, .o, .a 0, .v .u8 (u8_and y0.fOp (8#8)), .t (u_eq (y0.fOp &&& 8#8) (0#8)) rfl, .o, .o]) [] (fun b => by kernel_rfl)
    · subst e; exact fn_conG hU (P := Tryz.prog) Tryz.func14 (fun xs w => by kernel_rfl) _ _ (P1 ++ [.t (u_eq (y0.fOp >>> 4) (11#8)) hq1, .o, .o, .o, .o]) [] (fun b => by kernel_rfl)
  · subst e; exact fn_conG hU (P := Tryz.prog) Tryz.func14 (fun xs w => by kernel_rfl) _ _ [.o, .o, .a 0, .cg (ok_fold_isAlu_v4 hU y0 false hq0), .o, .o, .o, .o, .o] [] (fun b => by kernel_rfl)
inductive Sh_fold_Fold_v1_L0 where
  | c0 (s0_0 : Nat → Insn) (s0_1 : Int)
inductive Ex_fold_Fold_v1_L0 where
  | e0 (c0_0 : Nat → Insn)
noncomputable def st_fold_Fold_v1_L0 (w0 : Nat) (w1 : Nat → Insn) (g1_0 : Nat → Bool) (g1_2 : Nat → Arr42) : Sh_fold_Fold_v1_L0 → Option (Sh_fold_Fold_v1_L0 ⊕ Ex_fold_Fold_v1_L0)
  | .c0 s0_0 s0_1 =>
    bif decide (s0_1 < (w0 : Int)) then
      (bif inR s0_1 w0 then
        (bif (g1_0 (s0_1).toNat) then
          (bif m_fold_isAlu_v4 ((w1 (s0_1).toNat)) then
            (bif m_fold_movesImmediate_v3 ((w1 (s0_1).toNat)) then
              (some (.inl (.c0 s0_0 (IntKind.i64.wrap (s0_1 + 1)))))
            else ((m_fold_result_v3 ((w1 (s0_1).toNat)) (⟨(((g1_2 (s0_1).toNat)).x0), (((g1_2 (s0_1).toNat)).x1), (((g1_2 (s0_1).toNat)).x2), (((g1_2 (s0_1).toNat)).x3), (((g1_2 (s0_1).toNat)).x4), (((g1_2 (s0_1).toNat)).x5), (((g1_2 (s0_1).toNat)).x6), (((g1_2 (s0_1).toNat)).x7), (((g1_2 (s0_1).toNat)).x8), (((g1_2 (s0_1).toNat)).x9), (((g1_2 (s0_1).toNat)).x10)⟩ : Arr42)).bind fun rb0 =>
            bif ((rb0.fKind == 0) && ((rb0.fNum == 0#64) && ((rb0.fId == 0) && (rb0.fOff == 0)))) then
              (some (.inl (.c0 s0_0 (IntKind.i64.wrap (s0_1 + 1)))))
            else (bindT (m_alu_Sign_v3 (rb0.fNum.setWidth 32)) fun rb1 =>
            bif rb0.fNum == rb1 then
              (bif inR s0_1 (0 + w0) then
                (bindT (updF s0_0 (s0_1).toNat (⟨183#8, ((w1 (s0_1).toNat)).fDst, 0#8, 0#16, (rb0.fNum.setWidth 32)⟩ : Insn)) fun rb2 =>
                some (.inl (.c0 rb2 (IntKind.i64.wrap (s0_1 + 1)))))
              else (none))
            else (some (.inl (.c0 s0_0 (IntKind.i64.wrap (s0_1 + 1))))))))
          else (some (.inl (.c0 s0_0 (IntKind.i64.wrap (s0_1 + 1))))))
        else (some (.inl (.c0 s0_0 (IntKind.i64.wrap (s0_1 + 1))))))
      else (none))
    else (some (.inr (.e0 s0_0)))
noncomputable def bd_fold_Fold_v1_L0 : Code := codeOf Tryz.f7 [1, 1, 1, 1, 0, 1, 0, 0]
def fl_fold_Fold_v1_L0 (w0 : Nat) (w1 : Nat → Insn) (r0 : (Int) × (Int)) (g1_0 : Nat → Bool) (g1_1 : Nat → Bool) (g1_2 : Nat → Arr42) (g2_0 : Nat → Insn) : Sh_fold_Fold_v1_L0 → List L1 → List Value
  | .c0 s0_0 s0_1, ls => [.pointer (some ⟨(lget ls 1).n, 0, none⟩), (rowV (lget ls 5) (0 + w0) 5), (rowV (lget ls 0) w0 5), .int .i64 ((w0 : Int)), .int .i64 (s0_1)]
def mf_fold_Fold_v1_L0 : Sh_fold_Fold_v1_L0 → List (Nat × Nat)
  | .c0 _ _ => [(0, 6), (2, 16), (3, 53)]
noncomputable def fr_fold_Fold_v1_L0 (w0 : Nat) (w1 : Nat → Insn) (r0 : (Int) × (Int)) (g1_0 : Nat → Bool) (g1_1 : Nat → Bool) (g1_2 : Nat → Arr42) (g2_0 : Nat → Insn) (s : Sh_fold_Fold_v1_L0) : List L1 → List Value := mrgF (mf_fold_Fold_v1_L0 s) (fl_fold_Fold_v1_L0 w0 w1 r0 g1_0 g1_1 g1_2 g2_0 s) 6
def Hs_fold_Fold_v1_L0 (w0 : Nat) (w1 : Nat → Insn) (r0 : (Int) × (Int)) (g1_0 : Nat → Bool) (g1_1 : Nat → Bool) (g1_2 : Nat → Arr42) (g2_0 : Nat → Insn) : Sh_fold_Fold_v1_L0 → List L1 → List Obj
  | .c0 s0_0 s0_1, ls => [rowO (lget ls 0) (esG c_Insn w0 w1) 29 w0 5, .cells #[(rowV (lget ls 2) w0 1), (rowV (lget ls 3) w0 1), (rowV (lget ls 4) w0 44)] 63, rowO (lget ls 2) (esG cB w0 g1_0) 4 w0 1, rowO (lget ls 3) (esG cB w0 g1_1) 4 w0 1, rowO (lget ls 4) (esG c_Arr42 w0 g1_2) 42 w0 44, rowO (lget ls 5) (esG c_Insn (0 + w0) s0_0) 29 (0 + w0) 5, unb]
def vl_fold_Fold_v1_L0 (w0 : Nat) (w1 : Nat → Insn) (r0 : (Int) × (Int)) (g1_0 : Nat → Bool) (g1_1 : Nat → Bool) (g1_2 : Nat → Arr42) (g2_0 : Nat → Insn) : Ex_fold_Fold_v1_L0 → List L1 → List Value
  | .e0 c0_0, ls => [.pointer (some ⟨(lget ls 1).n, 0, none⟩), (rowV (lget ls 5) (0 + w0) 5), (rowV (lget ls 0) w0 5), .int .i64 ((w0 : Int))]
def mk_fold_Fold_v1_L0 : Ex_fold_Fold_v1_L0 → List (Nat × Nat)
  | .e0 _ => [(0, 6), (2, 16), (2, 54)]
noncomputable def vf_fold_Fold_v1_L0 (w0 : Nat) (w1 : Nat → Insn) (r0 : (Int) × (Int)) (g1_0 : Nat → Bool) (g1_1 : Nat → Bool) (g1_2 : Nat → Arr42) (g2_0 : Nat → Insn) (r : Ex_fold_Fold_v1_L0) : List L1 → List Value := mrgF (mk_fold_Fold_v1_L0 r) (vl_fold_Fold_v1_L0 w0 w1 r0 g1_0 g1_1 g1_2 g2_0 r) 6
def Hf_fold_Fold_v1_L0 (w0 : Nat) (w1 : Nat → Insn) (r0 : (Int) × (Int)) (g1_0 : Nat → Bool) (g1_1 : Nat → Bool) (g1_2 : Nat → Arr42) (g2_0 : Nat → Insn) : Ex_fold_Fold_v1_L0 → List L1 → List Obj
  | .e0 c0_0, ls => [rowO (lget ls 0) (esG c_Insn w0 w1) 29 w0 5, .cells #[(rowV (lget ls 2) w0 1), (rowV (lget ls 3) w0 1), (rowV (lget ls 4) w0 44)] 63, rowO (lget ls 2) (esG cB w0 g1_0) 4 w0 1, rowO (lget ls 3) (esG cB w0 g1_1) 4 w0 1, rowO (lget ls 4) (esG c_Arr42 w0 g1_2) 42 w0 44, rowO (lget ls 5) (esG c_Insn (0 + w0) c0_0) 29 (0 + w0) 5, unb]
def ex_fold_Fold_v1_L0 : Ex_fold_Fold_v1_L0 → Ex
  | .e0 _ => (.exit 0)
end
section
variable {M : Nat → Prop} {B0 : Nat} {S : World → Prop} (hU : Up M B0 S) (w0 : Nat) (w1 : Nat → Insn) (r0 : (Int) × (Int)) (g1_0 : Nat → Bool) (g1_1 : Nat → Bool) (g1_2 : Nat → Arr42) (g2_0 : Nat → Insn)
include hU w0 w1 r0 g1_0 g1_1 g1_2 g2_0
theorem go_fold_Fold_v1_L0 (s : Sh_fold_Fold_v1_L0) (r : Ex_fold_Fold_v1_L0) (h : lpO (st_fold_Fold_v1_L0 w0 w1 g1_0 g1_2) s = some r) : GoesG Tryz.prog M B0 S (.loop bd_fold_Fold_v1_L0) 7 (fr_fold_Fold_v1_L0 w0 w1 r0 g1_0 g1_1 g1_2 g2_0 s) (Hs_fold_Fold_v1_L0 w0 w1 r0 g1_0 g1_1 g1_2 g2_0 s) (ex_fold_Fold_v1_L0 r) 6 (vf_fold_Fold_v1_L0 w0 w1 r0 g1_0 g1_1 g1_2 g2_0 r) (Hf_fold_Fold_v1_L0 w0 w1 r0 g1_0 g1_1 g1_2 g2_0 r) 7 :=
  goes_lpO (fun s q e => by
    cases s with
    | c0 s0_0 s0_1 =>
      unfold st_fold_Fold_v1_L0 at e
      dsimp only at e
      replace e := cond_eq_or e
      rcases e with ⟨hq0, e⟩ | ⟨hq0, e⟩
      · replace e := cond_eq_or e
        let P1 : List (PG Tryz.prog M B0 S) := [.b (z_lssT hq0), .o]
        rcases e with ⟨hq1, e⟩ | ⟨hq1, e⟩
        · replace e := cond_eq_or e
          let P2 : List (PG Tryz.prog M B0 S) := P1 ++ [.q (ixM_ok (kd := .i64) (T := 23) (x := s0_1) (N := w0) (sz := 5) rfl (fun w => by kernel_rfl) hq1), .l (accG (i := 0) (f := c_Insn) (A := w1) (k := (s0_1).toNat) 0 [.int .u8 (nn ((w1 (s0_1).toNat)).fOp), .int .u8 (nn ((w1 (s0_1).toNat)).fDst), .int .u8 (nn ((w1 (s0_1).toNat)).fSrc), .int .i16 (ii ((w1 (s0_1).toNat)).fOff), .int .i32 (ii ((w1 (s0_1).toNat)).fImm)] c_Insn_len (inR_nat hq1) rfl), .o, .o, .a 7, .o, .o, .o, .a 1, .o, .q (ixM_ok (kd := .i64) (T := 61) (x := s0_1) (N := w0) (sz := 1) rfl (fun w => by kernel_rfl) hq1)]
          rcases e with ⟨hq2, e⟩ | ⟨hq2, e⟩
          · replace e := cond_eq_or e
            let P3 : List (PG Tryz.prog M B0 S) := P2 ++ [.l (accG (i := 2) (f := cB) (A := g1_0) (k := (s0_1).toNat) 0 [.bool true] cB_len (inR_nat hq1) (congrArg (fun b => [Value.bool b]) hq2)), .o, .o, .a 7]
            rcases e with ⟨hq3, e⟩ | ⟨hq3, e⟩
            · replace e := cond_eq_or e
              let P4 : List (PG Tryz.prog M B0 S) := P3 ++ [.cg (ok_fold_isAlu_v4 hU ((w1 (s0_1).toNat)) true hq3), .o, .o, .o, .a 7]
              rcases e with ⟨hq4, e⟩ | ⟨hq4, e⟩
              · cases e; exact goes_runM hU (P4 ++ [.cg (ok_fold_movesImmediate_v3 hU ((w1 (s0_1).toNat)) true hq4), .o, .o, .o]) [0, 1, 2, 3, 4, 5] (fun b => rfl) (by decide) rfl rfl (fun b => by kernel_rfl)
              · replace e := bindO_eq e
                obtain ⟨rb0, e_rb0, e⟩ := e
                try dsimp only at e
                replace e := cond_eq_or e
                let P5 : List (PG Tryz.prog M B0 S) := P4 ++ [.cg (ok_fold_movesImmediate_v3 hU ((w1 (s0_1).toNat)) false hq4), .o, .r [0, 1, 2, 3, 4, 5, 6, 7, 8] [9] [10], .a 7, .o, .o, .o, .a 1, .o, .q (ixM_ok (kd := .i64) (T := 34) (x := s0_1) (N := w0) (sz := 44) rfl (fun w => by kernel_rfl) hq1), .l (accG (i := 4) (f := c_Arr42) (A := g1_2) (k := (s0_1).toNat) 0 [.int .i64 ((((g1_2 (s0_1).toNat)).x0).fKind), .int .u64 (nn (((g1_2 (s0_1).toNat)).x0).fNum), .int .i64 ((((g1_2 (s0_1).toNat)).x0).fId), .int .i64 ((((g1_2 (s0_1).toNat)).x0).fOff), .int .i64 ((((g1_2 (s0_1).toNat)).x1).fKind), .int .u64 (nn (((g1_2 (s0_1).toNat)).x1).fNum), .int .i64 ((((g1_2 (s0_1).toNat)).x1).fId), .int .i64 ((((g1_2 (s0_1).toNat)).x1).fOff), .int .i64 ((((g1_2 (s0_1).toNat)).x2).fKind), .int .u64 (nn (((g1_2 (s0_1).toNat)).x2).fNum), .int .i64 ((((g1_2 (s0_1).toNat)).x2).fId), .int .i64 ((((g1_2 (s0_1).toNat)).x2).fOff), .int .i64 ((((g1_2 (s0_1).toNat)).x3).fKind), .int .u64 (nn (((g1_2 (s0_1).toNat)).x3).fNum), .int .i64 ((((g1_2 (s0_1).toNat)).x3).fId), .int .i64 ((((g1_2 (s0_1).toNat)).x3).fOff), .int .i64 ((((g1_2 (s0_1).toNat)).x4).fKind), .int .u64 (nn (((g1_2 (s0_1).toNat)).x4).fNum), .int .i64 ((((g1_2 (s0_1).toNat)).x4).fId), .int .i64 ((((g1_2 (s0_1).toNat)).x4).fOff), .int .i64 ((((g1_2 (s0_1).toNat)).x5).fKind), .int .u64 (nn (((g1_2 (s0_1).toNat)).x5).fNum), .int .i64 ((((g1_2 (s0_1).toNat)).x5).fId), .int .i64 ((((g1_2 (s0_1).toNat)).x5).fOff), .int .i64 ((((g1_2 (s0_1).toNat)).x6).fKind), .int .u64 (nn (((g1_2 (s0_1).toNat)).x6).fNum), .int .i64 ((((g1_2 (s0_1).toNat)).x6).fId), .int .i64 ((((g1_2 (s0_1).toNat)).x6).fOff), .int .i64 ((((g1_2 (s0_1).toNat)).x7).fKind), .int .u64 (nn (((g1_2 (s0_1).toNat)).x7).fNum), .int .i64 ((((g1_2 (s0_1).toNat)).x7).fId), .int .i64 ((((g1_2 (s0_1).toNat)).x7).fOff), .int .i64 ((((g1_2 (s0_1).toNat)).x8).fKind), .int .u64 (nn (((g1_2 (s0_1).toNat)).x8).fNum), .int .i64 ((((g1_2 (s0_1).toNat)).x8).fId), .int .i64 ((((g1_2 (s0_1).toNat)).x8).fOff), .int .i64 ((((g1_2 (s0_1).toNat)).x9).fKind), .int .u64 (nn (((g1_2 (s0_1).toNat)).x9).fNum), .int .i64 ((((g1_2 (s0_1).toNat)).x9).fId), .int .i64 ((((g1_2 (s0_1).toNat)).x9).fOff), .int .i64 ((((g1_2 (s0_1).toNat)).x10).fKind), .int .u64 (nn (((g1_2 (s0_1).toNat)).x10).fNum), .int .i64 ((((g1_2 (s0_1).toNat)).x10).fId), .int .i64 ((((g1_2 (s0_1).toNat)).x10).fOff)] c_Arr42_len (inR_nat hq1) rfl), .cg (ok_fold_result_v3 hU ((w1 (s0_1).toNat)) (⟨(((g1_2 (s0_1).toNat)).x0), (((g1_2 (s0_1).toNat)).x1), (((g1_2 (s0_1).toNat)).x2), (((g1_2 (s0_1).toNat)).x3), (((g1_2 (s0_1).toNat)).x4), (((g1_2 (s0_1).toNat)).x5), (((g1_2 (s0_1).toNat)).x6), (((g1_2 (s0_1).toNat)).x7), (((g1_2 (s0_1).toNat)).x8), (((g1_2 (s0_1).toNat)).x9), (((g1_2 (s0_1).toNat)).x10)⟩ : Arr42) rb0 e_rb0), .a 8, .o, .a 8, .v .u32 (u32_of_u64 rb0.fNum), .v .i32 (i32_of_u32 (rb0.fNum.setWidth 32)), .o, .r [0, 1, 2, 3, 4, 5, 6, 7, 8, 9] [] [], .a 8, .o]
                rcases e with ⟨hq5, e⟩ | ⟨hq5, e⟩
                · cases e; exact goes_runM hU (P5 ++ [.ov (fun w => (run_aggeq 41 #[.int .i64 (rb0.fKind), .int .u64 (nn rb0.fNum), .int .i64 (rb0.fId), .int .i64 (rb0.fOff)] #[.int .i64 (0), .int .u64 (0), .int .i64 (0), .int .i64 (0)] true (by kernel_rfl) (fun w => (eqi41 9998 rb0.fKind 0 rb0.fNum (0#64) rb0.fId 0 rb0.fOff 0 w).trans (congrArg (fun b => Result.ok b w) hq5)) (.tmp 61) (.tmp 62) w).2), .o, .o, .o, .o]) [0, 1, 2, 3, 4, 5] (fun b => rfl) (by decide) rfl rfl (fun b => by kernel_rfl)
                · replace e := bindT_eq e
                  obtain ⟨rb1, e_rb1, e⟩ := e
                  try dsimp only at e
                  replace e := cond_eq_or e
                  let P6 : List (PG Tryz.prog M B0 S) := P5 ++ [.ov (fun w => (run_aggeq 41 #[.int .i64 (rb0.fKind), .int .u64 (nn rb0.fNum), .int .i64 (rb0.fId), .int .i64 (rb0.fOff)] #[.int .i64 (0), .int .u64 (0), .int .i64 (0), .int .i64 (0)] false (by kernel_rfl) (fun w => (eqi41 9998 rb0.fKind 0 rb0.fNum (0#64) rb0.fId 0 rb0.fOff 0 w).trans (congrArg (fun b => Result.ok b w) hq5)) (.tmp 61) (.tmp 62) w).2), .o, .o, .a 8, .o, .cg (ok_alu_Sign_v3 hU (rb0.fNum.setWidth 32) rb1 e_rb1)]
                  rcases e with ⟨hq6, e⟩ | ⟨hq6, e⟩
                  · replace e := cond_eq_or e
                    rcases e with ⟨hq7, e⟩ | ⟨hq7, e⟩
                    · replace e := bindT_eq e
                      obtain ⟨rb2, e_rb2, e⟩ := e
                      try dsimp only at e
                      cases e; exact goes_runM hU (P6 ++ [.t (u_eq rb0.fNum rb1) hq6, .o, .o, .o, .o, .a 7, .o, .o, .q (ixM_ok (kd := .i64) (T := 23) (x := s0_1) (N := (0 + w0)) (sz := 5) rfl (fun w => by kernel_rfl) hq7), .x (sqStGr_ok (T := 29) (e := 29) (f := c_Insn) (A := s0_0) (v := (⟨183#8, ((w1 (s0_1).toNat)).fDst, 0#8, 0#16, (rb0.fNum.setWidth 32)⟩ : Insn)) 0 (.agg #[.int .u8 (183), .int .u8 (nn ((w1 (s0_1).toNat)).fDst), .int .u8 (0), .int .i16 (0), .int .i32 (ii (rb0.fNum.setWidth 32))]) c_Insn_len c_Insn_one rfl rfl (fun w => by kernel_rfl) (inR_nat hq7) e_rb2) [5], .o, .o]) [0, 1, 2, 3, 4, 5] (fun b => rfl) (by decide) rfl rfl (fun b => by kernel_rfl)
                    · exact none_some e
                  · cases e; exact goes_runM hU (P6 ++ [.t (u_eq rb0.fNum rb1) hq6, .o, .o, .o]) [0, 1, 2, 3, 4, 5] (fun b => rfl) (by decide) rfl rfl (fun b => by kernel_rfl)
            · cases e; exact goes_runM hU (P3 ++ [.cg (ok_fold_isAlu_v4 hU ((w1 (s0_1).toNat)) false hq3), .o, .o, .o, .o, .o, .o]) [0, 1, 2, 3, 4, 5] (fun b => rfl) (by decide) rfl rfl (fun b => by kernel_rfl)
          · cases e; exact goes_runM hU (P2 ++ [.l (accG (i := 2) (f := cB) (A := g1_0) (k := (s0_1).toNat) 0 [.bool false] cB_len (inR_nat hq1) (congrArg (fun b => [Value.bool b]) hq2)), .o, .o, .o, .o, .o, .o, .o]) [0, 1, 2, 3, 4, 5] (fun b => rfl) (by decide) rfl rfl (fun b => by kernel_rfl)
        · exact none_some e
      · cases e; exact ⟨ne_exit 0, goes_runM hU [.b (z_lssF hq0)] [0, 1, 2, 3, 4, 5] (fun b => rfl) (by decide) rfl rfl (fun b => by kernel_rfl)⟩) s r h
noncomputable def t0_fold_Fold_v1_L0_0 (w0 : Nat) (w1 : Nat → Insn) (r0 : (Int) × (Int)) (g1_0 : Nat → Bool) (g1_1 : Nat → Bool) (g1_2 : Nat → Arr42) (g2_0 : Nat → Insn) (s0_0 : Nat → Insn) (s0_1 : Int) (ls : List L1) : List Value := List.append [(rowV (lget ls 0) w0 5), undef, .slice none 0 0, .int .i64 (0), .int .i64 (r0.1), .int .i64 (r0.2), .pointer (some ⟨(lget ls 1).n, 0, none⟩), (rowV (lget ls 5) (0 + w0) 5)] (List.append (und 4) (List.append [.tuple #[.int .i64 (r0.1), .int .i64 (r0.2)], (rowV (lget ls 0) w0 5), .tuple #[.int .i64 (r0.1), .int .i64 (r0.2)], .int .i64 (r0.1), .int .i64 (r0.2), .int .i64 (r0.2), .bool false, undef, (rowV (lget ls 0) w0 5), .pointer (some ⟨(lget ls 1).n, 0, none⟩), (rowV (lget ls 0) w0 5), (rowV (lget ls 5) (0 + w0) 5), (rowV (lget ls 0) w0 5), .int .i64 ((w0 : Int)), .int .i64 (s0_1)] (und 53)))
def pre_fold_Fold_v1_L0_0 (w0 : Nat) (w1 : Nat → Insn) (r0 : (Int) × (Int)) (g1_0 : Nat → Bool) (g1_1 : Nat → Bool) (g1_2 : Nat → Arr42) (g2_0 : Nat → Insn) (s0_0 : Nat → Insn) (s0_1 : Int) (ls : List L1) : List Obj := [rowO (lget ls 0) (esG c_Insn w0 w1) 29 w0 5, .cells #[(rowV (lget ls 2) w0 1), (rowV (lget ls 3) w0 1), (rowV (lget ls 4) w0 44)] 63, rowO (lget ls 2) (esG cB w0 g1_0) 4 w0 1, rowO (lget ls 3) (esG cB w0 g1_1) 4 w0 1, rowO (lget ls 4) (esG c_Arr42 w0 g1_2) 42 w0 44, rowO (lget ls 5) (esG c_Insn (0 + w0) s0_0) 29 (0 + w0) 5]
theorem sp0_fold_Fold_v1_L0_0_ok (s0_0 : Nat → Insn) (s0_1 : Int) (c0_0 : Nat → Insn) (h : lpO (st_fold_Fold_v1_L0 w0 w1 g1_0 g1_2) (.c0 s0_0 s0_1) = some (.e0 c0_0)) : SpcG Tryz.prog M B0 S ⟨fun ls => .code (.loop bd_fold_Fold_v1_L0) (t0_fold_Fold_v1_L0_0 w0 w1 r0 g1_0 g1_1 g1_2 g2_0 s0_0 s0_1 ls), pre_fold_Fold_v1_L0_0 w0 w1 r0 g1_0 g1_1 g1_2 g2_0 s0_0 s0_1, 1, (.exit 0), fun ls => vf_fold_Fold_v1_L0 w0 w1 r0 g1_0 g1_1 g1_2 g2_0 (.e0 c0_0) (ls.take 6 ++ ls.drop 6), fun ls => (Hf_fold_Fold_v1_L0 w0 w1 r0 g1_0 g1_1 g1_2 g2_0 (.e0 c0_0) (ls.take 6 ++ ls.drop 6)).take 6 ++ List.replicate 0 unb, fun ls => (Hf_fold_Fold_v1_L0 w0 w1 r0 g1_0 g1_1 g1_2 g2_0 (.e0 c0_0) (ls.take 6 ++ ls.drop 6)).drop 6⟩ :=
  spc_of_goesM hU 0 (k0 := 6) (go_fold_Fold_v1_L0 hU w0 w1 r0 g1_0 g1_1 g1_2 g2_0 _ _ h) (t0_fold_Fold_v1_L0_0 w0 w1 r0 g1_0 g1_1 g1_2 g2_0 s0_0 s0_1) (pre_fold_Fold_v1_L0_0 w0 w1 r0 g1_0 g1_1 g1_2 g2_0 s0_0 s0_1) (fun _ => rfl) (fun ls h => by match ls, h with | [l0, l1, l2, l3, l4, l5], _ => exact ⟨by kernel_rfl, by kernel_rfl⟩) (fun ls h => by match ls, h with | [l0, l1, l2, l3, l4, l5], _ => rfl) (by decide) (by decide) (fun ls => rfl)
inductive R_fold_Fold_v1 where
  | e0 (c0_0 : Nat → Insn)
noncomputable def m_fold_Fold_v1 (w0 : Nat) (w1 : Nat → Insn) : Option R_fold_Fold_v1 :=
  (m_insn_Check w0 w1).bind fun r0 =>
  bif r0.2 == 0 then
    ((m_fold_look_v1 w0 w1).bind fun g1 => match g1 with
    | .e0 g1_0 g1_1 g1_2 =>
    (m_slices_Clone_api_Insn_api_Insn_v1 w0 w1).bind fun g2 => match g2 with
    | .e0 g2_0 =>
    (lpO (st_fold_Fold_v1_L0 w0 w1 g1_0 g1_2) (.c0 g2_0 0)).bind fun g3 => match g3 with
    | .e0 g3_0 =>
    some (.e0 g3_0))
  else (none)
def sq0_fold_Fold_v1 (w0 : Nat) (w1 : Nat → Insn) (c0_0 : Nat → Insn) : Spc := ⟨fun ls => .call 7 #[(rowV (lget ls 0) w0 5)], fun ls => [rowO (lget ls 0) (esG c_Insn w0 w1) 29 w0 5], 1, .normal, fun ls => [.tuple #[(rowV (lget ls 1) (0 + w0) 5), .int .i64 (0)]], fun ls => [rowO (lget ls 0) (esG c_Insn w0 w1) 29 w0 5], fun ls => [rowO (lget ls 1) (esG c_Insn (0 + w0) c0_0) 29 (0 + w0) 5]⟩
end
section
variable {M : Nat → Prop} {B0 : Nat} {S : World → Prop} (hU : Up M B0 S)
include hU
theorem ok0_fold_Fold_v1 (w0 : Nat) (w1 : Nat → Insn) (c0_0 : Nat → Insn) (e : m_fold_Fold_v1 w0 w1 = some (.e0 c0_0)) : SpcG Tryz.prog M B0 S (sq0_fold_Fold_v1 w0 w1 c0_0) := by
  unfold m_fold_Fold_v1 at e
  replace e := bindO_eq e
  obtain ⟨r0, e_r0, e⟩ := e
  try dsimp only at e
  replace e := cond_eq_or e
  rcases e with ⟨hq0, e⟩ | ⟨hq0, e⟩
  · replace e := bindO_eq e
    obtain ⟨g1, e_g1, e⟩ := e
    obtain ⟨g1_0, g1_1, g1_2⟩ := g1
    try dsimp only at e
    replace e := bindO_eq e
    obtain ⟨g2, e_g2, e⟩ := e
    obtain ⟨g2_0⟩ := g2
    try dsimp only at e
    replace e := bindO_eq e
    obtain ⟨g3, e_g3, e⟩ := e
    obtain ⟨g3_0⟩ := g3
    try dsimp only at e
    injection e with e; injection e with i0; subst i0; exact fn_specG hU (P := Tryz.prog) Tryz.func7 (fun xs w => by kernel_rfl) 1 _ _ (fun _ => rfl) _ _ _ [5] [.o, .o, .o, .xg (SpcG.ownC hU c_Insn_len w0 w1 29 fun hU x u v z hr => ok_insn_Check hU x u v w0 z w1 hr r0 e_r0) [0], .o, .o, .o, .o, .o, .o, .b (z_neqT hq0), .o, .xg (SpcG.own hU (f := c_Insn) c_Insn_len w0 w1 29 (fun l => padL l w0 5) (fun l => (padL l w0 5).length / 5) _ 4 .normal (by intros; rfl) (by intros; rfl) (by intros; rfl) (fun M0 B0 S0 x0 u0 v0 z0 hU0 hs0 hr0 => ok0_fold_look_v1 hU0 x0 u0 v0 w0 z0 w1 hr0 g1_0 g1_1 g1_2 e_g1)) [0], .o, .o, .xg (ok0_slices_Clone_api_Insn_api_Insn_v1 hU w0 w1 g2_0 e_g2) [0], .o, .o, .o, .o, .cp, .cx (sp0_fold_Fold_v1_L0_0_ok hU w0 w1 r0 g1_0 g1_1 g1_2 g2_0 g2_0 0 g3_0 e_g3) [0, 1, 2, 3, 4, 5], .o, .o, .o] [] (fun b => by kernel_rfl)
  · exact none_some e
inductive Sh_barbicanlaw25_FoldStraight_L1 where
  | c0 (s0_0 : Int)
  | c1 (s0_0 : Nat → BitVec 32) (s0_1 : Nat → BitVec 64) (s0_2 : BitVec 32) (s0_3 : BitVec 32) (s0_4 : BitVec 32) (s0_5 : BitVec 32) (s0_6 : Nat) (s0_7 : Nat → Insn) (s0_8 : Nat) (s0_9 : Nat → Arr26) (s0_10 : Nat) (s0_11 : Nat → BitVec 8) (s0_12 : Int)
inductive Ex_barbicanlaw25_FoldStraight_L1 where
  | e0 (c0_0 : Nat → BitVec 32) (c0_1 : Nat → BitVec 64) (c0_2 : BitVec 32) (c0_3 : BitVec 32) (c0_4 : BitVec 32) (c0_5 : BitVec 32)
  | e1 (c1_0 : Nat → BitVec 32) (c1_1 : Nat → BitVec 64) (c1_2 : BitVec 32) (c1_3 : BitVec 32) (c1_4 : BitVec 32) (c1_5 : BitVec 32) (c1_6 : Nat) (c1_7 : Nat → Insn) (c1_8 : Nat) (c1_9 : Nat → Arr26) (c1_10 : Nat) (c1_11 : Nat → BitVec 8)
noncomputable def st_barbicanlaw25_FoldStraight_L1 (y0 : Arr22) (n0 : Nat) (A0 : Nat → Insn) (r3 : Nat → BitVec 64) (r4 : Nat → Insn) : Sh_barbicanlaw25_FoldStraight_L1 → Option (Sh_barbicanlaw25_FoldStraight_L1 ⊕ Ex_barbicanlaw25_FoldStraight_L1)
  | .c0 s0_0 =>
    bif decide (s0_0 < (n0 : Int)) then
      (bif inR s0_0 n0 then
        (bif (((A0 (s0_0).toNat)).fOp % 8#8) == 4#8 then
          (bif decide (12 < (nn (((A0 (s0_0).toNat)).fOp / 16#8))) then
            (some (.inl (.c0 (IntKind.i64.wrap (s0_0 + 1)))))
          else (bif (nn (((A0 (s0_0).toNat)).fOp / 16#8)) == 8 then
            (some (.inl (.c0 (IntKind.i64.wrap (s0_0 + 1)))))
          else (bif ((((A0 (s0_0).toNat)).fOp / 8#8) % 2#8) == 1#8 then
            (bif inR (nn (((A0 (s0_0).toNat)).fSrc % 4#8)) 4 then
              (bif inR (nn (((A0 (s0_0).toNat)).fDst % 4#8)) 4 then
                ((m_alu_Do (nn (((A0 (s0_0).toNat)).fOp / 16#8)) ((((A0 (s0_0).toNat)).fOp % 8#8) == 7#8) ((updF r3 3 (BitVec.ofInt 64 (ii ((fun k => g_Arr22 y0 k) 3)))) (nn (((A0 (s0_0).toNat)).fDst % 4#8)).toNat) ((updF r3 3 (BitVec.ofInt 64 (ii ((fun k => g_Arr22 y0 k) 3)))) (nn (((A0 (s0_0).toNat)).fSrc % 4#8)).toNat)).bind fun rb0 =>
                bindT (updF (updF r3 3 (BitVec.ofInt 64 (ii ((fun k => g_Arr22 y0 k) 3)))) (nn (((A0 (s0_0).toNat)).fDst % 4#8)).toNat rb0.1) fun rb1 =>
                bindT (updF r4 4 (⟨((A0 (s0_0).toNat)).fOp, (((A0 (s0_0).toNat)).fDst % 4#8), (((A0 (s0_0).toNat)).fSrc % 4#8), 0#16, 0#32⟩ : Insn)) fun rb2 =>
                some (.inl (.c1 (fun k => g_Arr22 y0 k) rb1 ((fun k => g_Arr22 y0 k) 0) ((fun k => g_Arr22 y0 k) 1) ((fun k => g_Arr22 y0 k) 2) ((fun k => g_Arr22 y0 k) 3) 5 rb2 1 (fun _ => (⟨(updF r3 3 (BitVec.ofInt 64 (ii ((fun k => g_Arr22 y0 k) 3)))) 0, (updF r3 3 (BitVec.ofInt 64 (ii ((fun k => g_Arr22 y0 k) 3)))) 1, (updF r3 3 (BitVec.ofInt 64 (ii ((fun k => g_Arr22 y0 k) 3)))) 2, (updF r3 3 (BitVec.ofInt 64 (ii ((fun k => g_Arr22 y0 k) 3)))) 3⟩ : Arr26)) 1 (fun _ => (((A0 (s0_0).toNat)).fDst % 4#8)) (IntKind.i64.wrap (s0_0 + 1)))))
              else (none))
            else (none))
          else (bif inR (nn (((A0 (s0_0).toNat)).fDst % 4#8)) 4 then
            ((m_alu_Do (nn (((A0 (s0_0).toNat)).fOp / 16#8)) ((((A0 (s0_0).toNat)).fOp % 8#8) == 7#8) ((updF r3 3 (BitVec.ofInt 64 (ii ((fun k => g_Arr22 y0 k) 3)))) (nn (((A0 (s0_0).toNat)).fDst % 4#8)).toNat) (BitVec.ofInt 64 (ii ((A0 (s0_0).toNat)).fImm))).bind fun rb0 =>
            bindT (updF (updF r3 3 (BitVec.ofInt 64 (ii ((fun k => g_Arr22 y0 k) 3)))) (nn (((A0 (s0_0).toNat)).fDst % 4#8)).toNat rb0.1) fun rb1 =>
            bindT (updF r4 4 (⟨((A0 (s0_0).toNat)).fOp, (((A0 (s0_0).toNat)).fDst % 4#8), 0#8, 0#16, ((A0 (s0_0).toNat)).fImm⟩ : Insn)) fun rb2 =>
            some (.inl (.c1 (fun k => g_Arr22 y0 k) rb1 ((fun k => g_Arr22 y0 k) 0) ((fun k => g_Arr22 y0 k) 1) ((fun k => g_Arr22 y0 k) 2) ((fun k => g_Arr22 y0 k) 3) 5 rb2 1 (fun _ => (⟨(updF r3 3 (BitVec.ofInt 64 (ii ((fun k => g_Arr22 y0 k) 3)))) 0, (updF r3 3 (BitVec.ofInt 64 (ii ((fun k => g_Arr22 y0 k) 3)))) 1, (updF r3 3 (BitVec.ofInt 64 (ii ((fun k => g_Arr22 y0 k) 3)))) 2, (updF r3 3 (BitVec.ofInt 64 (ii ((fun k => g_Arr22 y0 k) 3)))) 3⟩ : Arr26)) 1 (fun _ => (((A0 (s0_0).toNat)).fDst % 4#8)) (IntKind.i64.wrap (s0_0 + 1)))))
          else (none)))))
        else (bif (((A0 (s0_0).toNat)).fOp % 8#8) == 7#8 then
          (bif decide (12 < (nn (((A0 (s0_0).toNat)).fOp / 16#8))) then
            (some (.inl (.c0 (IntKind.i64.wrap (s0_0 + 1)))))
          else (bif (nn (((A0 (s0_0).toNat)).fOp / 16#8)) == 8 then
            (some (.inl (.c0 (IntKind.i64.wrap (s0_0 + 1)))))
          else (bif ((((A0 (s0_0).toNat)).fOp / 8#8) % 2#8) == 1#8 then
            (bif inR (nn (((A0 (s0_0).toNat)).fSrc % 4#8)) 4 then
              (bif inR (nn (((A0 (s0_0).toNat)).fDst % 4#8)) 4 then
                ((m_alu_Do (nn (((A0 (s0_0).toNat)).fOp / 16#8)) true ((updF r3 3 (BitVec.ofInt 64 (ii ((fun k => g_Arr22 y0 k) 3)))) (nn (((A0 (s0_0).toNat)).fDst % 4#8)).toNat) ((updF r3 3 (BitVec.ofInt 64 (ii ((fun k => g_Arr22 y0 k) 3)))) (nn (((A0 (s0_0).toNat)).fSrc % 4#8)).toNat)).bind fun rb0 =>
                bindT (updF (updF r3 3 (BitVec.ofInt 64 (ii ((fun k => g_Arr22 y0 k) 3)))) (nn (((A0 (s0_0).toNat)).fDst % 4#8)).toNat rb0.1) fun rb1 =>
                bindT (updF r4 4 (⟨((A0 (s0_0).toNat)).fOp, (((A0 (s0_0).toNat)).fDst % 4#8), (((A0 (s0_0).toNat)).fSrc % 4#8), 0#16, 0#32⟩ : Insn)) fun rb2 =>
                some (.inl (.c1 (fun k => g_Arr22 y0 k) rb1 ((fun k => g_Arr22 y0 k) 0) ((fun k => g_Arr22 y0 k) 1) ((fun k => g_Arr22 y0 k) 2) ((fun k => g_Arr22 y0 k) 3) 5 rb2 1 (fun _ => (⟨(updF r3 3 (BitVec.ofInt 64 (ii ((fun k => g_Arr22 y0 k) 3)))) 0, (updF r3 3 (BitVec.ofInt 64 (ii ((fun k => g_Arr22 y0 k) 3)))) 1, (updF r3 3 (BitVec.ofInt 64 (ii ((fun k => g_Arr22 y0 k) 3)))) 2, (updF r3 3 (BitVec.ofInt 64 (ii ((fun k => g_Arr22 y0 k) 3)))) 3⟩ : Arr26)) 1 (fun _ => (((A0 (s0_0).toNat)).fDst % 4#8)) (IntKind.i64.wrap (s0_0 + 1)))))
              else (none))
            else (none))
          else (bif inR (nn (((A0 (s0_0).toNat)).fDst % 4#8)) 4 then
            ((m_alu_Do (nn (((A0 (s0_0).toNat)).fOp / 16#8)) true ((updF r3 3 (BitVec.ofInt 64 (ii ((fun k => g_Arr22 y0 k) 3)))) (nn (((A0 (s0_0).toNat)).fDst % 4#8)).toNat) (BitVec.ofInt 64 (ii ((A0 (s0_0).toNat)).fImm))).bind fun rb0 =>
            bindT (updF (updF r3 3 (BitVec.ofInt 64 (ii ((fun k => g_Arr22 y0 k) 3)))) (nn (((A0 (s0_0).toNat)).fDst % 4#8)).toNat rb0.1) fun rb1 =>
            bindT (updF r4 4 (⟨((A0 (s0_0).toNat)).fOp, (((A0 (s0_0).toNat)).fDst % 4#8), 0#8, 0#16, ((A0 (s0_0).toNat)).fImm⟩ : Insn)) fun rb2 =>
            some (.inl (.c1 (fun k => g_Arr22 y0 k) rb1 ((fun k => g_Arr22 y0 k) 0) ((fun k => g_Arr22 y0 k) 1) ((fun k => g_Arr22 y0 k) 2) ((fun k => g_Arr22 y0 k) 3) 5 rb2 1 (fun _ => (⟨(updF r3 3 (BitVec.ofInt 64 (ii ((fun k => g_Arr22 y0 k) 3)))) 0, (updF r3 3 (BitVec.ofInt 64 (ii ((fun k => g_Arr22 y0 k) 3)))) 1, (updF r3 3 (BitVec.ofInt 64 (ii ((fun k => g_Arr22 y0 k) 3)))) 2, (updF r3 3 (BitVec.ofInt 64 (ii ((fun k => g_Arr22 y0 k) 3)))) 3⟩ : Arr26)) 1 (fun _ => (((A0 (s0_0).toNat)).fDst % 4#8)) (IntKind.i64.wrap (s0_0 + 1)))))
          else (none)))))
        else (some (.inl (.c0 (IntKind.i64.wrap (s0_0 + 1)))))))
      else (none))
    else (some (.inr (.e0 (fun k => g_Arr22 y0 k) (updF r3 3 (BitVec.ofInt 64 (ii ((fun k => g_Arr22 y0 k) 3)))) ((fun k => g_Arr22 y0 k) 0) ((fun k => g_Arr22 y0 k) 1) ((fun k => g_Arr22 y0 k) 2) ((fun k => g_Arr22 y0 k) 3))))
  | .c1 s0_0 s0_1 s0_2 s0_3 s0_4 s0_5 s0_6 s0_7 s0_8 s0_9 s0_10 s0_11 s0_12 =>
    bif decide (s0_12 < (n0 : Int)) then
      (bif inR s0_12 n0 then
        (bif (((A0 (s0_12).toNat)).fOp % 8#8) == 4#8 then
          (bif decide (12 < (nn (((A0 (s0_12).toNat)).fOp / 16#8))) then
            (some (.inl (.c1 s0_0 s0_1 s0_2 s0_3 s0_4 s0_5 s0_6 s0_7 s0_8 s0_9 s0_10 s0_11 (IntKind.i64.wrap (s0_12 + 1)))))
          else (bif (nn (((A0 (s0_12).toNat)).fOp / 16#8)) == 8 then
            (some (.inl (.c1 s0_0 s0_1 s0_2 s0_3 s0_4 s0_5 s0_6 s0_7 s0_8 s0_9 s0_10 s0_11 (IntKind.i64.wrap (s0_12 + 1)))))
          else (bif ((((A0 (s0_12).toNat)).fOp / 8#8) % 2#8) == 1#8 then
            (bif inR (nn (((A0 (s0_12).toNat)).fSrc % 4#8)) 4 then
              (bif decide (s0_8 ≤ 1000000) then
                (bif decide (s0_10 ≤ 1000000) then
                  (bif inR (nn (((A0 (s0_12).toNat)).fDst % 4#8)) 4 then
                    ((m_alu_Do (nn (((A0 (s0_12).toNat)).fOp / 16#8)) ((((A0 (s0_12).toNat)).fOp % 8#8) == 7#8) (s0_1 (nn (((A0 (s0_12).toNat)).fDst % 4#8)).toNat) (s0_1 (nn (((A0 (s0_12).toNat)).fSrc % 4#8)).toNat)).bind fun rb0 =>
                    bif decide (s0_6 ≤ 1000000) then
                      (bindT (updF s0_7 s0_6 (⟨((A0 (s0_12).toNat)).fOp, (((A0 (s0_12).toNat)).fDst % 4#8), (((A0 (s0_12).toNat)).fSrc % 4#8), 0#16, 0#32⟩ : Insn)) fun rb1 =>
                      some (.inl (.c1 s0_0 (updF s0_1 (nn (((A0 (s0_12).toNat)).fDst % 4#8)).toNat rb0.1) s0_2 s0_3 s0_4 s0_5 (s0_6 + 1) rb1 (s0_8 + 1) (updF s0_9 s0_8 (⟨s0_1 0, s0_1 1, s0_1 2, s0_1 3⟩ : Arr26)) (s0_10 + 1) (updF s0_11 s0_10 (((A0 (s0_12).toNat)).fDst % 4#8)) (IntKind.i64.wrap (s0_12 + 1)))))
                    else (none))
                  else (none))
                else (none))
              else (none))
            else (none))
          else (bif decide (s0_8 ≤ 1000000) then
            (bif decide (s0_10 ≤ 1000000) then
              (bif inR (nn (((A0 (s0_12).toNat)).fDst % 4#8)) 4 then
                ((m_alu_Do (nn (((A0 (s0_12).toNat)).fOp / 16#8)) ((((A0 (s0_12).toNat)).fOp % 8#8) == 7#8) (s0_1 (nn (((A0 (s0_12).toNat)).fDst % 4#8)).toNat) (BitVec.ofInt 64 (ii ((A0 (s0_12).toNat)).fImm))).bind fun rb0 =>
                bif decide (s0_6 ≤ 1000000) then
                  (bindT (updF s0_7 s0_6 (⟨((A0 (s0_12).toNat)).fOp, (((A0 (s0_12).toNat)).fDst % 4#8), 0#8, 0#16, ((A0 (s0_12).toNat)).fImm⟩ : Insn)) fun rb1 =>
                  some (.inl (.c1 s0_0 (updF s0_1 (nn (((A0 (s0_12).toNat)).fDst % 4#8)).toNat rb0.1) s0_2 s0_3 s0_4 s0_5 (s0_6 + 1) rb1 (s0_8 + 1) (updF s0_9 s0_8 (⟨s0_1 0, s0_1 1, s0_1 2, s0_1 3⟩ : Arr26)) (s0_10 + 1) (updF s0_11 s0_10 (((A0 (s0_12).toNat)).fDst % 4#8)) (IntKind.i64.wrap (s0_12 + 1)))))
                else (none))
              else (none))
            else (none))
          else (none)))))
        else (bif (((A0 (s0_12).toNat)).fOp % 8#8) == 7#8 then
          (bif decide (12 < (nn (((A0 (s0_12).toNat)).fOp / 16#8))) then
            (some (.inl (.c1 s0_0 s0_1 s0_2 s0_3 s0_4 s0_5 s0_6 s0_7 s0_8 s0_9 s0_10 s0_11 (IntKind.i64.wrap (s0_12 + 1)))))
          else (bif (nn (((A0 (s0_12).toNat)).fOp / 16#8)) == 8 then
            (some (.inl (.c1 s0_0 s0_1 s0_2 s0_3 s0_4 s0_5 s0_6 s0_7 s0_8 s0_9 s0_10 s0_11 (IntKind.i64.wrap (s0_12 + 1)))))
          else (bif ((((A0 (s0_12).toNat)).fOp / 8#8) % 2#8) == 1#8 then
            (bif inR (nn (((A0 (s0_12).toNat)).fSrc % 4#8)) 4 then
              (bif decide (s0_8 ≤ 1000000) then
                (bif decide (s0_10 ≤ 1000000) then
                  (bif inR (nn (((A0 (s0_12).toNat)).fDst % 4#8)) 4 then
                    ((m_alu_Do (nn (((A0 (s0_12).toNat)).fOp / 16#8)) true (s0_1 (nn (((A0 (s0_12).toNat)).fDst % 4#8)).toNat) (s0_1 (nn (((A0 (s0_12).toNat)).fSrc % 4#8)).toNat)).bind fun rb0 =>
                    bif decide (s0_6 ≤ 1000000) then
                      (bindT (updF s0_7 s0_6 (⟨((A0 (s0_12).toNat)).fOp, (((A0 (s0_12).toNat)).fDst % 4#8), (((A0 (s0_12).toNat)).fSrc % 4#8), 0#16, 0#32⟩ : Insn)) fun rb1 =>
                      some (.inl (.c1 s0_0 (updF s0_1 (nn (((A0 (s0_12).toNat)).fDst % 4#8)).toNat rb0.1) s0_2 s0_3 s0_4 s0_5 (s0_6 + 1) rb1 (s0_8 + 1) (updF s0_9 s0_8 (⟨s0_1 0, s0_1 1, s0_1 2, s0_1 3⟩ : Arr26)) (s0_10 + 1) (updF s0_11 s0_10 (((A0 (s0_12).toNat)).fDst % 4#8)) (IntKind.i64.wrap (s0_12 + 1)))))
                    else (none))
                  else (none))
                else (none))
              else (none))
            else (none))
          else (bif decide (s0_8 ≤ 1000000) then
            (bif decide (s0_10 ≤ 1000000) then
              (bif inR (nn (((A0 (s0_12).toNat)).fDst % 4#8)) 4 then
                ((m_alu_Do (nn (((A0 (s0_12).toNat)).fOp / 16#8)) true (s0_1 (nn (((A0 (s0_12).toNat)).fDst % 4#8)).toNat) (BitVec.ofInt 64 (ii ((A0 (s0_12).toNat)).fImm))).bind fun rb0 =>
                bif decide (s0_6 ≤ 1000000) then
                  (bindT (updF s0_7 s0_6 (⟨((A0 (s0_12).toNat)).fOp, (((A0 (s0_12).toNat)).fDst % 4#8), 0#8, 0#16, ((A0 (s0_12).toNat)).fImm⟩ : Insn)) fun rb1 =>
                  some (.inl (.c1 s0_0 (updF s0_1 (nn (((A0 (s0_12).toNat)).fDst % 4#8)).toNat rb0.1) s0_2 s0_3 s0_4 s0_5 (s0_6 + 1) rb1 (s0_8 + 1) (updF s0_9 s0_8 (⟨s0_1 0, s0_1 1, s0_1 2, s0_1 3⟩ : Arr26)) (s0_10 + 1) (updF s0_11 s0_10 (((A0 (s0_12).toNat)).fDst % 4#8)) (IntKind.i64.wrap (s0_12 + 1)))))
                else (none))
              else (none))
            else (none))
          else (none)))))
        else (some (.inl (.c1 s0_0 s0_1 s0_2 s0_3 s0_4 s0_5 s0_6 s0_7 s0_8 s0_9 s0_10 s0_11 (IntKind.i64.wrap (s0_12 + 1)))))))
      else (none))
    else (some (.inr (.e1 s0_0 s0_1 s0_2 s0_3 s0_4 s0_5 s0_6 s0_7 s0_8 s0_9 s0_10 s0_11)))
noncomputable def bd_barbicanlaw25_FoldStraight_L1 : Code := codeOf Tryz.f3 [1, 1, 1, 1, 1, 1, 1, 1, 0, 1, 0, 0]
def fl_barbicanlaw25_FoldStraight_L1 (y0 : Arr22) (a0 : Option Addr) (p0 : Nat) (q0 : Nat) (n0 : Nat) (k0 : Nat) (A0 : Nat → Insn) (r0 : Nat → BitVec 64) (r1 : Nat → Insn) (r2 : Nat → Insn) (r3 : Nat → BitVec 64) (r4 : Nat → Insn) : Sh_barbicanlaw25_FoldStraight_L1 → List L1 → List Value
  | .c0 s0_0, ls => [.slice a0 n0 (n0 + k0), (rowV (lget ls 9) 4 5), .pointer (some ⟨(lget ls 1).n, 0, none⟩), .slice none 0 0, .slice none 0 0, .int .i64 (s0_0)]
  | .c1 s0_0 s0_1 s0_2 s0_3 s0_4 s0_5 s0_6 s0_7 s0_8 s0_9 s0_10 s0_11 s0_12, ls => [.slice a0 n0 (n0 + k0), (rowV (lget ls 9) s0_6 5), .pointer (some ⟨(lget ls 1).n, 0, none⟩), (rowV (lget ls 10) s0_8 4), (rowV (lget ls 11) s0_10 1), .int .i64 (s0_12)]
def mf_barbicanlaw25_FoldStraight_L1 : Sh_barbicanlaw25_FoldStraight_L1 → List (Nat × Nat)
  | .c0 _ => [(0, 1), (1, 3), (2, 1), (3, 270)]
  | .c1 _ _ _ _ _ _ _ _ _ _ _ _ _ => [(0, 1), (1, 3), (2, 1), (3, 270)]
noncomputable def fr_barbicanlaw25_FoldStraight_L1 (y0 : Arr22) (a0 : Option Addr) (p0 : Nat) (q0 : Nat) (n0 : Nat) (k0 : Nat) (A0 : Nat → Insn) (r0 : Nat → BitVec 64) (r1 : Nat → Insn) (r2 : Nat → Insn) (r3 : Nat → BitVec 64) (r4 : Nat → Insn) (s : Sh_barbicanlaw25_FoldStraight_L1) : List L1 → List Value := mrgF (mf_barbicanlaw25_FoldStraight_L1 s) (fl_barbicanlaw25_FoldStraight_L1 y0 a0 p0 q0 n0 k0 A0 r0 r1 r2 r3 r4 s) 12
def Hs_barbicanlaw25_FoldStraight_L1 (y0 : Arr22) (a0 : Option Addr) (p0 : Nat) (q0 : Nat) (n0 : Nat) (k0 : Nat) (A0 : Nat → Insn) (r0 : Nat → BitVec 64) (r1 : Nat → Insn) (r2 : Nat → Insn) (r3 : Nat → BitVec 64) (r4 : Nat → Insn) : Sh_barbicanlaw25_FoldStraight_L1 → List L1 → List Obj
  | .c0 s0_0, ls => [.cells ⟨esG ci32 4 (fun k => g_Arr22 y0 k)⟩ 22, .cells ⟨esG cu64 4 (updF r3 3 (BitVec.ofInt 64 (ii ((fun k => g_Arr22 y0 k) 3))))⟩ 26, .cells #[.int .u8 (183), .int .u8 (0), .int .u8 (0), .int .i16 (0), .int .i32 (ii ((fun k => g_Arr22 y0 k) 0))] 29, unb, .cells #[.int .u8 (183), .int .u8 (1), .int .u8 (0), .int .i16 (0), .int .i32 (ii ((fun k => g_Arr22 y0 k) 1))] 29, unb, .cells #[.int .u8 (183), .int .u8 (2), .int .u8 (0), .int .i16 (0), .int .i32 (ii ((fun k => g_Arr22 y0 k) 2))] 29, unb, .cells #[.int .u8 (183), .int .u8 (3), .int .u8 (0), .int .i16 (0), .int .i32 (ii ((fun k => g_Arr22 y0 k) 3))] 29, rowO (lget ls 9) (esG c_Insn 4 r4) 29 4 5, unb, unb, unb]
  | .c1 s0_0 s0_1 s0_2 s0_3 s0_4 s0_5 s0_6 s0_7 s0_8 s0_9 s0_10 s0_11 s0_12, ls => [.cells ⟨esG ci32 4 s0_0⟩ 22, .cells ⟨esG cu64 4 s0_1⟩ 26, .cells #[.int .u8 (183), .int .u8 (0), .int .u8 (0), .int .i16 (0), .int .i32 (ii s0_2)] 29, unb, .cells #[.int .u8 (183), .int .u8 (1), .int .u8 (0), .int .i16 (0), .int .i32 (ii s0_3)] 29, unb, .cells #[.int .u8 (183), .int .u8 (2), .int .u8 (0), .int .i16 (0), .int .i32 (ii s0_4)] 29, unb, .cells #[.int .u8 (183), .int .u8 (3), .int .u8 (0), .int .i16 (0), .int .i32 (ii s0_5)] 29, rowO (lget ls 9) (esG c_Insn s0_6 s0_7) 29 s0_6 5, rowO (lget ls 10) (esG c_Arr26 s0_8 s0_9) 26 s0_8 4, rowO (lget ls 11) (esG cu8 s0_10 s0_11) 5 s0_10 1, unb]
def vl_barbicanlaw25_FoldStraight_L1 (y0 : Arr22) (a0 : Option Addr) (p0 : Nat) (q0 : Nat) (n0 : Nat) (k0 : Nat) (A0 : Nat → Insn) (r0 : Nat → BitVec 64) (r1 : Nat → Insn) (r2 : Nat → Insn) (r3 : Nat → BitVec 64) (r4 : Nat → Insn) : Ex_barbicanlaw25_FoldStraight_L1 → List L1 → List Value
  | .e0 c0_0 c0_1 c0_2 c0_3 c0_4 c0_5, ls => [.slice a0 n0 (n0 + k0), (rowV (lget ls 9) 4 5), .pointer (some ⟨(lget ls 1).n, 0, none⟩), .slice none 0 0, .slice none 0 0]
  | .e1 c1_0 c1_1 c1_2 c1_3 c1_4 c1_5 c1_6 c1_7 c1_8 c1_9 c1_10 c1_11, ls => [.slice a0 n0 (n0 + k0), (rowV (lget ls 9) c1_6 5), .pointer (some ⟨(lget ls 1).n, 0, none⟩), (rowV (lget ls 10) c1_8 4), (rowV (lget ls 11) c1_10 1)]
def mk_barbicanlaw25_FoldStraight_L1 : Ex_barbicanlaw25_FoldStraight_L1 → List (Nat × Nat)
  | .e0 _ _ _ _ _ _ => [(0, 1), (1, 3), (2, 1), (2, 271)]
  | .e1 _ _ _ _ _ _ _ _ _ _ _ _ => [(0, 1), (1, 3), (2, 1), (2, 271)]
noncomputable def vf_barbicanlaw25_FoldStraight_L1 (y0 : Arr22) (a0 : Option Addr) (p0 : Nat) (q0 : Nat) (n0 : Nat) (k0 : Nat) (A0 : Nat → Insn) (r0 : Nat → BitVec 64) (r1 : Nat → Insn) (r2 : Nat → Insn) (r3 : Nat → BitVec 64) (r4 : Nat → Insn) (r : Ex_barbicanlaw25_FoldStraight_L1) : List L1 → List Value := mrgF (mk_barbicanlaw25_FoldStraight_L1 r) (vl_barbicanlaw25_FoldStraight_L1 y0 a0 p0 q0 n0 k0 A0 r0 r1 r2 r3 r4 r) 12
def Hf_barbicanlaw25_FoldStraight_L1 (y0 : Arr22) (a0 : Option Addr) (p0 : Nat) (q0 : Nat) (n0 : Nat) (k0 : Nat) (A0 : Nat → Insn) (r0 : Nat → BitVec 64) (r1 : Nat → Insn) (r2 : Nat → Insn) (r3 : Nat → BitVec 64) (r4 : Nat → Insn) : Ex_barbicanlaw25_FoldStraight_L1 → List L1 → List Obj
  | .e0 c0_0 c0_1 c0_2 c0_3 c0_4 c0_5, ls => [.cells ⟨esG ci32 4 c0_0⟩ 22, .cells ⟨esG cu64 4 c0_1⟩ 26, .cells #[.int .u8 (183), .int .u8 (0), .int .u8 (0), .int .i16 (0), .int .i32 (ii c0_2)] 29, unb, .cells #[.int .u8 (183), .int .u8 (1), .int .u8 (0), .int .i16 (0), .int .i32 (ii c0_3)] 29, unb, .cells #[.int .u8 (183), .int .u8 (2), .int .u8 (0), .int .i16 (0), .int .i32 (ii c0_4)] 29, unb, .cells #[.int .u8 (183), .int .u8 (3), .int .u8 (0), .int .i16 (0), .int .i32 (ii c0_5)] 29, rowO (lget ls 9) (esG c_Insn 4 r4) 29 4 5, unb, unb, unb]
  | .e1 c1_0 c1_1 c1_2 c1_3 c1_4 c1_5 c1_6 c1_7 c1_8 c1_9 c1_10 c1_11, ls => [.cells ⟨esG ci32 4 c1_0⟩ 22, .cells ⟨esG cu64 4 c1_1⟩ 26, .cells #[.int .u8 (183), .int .u8 (0), .int .u8 (0), .int .i16 (0), .int .i32 (ii c1_2)] 29, unb, .cells #[.int .u8 (183), .int .u8 (1), .int .u8 (0), .int .i16 (0), .int .i32 (ii c1_3)] 29, unb, .cells #[.int .u8 (183), .int .u8 (2), .int .u8 (0), .int .i16 (0), .int .i32 (ii c1_4)] 29, unb, .cells #[.int .u8 (183), .int .u8 (3), .int .u8 (0), .int .i16 (0), .int .i32 (ii c1_5)] 29, rowO (lget ls 9) (esG c_Insn c1_6 c1_7) 29 c1_6 5, rowO (lget ls 10) (esG c_Arr26 c1_8 c1_9) 26 c1_8 4, rowO (lget ls 11) (esG cu8 c1_10 c1_11) 5 c1_10 1, unb]
def ex_barbicanlaw25_FoldStraight_L1 : Ex_barbicanlaw25_FoldStraight_L1 → Ex
  | .e0 _ _ _ _ _ _ => (.exit 2)
  | .e1 _ _ _ _ _ _ _ _ _ _ _ _ => (.exit 2)
end
section
variable {M : Nat → Prop} {B0 : Nat} {S : World → Prop} (hU : Up M B0 S) (y0 : Arr22) (a0 : Option Addr) (p0 : Nat) (q0 : Nat) (n0 : Nat) (k0 : Nat) (A0 : Nat → Insn) (hR0 : Ro S c_Insn 5 a0 p0 q0 n0 A0) (r0 : Nat → BitVec 64) (r1 : Nat → Insn) (r2 : Nat → Insn) (r3 : Nat → BitVec 64) (r4 : Nat → Insn)
include hU y0 a0 p0 q0 n0 k0 A0 hR0 r0 r1 r2 r3 r4
theorem go_barbicanlaw25_FoldStraight_L1 (s : Sh_barbicanlaw25_FoldStraight_L1) (r : Ex_barbicanlaw25_FoldStraight_L1) (h : lpO (st_barbicanlaw25_FoldStraight_L1 y0 n0 A0 r3 r4) s = some r) : GoesG Tryz.prog M B0 S (.loop bd_barbicanlaw25_FoldStraight_L1) 13 (fr_barbicanlaw25_FoldStraight_L1 y0 a0 p0 q0 n0 k0 A0 r0 r1 r2 r3 r4 s) (Hs_barbicanlaw25_FoldStraight_L1 y0 a0 p0 q0 n0 k0 A0 r0 r1 r2 r3 r4 s) (ex_barbicanlaw25_FoldStraight_L1 r) 9 (vf_barbicanlaw25_FoldStraight_L1 y0 a0 p0 q0 n0 k0 A0 r0 r1 r2 r3 r4 r) (Hf_barbicanlaw25_FoldStraight_L1 y0 a0 p0 q0 n0 k0 A0 r0 r1 r2 r3 r4 r) 13 :=
  goes_lpO (fun s q e => by
    cases s with
    | c0 s0_0 =>
      unfold st_barbicanlaw25_FoldStraight_L1 at e
      dsimp only at e
      replace e := cond_eq_or e
      let P1 : List (PG Tryz.prog M B0 S) := [.o, .o, .o]
      rcases e with ⟨hq0, e⟩ | ⟨hq0, e⟩
      · replace e := cond_eq_or e
        let P2 : List (PG Tryz.prog M B0 S) := P1 ++ [.b (z_lssT hq0), .o, .o]
        rcases e with ⟨hq1, e⟩ | ⟨hq1, e⟩
        · replace e := cond_eq_or e
          let P3 : List (PG Tryz.prog M B0 S) := P2 ++ [.q (ixRo_ok (kd := .i64) (T := 23) (x := s0_0) (sz := 5) rfl (fun w => by kernel_rfl) hR0 hq1), .l (accRo hR0 c_Insn_len (inR_nat hq1) 0 [.int .u8 (nn ((A0 (s0_0).toNat)).fOp), .int .u8 (nn ((A0 (s0_0).toNat)).fDst), .int .u8 (nn ((A0 (s0_0).toNat)).fSrc), .int .i16 (ii ((A0 (s0_0).toNat)).fOff), .int .i32 (ii ((A0 (s0_0).toNat)).fImm)] rfl), .o, .a 13, .o, .a 13, .ov (u8_quo Tryz.prog 5 (.tmp 61) (.const (.int .u8 (16))) ((A0 (s0_0).toNat)).fOp (16#8) (by decide)), .v .i64 (z_of_nn (by decide) (((A0 (s0_0).toNat)).fOp / 16#8)), .o, .o, .a 13, .ov (u8_rem Tryz.prog 5 (.tmp 65) (.const (.int .u8 (8))) ((A0 (s0_0).toNat)).fOp (8#8) (by decide))]
          rcases e with ⟨hq2, e⟩ | ⟨hq2, e⟩
          · replace e := cond_eq_or e
            let P4 : List (PG Tryz.prog M B0 S) := P3 ++ [.tn (u_ne (((A0 (s0_0).toNat)).fOp % 8#8) (4#8)) hq2, .o, .o, .o, .o]
            rcases e with ⟨hq3, e⟩ | ⟨hq3, e⟩
            · cases e; exact goes_runM hU (P4 ++ [.b (z_gtrT hq3), .o, .o, .o, .o, .o, .o]) [0, 1, 2, 3, 4, 5, 6, 7, 8, 9, 10, 11] (fun b => rfl) (by decide) rfl rfl (fun b => by kernel_rfl)
            · replace e := cond_eq_or e
              rcases e with ⟨hq4, e⟩ | ⟨hq4, e⟩
              · cases e; exact goes_runM hU (P4 ++ [.b (z_gtrF hq3), .o, .o, .o, .b (z_eqlT hq4), .o, .o, .o, .o]) [0, 1, 2, 3, 4, 5, 6, 7, 8, 9, 10, 11] (fun b => rfl) (by decide) rfl rfl (fun b => by kernel_rfl)
              · replace e := cond_eq_or e
                let P5 : List (PG Tryz.prog M B0 S) := P4 ++ [.b (z_gtrF hq3), .o, .o, .o, .b (z_eqlF hq4), .o, .o, .a 13, .ov (u8_rem Tryz.prog 5 (.tmp 83) (.const (.int .u8 (4))) ((A0 (s0_0).toNat)).fDst (4#8) (by decide)), .o, .a 13, .ov (u8_rem Tryz.prog 5 (.tmp 86) (.const (.int .u8 (4))) ((A0 (s0_0).toNat)).fSrc (4#8) (by decide)), .o, .a 13, .o, .a 13, .o, .a 13, .o, .a 13, .v .i64 (z_of_ii (by decide) ((A0 (s0_0).toNat)).fImm), .v .u64 (u64_of_z (ii ((A0 (s0_0).toNat)).fImm)), .o, .o, .a 13, .ov (u8_quo Tryz.prog 5 (.tmp 96) (.const (.int .u8 (8))) ((A0 (s0_0).toNat)).fOp (8#8) (by decide)), .ov (u8_rem Tryz.prog 5 (.tmp 97) (.const (.int .u8 (2))) (((A0 (s0_0).toNat)).fOp / 8#8) (2#8) (by decide))]
                rcases e with ⟨hq5, e⟩ | ⟨hq5, e⟩
                · replace e := cond_eq_or e
                  rcases e with ⟨hq6, e⟩ | ⟨hq6, e⟩
                  · replace e := cond_eq_or e
                    rcases e with ⟨hq7, e⟩ | ⟨hq7, e⟩
                    · replace e := bindO_eq e
                      obtain ⟨rb0, e_rb0, e⟩ := e
                      try dsimp only at e
                      replace e := bindT_eq e
                      obtain ⟨rb1, e_rb1, e⟩ := e
                      try dsimp only at e
                      replace e := bindT_eq e
                      obtain ⟨rb2, e_rb2, e⟩ := e
                      try dsimp only at e
                      cases e; exact goes_runM hU (P5 ++ [.t (u_eq ((((A0 (s0_0).toNat)).fOp / 8#8) % 2#8) (1#8)) hq5, .o, .a 13, .q (ixA_ok (kd := .u8) (T := 26) (x := nn (((A0 (s0_0).toNat)).fSrc % 4#8)) (sz := 1) (N := 4) rfl rfl (fun w => by kernel_rfl) hq6), .l (accF (i := 1) (f := cu64) (A := updF r3 3 (BitVec.ofInt 64 (ii ((fun k => g_Arr22 y0 k) 3)))) (k := (nn (((A0 (s0_0).toNat)).fSrc % 4#8)).toNat) 0 [.int .u64 (nn ((updF r3 3 (BitVec.ofInt 64 (ii ((fun k => g_Arr22 y0 k) 3)))) (nn (((A0 (s0_0).toNat)).fSrc % 4#8)).toNat))] cu64_len (inR_nat hq6) rfl), .o, .o, .a 13, .o, .a 1, .o, .x (sqAppL1_ok (ty := 30) rt30 #[false, false] (f := c_Arr26) (c := 1) (⟨(updF r3 3 (BitVec.ofInt 64 (ii ((fun k => g_Arr22 y0 k) 3)))) 0, (updF r3 3 (BitVec.ofInt 64 (ii ((fun k => g_Arr22 y0 k) 3)))) 1, (updF r3 3 (BitVec.ofInt 64 (ii ((fun k => g_Arr22 y0 k) 3)))) 2, (updF r3 3 (BitVec.ofInt 64 (ii ((fun k => g_Arr22 y0 k) 3)))) 3⟩ : Arr26) (T' := 26) c_Arr26_len c_Arr26_one (by decide)) [14], .o, .o, .o, .a 13, .o, .x (sqAppL1_ok (ty := 31) rt31 #[false, false] (f := cu8) (c := 1) (((A0 (s0_0).toNat)).fDst % 4#8) (T' := 5) cu8_len cu8_one (by decide)) [16], .o, .r [0, 1, 2, 3, 4, 5, 6, 7, 8, 9, 10, 11, 12, 13, 14, 15] [] [], .o, .o, .a 13, .ov (u8_rem Tryz.prog 5 (.tmp 118) (.const (.int .u8 (8))) ((A0 (s0_0).toNat)).fOp (8#8) (by decide)), .t (u_eq (((A0 (s0_0).toNat)).fOp % 8#8) (7#8)) rfl, .o, .a 13, .q (ixA_ok (kd := .u8) (T := 26) (x := nn (((A0 (s0_0).toNat)).fDst % 4#8)) (sz := 1) (N := 4) rfl rfl (fun w => by kernel_rfl) hq7), .l (accF (i := 1) (f := cu64) (A := updF r3 3 (BitVec.ofInt 64 (ii ((fun k => g_Arr22 y0 k) 3)))) (k := (nn (((A0 (s0_0).toNat)).fDst % 4#8)).toNat) 0 [.int .u64 (nn ((updF r3 3 (BitVec.ofInt 64 (ii ((fun k => g_Arr22 y0 k) 3)))) (nn (((A0 (s0_0).toNat)).fDst % 4#8)).toNat))] cu64_len (inR_nat hq7) rfl), .o, .cg (ok_alu_Do hU (nn (((A0 (s0_0).toNat)).fOp / 16#8)) ((((A0 (s0_0).toNat)).fOp % 8#8) == 7#8) ((updF r3 3 (BitVec.ofInt 64 (ii ((fun k => g_Arr22 y0 k) 3)))) (nn (((A0 (s0_0).toNat)).fDst % 4#8)).toNat) ((updF r3 3 (BitVec.ofInt 64 (ii ((fun k => g_Arr22 y0 k) 3)))) (nn (((A0 (s0_0).toNat)).fSrc % 4#8)).toNat) rb0 e_rb0), .o, .o, .o, .o, .o, .o, .a 13, .o, .q (ixA_ok (kd := .u8) (T := 26) (x := nn (((A0 (s0_0).toNat)).fDst % 4#8)) (sz := 1) (N := 4) rfl rfl (fun w => by kernel_rfl) hq7), .x (sqStFr_ok (T := 25) (e := 26) (f := cu64) (A := updF r3 3 (BitVec.ofInt 64 (ii ((fun k => g_Arr22 y0 k) 3)))) (v := rb0.1) 0 (.int .u64 (nn rb0.1)) cu64_len cu64_one rfl rfl (fun w => by kernel_rfl) (inR_nat hq7) e_rb1) [1], .o, .a 13, .o, .x (sqAppLr_ok (ty := 23) rt23 #[false, false] (f := c_Insn) (N := 4) (A := r4) (c := 1) [(⟨((A0 (s0_0).toNat)).fOp, (((A0 (s0_0).toNat)).fDst % 4#8), (((A0 (s0_0).toNat)).fSrc % 4#8), 0#16, 0#32⟩ : Insn)] (T' := 29) .row c_Insn_len c_Insn_one (by decide) rfl (by decide) e_rb2) [9, 18], .o, .o, .o, .o]) [0, 1, 2, 3, 4, 5, 6, 7, 8, 19, 15, 17] (fun b => rfl) (by decide) rfl rfl (fun b => by kernel_rfl)
                    · exact none_some e
                  · exact none_some e
                · replace e := cond_eq_or e
                  rcases e with ⟨hq6, e⟩ | ⟨hq6, e⟩
                  · replace e := bindO_eq e
                    obtain ⟨rb0, e_rb0, e⟩ := e
                    try dsimp only at e
                    replace e := bindT_eq e
                    obtain ⟨rb1, e_rb1, e⟩ := e
                    try dsimp only at e
                    replace e := bindT_eq e
                    obtain ⟨rb2, e_rb2, e⟩ := e
                    try dsimp only at e
                    cases e; exact goes_runM hU (P5 ++ [.t (u_eq ((((A0 (s0_0).toNat)).fOp / 8#8) % 2#8) (1#8)) hq5, .o, .a 13, .o, .a 1, .o, .x (sqAppL1_ok (ty := 30) rt30 #[false, false] (f := c_Arr26) (c := 1) (⟨(updF r3 3 (BitVec.ofInt 64 (ii ((fun k => g_Arr22 y0 k) 3)))) 0, (updF r3 3 (BitVec.ofInt 64 (ii ((fun k => g_Arr22 y0 k) 3)))) 1, (updF r3 3 (BitVec.ofInt 64 (ii ((fun k => g_Arr22 y0 k) 3)))) 2, (updF r3 3 (BitVec.ofInt 64 (ii ((fun k => g_Arr22 y0 k) 3)))) 3⟩ : Arr26) (T' := 26) c_Arr26_len c_Arr26_one (by decide)) [14], .o, .o, .o, .a 13, .o, .x (sqAppL1_ok (ty := 31) rt31 #[false, false] (f := cu8) (c := 1) (((A0 (s0_0).toNat)).fDst % 4#8) (T' := 5) cu8_len cu8_one (by decide)) [16], .o, .r [0, 1, 2, 3, 4, 5, 6, 7, 8, 9, 10, 11, 12, 13, 14, 15] [] [], .o, .o, .a 13, .ov (u8_rem Tryz.prog 5 (.tmp 118) (.const (.int .u8 (8))) ((A0 (s0_0).toNat)).fOp (8#8) (by decide)), .t (u_eq (((A0 (s0_0).toNat)).fOp % 8#8) (7#8)) rfl, .o, .a 13, .q (ixA_ok (kd := .u8) (T := 26) (x := nn (((A0 (s0_0).toNat)).fDst % 4#8)) (sz := 1) (N := 4) rfl rfl (fun w => by kernel_rfl) hq6), .l (accF (i := 1) (f := cu64) (A := updF r3 3 (BitVec.ofInt 64 (ii ((fun k => g_Arr22 y0 k) 3)))) (k := (nn (((A0 (s0_0).toNat)).fDst % 4#8)).toNat) 0 [.int .u64 (nn ((updF r3 3 (BitVec.ofInt 64 (ii ((fun k => g_Arr22 y0 k) 3)))) (nn (((A0 (s0_0).toNat)).fDst % 4#8)).toNat))] cu64_len (inR_nat hq6) rfl), .o, .cg (ok_alu_Do hU (nn (((A0 (s0_0).toNat)).fOp / 16#8)) ((((A0 (s0_0).toNat)).fOp % 8#8) == 7#8) ((updF r3 3 (BitVec.ofInt 64 (ii ((fun k => g_Arr22 y0 k) 3)))) (nn (((A0 (s0_0).toNat)).fDst % 4#8)).toNat) (BitVec.ofInt 64 (ii ((A0 (s0_0).toNat)).fImm)) rb0 e_rb0), .o, .o, .o, .o, .o, .o, .a 13, .o, .q (ixA_ok (kd := .u8) (T := 26) (x := nn (((A0 (s0_0).toNat)).fDst % 4#8)) (sz := 1) (N := 4) rfl rfl (fun w => by kernel_rfl) hq6), .x (sqStFr_ok (T := 25) (e := 26) (f := cu64) (A := updF r3 3 (BitVec.ofInt 64 (ii ((fun k => g_Arr22 y0 k) 3)))) (v := rb0.1) 0 (.int .u64 (nn rb0.1)) cu64_len cu64_one rfl rfl (fun w => by kernel_rfl) (inR_nat hq6) e_rb1) [1], .o, .a 13, .o, .x (sqAppLr_ok (ty := 23) rt23 #[false, false] (f := c_Insn) (N := 4) (A := r4) (c := 1) [(⟨((A0 (s0_0).toNat)).fOp, (((A0 (s0_0).toNat)).fDst % 4#8), 0#8, 0#16, ((A0 (s0_0).toNat)).fImm⟩ : Insn)] (T' := 29) .row c_Insn_len c_Insn_one (by decide) rfl (by decide) e_rb2) [9, 18], .o, .o, .o, .o]) [0, 1, 2, 3, 4, 5, 6, 7, 8, 19, 15, 17] (fun b => rfl) (by decide) rfl rfl (fun b => by kernel_rfl)
                  · exact none_some e
          · replace e := cond_eq_or e
            let P6 : List (PG Tryz.prog M B0 S) := P3 ++ [.tn (u_ne (((A0 (s0_0).toNat)).fOp % 8#8) (4#8)) hq2, .o, .o, .a 13, .ov (u8_rem Tryz.prog 5 (.tmp 70) (.const (.int .u8 (8))) ((A0 (s0_0).toNat)).fOp (8#8) (by decide))]
            rcases e with ⟨hq3, e⟩ | ⟨hq3, e⟩
            · replace e := cond_eq_or e
              let P7 : List (PG Tryz.prog M B0 S) := P6 ++ [.tn (u_ne (((A0 (s0_0).toNat)).fOp % 8#8) (7#8)) hq3, .o, .o, .o]
              rcases e with ⟨hq4, e⟩ | ⟨hq4, e⟩
              · cases e; exact goes_runM hU (P7 ++ [.b (z_gtrT hq4), .o, .o, .o, .o, .o, .o]) [0, 1, 2, 3, 4, 5, 6, 7, 8, 9, 10, 11] (fun b => rfl) (by decide) rfl rfl (fun b => by kernel_rfl)
              · replace e := cond_eq_or e
                rcases e with ⟨hq5, e⟩ | ⟨hq5, e⟩
                · cases e; exact goes_runM hU (P7 ++ [.b (z_gtrF hq4), .o, .o, .o, .b (z_eqlT hq5), .o, .o, .o, .o]) [0, 1, 2, 3, 4, 5, 6, 7, 8, 9, 10, 11] (fun b => rfl) (by decide) rfl rfl (fun b => by kernel_rfl)
                · replace e := cond_eq_or e
                  let P8 : List (PG Tryz.prog M B0 S) := P7 ++ [.b (z_gtrF hq4), .o, .o, .o, .b (z_eqlF hq5), .o, .o, .a 13, .ov (u8_rem Tryz.prog 5 (.tmp 83) (.const (.int .u8 (4))) ((A0 (s0_0).toNat)).fDst (4#8) (by decide)), .o, .a 13, .ov (u8_rem Tryz.prog 5 (.tmp 86) (.const (.int .u8 (4))) ((A0 (s0_0).toNat)).fSrc (4#8) (by decide)), .o, .a 13, .o, .a 13, .o, .a 13, .o, .a 13, .v .i64 (z_of_ii (by decide) ((A0 (s0_0).toNat)).fImm), .v .u64 (u64_of_z (ii ((A0 (s0_0).toNat)).fImm)), .o, .o, .a 13, .ov (u8_quo Tryz.prog 5 (.tmp 96) (.const (.int .u8 (8))) ((A0 (s0_0).toNat)).fOp (8#8) (by decide)), .ov (u8_rem Tryz.prog 5 (.tmp 97) (.const (.int .u8 (2))) (((A0 (s0_0).toNat)).fOp / 8#8) (2#8) (by decide))]
                  rcases e with ⟨hq6, e⟩ | ⟨hq6, e⟩
                  · replace e := cond_eq_or e
                    rcases e with ⟨hq7, e⟩ | ⟨hq7, e⟩
                    · replace e := cond_eq_or e
                      rcases e with ⟨hq8, e⟩ | ⟨hq8, e⟩
                      · replace e := bindO_eq e
                        obtain ⟨rb0, e_rb0, e⟩ := e
                        try dsimp only at e
                        replace e := bindT_eq e
                        obtain ⟨rb1, e_rb1, e⟩ := e
                        try dsimp only at e
                        replace e := bindT_eq e
                        obtain ⟨rb2, e_rb2, e⟩ := e
                        try dsimp only at e
                        cases e; exact goes_runM hU (P8 ++ [.t (u_eq ((((A0 (s0_0).toNat)).fOp / 8#8) % 2#8) (1#8)) hq6, .o, .a 13, .q (ixA_ok (kd := .u8) (T := 26) (x := nn (((A0 (s0_0).toNat)).fSrc % 4#8)) (sz := 1) (N := 4) rfl rfl (fun w => by kernel_rfl) hq7), .l (accF (i := 1) (f := cu64) (A := updF r3 3 (BitVec.ofInt 64 (ii ((fun k => g_Arr22 y0 k) 3)))) (k := (nn (((A0 (s0_0).toNat)).fSrc % 4#8)).toNat) 0 [.int .u64 (nn ((updF r3 3 (BitVec.ofInt 64 (ii ((fun k => g_Arr22 y0 k) 3)))) (nn (((A0 (s0_0).toNat)).fSrc % 4#8)).toNat))] cu64_len (inR_nat hq7) rfl), .o, .o, .a 13, .o, .a 1, .o, .x (sqAppL1_ok (ty := 30) rt30 #[false, false] (f := c_Arr26) (c := 1) (⟨(updF r3 3 (BitVec.ofInt 64 (ii ((fun k => g_Arr22 y0 k) 3)))) 0, (updF r3 3 (BitVec.ofInt 64 (ii ((fun k => g_Arr22 y0 k) 3)))) 1, (updF r3 3 (BitVec.ofInt 64 (ii ((fun k => g_Arr22 y0 k) 3)))) 2, (updF r3 3 (BitVec.ofInt 64 (ii ((fun k => g_Arr22 y0 k) 3)))) 3⟩ : Arr26) (T' := 26) c_Arr26_len c_Arr26_one (by decide)) [14], .o, .o, .o, .a 13, .o, .x (sqAppL1_ok (ty := 31) rt31 #[false, false] (f := cu8) (c := 1) (((A0 (s0_0).toNat)).fDst % 4#8) (T' := 5) cu8_len cu8_one (by decide)) [16], .o, .r [0, 1, 2, 3, 4, 5, 6, 7, 8, 9, 10, 11, 12, 13, 14, 15] [] [], .o, .o, .a 13, .ov (u8_rem Tryz.prog 5 (.tmp 118) (.const (.int .u8 (8))) ((A0 (s0_0).toNat)).fOp (8#8) (by decide)), .t (u_eq (((A0 (s0_0).toNat)).fOp % 8#8) (7#8)) hq3, .o, .a 13, .q (ixA_ok (kd := .u8) (T := 26) (x := nn (((A0 (s0_0).toNat)).fDst % 4#8)) (sz := 1) (N := 4) rfl rfl (fun w => by kernel_rfl) hq8), .l (accF (i := 1) (f := cu64) (A := updF r3 3 (BitVec.ofInt 64 (ii ((fun k => g_Arr22 y0 k) 3)))) (k := (nn (((A0 (s0_0).toNat)).fDst % 4#8)).toNat) 0 [.int .u64 (nn ((updF r3 3 (BitVec.ofInt 64 (ii ((fun k => g_Arr22 y0 k) 3)))) (nn (((A0 (s0_0).toNat)).fDst % 4#8)).toNat))] cu64_len (inR_nat hq8) rfl), .o, .cg (ok_alu_Do hU (nn (((A0 (s0_0).toNat)).fOp / 16#8)) true ((updF r3 3 (BitVec.ofInt 64 (ii ((fun k => g_Arr22 y0 k) 3)))) (nn (((A0 (s0_0).toNat)).fDst % 4#8)).toNat) ((updF r3 3 (BitVec.ofInt 64 (ii ((fun k => g_Arr22 y0 k) 3)))) (nn (((A0 (s0_0).toNat)).fSrc % 4#8)).toNat) rb0 e_rb0), .o, .o, .o, .o, .o, .o, .a 13, .o, .q (ixA_ok (kd := .u8) (T := 26) (x := nn (((A0 (s0_0).toNat)).fDst % 4#8)) (sz := 1) (N := 4) rfl rfl (fun w => by kernel_rfl) hq8), .x (sqStFr_ok (T := 25) (e := 26) (f := cu64) (A := updF r3 3 (BitVec.ofInt 64 (ii ((fun k => g_Arr22 y0 k) 3)))) (v := rb0.1) 0 (.int .u64 (nn rb0.1)) cu64_len cu64_one rfl rfl (fun w => by kernel_rfl) (inR_nat hq8) e_rb1) [1], .o, .a 13, .o, .x (sqAppLr_ok (ty := 23) rt23 #[false, false] (f := c_Insn) (N := 4) (A := r4) (c := 1) [(⟨((A0 (s0_0).toNat)).fOp, (((A0 (s0_0).toNat)).fDst % 4#8), (((A0 (s0_0).toNat)).fSrc % 4#8), 0#16, 0#32⟩ : Insn)] (T' := 29) .row c_Insn_len c_Insn_one (by decide) rfl (by decide) e_rb2) [9, 18], .o, .o, .o, .o]) [0, 1, 2, 3, 4, 5, 6, 7, 8, 19, 15, 17] (fun b => rfl) (by decide) rfl rfl (fun b => by kernel_rfl)
                      · exact none_some e
                    · exact none_some e
                  · replace e := cond_eq_or e
                    rcases e with ⟨hq7, e⟩ | ⟨hq7, e⟩
                    · replace e := bindO_eq e
                      obtain ⟨rb0, e_rb0, e⟩ := e
                      try dsimp only at e
                      replace e := bindT_eq e
                      obtain ⟨rb1, e_rb1, e⟩ := e
                      try dsimp only at e
                      replace e := bindT_eq e
                      obtain ⟨rb2, e_rb2, e⟩ := e
                      try dsimp only at e
                      cases e; exact goes_runM hU (P8 ++ [.t (u_eq ((((A0 (s0_0).toNat)).fOp / 8#8) % 2#8) (1#8)) hq6, .o, .a 13, .o, .a 1, .o, .x (sqAppL1_ok (ty := 30) rt30 #[false, false] (f := c_Arr26) (c := 1) (⟨(updF r3 3 (BitVec.ofInt 64 (ii ((fun k => g_Arr22 y0 k) 3)))) 0, (updF r3 3 (BitVec.ofInt 64 (ii ((fun k => g_Arr22 y0 k) 3)))) 1, (updF r3 3 (BitVec.ofInt 64 (ii ((fun k => g_Arr22 y0 k) 3)))) 2, (updF r3 3 (BitVec.ofInt 64 (ii ((fun k => g_Arr22 y0 k) 3)))) 3⟩ : Arr26) (T' := 26) c_Arr26_len c_Arr26_one (by decide)) [14], .o, .o, .o, .a 13, .o, .x (sqAppL1_ok (ty := 31) rt31 #[false, false] (f := cu8) (c := 1) (((A0 (s0_0).toNat)).fDst % 4#8) (T' := 5) cu8_len cu8_one (by decide)) [16], .o, .r [0, 1, 2, 3, 4, 5, 6, 7, 8, 9, 10, 11, 12, 13, 14, 15] [] [], .o, .o, .a 13, .ov (u8_rem Tryz.prog 5 (.tmp 118) (.const (.int .u8 (8))) ((A0 (s0_0).toNat)).fOp (8#8) (by decide)), .t (u_eq (((A0 (s0_0).toNat)).fOp % 8#8) (7#8)) hq3, .o, .a 13, .q (ixA_ok (kd := .u8) (T := 26) (x := nn (((A0 (s0_0).toNat)).fDst % 4#8)) (sz := 1) (N := 4) rfl rfl (fun w => by kernel_rfl) hq7), .l (accF (i := 1) (f := cu64) (A := updF r3 3 (BitVec.ofInt 64 (ii ((fun k => g_Arr22 y0 k) 3)))) (k := (nn (((A0 (s0_0).toNat)).fDst % 4#8)).toNat) 0 [.int .u64 (nn ((updF r3 3 (BitVec.ofInt 64 (ii ((fun k => g_Arr22 y0 k) 3)))) (nn (((A0 (s0_0).toNat)).fDst % 4#8)).toNat))] cu64_len (inR_nat hq7) rfl), .o, .cg (ok_alu_Do hU (nn (((A0 (s0_0).toNat)).fOp / 16#8)) true ((updF r3 3 (BitVec.ofInt 64 (ii ((fun k => g_Arr22 y0 k) 3)))) (nn (((A0 (s0_0).toNat)).fDst % 4#8)).toNat) (BitVec.ofInt 64 (ii ((A0 (s0_0).toNat)).fImm)) rb0 e_rb0), .o, .o, .o, .o, .o, .o, .a 13, .o, .q (ixA_ok (kd := .u8) (T := 26) (x := nn (((A0 (s0_0).toNat)).fDst % 4#8)) (sz := 1) (N := 4) rfl rfl (fun w => by kernel_rfl) hq7), .x (sqStFr_ok (T := 25) (e := 26) (f := cu64) (A := updF r3 3 (BitVec.ofInt 64 (ii ((fun k => g_Arr22 y0 k) 3)))) (v := rb0.1) 0 (.int .u64 (nn rb0.1)) cu64_len cu64_one rfl rfl (fun w => by kernel_rfl) (inR_nat hq7) e_rb1) [1], .o, .a 13, .o, .x (sqAppLr_ok (ty := 23) rt23 #[false, false] (f := c_Insn) (N := 4) (A := r4) (c := 1) [(⟨((A0 (s0_0).toNat)).fOp, (((A0 (s0_0).toNat)).fDst % 4#8), 0#8, 0#16, ((A0 (s0_0).toNat)).fImm⟩ : Insn)] (T' := 29) .row c_Insn_len c_Insn_one (by decide) rfl (by decide) e_rb2) [9, 18], .o, .o, .o, .o]) [0, 1, 2, 3, 4, 5, 6, 7, 8, 19, 15, 17] (fun b => rfl) (by decide) rfl rfl (fun b => by kernel_rfl)
                    · exact none_some e
            · cases e; exact goes_runM hU (P6 ++ [.tn (u_ne (((A0 (s0_0).toNat)).fOp % 8#8) (7#8)) hq3, .o, .o, .o, .o, .o, .o, .o, .o]) [0, 1, 2, 3, 4, 5, 6, 7, 8, 9, 10, 11] (fun b => rfl) (by decide) rfl rfl (fun b => by kernel_rfl)
        · exact none_some e
      · cases e; exact ⟨ne_exit 2, goes_runM hU (P1 ++ [.b (z_lssF hq0)]) [0, 1, 2, 3, 4, 5, 6, 7, 8, 9, 10, 11] (fun b => rfl) (by decide) rfl rfl (fun b => by kernel_rfl)⟩
    | c1 s0_0 s0_1 s0_2 s0_3 s0_4 s0_5 s0_6 s0_7 s0_8 s0_9 s0_10 s0_11 s0_12 =>
      unfold st_barbicanlaw25_FoldStraight_L1 at e
      dsimp only at e
      replace e := cond_eq_or e
      let P9 : List (PG Tryz.prog M B0 S) := [.o, .o, .o]
      rcases e with ⟨hq0, e⟩ | ⟨hq0, e⟩
      · replace e := cond_eq_or e
        let P10 : List (PG Tryz.prog M B0 S) := P9 ++ [.b (z_lssT hq0), .o, .o]
        rcases e with ⟨hq1, e⟩ | ⟨hq1, e⟩
        · replace e := cond_eq_or e
          let P11 : List (PG Tryz.prog M B0 S) := P10 ++ [.q (ixRo_ok (kd := .i64) (T := 23) (x := s0_12) (sz := 5) rfl (fun w => by kernel_rfl) hR0 hq1), .l (accRo hR0 c_Insn_len (inR_nat hq1) 0 [.int .u8 (nn ((A0 (s0_12).toNat)).fOp), .int .u8 (nn ((A0 (s0_12).toNat)).fDst), .int .u8 (nn ((A0 (s0_12).toNat)).fSrc), .int .i16 (ii ((A0 (s0_12).toNat)).fOff), .int .i32 (ii ((A0 (s0_12).toNat)).fImm)] rfl), .o, .a 13, .o, .a 13, .ov (u8_quo Tryz.prog 5 (.tmp 61) (.const (.int .u8 (16))) ((A0 (s0_12).toNat)).fOp (16#8) (by decide)), .v .i64 (z_of_nn (by decide) (((A0 (s0_12).toNat)).fOp / 16#8)), .o, .o, .a 13, .ov (u8_rem Tryz.prog 5 (.tmp 65) (.const (.int .u8 (8))) ((A0 (s0_12).toNat)).fOp (8#8) (by decide))]
          rcases e with ⟨hq2, e⟩ | ⟨hq2, e⟩
          · replace e := cond_eq_or e
            let P12 : List (PG Tryz.prog M B0 S) := P11 ++ [.tn (u_ne (((A0 (s0_12).toNat)).fOp % 8#8) (4#8)) hq2, .o, .o, .o, .o]
            rcases e with ⟨hq3, e⟩ | ⟨hq3, e⟩
            · cases e; exact goes_runM hU (P12 ++ [.b (z_gtrT hq3), .o, .o, .o, .o, .o, .o]) [0, 1, 2, 3, 4, 5, 6, 7, 8, 9, 10, 11] (fun b => rfl) (by decide) rfl rfl (fun b => by kernel_rfl)
            · replace e := cond_eq_or e
              rcases e with ⟨hq4, e⟩ | ⟨hq4, e⟩
              · cases e; exact goes_runM hU (P12 ++ [.b (z_gtrF hq3), .o, .o, .o, .b (z_eqlT hq4), .o, .o, .o, .o]) [0, 1, 2, 3, 4, 5, 6, 7, 8, 9, 10, 11] (fun b => rfl) (by decide) rfl rfl (fun b => by kernel_rfl)
              · replace e := cond_eq_or e
                let P13 : List (PG Tryz.prog M B0 S) := P12 ++ [.b (z_gtrF hq3), .o, .o, .o, .b (z_eqlF hq4), .o, .o, .a 13, .ov (u8_rem Tryz.prog 5 (.tmp 83) (.const (.int .u8 (4))) ((A0 (s0_12).toNat)).fDst (4#8) (by decide)), .o, .a 13, .ov (u8_rem Tryz.prog 5 (.tmp 86) (.const (.int .u8 (4))) ((A0 (s0_12).toNat)).fSrc (4#8) (by decide)), .o, .a 13, .o, .a 13, .o, .a 13, .o, .a 13, .v .i64 (z_of_ii (by decide) ((A0 (s0_12).toNat)).fImm), .v .u64 (u64_of_z (ii ((A0 (s0_12).toNat)).fImm)), .o, .o, .a 13, .ov (u8_quo Tryz.prog 5 (.tmp 96) (.const (.int .u8 (8))) ((A0 (s0_12).toNat)).fOp (8#8) (by decide)), .ov (u8_rem Tryz.prog 5 (.tmp 97) (.const (.int .u8 (2))) (((A0 (s0_12).toNat)).fOp / 8#8) (2#8) (by decide))]
                rcases e with ⟨hq5, e⟩ | ⟨hq5, e⟩
                · replace e := cond_eq_or e
                  rcases e with ⟨hq6, e⟩ | ⟨hq6, e⟩
                  · replace e := cond_eq_or e
                    rcases e with ⟨hq7, e⟩ | ⟨hq7, e⟩
                    · replace e := cond_eq_or e
                      rcases e with ⟨hq8, e⟩ | ⟨hq8, e⟩
                      · replace e := cond_eq_or e
                        rcases e with ⟨hq9, e⟩ | ⟨hq9, e⟩
                        · replace e := bindO_eq e
                          obtain ⟨rb0, e_rb0, e⟩ := e
                          try dsimp only at e
                          replace e := cond_eq_or e
                          rcases e with ⟨hq10, e⟩ | ⟨hq10, e⟩
                          · replace e := bindT_eq e
                            obtain ⟨rb1, e_rb1, e⟩ := e
                            try dsimp only at e
                            cases e; exact goes_runM hU (P13 ++ [.t (u_eq ((((A0 (s0_12).toNat)).fOp / 8#8) % 2#8) (1#8)) hq5, .o, .a 13, .q (ixA_ok (kd := .u8) (T := 26) (x := nn (((A0 (s0_12).toNat)).fSrc % 4#8)) (sz := 1) (N := 4) rfl rfl (fun w => by kernel_rfl) hq6), .l (accF (i := 1) (f := cu64) (A := s0_1) (k := (nn (((A0 (s0_12).toNat)).fSrc % 4#8)).toNat) 0 [.int .u64 (nn (s0_1 (nn (((A0 (s0_12).toNat)).fSrc % 4#8)).toNat))] cu64_len (inR_nat hq6) rfl), .o, .o, .a 13, .o, .a 1, .o, .x (sqAppL_ok (ty := 30) rt30 #[false, false] (f := c_Arr26) (N := s0_8) (A := s0_9) (c := 1) [(⟨s0_1 0, s0_1 1, s0_1 2, s0_1 3⟩ : Arr26)] (T' := 26) .row c_Arr26_len c_Arr26_one hq7 rfl (by decide)) [10, 14], .o, .o, .o, .a 13, .o, .x (sqAppL_ok (ty := 31) rt31 #[false, false] (f := cu8) (N := s0_10) (A := s0_11) (c := 1) [(((A0 (s0_12).toNat)).fDst % 4#8)] (T' := 5) .row cu8_len cu8_one hq8 rfl (by decide)) [11, 16], .o, .r [0, 1, 2, 3, 4, 5, 6, 7, 8, 9, 10, 11, 12, 13, 14, 15] [] [], .o, .o, .a 13, .ov (u8_rem Tryz.prog 5 (.tmp 118) (.const (.int .u8 (8))) ((A0 (s0_12).toNat)).fOp (8#8) (by decide)), .t (u_eq (((A0 (s0_12).toNat)).fOp % 8#8) (7#8)) rfl, .o, .a 13, .q (ixA_ok (kd := .u8) (T := 26) (x := nn (((A0 (s0_12).toNat)).fDst % 4#8)) (sz := 1) (N := 4) rfl rfl (fun w => by kernel_rfl) hq9), .l (accF (i := 1) (f := cu64) (A := s0_1) (k := (nn (((A0 (s0_12).toNat)).fDst % 4#8)).toNat) 0 [.int .u64 (nn (s0_1 (nn (((A0 (s0_12).toNat)).fDst % 4#8)).toNat))] cu64_len (inR_nat hq9) rfl), .o, .cg (ok_alu_Do hU (nn (((A0 (s0_12).toNat)).fOp / 16#8)) ((((A0 (s0_12).toNat)).fOp % 8#8) == 7#8) (s0_1 (nn (((A0 (s0_12).toNat)).fDst % 4#8)).toNat) (s0_1 (nn (((A0 (s0_12).toNat)).fSrc % 4#8)).toNat) rb0 e_rb0), .o, .o, .o, .o, .o, .o, .a 13, .o, .q (ixA_ok (kd := .u8) (T := 26) (x := nn (((A0 (s0_12).toNat)).fDst % 4#8)) (sz := 1) (N := 4) rfl rfl (fun w => by kernel_rfl) hq9), .x (sqStF_ok (T := 25) (e := 26) (f := cu64) (A := s0_1) (v := rb0.1) 0 (.int .u64 (nn rb0.1)) cu64_len cu64_one rfl rfl (fun w => by kernel_rfl) (inR_nat hq9)) [1], .o, .a 13, .o, .x (sqAppLr_ok (ty := 23) rt23 #[false, false] (f := c_Insn) (N := s0_6) (A := s0_7) (c := 1) [(⟨((A0 (s0_12).toNat)).fOp, (((A0 (s0_12).toNat)).fDst % 4#8), (((A0 (s0_12).toNat)).fSrc % 4#8), 0#16, 0#32⟩ : Insn)] (T' := 29) .row c_Insn_len c_Insn_one hq10 rfl (by decide) e_rb1) [9, 18], .o, .o, .o, .o]) [0, 1, 2, 3, 4, 5, 6, 7, 8, 19, 15, 17] (fun b => rfl) (by decide) rfl rfl (fun b => by kernel_rfl)
                          · exact none_some e
                        · exact none_some e
                      · exact none_some e
                    · exact none_some e
                  · exact none_some e
                · replace e := cond_eq_or e
                  rcases e with ⟨hq6, e⟩ | ⟨hq6, e⟩
                  · replace e := cond_eq_or e
                    rcases e with ⟨hq7, e⟩ | ⟨hq7, e⟩
                    · replace e := cond_eq_or e
                      rcases e with ⟨hq8, e⟩ | ⟨hq8, e⟩
                      · replace e := bindO_eq e
                        obtain ⟨rb0, e_rb0, e⟩ := e
                        try dsimp only at e
                        replace e := cond_eq_or e
                        rcases e with ⟨hq9, e⟩ | ⟨hq9, e⟩
                        · replace e := bindT_eq e
                          obtain ⟨rb1, e_rb1, e⟩ := e
                          try dsimp only at e
                          cases e; exact goes_runM hU (P13 ++ [.t (u_eq ((((A0 (s0_12).toNat)).fOp / 8#8) % 2#8) (1#8)) hq5, .o, .a 13, .o, .a 1, .o, .x (sqAppL_ok (ty := 30) rt30 #[false, false] (f := c_Arr26) (N := s0_8) (A := s0_9) (c := 1) [(⟨s0_1 0, s0_1 1, s0_1 2, s0_1 3⟩ : Arr26)] (T' := 26) .row c_Arr26_len c_Arr26_one hq6 rfl (by decide)) [10, 14], .o, .o, .o, .a 13, .o, .x (sqAppL_ok (ty := 31) rt31 #[false, false] (f := cu8) (N := s0_10) (A := s0_11) (c := 1) [(((A0 (s0_12).toNat)).fDst % 4#8)] (T' := 5) .row cu8_len cu8_one hq7 rfl (by decide)) [11, 16], .o, .r [0, 1, 2, 3, 4, 5, 6, 7, 8, 9, 10, 11, 12, 13, 14, 15] [] [], .o, .o, .a 13, .ov (u8_rem Tryz.prog 5 (.tmp 118) (.const (.int .u8 (8))) ((A0 (s0_12).toNat)).fOp (8#8) (by decide)), .t (u_eq (((A0 (s0_12).toNat)).fOp % 8#8) (7#8)) rfl, .o, .a 13, .q (ixA_ok (kd := .u8) (T := 26) (x := nn (((A0 (s0_12).toNat)).fDst % 4#8)) (sz := 1) (N := 4) rfl rfl (fun w => by kernel_rfl) hq8), .l (accF (i := 1) (f := cu64) (A := s0_1) (k := (nn (((A0 (s0_12).toNat)).fDst % 4#8)).toNat) 0 [.int .u64 (nn (s0_1 (nn (((A0 (s0_12).toNat)).fDst % 4#8)).toNat))] cu64_len (inR_nat hq8) rfl), .o, .cg (ok_alu_Do hU (nn (((A0 (s0_12).toNat)).fOp / 16#8)) ((((A0 (s0_12).toNat)).fOp % 8#8) == 7#8) (s0_1 (nn (((A0 (s0_12).toNat)).fDst % 4#8)).toNat) (BitVec.ofInt 64 (ii ((A0 (s0_12).toNat)).fImm)) rb0 e_rb0), .o, .o, .o, .o, .o, .o, .a 13, .o, .q (ixA_ok (kd := .u8) (T := 26) (x := nn (((A0 (s0_12).toNat)).fDst % 4#8)) (sz := 1) (N := 4) rfl rfl (fun w => by kernel_rfl) hq8), .x (sqStF_ok (T := 25) (e := 26) (f := cu64) (A := s0_1) (v := rb0.1) 0 (.int .u64 (nn rb0.1)) cu64_len cu64_one rfl rfl (fun w => by kernel_rfl) (inR_nat hq8)) [1], .o, .a 13, .o, .x (sqAppLr_ok (ty := 23) rt23 #[false, false] (f := c_Insn) (N := s0_6) (A := s0_7) (c := 1) [(⟨((A0 (s0_12).toNat)).fOp, (((A0 (s0_12).toNat)).fDst % 4#8), 0#8, 0#16, ((A0 (s0_12).toNat)).fImm⟩ : Insn)] (T' := 29) .row c_Insn_len c_Insn_one hq9 rfl (by decide) e_rb1) [9, 18], .o, .o, .o, .o]) [0, 1, 2, 3, 4, 5, 6, 7, 8, 19, 15, 17] (fun b => rfl) (by decide) rfl rfl (fun b => by kernel_rfl)
                        · exact none_some e
                      · exact none_some e
                    · exact none_some e
                  · exact none_some e
          · replace e := cond_eq_or e
            let P14 : List (PG Tryz.prog M B0 S) := P11 ++ [.tn (u_ne (((A0 (s0_12).toNat)).fOp % 8#8) (4#8)) hq2, .o, .o, .a 13, .ov (u8_rem Tryz.prog 5 (.tmp 70) (.const (.int .u8 (8))) ((A0 (s0_12).toNat)).fOp (8#8) (by decide))]
            rcases e with ⟨hq3, e⟩ | ⟨hq3, e⟩
            · replace e := cond_eq_or e
              let P15 : List (PG Tryz.prog M B0 S) := P14 ++ [.tn (u_ne (((A0 (s0_12).toNat)).fOp % 8#8) (7#8)) hq3, .o, .o, .o]
              rcases e with ⟨hq4, e⟩ | ⟨hq4, e⟩
              · cases e; exact goes_runM hU (P15 ++ [.b (z_gtrT hq4), .o, .o, .o, .o, .o, .o]) [0, 1, 2, 3, 4, 5, 6, 7, 8, 9, 10, 11] (fun b => rfl) (by decide) rfl rfl (fun b => by kernel_rfl)
              · replace e := cond_eq_or e
                rcases e with ⟨hq5, e⟩ | ⟨hq5, e⟩
                · cases e; exact goes_runM hU (P15 ++ [.b (z_gtrF hq4), .o, .o, .o, .b (z_eqlT hq5), .o, .o, .o, .o]) [0, 1, 2, 3, 4, 5, 6, 7, 8, 9, 10, 11] (fun b => rfl) (by decide) rfl rfl (fun b => by kernel_rfl)
                · replace e := cond_eq_or e
                  let P16 : List (PG Tryz.prog M B0 S) := P15 ++ [.b (z_gtrF hq4), .o, .o, .o, .b (z_eqlF hq5), .o, .o, .a 13, .ov (u8_rem Tryz.prog 5 (.tmp 83) (.const (.int .u8 (4))) ((A0 (s0_12).toNat)).fDst (4#8) (by decide)), .o, .a 13, .ov (u8_rem Tryz.prog 5 (.tmp 86) (.const (.int .u8 (4))) ((A0 (s0_12).toNat)).fSrc (4#8) (by decide)), .o, .a 13, .o, .a 13, .o, .a 13, .o, .a 13, .v .i64 (z_of_ii (by decide) ((A0 (s0_12).toNat)).fImm), .v .u64 (u64_of_z (ii ((A0 (s0_12).toNat)).fImm)), .o, .o, .a 13, .ov (u8_quo Tryz.prog 5 (.tmp 96) (.const (.int .u8 (8))) ((A0 (s0_12).toNat)).fOp (8#8) (by decide)), .ov (u8_rem Tryz.prog 5 (.tmp 97) (.const (.int .u8 (2))) (((A0 (s0_12).toNat)).fOp / 8#8) (2#8) (by decide))]
                  rcases e with ⟨hq6, e⟩ | ⟨hq6, e⟩
                  · replace e := cond_eq_or e
                    rcases e with ⟨hq7, e⟩ | ⟨hq7, e⟩
                    · replace e := cond_eq_or e
                      rcases e with ⟨hq8, e⟩ | ⟨hq8, e⟩
                      · replace e := cond_eq_or e
                        rcases e with ⟨hq9, e⟩ | ⟨hq9, e⟩
                        · replace e := cond_eq_or e
                          rcases e with ⟨hq10, e⟩ | ⟨hq10, e⟩
                          · replace e := bindO_eq e
                            obtain ⟨rb0, e_rb0, e⟩ := e
                            try dsimp only at e
                            replace e := cond_eq_or e
                            rcases e with ⟨hq11, e⟩ | ⟨hq11, e⟩
                            · replace e := bindT_eq e
                              obtain ⟨rb1, e_rb1, e⟩ := e
                              try dsimp only at e
                              cases e; exact goes_runM hU (P16 ++ [.t (u_eq ((((A0 (s0_12).toNat)).fOp / 8#8) % 2#8) (1#8)) hq6, .o, .a 13, .q (ixA_ok (kd := .u8) (T := 26) (x := nn (((A0 (s0_12).toNat)).fSrc % 4#8)) (sz := 1) (N := 4) rfl rfl (fun w => by kernel_rfl) hq7), .l (accF (i := 1) (f := cu64) (A := s0_1) (k := (nn (((A0 (s0_12).toNat)).fSrc % 4#8)).toNat) 0 [.int .u64 (nn (s0_1 (nn (((A0 (s0_12).toNat)).fSrc % 4#8)).toNat))] cu64_len (inR_nat hq7) rfl), .o, .o, .a 13, .o, .a 1, .o, .x (sqAppL_ok (ty := 30) rt30 #[false, false] (f := c_Arr26) (N := s0_8) (A := s0_9) (c := 1) [(⟨s0_1 0, s0_1 1, s0_1 2, s0_1 3⟩ : Arr26)] (T' := 26) .row c_Arr26_len c_Arr26_one hq8 rfl (by decide)) [10, 14], .o, .o, .o, .a 13, .o, .x (sqAppL_ok (ty := 31) rt31 #[false, false] (f := cu8) (N := s0_10) (A := s0_11) (c := 1) [(((A0 (s0_12).toNat)).fDst % 4#8)] (T' := 5) .row cu8_len cu8_one hq9 rfl (by decide)) [11, 16], .o, .r [0, 1, 2, 3, 4, 5, 6, 7, 8, 9, 10, 11, 12, 13, 14, 15] [] [], .o, .o, .a 13, .ov (u8_rem Tryz.prog 5 (.tmp 118) (.const (.int .u8 (8))) ((A0 (s0_12).toNat)).fOp (8#8) (by decide)), .t (u_eq (((A0 (s0_12).toNat)).fOp % 8#8) (7#8)) hq3, .o, .a 13, .q (ixA_ok (kd := .u8) (T := 26) (x := nn (((A0 (s0_12).toNat)).fDst % 4#8)) (sz := 1) (N := 4) rfl rfl (fun w => by kernel_rfl) hq10), .l (accF (i := 1) (f := cu64) (A := s0_1) (k := (nn (((A0 (s0_12).toNat)).fDst % 4#8)).toNat) 0 [.int .u64 (nn (s0_1 (nn (((A0 (s0_12).toNat)).fDst % 4#8)).toNat))] cu64_len (inR_nat hq10) rfl), .o, .cg (ok_alu_Do hU (nn (((A0 (s0_12).toNat)).fOp / 16#8)) true (s0_1 (nn (((A0 (s0_12).toNat)).fDst % 4#8)).toNat) (s0_1 (nn (((A0 (s0_12).toNat)).fSrc % 4#8)).toNat) rb0 e_rb0), .o, .o, .o, .o, .o, .o, .a 13, .o, .q (ixA_ok (kd := .u8) (T := 26) (x := nn (((A0 (s0_12).toNat)).fDst % 4#8)) (sz := 1) (N := 4) rfl rfl (fun w => by kernel_rfl) hq10), .x (sqStF_ok (T := 25) (e := 26) (f := cu64) (A := s0_1) (v := rb0.1) 0 (.int .u64 (nn rb0.1)) cu64_len cu64_one rfl rfl (fun w => by kernel_rfl) (inR_nat hq10)) [1], .o, .a 13, .o, .x (sqAppLr_ok (ty := 23) rt23 #[false, false] (f := c_Insn) (N := s0_6) (A := s0_7) (c := 1) [(⟨((A0 (s0_12).toNat)).fOp, (((A0 (s0_12).toNat)).fDst % 4#8), (((A0 (s0_12).toNat)).fSrc % 4#8), 0#16, 0#32⟩ : Insn)] (T' := 29) .row c_Insn_len c_Insn_one hq11 rfl (by decide) e_rb1) [9, 18], .o, .o, .o, .o]) [0, 1, 2, 3, 4, 5, 6, 7, 8, 19, 15, 17] (fun b => rfl) (by decide) rfl rfl (fun b => by kernel_rfl)
                            · exact none_some e
                          · exact none_some e
                        · exact none_some e
                      · exact none_some e
                    · exact none_some e
                  · replace e := cond_eq_or e
                    rcases e with ⟨hq7, e⟩ | ⟨hq7, e⟩
                    · replace e := cond_eq_or e
                      rcases e with ⟨hq8, e⟩ | ⟨hq8, e⟩
                      · replace e := cond_eq_or e
                        rcases e with ⟨hq9, e⟩ | ⟨hq9, e⟩
                        · replace e := bindO_eq e
                          obtain ⟨rb0, e_rb0, e⟩ := e
                          try dsimp only at e
                          replace e := cond_eq_or e
                          rcases e with ⟨hq10, e⟩ | ⟨hq10, e⟩
                          · replace e := bindT_eq e
                            obtain ⟨rb1, e_rb1, e⟩ := e
                            try dsimp only at e
                            cases e; exact goes_runM hU (P16 ++ [.t (u_eq ((((A0 (s0_12).toNat)).fOp / 8#8) % 2#8) (1#8)) hq6, .o, .a 13, .o, .a 1, .o, .x (sqAppL_ok (ty := 30) rt30 #[false, false] (f := c_Arr26) (N := s0_8) (A := s0_9) (c := 1) [(⟨s0_1 0, s0_1 1, s0_1 2, s0_1 3⟩ : Arr26)] (T' := 26) .row c_Arr26_len c_Arr26_one hq7 rfl (by decide)) [10, 14], .o, .o, .o, .a 13, .o, .x (sqAppL_ok (ty := 31) rt31 #[false, false] (f := cu8) (N := s0_10) (A := s0_11) (c := 1) [(((A0 (s0_12).toNat)).fDst % 4#8)] (T' := 5) .row cu8_len cu8_one hq8 rfl (by decide)) [11, 16], .o, .r [0, 1, 2, 3, 4, 5, 6, 7, 8, 9, 10, 11, 12, 13, 14, 15] [] [], .o, .o, .a 13, .ov (u8_rem Tryz.prog 5 (.tmp 118) (.const (.int .u8 (8))) ((A0 (s0_12).toNat)).fOp (8#8) (by decide)), .t (u_eq (((A0 (s0_12).toNat)).fOp % 8#8) (7#8)) hq3, .o, .a 13, .q (ixA_ok (kd := .u8) (T := 26) (x := nn (((A0 (s0_12).toNat)).fDst % 4#8)) (sz := 1) (N := 4) rfl rfl (fun w => by kernel_rfl) hq9), .l (accF (i := 1) (f := cu64) (A := s0_1) (k := (nn (((A0 (s0_12).toNat)).fDst % 4#8)).toNat) 0 [.int .u64 (nn (s0_1 (nn (((A0 (s0_12).toNat)).fDst % 4#8)).toNat))] cu64_len (inR_nat hq9) rfl), .o, .cg (ok_alu_Do hU (nn (((A0 (s0_12).toNat)).fOp / 16#8)) true (s0_1 (nn (((A0 (s0_12).toNat)).fDst % 4#8)).toNat) (BitVec.ofInt 64 (ii ((A0 (s0_12).toNat)).fImm)) rb0 e_rb0), .o, .o, .o, .o, .o, .o, .a 13, .o, .q (ixA_ok (kd := .u8) (T := 26) (x := nn (((A0 (s0_12).toNat)).fDst % 4#8)) (sz := 1) (N := 4) rfl rfl (fun w => by kernel_rfl) hq9), .x (sqStF_ok (T := 25) (e := 26) (f := cu64) (A := s0_1) (v := rb0.1) 0 (.int .u64 (nn rb0.1)) cu64_len cu64_one rfl rfl (fun w => by kernel_rfl) (inR_nat hq9)) [1], .o, .a 13, .o, .x (sqAppLr_ok (ty := 23) rt23 #[false, false] (f := c_Insn) (N := s0_6) (A := s0_7) (c := 1) [(⟨((A0 (s0_12).toNat)).fOp, (((A0 (s0_12).toNat)).fDst % 4#8), 0#8, 0#16, ((A0 (s0_12).toNat)).fImm⟩ : Insn)] (T' := 29) .row c_Insn_len c_Insn_one hq10 rfl (by decide) e_rb1) [9, 18], .o, .o, .o, .o]) [0, 1, 2, 3, 4, 5, 6, 7, 8, 19, 15, 17] (fun b => rfl) (by decide) rfl rfl (fun b => by kernel_rfl)
                          · exact none_some e
                        · exact none_some e
                      · exact none_some e
                    · exact none_some e
            · cases e; exact goes_runM hU (P14 ++ [.tn (u_ne (((A0 (s0_12).toNat)).fOp % 8#8) (7#8)) hq3, .o, .o, .o, .o, .o, .o, .o, .o]) [0, 1, 2, 3, 4, 5, 6, 7, 8, 9, 10, 11] (fun b => rfl) (by decide) rfl rfl (fun b => by kernel_rfl)
        · exact none_some e
      · cases e; exact ⟨ne_exit 2, goes_runM hU (P9 ++ [.b (z_lssF hq0)]) [0, 1, 2, 3, 4, 5, 6, 7, 8, 9, 10, 11] (fun b => rfl) (by decide) rfl rfl (fun b => by kernel_rfl)⟩) s r h
noncomputable def t0_barbicanlaw25_FoldStraight_L1_0 (y0 : Arr22) (a0 : Option Addr) (p0 : Nat) (q0 : Nat) (n0 : Nat) (k0 : Nat) (A0 : Nat → Insn) (r0 : Nat → BitVec 64) (r1 : Nat → Insn) (r2 : Nat → Insn) (r3 : Nat → BitVec 64) (r4 : Nat → Insn) (s0_0 : Int) (ls : List L1) : List Value := List.append [(v_Arr22 y0), .slice a0 n0 (n0 + k0), .pointer (some ⟨(lget ls 0).n, 0, none⟩), undef, .bool false, (rowV (lget ls 9) 4 5), .pointer (some ⟨(lget ls 1).n, 0, none⟩), .int .i64 (4), .slice none 0 0, .slice none 0 0, .int .i64 (s0_0)] (List.append (und 14) (List.append [.bool true, .bool false, .slice a0 n0 (n0 + k0), .int .i64 ((n0 : Int)), .bool false, .int .i64 (4), .bool false, .int .i64 (3), .int .i64 (4), (rowV (lget ls 7) 3 5), .int .i64 (3), .int .u8 (3), .int .i64 (3), .pointer (some ⟨(lget ls 0).n, 0 + 3 * 1, none⟩), .int .i32 (ii ((fun k => g_Arr22 y0 k) 3)), .agg #[.int .u8 (183), .int .u8 (3), .int .u8 (0), .int .i16 (0), .int .i32 (ii ((fun k => g_Arr22 y0 k) 3))], .slice (some ⟨(lget ls 8).n, 0, none⟩) 1 1, (rowV (lget ls 9) 4 5), .int .i64 (3), .int .i64 (3), .pointer (some ⟨(lget ls 0).n, 0 + 3 * 1, none⟩), .int .i32 (ii ((fun k => g_Arr22 y0 k) 3)), .int .i64 ((ii ((fun k => g_Arr22 y0 k) 3))), .int .u64 (nn (BitVec.ofInt 64 (ii ((fun k => g_Arr22 y0 k) 3)))), .pointer (some ⟨(lget ls 1).n, 0 + 3 * 1, none⟩)] (und 231)))
def pre_barbicanlaw25_FoldStraight_L1_0 (y0 : Arr22) (a0 : Option Addr) (p0 : Nat) (q0 : Nat) (n0 : Nat) (k0 : Nat) (A0 : Nat → Insn) (r0 : Nat → BitVec 64) (r1 : Nat → Insn) (r2 : Nat → Insn) (r3 : Nat → BitVec 64) (r4 : Nat → Insn) (s0_0 : Int) (ls : List L1) : List Obj := [.cells ⟨esG ci32 4 (fun k => g_Arr22 y0 k)⟩ 22, .cells ⟨esG cu64 4 (updF r3 3 (BitVec.ofInt 64 (ii ((fun k => g_Arr22 y0 k) 3))))⟩ 26, .cells #[.int .u8 (183), .int .u8 (0), .int .u8 (0), .int .i16 (0), .int .i32 (ii ((fun k => g_Arr22 y0 k) 0))] 29, unb, .cells #[.int .u8 (183), .int .u8 (1), .int .u8 (0), .int .i16 (0), .int .i32 (ii ((fun k => g_Arr22 y0 k) 1))] 29, unb, .cells #[.int .u8 (183), .int .u8 (2), .int .u8 (0), .int .i16 (0), .int .i32 (ii ((fun k => g_Arr22 y0 k) 2))] 29, unb, .cells #[.int .u8 (183), .int .u8 (3), .int .u8 (0), .int .i16 (0), .int .i32 (ii ((fun k => g_Arr22 y0 k) 3))] 29, rowO (lget ls 9) (esG c_Insn 4 r4) 29 4 5]
theorem sp0_barbicanlaw25_FoldStraight_L1_0_ok (s0_0 : Int) (c0_0 : Nat → BitVec 32) (c0_1 : Nat → BitVec 64) (c0_2 : BitVec 32) (c0_3 : BitVec 32) (c0_4 : BitVec 32) (c0_5 : BitVec 32) (h : lpO (st_barbicanlaw25_FoldStraight_L1 y0 n0 A0 r3 r4) (.c0 s0_0) = some (.e0 c0_0 c0_1 c0_2 c0_3 c0_4 c0_5)) : SpcG Tryz.prog M B0 S ⟨fun ls => .code (.loop bd_barbicanlaw25_FoldStraight_L1) (t0_barbicanlaw25_FoldStraight_L1_0 y0 a0 p0 q0 n0 k0 A0 r0 r1 r2 r3 r4 s0_0 ls), pre_barbicanlaw25_FoldStraight_L1_0 y0 a0 p0 q0 n0 k0 A0 r0 r1 r2 r3 r4 s0_0, 4, (.exit 2), fun ls => vf_barbicanlaw25_FoldStraight_L1 y0 a0 p0 q0 n0 k0 A0 r0 r1 r2 r3 r4 (.e0 c0_0 c0_1 c0_2 c0_3 c0_4 c0_5) (ls.take 9 ++ ls.drop 10), fun ls => (Hf_barbicanlaw25_FoldStraight_L1 y0 a0 p0 q0 n0 k0 A0 r0 r1 r2 r3 r4 (.e0 c0_0 c0_1 c0_2 c0_3 c0_4 c0_5) (ls.take 9 ++ ls.drop 10)).take 9 ++ List.replicate 1 unb, fun ls => (Hf_barbicanlaw25_FoldStraight_L1 y0 a0 p0 q0 n0 k0 A0 r0 r1 r2 r3 r4 (.e0 c0_0 c0_1 c0_2 c0_3 c0_4 c0_5) (ls.take 9 ++ ls.drop 10)).drop 9⟩ :=
  spc_of_goesM hU 2 (k0 := 10) (go_barbicanlaw25_FoldStraight_L1 hU y0 a0 p0 q0 n0 k0 A0 hR0 r0 r1 r2 r3 r4 _ _ h) (t0_barbicanlaw25_FoldStraight_L1_0 y0 a0 p0 q0 n0 k0 A0 r0 r1 r2 r3 r4 s0_0) (pre_barbicanlaw25_FoldStraight_L1_0 y0 a0 p0 q0 n0 k0 A0 r0 r1 r2 r3 r4 s0_0) (fun _ => rfl) (fun ls h => by match ls, h with | [l0, l1, l2, l3, l4, l5, l6, l7, l8, l9], _ => exact ⟨by kernel_rfl, by kernel_rfl⟩) (fun ls h => by match ls, h with | [l0, l1, l2, l3, l4, l5, l6, l7, l8, l9], _ => rfl) (by decide) (by decide) (fun ls => rfl)
theorem sp1_barbicanlaw25_FoldStraight_L1_0_ok (s0_0 : Int) (c1_0 : Nat → BitVec 32) (c1_1 : Nat → BitVec 64) (c1_2 : BitVec 32) (c1_3 : BitVec 32) (c1_4 : BitVec 32) (c1_5 : BitVec 32) (c1_6 : Nat) (c1_7 : Nat → Insn) (c1_8 : Nat) (c1_9 : Nat → Arr26) (c1_10 : Nat) (c1_11 : Nat → BitVec 8) (h : lpO (st_barbicanlaw25_FoldStraight_L1 y0 n0 A0 r3 r4) (.c0 s0_0) = some (.e1 c1_0 c1_1 c1_2 c1_3 c1_4 c1_5 c1_6 c1_7 c1_8 c1_9 c1_10 c1_11)) : SpcG Tryz.prog M B0 S ⟨fun ls => .code (.loop bd_barbicanlaw25_FoldStraight_L1) (t0_barbicanlaw25_FoldStraight_L1_0 y0 a0 p0 q0 n0 k0 A0 r0 r1 r2 r3 r4 s0_0 ls), pre_barbicanlaw25_FoldStraight_L1_0 y0 a0 p0 q0 n0 k0 A0 r0 r1 r2 r3 r4 s0_0, 4, (.exit 2), fun ls => vf_barbicanlaw25_FoldStraight_L1 y0 a0 p0 q0 n0 k0 A0 r0 r1 r2 r3 r4 (.e1 c1_0 c1_1 c1_2 c1_3 c1_4 c1_5 c1_6 c1_7 c1_8 c1_9 c1_10 c1_11) (ls.take 9 ++ ls.drop 10), fun ls => (Hf_barbicanlaw25_FoldStraight_L1 y0 a0 p0 q0 n0 k0 A0 r0 r1 r2 r3 r4 (.e1 c1_0 c1_1 c1_2 c1_3 c1_4 c1_5 c1_6 c1_7 c1_8 c1_9 c1_10 c1_11) (ls.take 9 ++ ls.drop 10)).take 9 ++ List.replicate 1 unb, fun ls => (Hf_barbicanlaw25_FoldStraight_L1 y0 a0 p0 q0 n0 k0 A0 r0 r1 r2 r3 r4 (.e1 c1_0 c1_1 c1_2 c1_3 c1_4 c1_5 c1_6 c1_7 c1_8 c1_9 c1_10 c1_11) (ls.take 9 ++ ls.drop 10)).drop 9⟩ :=
  spc_of_goesM hU 2 (k0 := 10) (go_barbicanlaw25_FoldStraight_L1 hU y0 a0 p0 q0 n0 k0 A0 hR0 r0 r1 r2 r3 r4 _ _ h) (t0_barbicanlaw25_FoldStraight_L1_0 y0 a0 p0 q0 n0 k0 A0 r0 r1 r2 r3 r4 s0_0) (pre_barbicanlaw25_FoldStraight_L1_0 y0 a0 p0 q0 n0 k0 A0 r0 r1 r2 r3 r4 s0_0) (fun _ => rfl) (fun ls h => by match ls, h with | [l0, l1, l2, l3, l4, l5, l6, l7, l8, l9], _ => exact ⟨by kernel_rfl, by kernel_rfl⟩) (fun ls h => by match ls, h with | [l0, l1, l2, l3, l4, l5, l6, l7, l8, l9], _ => rfl) (by decide) (by decide) (fun ls => rfl)
inductive Sh_barbicanlaw25_FoldStraight_L2_L3v2 where
  | c0 (sb0_0 : Int)
inductive Ex_barbicanlaw25_FoldStraight_L2_L3v2 where
  | e0 
noncomputable def st_barbicanlaw25_FoldStraight_L2_L3v2 (g6_0 : Nat → Arr42) (s0_5 : Nat → Arr26) (s0_6 : Int) : Sh_barbicanlaw25_FoldStraight_L2_L3v2 → Option (Sh_barbicanlaw25_FoldStraight_L2_L3v2 ⊕ Ex_barbicanlaw25_FoldStraight_L2_L3v2)
  | .c0 sb0_0 =>
    bif decide (sb0_0 < 4) then
      (bif inR (IntKind.i64.wrap (4 + s0_6)) 5 then
        (bif inR sb0_0 11 then
          (bif inR s0_6 1 then
            (bif inR sb0_0 4 then
              (bif ((((g_Arr42 (g6_0 ((IntKind.i64.wrap (4 + s0_6))).toNat) (sb0_0).toNat)).fKind == 1) && ((((g_Arr42 (g6_0 ((IntKind.i64.wrap (4 + s0_6))).toNat) (sb0_0).toNat)).fNum == (g_Arr26 (s0_5 (s0_6).toNat) (sb0_0).toNat)) && ((((g_Arr42 (g6_0 ((IntKind.i64.wrap (4 + s0_6))).toNat) (sb0_0).toNat)).fId == 0) && (((g_Arr42 (g6_0 ((IntKind.i64.wrap (4 + s0_6))).toNat) (sb0_0).toNat)).fOff == 0)))) then
                (some (.inl (.c0 (IntKind.i64.wrap (sb0_0 + 1)))))
              else (none))
            else (none))
          else (none))
        else (none))
      else (none))
    else (some (.inr (.e0 )))
noncomputable def bd_barbicanlaw25_FoldStraight_L2_L3v2 : Code := codeOf Tryz.f3 [1, 1, 1, 1, 1, 1, 1, 1, 1, 1, 1, 1, 1, 1, 0, 1, 0, 0, 1, 0, 0, 0, 1, 0, 0]
def fl_barbicanlaw25_FoldStraight_L2_L3v2 (y0 : Arr22) (a0 : Option Addr) (p0 : Nat) (q0 : Nat) (n0 : Nat) (k0 : Nat) (A0 : Nat → Insn) (r0 : Nat → BitVec 64) (r1 : Nat → Insn) (r2 : Nat → Insn) (r3 : Nat → BitVec 64) (r4 : Nat → Insn) (g5_0 : Nat → BitVec 32) (g5_1 : Nat → BitVec 64) (g5_2 : BitVec 32) (g5_3 : BitVec 32) (g5_4 : BitVec 32) (g5_5 : BitVec 32) (g6_0 : Nat → Arr42) (g7_0 : Nat → Insn) (s0_0 : Nat → Insn) (s0_1 : BitVec 64) (s0_2 : BitVec 64) (s0_3 : BitVec 64) (s0_4 : BitVec 64) (s0_5 : Nat → Arr26) (s0_6 : Int) : Sh_barbicanlaw25_FoldStraight_L2_L3v2 → List L1 → List Value
  | .c0 sb0_0, ls => [(rowV (lget ls 15) 5 5), (rowV (lget ls 17) 1 4), .slice none 0 0, (rowV (lget ls 18) 5 44), (rowV (lget ls 19) (0 + 5) 5), .int .i64 (s0_6), .int .i64 (sb0_0)]
def mf_barbicanlaw25_FoldStraight_L2_L3v2 : Sh_barbicanlaw25_FoldStraight_L2_L3v2 → List (Nat × Nat)
  | .c0 _ => [(0, 5), (1, 2), (2, 6), (1, 1), (1, 1), (2, 259)]
noncomputable def fr_barbicanlaw25_FoldStraight_L2_L3v2 (y0 : Arr22) (a0 : Option Addr) (p0 : Nat) (q0 : Nat) (n0 : Nat) (k0 : Nat) (A0 : Nat → Insn) (r0 : Nat → BitVec 64) (r1 : Nat → Insn) (r2 : Nat → Insn) (r3 : Nat → BitVec 64) (r4 : Nat → Insn) (g5_0 : Nat → BitVec 32) (g5_1 : Nat → BitVec 64) (g5_2 : BitVec 32) (g5_3 : BitVec 32) (g5_4 : BitVec 32) (g5_5 : BitVec 32) (g6_0 : Nat → Arr42) (g7_0 : Nat → Insn) (s0_0 : Nat → Insn) (s0_1 : BitVec 64) (s0_2 : BitVec 64) (s0_3 : BitVec 64) (s0_4 : BitVec 64) (s0_5 : Nat → Arr26) (s0_6 : Int) (s : Sh_barbicanlaw25_FoldStraight_L2_L3v2) : List L1 → List Value := mrgF (mf_barbicanlaw25_FoldStraight_L2_L3v2 s) (fl_barbicanlaw25_FoldStraight_L2_L3v2 y0 a0 p0 q0 n0 k0 A0 r0 r1 r2 r3 r4 g5_0 g5_1 g5_2 g5_3 g5_4 g5_5 g6_0 g7_0 s0_0 s0_1 s0_2 s0_3 s0_4 s0_5 s0_6 s) 21
def Hs_barbicanlaw25_FoldStraight_L2_L3v2 (y0 : Arr22) (a0 : Option Addr) (p0 : Nat) (q0 : Nat) (n0 : Nat) (k0 : Nat) (A0 : Nat → Insn) (r0 : Nat → BitVec 64) (r1 : Nat → Insn) (r2 : Nat → Insn) (r3 : Nat → BitVec 64) (r4 : Nat → Insn) (g5_0 : Nat → BitVec 32) (g5_1 : Nat → BitVec 64) (g5_2 : BitVec 32) (g5_3 : BitVec 32) (g5_4 : BitVec 32) (g5_5 : BitVec 32) (g6_0 : Nat → Arr42) (g7_0 : Nat → Insn) (s0_0 : Nat → Insn) (s0_1 : BitVec 64) (s0_2 : BitVec 64) (s0_3 : BitVec 64) (s0_4 : BitVec 64) (s0_5 : Nat → Arr26) (s0_6 : Int) : Sh_barbicanlaw25_FoldStraight_L2_L3v2 → List L1 → List Obj
  | .c0 sb0_0, ls => [.cells ⟨esG ci32 4 g5_0⟩ 22, .cells ⟨esG cu64 4 g5_1⟩ 26, .cells #[.int .u8 (183), .int .u8 (0), .int .u8 (0), .int .i16 (0), .int .i32 (ii g5_2)] 29, unb, .cells #[.int .u8 (183), .int .u8 (1), .int .u8 (0), .int .i16 (0), .int .i32 (ii g5_3)] 29, unb, .cells #[.int .u8 (183), .int .u8 (2), .int .u8 (0), .int .i16 (0), .int .i32 (ii g5_4)] 29, unb, .cells #[.int .u8 (183), .int .u8 (3), .int .u8 (0), .int .i16 (0), .int .i32 (ii g5_5)] 29, unb, unb, unb, unb, unb, .cells #[.int .u8 (149), .int .u8 (0), .int .u8 (0), .int .i16 (0), .int .i32 (0)] 29, rowO (lget ls 15) (esG c_Insn 5 s0_0) 29 5 5, .cells #[.int .u64 (nn s0_1), .int .u64 (nn s0_2), .int .u64 (nn s0_3), .int .u64 (nn s0_4)] 26, rowO (lget ls 17) (esG c_Arr26 1 s0_5) 26 1 4, rowO (lget ls 18) (esG c_Arr42 5 g6_0) 42 5 44, rowO (lget ls 19) (esG c_Insn (0 + 5) g7_0) 29 (0 + 5) 5, unb, unb]
def vl_barbicanlaw25_FoldStraight_L2_L3v2 (y0 : Arr22) (a0 : Option Addr) (p0 : Nat) (q0 : Nat) (n0 : Nat) (k0 : Nat) (A0 : Nat → Insn) (r0 : Nat → BitVec 64) (r1 : Nat → Insn) (r2 : Nat → Insn) (r3 : Nat → BitVec 64) (r4 : Nat → Insn) (g5_0 : Nat → BitVec 32) (g5_1 : Nat → BitVec 64) (g5_2 : BitVec 32) (g5_3 : BitVec 32) (g5_4 : BitVec 32) (g5_5 : BitVec 32) (g6_0 : Nat → Arr42) (g7_0 : Nat → Insn) (s0_0 : Nat → Insn) (s0_1 : BitVec 64) (s0_2 : BitVec 64) (s0_3 : BitVec 64) (s0_4 : BitVec 64) (s0_5 : Nat → Arr26) (s0_6 : Int) : Ex_barbicanlaw25_FoldStraight_L2_L3v2 → List L1 → List Value
  | .e0 , ls => [(rowV (lget ls 15) 5 5), (rowV (lget ls 17) 1 4), .slice none 0 0, (rowV (lget ls 18) 5 44), (rowV (lget ls 19) (0 + 5) 5), .int .i64 (s0_6)]
def mk_barbicanlaw25_FoldStraight_L2_L3v2 : Ex_barbicanlaw25_FoldStraight_L2_L3v2 → List (Nat × Nat)
  | .e0  => [(0, 5), (1, 2), (2, 6), (1, 1), (1, 1), (1, 260)]
noncomputable def vf_barbicanlaw25_FoldStraight_L2_L3v2 (y0 : Arr22) (a0 : Option Addr) (p0 : Nat) (q0 : Nat) (n0 : Nat) (k0 : Nat) (A0 : Nat → Insn) (r0 : Nat → BitVec 64) (r1 : Nat → Insn) (r2 : Nat → Insn) (r3 : Nat → BitVec 64) (r4 : Nat → Insn) (g5_0 : Nat → BitVec 32) (g5_1 : Nat → BitVec 64) (g5_2 : BitVec 32) (g5_3 : BitVec 32) (g5_4 : BitVec 32) (g5_5 : BitVec 32) (g6_0 : Nat → Arr42) (g7_0 : Nat → Insn) (s0_0 : Nat → Insn) (s0_1 : BitVec 64) (s0_2 : BitVec 64) (s0_3 : BitVec 64) (s0_4 : BitVec 64) (s0_5 : Nat → Arr26) (s0_6 : Int) (r : Ex_barbicanlaw25_FoldStraight_L2_L3v2) : List L1 → List Value := mrgF (mk_barbicanlaw25_FoldStraight_L2_L3v2 r) (vl_barbicanlaw25_FoldStraight_L2_L3v2 y0 a0 p0 q0 n0 k0 A0 r0 r1 r2 r3 r4 g5_0 g5_1 g5_2 g5_3 g5_4 g5_5 g6_0 g7_0 s0_0 s0_1 s0_2 s0_3 s0_4 s0_5 s0_6 r) 21
def Hf_barbicanlaw25_FoldStraight_L2_L3v2 (y0 : Arr22) (a0 : Option Addr) (p0 : Nat) (q0 : Nat) (n0 : Nat) (k0 : Nat) (A0 : Nat → Insn) (r0 : Nat → BitVec 64) (r1 : Nat → Insn) (r2 : Nat → Insn) (r3 : Nat → BitVec 64) (r4 : Nat → Insn) (g5_0 : Nat → BitVec 32) (g5_1 : Nat → BitVec 64) (g5_2 : BitVec 32) (g5_3 : BitVec 32) (g5_4 : BitVec 32) (g5_5 : BitVec 32) (g6_0 : Nat → Arr42) (g7_0 : Nat → Insn) (s0_0 : Nat → Insn) (s0_1 : BitVec 64) (s0_2 : BitVec 64) (s0_3 : BitVec 64) (s0_4 : BitVec 64) (s0_5 : Nat → Arr26) (s0_6 : Int) : Ex_barbicanlaw25_FoldStraight_L2_L3v2 → List L1 → List Obj
  | .e0 , ls => [.cells ⟨esG ci32 4 g5_0⟩ 22, .cells ⟨esG cu64 4 g5_1⟩ 26, .cells #[.int .u8 (183), .int .u8 (0), .int .u8 (0), .int .i16 (0), .int .i32 (ii g5_2)] 29, unb, .cells #[.int .u8 (183), .int .u8 (1), .int .u8 (0), .int .i16 (0), .int .i32 (ii g5_3)] 29, unb, .cells #[.int .u8 (183), .int .u8 (2), .int .u8 (0), .int .i16 (0), .int .i32 (ii g5_4)] 29, unb, .cells #[.int .u8 (183), .int .u8 (3), .int .u8 (0), .int .i16 (0), .int .i32 (ii g5_5)] 29, unb, unb, unb, unb, unb, .cells #[.int .u8 (149), .int .u8 (0), .int .u8 (0), .int .i16 (0), .int .i32 (0)] 29, rowO (lget ls 15) (esG c_Insn 5 s0_0) 29 5 5, .cells #[.int .u64 (nn s0_1), .int .u64 (nn s0_2), .int .u64 (nn s0_3), .int .u64 (nn s0_4)] 26, rowO (lget ls 17) (esG c_Arr26 1 s0_5) 26 1 4, rowO (lget ls 18) (esG c_Arr42 5 g6_0) 42 5 44, rowO (lget ls 19) (esG c_Insn (0 + 5) g7_0) 29 (0 + 5) 5, unb, unb]
def ex_barbicanlaw25_FoldStraight_L2_L3v2 : Ex_barbicanlaw25_FoldStraight_L2_L3v2 → Ex
  | .e0  => (.exit 6)
theorem go_barbicanlaw25_FoldStraight_L2_L3v2 (g5_0 : Nat → BitVec 32) (g5_1 : Nat → BitVec 64) (g5_2 : BitVec 32) (g5_3 : BitVec 32) (g5_4 : BitVec 32) (g5_5 : BitVec 32) (g6_0 : Nat → Arr42) (g7_0 : Nat → Insn) (s0_0 : Nat → Insn) (s0_1 : BitVec 64) (s0_2 : BitVec 64) (s0_3 : BitVec 64) (s0_4 : BitVec 64) (s0_5 : Nat → Arr26) (s0_6 : Int) (s : Sh_barbicanlaw25_FoldStraight_L2_L3v2) (r : Ex_barbicanlaw25_FoldStraight_L2_L3v2) (h : lpO (st_barbicanlaw25_FoldStraight_L2_L3v2 g6_0 s0_5 s0_6) s = some r) : GoesG Tryz.prog M B0 S (.loop bd_barbicanlaw25_FoldStraight_L2_L3v2) 22 (fr_barbicanlaw25_FoldStraight_L2_L3v2 y0 a0 p0 q0 n0 k0 A0 r0 r1 r2 r3 r4 g5_0 g5_1 g5_2 g5_3 g5_4 g5_5 g6_0 g7_0 s0_0 s0_1 s0_2 s0_3 s0_4 s0_5 s0_6 s) (Hs_barbicanlaw25_FoldStraight_L2_L3v2 y0 a0 p0 q0 n0 k0 A0 r0 r1 r2 r3 r4 g5_0 g5_1 g5_2 g5_3 g5_4 g5_5 g6_0 g7_0 s0_0 s0_1 s0_2 s0_3 s0_4 s0_5 s0_6 s) (ex_barbicanlaw25_FoldStraight_L2_L3v2 r) 21 (vf_barbicanlaw25_FoldStraight_L2_L3v2 y0 a0 p0 q0 n0 k0 A0 r0 r1 r2 r3 r4 g5_0 g5_1 g5_2 g5_3 g5_4 g5_5 g6_0 g7_0 s0_0 s0_1 s0_2 s0_3 s0_4 s0_5 s0_6 r) (Hf_barbicanlaw25_FoldStraight_L2_L3v2 y0 a0 p0 q0 n0 k0 A0 r0 r1 r2 r3 r4 g5_0 g5_1 g5_2 g5_3 g5_4 g5_5 g6_0 g7_0 s0_0 s0_1 s0_2 s0_3 s0_4 s0_5 s0_6 r) 22 :=
  goes_lpO (fun s q e => by
    cases s with
    | c0 sb0_0 =>
      unfold st_barbicanlaw25_FoldStraight_L2_L3v2 at e
      dsimp only at e
      replace e := cond_eq_or e
      rcases e with ⟨hq0, e⟩ | ⟨hq0, e⟩
      · replace e := cond_eq_or e
        rcases e with ⟨hq1, e⟩ | ⟨hq1, e⟩
        · replace e := cond_eq_or e
          rcases e with ⟨hq2, e⟩ | ⟨hq2, e⟩
          · replace e := cond_eq_or e
            rcases e with ⟨hq3, e⟩ | ⟨hq3, e⟩
            · replace e := cond_eq_or e
              rcases e with ⟨hq4, e⟩ | ⟨hq4, e⟩
              · replace e := cond_eq_or e
                rcases e with ⟨hq5, e⟩ | ⟨hq5, e⟩
                · cases e; exact goes_runM hU [.o, .b (z_lssT hq0), .r [0, 1, 2, 3, 4, 5, 6, 7, 8, 9, 10, 11, 12, 13, 14] [] [], .o, .o, .o, .o, .q (ixM_ok (kd := .i64) (T := 34) (x := (IntKind.i64.wrap (4 + s0_6))) (N := 5) (sz := 44) rfl (fun w => by kernel_rfl) hq1), .q (ixA_ok (kd := .i64) (T := 42) (x := sb0_0) (sz := 4) (N := 11) rfl rfl (fun w => by kernel_rfl) hq2), .l (accG (i := 18) (f := c_Arr42) (A := g6_0) (k := ((IntKind.i64.wrap (4 + s0_6))).toNat) ((sb0_0).toNat * 4) [.int .i64 (((g_Arr42 (g6_0 ((IntKind.i64.wrap (4 + s0_6))).toNat) (sb0_0).toNat)).fKind), .int .u64 (nn ((g_Arr42 (g6_0 ((IntKind.i64.wrap (4 + s0_6))).toNat) (sb0_0).toNat)).fNum), .int .i64 (((g_Arr42 (g6_0 ((IntKind.i64.wrap (4 + s0_6))).toNat) (sb0_0).toNat)).fId), .int .i64 (((g_Arr42 (g6_0 ((IntKind.i64.wrap (4 + s0_6))).toNat) (sb0_0).toNat)).fOff)] c_Arr42_len (inR_nat hq1) (g_Arr42_dt _ (inR_nat hq2))), .o, .o, .o, .q (ixM_ok (kd := .i64) (T := 30) (x := s0_6) (N := 1) (sz := 4) rfl (fun w => by kernel_rfl) hq3), .q (ixA_ok (kd := .i64) (T := 26) (x := sb0_0) (sz := 1) (N := 4) rfl rfl (fun w => by kernel_rfl) hq4), .l (accG (i := 17) (f := c_Arr26) (A := s0_5) (k := (s0_6).toNat) ((sb0_0).toNat * 1) [.int .u64 (nn (g_Arr26 (s0_5 (s0_6).toNat) (sb0_0).toNat))] c_Arr26_len (inR_nat hq3) (g_Arr26_at _ (inR_nat hq4))), .o, .ov (fun w => (run_aggeq 41 #[.int .i64 (((g_Arr42 (g6_0 ((IntKind.i64.wrap (4 + s0_6))).toNat) (sb0_0).toNat)).fKind), .int .u64 (nn ((g_Arr42 (g6_0 ((IntKind.i64.wrap (4 + s0_6))).toNat) (sb0_0).toNat)).fNum), .int .i64 (((g_Arr42 (g6_0 ((IntKind.i64.wrap (4 + s0_6))).toNat) (sb0_0).toNat)).fId), .int .i64 (((g_Arr42 (g6_0 ((IntKind.i64.wrap (4 + s0_6))).toNat) (sb0_0).toNat)).fOff)] #[.int .i64 (1), .int .u64 (nn (g_Arr26 (s0_5 (s0_6).toNat) (sb0_0).toNat)), .int .i64 (0), .int .i64 (0)] true (by kernel_rfl) (fun w => (eqi41 9998 ((g_Arr42 (g6_0 ((IntKind.i64.wrap (4 + s0_6))).toNat) (sb0_0).toNat)).fKind 1 ((g_Arr42 (g6_0 ((IntKind.i64.wrap (4 + s0_6))).toNat) (sb0_0).toNat)).fNum (g_Arr26 (s0_5 (s0_6).toNat) (sb0_0).toNat) ((g_Arr42 (g6_0 ((IntKind.i64.wrap (4 + s0_6))).toNat) (sb0_0).toNat)).fId 0 ((g_Arr42 (g6_0 ((IntKind.i64.wrap (4 + s0_6))).toNat) (sb0_0).toNat)).fOff 0 w).trans (congrArg (fun b => Result.ok b w) hq5)) (.tmp 191) (.tmp 198) w).2), .o, .o, .o] [0, 1, 2, 3, 4, 5, 6, 7, 8, 9, 10, 11, 12, 13, 14, 15, 16, 17, 18, 19, 20] (fun b => rfl) (by decide) rfl rfl (fun b => by kernel_rfl)
                · exact none_some e
              · exact none_some e
            · exact none_some e
          · exact none_some e
        · exact none_some e
      · cases e; exact ⟨ne_exit 6, goes_runM hU [.o, .b (z_lssF hq0)] [0, 1, 2, 3, 4, 5, 6, 7, 8, 9, 10, 11, 12, 13, 14, 15, 16, 17, 18, 19, 20] (fun b => rfl) (by decide) rfl rfl (fun b => by kernel_rfl)⟩) s r h
noncomputable def t0_barbicanlaw25_FoldStraight_L2_L3v2_0 (y0 : Arr22) (a0 : Option Addr) (p0 : Nat) (q0 : Nat) (n0 : Nat) (k0 : Nat) (A0 : Nat → Insn) (r0 : Nat → BitVec 64) (r1 : Nat → Insn) (r2 : Nat → Insn) (r3 : Nat → BitVec 64) (r4 : Nat → Insn) (g5_0 : Nat → BitVec 32) (g5_1 : Nat → BitVec 64) (g5_2 : BitVec 32) (g5_3 : BitVec 32) (g5_4 : BitVec 32) (g5_5 : BitVec 32) (g6_0 : Nat → Arr42) (g7_0 : Nat → Insn) (s0_0 : Nat → Insn) (s0_1 : BitVec 64) (s0_2 : BitVec 64) (s0_3 : BitVec 64) (s0_4 : BitVec 64) (s0_5 : Nat → Arr26) (s0_6 : Int) (sb0_0 : Int) (ls : List L1) : List Value := List.append (jks (lget ls 20).u 0 5) (List.append [(rowV (lget ls 15) 5 5), ((lget ls 20).u 6), ((lget ls 20).u 7), (rowV (lget ls 17) 1 4), .slice none 0 0] (List.append (jks (lget ls 20).u 10 6) (List.append [(rowV (lget ls 18) 5 44), ((lget ls 20).u 17), (rowV (lget ls 19) (0 + 5) 5), ((lget ls 20).u 19), .int .i64 (s0_6), .int .i64 (sb0_0)] (List.append (jks (lget ls 20).u 22 153) (List.append [.int .i64 (s0_6), (rowV (lget ls 17) 1 4), .int .i64 (1), .bool true] (jks (lget ls 20).u 179 102))))))
def pre_barbicanlaw25_FoldStraight_L2_L3v2_0 (y0 : Arr22) (a0 : Option Addr) (p0 : Nat) (q0 : Nat) (n0 : Nat) (k0 : Nat) (A0 : Nat → Insn) (r0 : Nat → BitVec 64) (r1 : Nat → Insn) (r2 : Nat → Insn) (r3 : Nat → BitVec 64) (r4 : Nat → Insn) (g5_0 : Nat → BitVec 32) (g5_1 : Nat → BitVec 64) (g5_2 : BitVec 32) (g5_3 : BitVec 32) (g5_4 : BitVec 32) (g5_5 : BitVec 32) (g6_0 : Nat → Arr42) (g7_0 : Nat → Insn) (s0_0 : Nat → Insn) (s0_1 : BitVec 64) (s0_2 : BitVec 64) (s0_3 : BitVec 64) (s0_4 : BitVec 64) (s0_5 : Nat → Arr26) (s0_6 : Int) (sb0_0 : Int) (ls : List L1) : List Obj := [.cells ⟨esG ci32 4 g5_0⟩ 22, .cells ⟨esG cu64 4 g5_1⟩ 26, .cells #[.int .u8 (183), .int .u8 (0), .int .u8 (0), .int .i16 (0), .int .i32 (ii g5_2)] 29, unb, .cells #[.int .u8 (183), .int .u8 (1), .int .u8 (0), .int .i16 (0), .int .i32 (ii g5_3)] 29, unb, .cells #[.int .u8 (183), .int .u8 (2), .int .u8 (0), .int .i16 (0), .int .i32 (ii g5_4)] 29, unb, .cells #[.int .u8 (183), .int .u8 (3), .int .u8 (0), .int .i16 (0), .int .i32 (ii g5_5)] 29, unb, unb, unb, unb, unb, .cells #[.int .u8 (149), .int .u8 (0), .int .u8 (0), .int .i16 (0), .int .i32 (0)] 29, rowO (lget ls 15) (esG c_Insn 5 s0_0) 29 5 5, .cells #[.int .u64 (nn s0_1), .int .u64 (nn s0_2), .int .u64 (nn s0_3), .int .u64 (nn s0_4)] 26, rowO (lget ls 17) (esG c_Arr26 1 s0_5) 26 1 4, rowO (lget ls 18) (esG c_Arr42 5 g6_0) 42 5 44, rowO (lget ls 19) (esG c_Insn (0 + 5) g7_0) 29 (0 + 5) 5, unb]
theorem sp0_barbicanlaw25_FoldStraight_L2_L3v2_0_ok (g5_0 : Nat → BitVec 32) (g5_1 : Nat → BitVec 64) (g5_2 : BitVec 32) (g5_3 : BitVec 32) (g5_4 : BitVec 32) (g5_5 : BitVec 32) (g6_0 : Nat → Arr42) (g7_0 : Nat → Insn) (s0_0 : Nat → Insn) (s0_1 : BitVec 64) (s0_2 : BitVec 64) (s0_3 : BitVec 64) (s0_4 : BitVec 64) (s0_5 : Nat → Arr26) (s0_6 : Int) (sb0_0 : Int) (h : lpO (st_barbicanlaw25_FoldStraight_L2_L3v2 g6_0 s0_5 s0_6) (.c0 sb0_0) = some (.e0 )) : SpcG Tryz.prog M B0 S ⟨fun ls => .code (.loop bd_barbicanlaw25_FoldStraight_L2_L3v2) (t0_barbicanlaw25_FoldStraight_L2_L3v2_0 y0 a0 p0 q0 n0 k0 A0 r0 r1 r2 r3 r4 g5_0 g5_1 g5_2 g5_3 g5_4 g5_5 g6_0 g7_0 s0_0 s0_1 s0_2 s0_3 s0_4 s0_5 s0_6 sb0_0 ls), pre_barbicanlaw25_FoldStraight_L2_L3v2_0 y0 a0 p0 q0 n0 k0 A0 r0 r1 r2 r3 r4 g5_0 g5_1 g5_2 g5_3 g5_4 g5_5 g6_0 g7_0 s0_0 s0_1 s0_2 s0_3 s0_4 s0_5 s0_6 sb0_0, 1, (.exit 6), fun ls => vf_barbicanlaw25_FoldStraight_L2_L3v2 y0 a0 p0 q0 n0 k0 A0 r0 r1 r2 r3 r4 g5_0 g5_1 g5_2 g5_3 g5_4 g5_5 g6_0 g7_0 s0_0 s0_1 s0_2 s0_3 s0_4 s0_5 s0_6 (.e0 ) (ls.take 21 ++ ls.drop 21), fun ls => (Hf_barbicanlaw25_FoldStraight_L2_L3v2 y0 a0 p0 q0 n0 k0 A0 r0 r1 r2 r3 r4 g5_0 g5_1 g5_2 g5_3 g5_4 g5_5 g6_0 g7_0 s0_0 s0_1 s0_2 s0_3 s0_4 s0_5 s0_6 (.e0 ) (ls.take 21 ++ ls.drop 21)).take 21 ++ List.replicate 0 unb, fun ls => (Hf_barbicanlaw25_FoldStraight_L2_L3v2 y0 a0 p0 q0 n0 k0 A0 r0 r1 r2 r3 r4 g5_0 g5_1 g5_2 g5_3 g5_4 g5_5 g6_0 g7_0 s0_0 s0_1 s0_2 s0_3 s0_4 s0_5 s0_6 (.e0 ) (ls.take 21 ++ ls.drop 21)).drop 21⟩ :=
  spc_of_goesM hU 0 (k0 := 21) (go_barbicanlaw25_FoldStraight_L2_L3v2 hU y0 a0 p0 q0 n0 k0 A0 hR0 r0 r1 r2 r3 r4 g5_0 g5_1 g5_2 g5_3 g5_4 g5_5 g6_0 g7_0 s0_0 s0_1 s0_2 s0_3 s0_4 s0_5 s0_6 _ _ h) (t0_barbicanlaw25_FoldStraight_L2_L3v2_0 y0 a0 p0 q0 n0 k0 A0 r0 r1 r2 r3 r4 g5_0 g5_1 g5_2 g5_3 g5_4 g5_5 g6_0 g7_0 s0_0 s0_1 s0_2 s0_3 s0_4 s0_5 s0_6 sb0_0) (pre_barbicanlaw25_FoldStraight_L2_L3v2_0 y0 a0 p0 q0 n0 k0 A0 r0 r1 r2 r3 r4 g5_0 g5_1 g5_2 g5_3 g5_4 g5_5 g6_0 g7_0 s0_0 s0_1 s0_2 s0_3 s0_4 s0_5 s0_6 sb0_0) (fun _ => rfl) (fun ls h => by match ls, h with | [l0, l1, l2, l3, l4, l5, l6, l7, l8, l9, l10, l11, l12, l13, l14, l15, l16, l17, l18, l19, l20], _ => exact ⟨by kernel_rfl, by kernel_rfl⟩) (fun ls h => by match ls, h with | [l0, l1, l2, l3, l4, l5, l6, l7, l8, l9, l10, l11, l12, l13, l14, l15, l16, l17, l18, l19, l20], _ => rfl) (by decide) (by decide) (fun ls => rfl)
inductive Sh_barbicanlaw25_FoldStraight_L2 where
  | c0 (s0_0 : Nat → Insn) (s0_1 : BitVec 64) (s0_2 : BitVec 64) (s0_3 : BitVec 64) (s0_4 : BitVec 64) (s0_5 : Nat → Arr26) (s0_6 : Int)
inductive Ex_barbicanlaw25_FoldStraight_L2 where
  | e0 (c0_0 : Nat → Insn) (c0_1 : BitVec 64) (c0_2 : BitVec 64) (c0_3 : BitVec 64) (c0_4 : BitVec 64) (c0_5 : Nat → Arr26)
noncomputable def st_barbicanlaw25_FoldStraight_L2 (g6_0 : Nat → Arr42) : Sh_barbicanlaw25_FoldStraight_L2 → Option (Sh_barbicanlaw25_FoldStraight_L2 ⊕ Ex_barbicanlaw25_FoldStraight_L2)
  | .c0 s0_0 s0_1 s0_2 s0_3 s0_4 s0_5 s0_6 =>
    bif decide (s0_6 < 1) then
      ((lpO (st_barbicanlaw25_FoldStraight_L2_L3v2 g6_0 s0_5 s0_6) (.c0 0)).bind fun gb0 => match gb0 with
      | .e0 =>
      bif decide ((IntKind.i64.wrap (s0_6 + 1)) < 1) then
        (none)
      else (some (.inl (.c0 s0_0 s0_1 s0_2 s0_3 s0_4 s0_5 (IntKind.i64.wrap (s0_6 + 1))))))
    else (some (.inr (.e0 s0_0 s0_1 s0_2 s0_3 s0_4 s0_5)))
noncomputable def bd_barbicanlaw25_FoldStraight_L2 : Code := codeOf Tryz.f3 [1, 1, 1, 1, 1, 1, 1, 1, 1, 1, 1, 1, 1, 1, 0, 1, 0, 0]
def fl_barbicanlaw25_FoldStraight_L2 (y0 : Arr22) (a0 : Option Addr) (p0 : Nat) (q0 : Nat) (n0 : Nat) (k0 : Nat) (A0 : Nat → Insn) (r0 : Nat → BitVec 64) (r1 : Nat → Insn) (r2 : Nat → Insn) (r3 : Nat → BitVec 64) (r4 : Nat → Insn) (g5_0 : Nat → BitVec 32) (g5_1 : Nat → BitVec 64) (g5_2 : BitVec 32) (g5_3 : BitVec 32) (g5_4 : BitVec 32) (g5_5 : BitVec 32) (g6_0 : Nat → Arr42) (g7_0 : Nat → Insn) : Sh_barbicanlaw25_FoldStraight_L2 → List L1 → List Value
  | .c0 s0_0 s0_1 s0_2 s0_3 s0_4 s0_5 s0_6, ls => [(rowV (lget ls 15) 5 5), (rowV (lget ls 17) 1 4), .slice none 0 0, (rowV (lget ls 18) 5 44), (rowV (lget ls 19) (0 + 5) 5), .int .i64 (s0_6)]
def mf_barbicanlaw25_FoldStraight_L2 : Sh_barbicanlaw25_FoldStraight_L2 → List (Nat × Nat)
  | .c0 _ _ _ _ _ _ _ => [(0, 5), (1, 2), (2, 6), (1, 1), (1, 1), (1, 260)]
noncomputable def fr_barbicanlaw25_FoldStraight_L2 (y0 : Arr22) (a0 : Option Addr) (p0 : Nat) (q0 : Nat) (n0 : Nat) (k0 : Nat) (A0 : Nat → Insn) (r0 : Nat → BitVec 64) (r1 : Nat → Insn) (r2 : Nat → Insn) (r3 : Nat → BitVec 64) (r4 : Nat → Insn) (g5_0 : Nat → BitVec 32) (g5_1 : Nat → BitVec 64) (g5_2 : BitVec 32) (g5_3 : BitVec 32) (g5_4 : BitVec 32) (g5_5 : BitVec 32) (g6_0 : Nat → Arr42) (g7_0 : Nat → Insn) (s : Sh_barbicanlaw25_FoldStraight_L2) : List L1 → List Value := mrgF (mf_barbicanlaw25_FoldStraight_L2 s) (fl_barbicanlaw25_FoldStraight_L2 y0 a0 p0 q0 n0 k0 A0 r0 r1 r2 r3 r4 g5_0 g5_1 g5_2 g5_3 g5_4 g5_5 g6_0 g7_0 s) 20
def Hs_barbicanlaw25_FoldStraight_L2 (y0 : Arr22) (a0 : Option Addr) (p0 : Nat) (q0 : Nat) (n0 : Nat) (k0 : Nat) (A0 : Nat → Insn) (r0 : Nat → BitVec 64) (r1 : Nat → Insn) (r2 : Nat → Insn) (r3 : Nat → BitVec 64) (r4 : Nat → Insn) (g5_0 : Nat → BitVec 32) (g5_1 : Nat → BitVec 64) (g5_2 : BitVec 32) (g5_3 : BitVec 32) (g5_4 : BitVec 32) (g5_5 : BitVec 32) (g6_0 : Nat → Arr42) (g7_0 : Nat → Insn) : Sh_barbicanlaw25_FoldStraight_L2 → List L1 → List Obj
  | .c0 s0_0 s0_1 s0_2 s0_3 s0_4 s0_5 s0_6, ls => [.cells ⟨esG ci32 4 g5_0⟩ 22, .cells ⟨esG cu64 4 g5_1⟩ 26, .cells #[.int .u8 (183), .int .u8 (0), .int .u8 (0), .int .i16 (0), .int .i32 (ii g5_2)] 29, unb, .cells #[.int .u8 (183), .int .u8 (1), .int .u8 (0), .int .i16 (0), .int .i32 (ii g5_3)] 29, unb, .cells #[.int .u8 (183), .int .u8 (2), .int .u8 (0), .int .i16 (0), .int .i32 (ii g5_4)] 29, unb, .cells #[.int .u8 (183), .int .u8 (3), .int .u8 (0), .int .i16 (0), .int .i32 (ii g5_5)] 29, unb, unb, unb, unb, unb, .cells #[.int .u8 (149), .int .u8 (0), .int .u8 (0), .int .i16 (0), .int .i32 (0)] 29, rowO (lget ls 15) (esG c_Insn 5 s0_0) 29 5 5, .cells #[.int .u64 (nn s0_1), .int .u64 (nn s0_2), .int .u64 (nn s0_3), .int .u64 (nn s0_4)] 26, rowO (lget ls 17) (esG c_Arr26 1 s0_5) 26 1 4, rowO (lget ls 18) (esG c_Arr42 5 g6_0) 42 5 44, rowO (lget ls 19) (esG c_Insn (0 + 5) g7_0) 29 (0 + 5) 5, unb]
def vl_barbicanlaw25_FoldStraight_L2 (y0 : Arr22) (a0 : Option Addr) (p0 : Nat) (q0 : Nat) (n0 : Nat) (k0 : Nat) (A0 : Nat → Insn) (r0 : Nat → BitVec 64) (r1 : Nat → Insn) (r2 : Nat → Insn) (r3 : Nat → BitVec 64) (r4 : Nat → Insn) (g5_0 : Nat → BitVec 32) (g5_1 : Nat → BitVec 64) (g5_2 : BitVec 32) (g5_3 : BitVec 32) (g5_4 : BitVec 32) (g5_5 : BitVec 32) (g6_0 : Nat → Arr42) (g7_0 : Nat → Insn) : Ex_barbicanlaw25_FoldStraight_L2 → List L1 → List Value
  | .e0 c0_0 c0_1 c0_2 c0_3 c0_4 c0_5, ls => [(rowV (lget ls 15) 5 5), (rowV (lget ls 17) 1 4), .slice none 0 0, (rowV (lget ls 18) 5 44), (rowV (lget ls 19) (0 + 5) 5)]
def mk_barbicanlaw25_FoldStraight_L2 : Ex_barbicanlaw25_FoldStraight_L2 → List (Nat × Nat)
  | .e0 _ _ _ _ _ _ => [(0, 5), (1, 2), (2, 6), (1, 1), (1, 262)]
noncomputable def vf_barbicanlaw25_FoldStraight_L2 (y0 : Arr22) (a0 : Option Addr) (p0 : Nat) (q0 : Nat) (n0 : Nat) (k0 : Nat) (A0 : Nat → Insn) (r0 : Nat → BitVec 64) (r1 : Nat → Insn) (r2 : Nat → Insn) (r3 : Nat → BitVec 64) (r4 : Nat → Insn) (g5_0 : Nat → BitVec 32) (g5_1 : Nat → BitVec 64) (g5_2 : BitVec 32) (g5_3 : BitVec 32) (g5_4 : BitVec 32) (g5_5 : BitVec 32) (g6_0 : Nat → Arr42) (g7_0 : Nat → Insn) (r : Ex_barbicanlaw25_FoldStraight_L2) : List L1 → List Value := mrgF (mk_barbicanlaw25_FoldStraight_L2 r) (vl_barbicanlaw25_FoldStraight_L2 y0 a0 p0 q0 n0 k0 A0 r0 r1 r2 r3 r4 g5_0 g5_1 g5_2 g5_3 g5_4 g5_5 g6_0 g7_0 r) 20
def Hf_barbicanlaw25_FoldStraight_L2 (y0 : Arr22) (a0 : Option Addr) (p0 : Nat) (q0 : Nat) (n0 : Nat) (k0 : Nat) (A0 : Nat → Insn) (r0 : Nat → BitVec 64) (r1 : Nat → Insn) (r2 : Nat → Insn) (r3 : Nat → BitVec 64) (r4 : Nat → Insn) (g5_0 : Nat → BitVec 32) (g5_1 : Nat → BitVec 64) (g5_2 : BitVec 32) (g5_3 : BitVec 32) (g5_4 : BitVec 32) (g5_5 : BitVec 32) (g6_0 : Nat → Arr42) (g7_0 : Nat → Insn) : Ex_barbicanlaw25_FoldStraight_L2 → List L1 → List Obj
  | .e0 c0_0 c0_1 c0_2 c0_3 c0_4 c0_5, ls => [.cells ⟨esG ci32 4 g5_0⟩ 22, .cells ⟨esG cu64 4 g5_1⟩ 26, .cells #[.int .u8 (183), .int .u8 (0), .int .u8 (0), .int .i16 (0), .int .i32 (ii g5_2)] 29, unb, .cells #[.int .u8 (183), .int .u8 (1), .int .u8 (0), .int .i16 (0), .int .i32 (ii g5_3)] 29, unb, .cells #[.int .u8 (183), .int .u8 (2), .int .u8 (0), .int .i16 (0), .int .i32 (ii g5_4)] 29, unb, .cells #[.int .u8 (183), .int .u8 (3), .int .u8 (0), .int .i16 (0), .int .i32 (ii g5_5)] 29, unb, unb, unb, unb, unb, .cells #[.int .u8 (149), .int .u8 (0), .int .u8 (0), .int .i16 (0), .int .i32 (0)] 29, rowO (lget ls 15) (esG c_Insn 5 c0_0) 29 5 5, .cells #[.int .u64 (nn c0_1), .int .u64 (nn c0_2), .int .u64 (nn c0_3), .int .u64 (nn c0_4)] 26, rowO (lget ls 17) (esG c_Arr26 1 c0_5) 26 1 4, rowO (lget ls 18) (esG c_Arr42 5 g6_0) 42 5 44, rowO (lget ls 19) (esG c_Insn (0 + 5) g7_0) 29 (0 + 5) 5, unb]
def ex_barbicanlaw25_FoldStraight_L2 : Ex_barbicanlaw25_FoldStraight_L2 → Ex
  | .e0 _ _ _ _ _ _ => (.exit 4)
theorem go_barbicanlaw25_FoldStraight_L2 (g5_0 : Nat → BitVec 32) (g5_1 : Nat → BitVec 64) (g5_2 : BitVec 32) (g5_3 : BitVec 32) (g5_4 : BitVec 32) (g5_5 : BitVec 32) (g6_0 : Nat → Arr42) (g7_0 : Nat → Insn) (s : Sh_barbicanlaw25_FoldStraight_L2) (r : Ex_barbicanlaw25_FoldStraight_L2) (h : lpO (st_barbicanlaw25_FoldStraight_L2 g6_0) s = some r) : GoesG Tryz.prog M B0 S (.loop bd_barbicanlaw25_FoldStraight_L2) 21 (fr_barbicanlaw25_FoldStraight_L2 y0 a0 p0 q0 n0 k0 A0 r0 r1 r2 r3 r4 g5_0 g5_1 g5_2 g5_3 g5_4 g5_5 g6_0 g7_0 s) (Hs_barbicanlaw25_FoldStraight_L2 y0 a0 p0 q0 n0 k0 A0 r0 r1 r2 r3 r4 g5_0 g5_1 g5_2 g5_3 g5_4 g5_5 g6_0 g7_0 s) (ex_barbicanlaw25_FoldStraight_L2 r) 20 (vf_barbicanlaw25_FoldStraight_L2 y0 a0 p0 q0 n0 k0 A0 r0 r1 r2 r3 r4 g5_0 g5_1 g5_2 g5_3 g5_4 g5_5 g6_0 g7_0 r) (Hf_barbicanlaw25_FoldStraight_L2 y0 a0 p0 q0 n0 k0 A0 r0 r1 r2 r3 r4 g5_0 g5_1 g5_2 g5_3 g5_4 g5_5 g6_0 g7_0 r) 21 :=
  goes_lpO (fun s q e => by
    cases s with
    | c0 s0_0 s0_1 s0_2 s0_3 s0_4 s0_5 s0_6 =>
      unfold st_barbicanlaw25_FoldStraight_L2 at e
      dsimp only at e
      replace e := cond_eq_or e
      rcases e with ⟨hq0, e⟩ | ⟨hq0, e⟩
      · replace e := bindO_eq e
        obtain ⟨gb0, e_gb0, e⟩ := e
        cases gb0
        try dsimp only at e
        replace e := cond_eq_or e
        rcases e with ⟨hq1, e⟩ | ⟨hq1, e⟩
        · exact none_some e
        · cases e; exact goes_runM hU [.o, .o, .o, .b (z_lssT hq0), .o, .cp, .cx (sp0_barbicanlaw25_FoldStraight_L2_L3v2_0_ok hU y0 a0 p0 q0 n0 k0 A0 hR0 r0 r1 r2 r3 r4 g5_0 g5_1 g5_2 g5_3 g5_4 g5_5 g6_0 g7_0 s0_0 s0_1 s0_2 s0_3 s0_4 s0_5 s0_6 0  e_gb0) [0, 1, 2, 3, 4, 5, 6, 7, 8, 9, 10, 11, 12, 13, 14, 15, 16, 17, 18, 19, 20], .o, .o, .o, .o, .b (z_lssF hq1), .o, .o, .o] [0, 1, 2, 3, 4, 5, 6, 7, 8, 9, 10, 11, 12, 13, 14, 15, 16, 17, 18, 19] (fun b => rfl) (by decide) rfl rfl (fun b => by kernel_rfl)
      · cases e; exact ⟨ne_exit 4, goes_runM hU [.o, .o, .o, .b (z_lssF hq0)] [0, 1, 2, 3, 4, 5, 6, 7, 8, 9, 10, 11, 12, 13, 14, 15, 16, 17, 18, 19] (fun b => rfl) (by decide) rfl rfl (fun b => by kernel_rfl)⟩) s r h
noncomputable def t0_barbicanlaw25_FoldStraight_L2_0 (y0 : Arr22) (a0 : Option Addr) (p0 : Nat) (q0 : Nat) (n0 : Nat) (k0 : Nat) (A0 : Nat → Insn) (r0 : Nat → BitVec 64) (r1 : Nat → Insn) (r2 : Nat → Insn) (r3 : Nat → BitVec 64) (r4 : Nat → Insn) (g5_0 : Nat → BitVec 32) (g5_1 : Nat → BitVec 64) (g5_2 : BitVec 32) (g5_3 : BitVec 32) (g5_4 : BitVec 32) (g5_5 : BitVec 32) (g6_0 : Nat → Arr42) (g7_0 : Nat → Insn) (s0_0 : Nat → Insn) (s0_1 : BitVec 64) (s0_2 : BitVec 64) (s0_3 : BitVec 64) (s0_4 : BitVec 64) (s0_5 : Nat → Arr26) (s0_6 : Int) (ls : List L1) : List Value := List.append [((lget ls 13).u 0), .slice a0 n0 (n0 + k0), ((lget ls 13).u 2), ((lget ls 13).u 3), ((lget ls 13).u 4), (rowV (lget ls 15) 5 5), .pointer (some ⟨(lget ls 1).n, 0, none⟩), ((lget ls 13).u 7), (rowV (lget ls 17) 1 4), .slice none 0 0] (List.append (jks (lget ls 13).u 10 6) (List.append [(rowV (lget ls 18) 5 44), .int .i64 (0), (rowV (lget ls 19) (0 + 5) 5), .int .i64 (0), .int .i64 (s0_6)] (List.append (jks (lget ls 13).u 21 116) (List.append [(rowV (lget ls 10) 4 5), .agg #[.int .u8 (149), .int .u8 (0), .int .u8 (0), .int .i16 (0), .int .i32 (0)], .slice (some ⟨(lget ls 14).n, 0, none⟩) 1 1, (rowV (lget ls 15) 5 5), .slice none 0 0, (v_Arr26 (⟨g5_1 0, g5_1 1, g5_1 2, g5_1 3⟩ : Arr26)), .slice (some ⟨(lget ls 16).n, 0, none⟩) 1 1, (rowV (lget ls 17) 1 4), .tuple #[(rowV (lget ls 18) 5 44), .int .i64 (0)], (rowV (lget ls 15) 5 5), .tuple #[(rowV (lget ls 18) 5 44), .int .i64 (0)], (rowV (lget ls 18) 5 44), .int .i64 (0), .tuple #[(rowV (lget ls 19) (0 + 5) 5), .int .i64 (0)], (rowV (lget ls 15) 5 5), .tuple #[(rowV (lget ls 19) (0 + 5) 5), .int .i64 (0)], (rowV (lget ls 19) (0 + 5) 5), .int .i64 (0), .int .i64 (0), .bool false, .bool false, .int .i64 (0), .bool false, .bool false, .bool false, (rowV (lget ls 18) 5 44), .int .i64 (5), (rowV (lget ls 15) 5 5), .int .i64 (5), .bool false, .bool false, .bool false, (rowV (lget ls 19) (0 + 5) 5), .int .i64 (((0 + 5) : Int)), (rowV (lget ls 15) 5 5), .int .i64 (5), .bool false, .bool false] (jks (lget ls 13).u 175 106)))))
def pre_barbicanlaw25_FoldStraight_L2_0 (y0 : Arr22) (a0 : Option Addr) (p0 : Nat) (q0 : Nat) (n0 : Nat) (k0 : Nat) (A0 : Nat → Insn) (r0 : Nat → BitVec 64) (r1 : Nat → Insn) (r2 : Nat → Insn) (r3 : Nat → BitVec 64) (r4 : Nat → Insn) (g5_0 : Nat → BitVec 32) (g5_1 : Nat → BitVec 64) (g5_2 : BitVec 32) (g5_3 : BitVec 32) (g5_4 : BitVec 32) (g5_5 : BitVec 32) (g6_0 : Nat → Arr42) (g7_0 : Nat → Insn) (s0_0 : Nat → Insn) (s0_1 : BitVec 64) (s0_2 : BitVec 64) (s0_3 : BitVec 64) (s0_4 : BitVec 64) (s0_5 : Nat → Arr26) (s0_6 : Int) (ls : List L1) : List Obj := [.cells ⟨esG ci32 4 g5_0⟩ 22, .cells ⟨esG cu64 4 g5_1⟩ 26, .cells #[.int .u8 (183), .int .u8 (0), .int .u8 (0), .int .i16 (0), .int .i32 (ii g5_2)] 29, unb, .cells #[.int .u8 (183), .int .u8 (1), .int .u8 (0), .int .i16 (0), .int .i32 (ii g5_3)] 29, unb, .cells #[.int .u8 (183), .int .u8 (2), .int .u8 (0), .int .i16 (0), .int .i32 (ii g5_4)] 29, unb, .cells #[.int .u8 (183), .int .u8 (3), .int .u8 (0), .int .i16 (0), .int .i32 (ii g5_5)] 29, unb, unb, unb, unb, unb, .cells #[.int .u8 (149), .int .u8 (0), .int .u8 (0), .int .i16 (0), .int .i32 (0)] 29, rowO (lget ls 15) (esG c_Insn 5 s0_0) 29 5 5, .cells #[.int .u64 (nn s0_1), .int .u64 (nn s0_2), .int .u64 (nn s0_3), .int .u64 (nn s0_4)] 26, rowO (lget ls 17) (esG c_Arr26 1 s0_5) 26 1 4, rowO (lget ls 18) (esG c_Arr42 5 g6_0) 42 5 44, rowO (lget ls 19) (esG c_Insn (0 + 5) g7_0) 29 (0 + 5) 5]
theorem sp0_barbicanlaw25_FoldStraight_L2_0_ok (g5_0 : Nat → BitVec 32) (g5_1 : Nat → BitVec 64) (g5_2 : BitVec 32) (g5_3 : BitVec 32) (g5_4 : BitVec 32) (g5_5 : BitVec 32) (g6_0 : Nat → Arr42) (g7_0 : Nat → Insn) (s0_0 : Nat → Insn) (s0_1 : BitVec 64) (s0_2 : BitVec 64) (s0_3 : BitVec 64) (s0_4 : BitVec 64) (s0_5 : Nat → Arr26) (s0_6 : Int) (c0_0 : Nat → Insn) (c0_1 : BitVec 64) (c0_2 : BitVec 64) (c0_3 : BitVec 64) (c0_4 : BitVec 64) (c0_5 : Nat → Arr26) (h : lpO (st_barbicanlaw25_FoldStraight_L2 g6_0) (.c0 s0_0 s0_1 s0_2 s0_3 s0_4 s0_5 s0_6) = some (.e0 c0_0 c0_1 c0_2 c0_3 c0_4 c0_5)) : SpcG Tryz.prog M B0 S ⟨fun ls => .code (.loop bd_barbicanlaw25_FoldStraight_L2) (t0_barbicanlaw25_FoldStraight_L2_0 y0 a0 p0 q0 n0 k0 A0 r0 r1 r2 r3 r4 g5_0 g5_1 g5_2 g5_3 g5_4 g5_5 g6_0 g7_0 s0_0 s0_1 s0_2 s0_3 s0_4 s0_5 s0_6 ls), pre_barbicanlaw25_FoldStraight_L2_0 y0 a0 p0 q0 n0 k0 A0 r0 r1 r2 r3 r4 g5_0 g5_1 g5_2 g5_3 g5_4 g5_5 g6_0 g7_0 s0_0 s0_1 s0_2 s0_3 s0_4 s0_5 s0_6, 1, (.exit 4), fun ls => vf_barbicanlaw25_FoldStraight_L2 y0 a0 p0 q0 n0 k0 A0 r0 r1 r2 r3 r4 g5_0 g5_1 g5_2 g5_3 g5_4 g5_5 g6_0 g7_0 (.e0 c0_0 c0_1 c0_2 c0_3 c0_4 c0_5) (ls.take 20 ++ ls.drop 20), fun ls => (Hf_barbicanlaw25_FoldStraight_L2 y0 a0 p0 q0 n0 k0 A0 r0 r1 r2 r3 r4 g5_0 g5_1 g5_2 g5_3 g5_4 g5_5 g6_0 g7_0 (.e0 c0_0 c0_1 c0_2 c0_3 c0_4 c0_5) (ls.take 20 ++ ls.drop 20)).take 20 ++ List.replicate 0 unb, fun ls => (Hf_barbicanlaw25_FoldStraight_L2 y0 a0 p0 q0 n0 k0 A0 r0 r1 r2 r3 r4 g5_0 g5_1 g5_2 g5_3 g5_4 g5_5 g6_0 g7_0 (.e0 c0_0 c0_1 c0_2 c0_3 c0_4 c0_5) (ls.take 20 ++ ls.drop 20)).drop 20⟩ :=
  spc_of_goesM hU 0 (k0 := 20) (go_barbicanlaw25_FoldStraight_L2 hU y0 a0 p0 q0 n0 k0 A0 hR0 r0 r1 r2 r3 r4 g5_0 g5_1 g5_2 g5_3 g5_4 g5_5 g6_0 g7_0 _ _ h) (t0_barbicanlaw25_FoldStraight_L2_0 y0 a0 p0 q0 n0 k0 A0 r0 r1 r2 r3 r4 g5_0 g5_1 g5_2 g5_3 g5_4 g5_5 g6_0 g7_0 s0_0 s0_1 s0_2 s0_3 s0_4 s0_5 s0_6) (pre_barbicanlaw25_FoldStraight_L2_0 y0 a0 p0 q0 n0 k0 A0 r0 r1 r2 r3 r4 g5_0 g5_1 g5_2 g5_3 g5_4 g5_5 g6_0 g7_0 s0_0 s0_1 s0_2 s0_3 s0_4 s0_5 s0_6) (fun _ => rfl) (fun ls h => by match ls, h with | [l0, l1, l2, l3, l4, l5, l6, l7, l8, l9, l10, l11, l12, l13, l14, l15, l16, l17, l18, l19], _ => exact ⟨by kernel_rfl, by kernel_rfl⟩) (fun ls h => by match ls, h with | [l0, l1, l2, l3, l4, l5, l6, l7, l8, l9, l10, l11, l12, l13, l14, l15, l16, l17, l18, l19], _ => rfl) (by decide) (by decide) (fun ls => rfl)
inductive Sh_barbicanlaw25_FoldStraight_L2v1_L3v2 where
  | c0 (sb0_0 : Int)
inductive Ex_barbicanlaw25_FoldStraight_L2v1_L3v2 where
  | e0 
noncomputable def st_barbicanlaw25_FoldStraight_L2v1_L3v2 (g5_6 : Nat) (g5_8 : Nat) (g6_0 : Nat → Arr42) (s0_5 : Nat → Arr26) (s0_6 : Int) : Sh_barbicanlaw25_FoldStraight_L2v1_L3v2 → Option (Sh_barbicanlaw25_FoldStraight_L2v1_L3v2 ⊕ Ex_barbicanlaw25_FoldStraight_L2v1_L3v2)
  | .c0 sb0_0 =>
    bif decide (sb0_0 < 4) then
      (bif inR (IntKind.i64.wrap (4 + s0_6)) (g5_6 + 1) then
        (bif inR sb0_0 11 then
          (bif inR s0_6 (g5_8 + 1) then
            (bif inR sb0_0 4 then
              (bif ((((g_Arr42 (g6_0 ((IntKind.i64.wrap (4 + s0_6))).toNat) (sb0_0).toNat)).fKind == 1) && ((((g_Arr42 (g6_0 ((IntKind.i64.wrap (4 + s0_6))).toNat) (sb0_0).toNat)).fNum == (g_Arr26 (s0_5 (s0_6).toNat) (sb0_0).toNat)) && ((((g_Arr42 (g6_0 ((IntKind.i64.wrap (4 + s0_6))).toNat) (sb0_0).toNat)).fId == 0) && (((g_Arr42 (g6_0 ((IntKind.i64.wrap (4 + s0_6))).toNat) (sb0_0).toNat)).fOff == 0)))) then
                (some (.inl (.c0 (IntKind.i64.wrap (sb0_0 + 1)))))
              else (none))
            else (none))
          else (none))
        else (none))
      else (none))
    else (some (.inr (.e0 )))
noncomputable def bd_barbicanlaw25_FoldStraight_L2v1_L3v2 : Code := codeOf Tryz.f3 [1, 1, 1, 1, 1, 1, 1, 1, 1, 1, 1, 1, 1, 1, 0, 1, 0, 0, 1, 0, 0, 0, 1, 0, 0]
def fl_barbicanlaw25_FoldStraight_L2v1_L3v2 (y0 : Arr22) (a0 : Option Addr) (p0 : Nat) (q0 : Nat) (n0 : Nat) (k0 : Nat) (A0 : Nat → Insn) (r0 : Nat → BitVec 64) (r1 : Nat → Insn) (r2 : Nat → Insn) (r3 : Nat → BitVec 64) (r4 : Nat → Insn) (g5_0 : Nat → BitVec 32) (g5_1 : Nat → BitVec 64) (g5_2 : BitVec 32) (g5_3 : BitVec 32) (g5_4 : BitVec 32) (g5_5 : BitVec 32) (g5_6 : Nat) (g5_7 : Nat → Insn) (g5_8 : Nat) (g5_9 : Nat → Arr26) (g5_10 : Nat) (g5_11 : Nat → BitVec 8) (g6_0 : Nat → Arr42) (g7_0 : Nat → Insn) (s0_0 : Nat → Insn) (s0_1 : BitVec 64) (s0_2 : BitVec 64) (s0_3 : BitVec 64) (s0_4 : BitVec 64) (s0_5 : Nat → Arr26) (s0_6 : Int) : Sh_barbicanlaw25_FoldStraight_L2v1_L3v2 → List L1 → List Value
  | .c0 sb0_0, ls => [(rowV (lget ls 15) (g5_6 + 1) 5), (rowV (lget ls 17) (g5_8 + 1) 4), (rowV (lget ls 12) g5_10 1), (rowV (lget ls 18) (g5_6 + 1) 44), (rowV (lget ls 19) (0 + (g5_6 + 1)) 5), .int .i64 (s0_6), .int .i64 (sb0_0)]
def mf_barbicanlaw25_FoldStraight_L2v1_L3v2 : Sh_barbicanlaw25_FoldStraight_L2v1_L3v2 → List (Nat × Nat)
  | .c0 _ => [(0, 5), (1, 2), (2, 6), (1, 1), (1, 1), (2, 259)]
noncomputable def fr_barbicanlaw25_FoldStraight_L2v1_L3v2 (y0 : Arr22) (a0 : Option Addr) (p0 : Nat) (q0 : Nat) (n0 : Nat) (k0 : Nat) (A0 : Nat → Insn) (r0 : Nat → BitVec 64) (r1 : Nat → Insn) (r2 : Nat → Insn) (r3 : Nat → BitVec 64) (r4 : Nat → Insn) (g5_0 : Nat → BitVec 32) (g5_1 : Nat → BitVec 64) (g5_2 : BitVec 32) (g5_3 : BitVec 32) (g5_4 : BitVec 32) (g5_5 : BitVec 32) (g5_6 : Nat) (g5_7 : Nat → Insn) (g5_8 : Nat) (g5_9 : Nat → Arr26) (g5_10 : Nat) (g5_11 : Nat → BitVec 8) (g6_0 : Nat → Arr42) (g7_0 : Nat → Insn) (s0_0 : Nat → Insn) (s0_1 : BitVec 64) (s0_2 : BitVec 64) (s0_3 : BitVec 64) (s0_4 : BitVec 64) (s0_5 : Nat → Arr26) (s0_6 : Int) (s : Sh_barbicanlaw25_FoldStraight_L2v1_L3v2) : List L1 → List Value := mrgF (mf_barbicanlaw25_FoldStraight_L2v1_L3v2 s) (fl_barbicanlaw25_FoldStraight_L2v1_L3v2 y0 a0 p0 q0 n0 k0 A0 r0 r1 r2 r3 r4 g5_0 g5_1 g5_2 g5_3 g5_4 g5_5 g5_6 g5_7 g5_8 g5_9 g5_10 g5_11 g6_0 g7_0 s0_0 s0_1 s0_2 s0_3 s0_4 s0_5 s0_6 s) 21
def Hs_barbicanlaw25_FoldStraight_L2v1_L3v2 (y0 : Arr22) (a0 : Option Addr) (p0 : Nat) (q0 : Nat) (n0 : Nat) (k0 : Nat) (A0 : Nat → Insn) (r0 : Nat → BitVec 64) (r1 : Nat → Insn) (r2 : Nat → Insn) (r3 : Nat → BitVec 64) (r4 : Nat → Insn) (g5_0 : Nat → BitVec 32) (g5_1 : Nat → BitVec 64) (g5_2 : BitVec 32) (g5_3 : BitVec 32) (g5_4 : BitVec 32) (g5_5 : BitVec 32) (g5_6 : Nat) (g5_7 : Nat → Insn) (g5_8 : Nat) (g5_9 : Nat → Arr26) (g5_10 : Nat) (g5_11 : Nat → BitVec 8) (g6_0 : Nat → Arr42) (g7_0 : Nat → Insn) (s0_0 : Nat → Insn) (s0_1 : BitVec 64) (s0_2 : BitVec 64) (s0_3 : BitVec 64) (s0_4 : BitVec 64) (s0_5 : Nat → Arr26) (s0_6 : Int) : Sh_barbicanlaw25_FoldStraight_L2v1_L3v2 → List L1 → List Obj
  | .c0 sb0_0, ls => [.cells ⟨esG ci32 4 g5_0⟩ 22, .cells ⟨esG cu64 4 g5_1⟩ 26, .cells #[.int .u8 (183), .int .u8 (0), .int .u8 (0), .int .i16 (0), .int .i32 (ii g5_2)] 29, unb, .cells #[.int .u8 (183), .int .u8 (1), .int .u8 (0), .int .i16 (0), .int .i32 (ii g5_3)] 29, unb, .cells #[.int .u8 (183), .int .u8 (2), .int .u8 (0), .int .i16 (0), .int .i32 (ii g5_4)] 29, unb, .cells #[.int .u8 (183), .int .u8 (3), .int .u8 (0), .int .i16 (0), .int .i32 (ii g5_5)] 29, unb, unb, unb, rowO (lget ls 12) (esG cu8 g5_10 g5_11) 5 g5_10 1, unb, .cells #[.int .u8 (149), .int .u8 (0), .int .u8 (0), .int .i16 (0), .int .i32 (0)] 29, rowO (lget ls 15) (esG c_Insn (g5_6 + 1) s0_0) 29 (g5_6 + 1) 5, .cells #[.int .u64 (nn s0_1), .int .u64 (nn s0_2), .int .u64 (nn s0_3), .int .u64 (nn s0_4)] 26, rowO (lget ls 17) (esG c_Arr26 (g5_8 + 1) s0_5) 26 (g5_8 + 1) 4, rowO (lget ls 18) (esG c_Arr42 (g5_6 + 1) g6_0) 42 (g5_6 + 1) 44, rowO (lget ls 19) (esG c_Insn (0 + (g5_6 + 1)) g7_0) 29 (0 + (g5_6 + 1)) 5, unb, unb]
def vl_barbicanlaw25_FoldStraight_L2v1_L3v2 (y0 : Arr22) (a0 : Option Addr) (p0 : Nat) (q0 : Nat) (n0 : Nat) (k0 : Nat) (A0 : Nat → Insn) (r0 : Nat → BitVec 64) (r1 : Nat → Insn) (r2 : Nat → Insn) (r3 : Nat → BitVec 64) (r4 : Nat → Insn) (g5_0 : Nat → BitVec 32) (g5_1 : Nat → BitVec 64) (g5_2 : BitVec 32) (g5_3 : BitVec 32) (g5_4 : BitVec 32) (g5_5 : BitVec 32) (g5_6 : Nat) (g5_7 : Nat → Insn) (g5_8 : Nat) (g5_9 : Nat → Arr26) (g5_10 : Nat) (g5_11 : Nat → BitVec 8) (g6_0 : Nat → Arr42) (g7_0 : Nat → Insn) (s0_0 : Nat → Insn) (s0_1 : BitVec 64) (s0_2 : BitVec 64) (s0_3 : BitVec 64) (s0_4 : BitVec 64) (s0_5 : Nat → Arr26) (s0_6 : Int) : Ex_barbicanlaw25_FoldStraight_L2v1_L3v2 → List L1 → List Value
  | .e0 , ls => [(rowV (lget ls 15) (g5_6 + 1) 5), (rowV (lget ls 17) (g5_8 + 1) 4), (rowV (lget ls 12) g5_10 1), (rowV (lget ls 18) (g5_6 + 1) 44), (rowV (lget ls 19) (0 + (g5_6 + 1)) 5), .int .i64 (s0_6)]
def mk_barbicanlaw25_FoldStraight_L2v1_L3v2 : Ex_barbicanlaw25_FoldStraight_L2v1_L3v2 → List (Nat × Nat)
  | .e0  => [(0, 5), (1, 2), (2, 6), (1, 1), (1, 1), (1, 260)]
noncomputable def vf_barbicanlaw25_FoldStraight_L2v1_L3v2 (y0 : Arr22) (a0 : Option Addr) (p0 : Nat) (q0 : Nat) (n0 : Nat) (k0 : Nat) (A0 : Nat → Insn) (r0 : Nat → BitVec 64) (r1 : Nat → Insn) (r2 : Nat → Insn) (r3 : Nat → BitVec 64) (r4 : Nat → Insn) (g5_0 : Nat → BitVec 32) (g5_1 : Nat → BitVec 64) (g5_2 : BitVec 32) (g5_3 : BitVec 32) (g5_4 : BitVec 32) (g5_5 : BitVec 32) (g5_6 : Nat) (g5_7 : Nat → Insn) (g5_8 : Nat) (g5_9 : Nat → Arr26) (g5_10 : Nat) (g5_11 : Nat → BitVec 8) (g6_0 : Nat → Arr42) (g7_0 : Nat → Insn) (s0_0 : Nat → Insn) (s0_1 : BitVec 64) (s0_2 : BitVec 64) (s0_3 : BitVec 64) (s0_4 : BitVec 64) (s0_5 : Nat → Arr26) (s0_6 : Int) (r : Ex_barbicanlaw25_FoldStraight_L2v1_L3v2) : List L1 → List Value := mrgF (mk_barbicanlaw25_FoldStraight_L2v1_L3v2 r) (vl_barbicanlaw25_FoldStraight_L2v1_L3v2 y0 a0 p0 q0 n0 k0 A0 r0 r1 r2 r3 r4 g5_0 g5_1 g5_2 g5_3 g5_4 g5_5 g5_6 g5_7 g5_8 g5_9 g5_10 g5_11 g6_0 g7_0 s0_0 s0_1 s0_2 s0_3 s0_4 s0_5 s0_6 r) 21
def Hf_barbicanlaw25_FoldStraight_L2v1_L3v2 (y0 : Arr22) (a0 : Option Addr) (p0 : Nat) (q0 : Nat) (n0 : Nat) (k0 : Nat) (A0 : Nat → Insn) (r0 : Nat → BitVec 64) (r1 : Nat → Insn) (r2 : Nat → Insn) (r3 : Nat → BitVec 64) (r4 : Nat → Insn) (g5_0 : Nat → BitVec 32) (g5_1 : Nat → BitVec 64) (g5_2 : BitVec 32) (g5_3 : BitVec 32) (g5_4 : BitVec 32) (g5_5 : BitVec 32) (g5_6 : Nat) (g5_7 : Nat → Insn) (g5_8 : Nat) (g5_9 : Nat → Arr26) (g5_10 : Nat) (g5_11 : Nat → BitVec 8) (g6_0 : Nat → Arr42) (g7_0 : Nat → Insn) (s0_0 : Nat → Insn) (s0_1 : BitVec 64) (s0_2 : BitVec 64) (s0_3 : BitVec 64) (s0_4 : BitVec 64) (s0_5 : Nat → Arr26) (s0_6 : Int) : Ex_barbicanlaw25_FoldStraight_L2v1_L3v2 → List L1 → List Obj
  | .e0 , ls => [.cells ⟨esG ci32 4 g5_0⟩ 22, .cells ⟨esG cu64 4 g5_1⟩ 26, .cells #[.int .u8 (183), .int .u8 (0), .int .u8 (0), .int .i16 (0), .int .i32 (ii g5_2)] 29, unb, .cells #[.int .u8 (183), .int .u8 (1), .int .u8 (0), .int .i16 (0), .int .i32 (ii g5_3)] 29, unb, .cells #[.int .u8 (183), .int .u8 (2), .int .u8 (0), .int .i16 (0), .int .i32 (ii g5_4)] 29, unb, .cells #[.int .u8 (183), .int .u8 (3), .int .u8 (0), .int .i16 (0), .int .i32 (ii g5_5)] 29, unb, unb, unb, rowO (lget ls 12) (esG cu8 g5_10 g5_11) 5 g5_10 1, unb, .cells #[.int .u8 (149), .int .u8 (0), .int .u8 (0), .int .i16 (0), .int .i32 (0)] 29, rowO (lget ls 15) (esG c_Insn (g5_6 + 1) s0_0) 29 (g5_6 + 1) 5, .cells #[.int .u64 (nn s0_1), .int .u64 (nn s0_2), .int .u64 (nn s0_3), .int .u64 (nn s0_4)] 26, rowO (lget ls 17) (esG c_Arr26 (g5_8 + 1) s0_5) 26 (g5_8 + 1) 4, rowO (lget ls 18) (esG c_Arr42 (g5_6 + 1) g6_0) 42 (g5_6 + 1) 44, rowO (lget ls 19) (esG c_Insn (0 + (g5_6 + 1)) g7_0) 29 (0 + (g5_6 + 1)) 5, unb, unb]
def ex_barbicanlaw25_FoldStraight_L2v1_L3v2 : Ex_barbicanlaw25_FoldStraight_L2v1_L3v2 → Ex
  | .e0  => (.exit 6)
theorem go_barbicanlaw25_FoldStraight_L2v1_L3v2 (g5_0 : Nat → BitVec 32) (g5_1 : Nat → BitVec 64) (g5_2 : BitVec 32) (g5_3 : BitVec 32) (g5_4 : BitVec 32) (g5_5 : BitVec 32) (g5_6 : Nat) (g5_7 : Nat → Insn) (g5_8 : Nat) (g5_9 : Nat → Arr26) (g5_10 : Nat) (g5_11 : Nat → BitVec 8) (g6_0 : Nat → Arr42) (g7_0 : Nat → Insn) (s0_0 : Nat → Insn) (s0_1 : BitVec 64) (s0_2 : BitVec 64) (s0_3 : BitVec 64) (s0_4 : BitVec 64) (s0_5 : Nat → Arr26) (s0_6 : Int) (s : Sh_barbicanlaw25_FoldStraight_L2v1_L3v2) (r : Ex_barbicanlaw25_FoldStraight_L2v1_L3v2) (h : lpO (st_barbicanlaw25_FoldStraight_L2v1_L3v2 g5_6 g5_8 g6_0 s0_5 s0_6) s = some r) : GoesG Tryz.prog M B0 S (.loop bd_barbicanlaw25_FoldStraight_L2v1_L3v2) 22 (fr_barbicanlaw25_FoldStraight_L2v1_L3v2 y0 a0 p0 q0 n0 k0 A0 r0 r1 r2 r3 r4 g5_0 g5_1 g5_2 g5_3 g5_4 g5_5 g5_6 g5_7 g5_8 g5_9 g5_10 g5_11 g6_0 g7_0 s0_0 s0_1 s0_2 s0_3 s0_4 s0_5 s0_6 s) (Hs_barbicanlaw25_FoldStraight_L2v1_L3v2 y0 a0 p0 q0 n0 k0 A0 r0 r1 r2 r3 r4 g5_0 g5_1 g5_2 g5_3 g5_4 g5_5 g5_6 g5_7 g5_8 g5_9 g5_10 g5_11 g6_0 g7_0 s0_0 s0_1 s0_2 s0_3 s0_4 s0_5 s0_6 s) (ex_barbicanlaw25_FoldStraight_L2v1_L3v2 r) 21 (vf_barbicanlaw25_FoldStraight_L2v1_L3v2 y0 a0 p0 q0 n0 k0 A0 r0 r1 r2 r3 r4 g5_0 g5_1 g5_2 g5_3 g5_4 g5_5 g5_6 g5_7 g5_8 g5_9 g5_10 g5_11 g6_0 g7_0 s0_0 s0_1 s0_2 s0_3 s0_4 s0_5 s0_6 r) (Hf_barbicanlaw25_FoldStraight_L2v1_L3v2 y0 a0 p0 q0 n0 k0 A0 r0 r1 r2 r3 r4 g5_0 g5_1 g5_2 g5_3 g5_4 g5_5 g5_6 g5_7 g5_8 g5_9 g5_10 g5_11 g6_0 g7_0 s0_0 s0_1 s0_2 s0_3 s0_4 s0_5 s0_6 r) 22 :=
  goes_lpO (fun s q e => by
    cases s with
    | c0 sb0_0 =>
      unfold st_barbicanlaw25_FoldStraight_L2v1_L3v2 at e
      dsimp only at e
      replace e := cond_eq_or e
      rcases e with ⟨hq0, e⟩ | ⟨hq0, e⟩
      · replace e := cond_eq_or e
        rcases e with ⟨hq1, e⟩ | ⟨hq1, e⟩
        · replace e := cond_eq_or e
          rcases e with ⟨hq2, e⟩ | ⟨hq2, e⟩
          · replace e := cond_eq_or e
            rcases e with ⟨hq3, e⟩ | ⟨hq3, e⟩
            · replace e := cond_eq_or e
              rcases e with ⟨hq4, e⟩ | ⟨hq4, e⟩
              · replace e := cond_eq_or e
                rcases e with ⟨hq5, e⟩ | ⟨hq5, e⟩
                · cases e; exact goes_runM hU [.o, .b (z_lssT hq0), .r [0, 1, 2, 3, 4, 5, 6, 7, 8, 9, 10, 11, 12, 13, 14] [] [], .o, .o, .o, .o, .q (ixM_ok (kd := .i64) (T := 34) (x := (IntKind.i64.wrap (4 + s0_6))) (N := (g5_6 + 1)) (sz := 44) rfl (fun w => by kernel_rfl) hq1), .q (ixA_ok (kd := .i64) (T := 42) (x := sb0_0) (sz := 4) (N := 11) rfl rfl (fun w => by kernel_rfl) hq2), .l (accG (i := 18) (f := c_Arr42) (A := g6_0) (k := ((IntKind.i64.wrap (4 + s0_6))).toNat) ((sb0_0).toNat * 4) [.int .i64 (((g_Arr42 (g6_0 ((IntKind.i64.wrap (4 + s0_6))).toNat) (sb0_0).toNat)).fKind), .int .u64 (nn ((g_Arr42 (g6_0 ((IntKind.i64.wrap (4 + s0_6))).toNat) (sb0_0).toNat)).fNum), .int .i64 (((g_Arr42 (g6_0 ((IntKind.i64.wrap (4 + s0_6))).toNat) (sb0_0).toNat)).fId), .int .i64 (((g_Arr42 (g6_0 ((IntKind.i64.wrap (4 + s0_6))).toNat) (sb0_0).toNat)).fOff)] c_Arr42_len (inR_nat hq1) (g_Arr42_dt _ (inR_nat hq2))), .o, .o, .o, .q (ixM_ok (kd := .i64) (T := 30) (x := s0_6) (N := (g5_8 + 1)) (sz := 4) rfl (fun w => by kernel_rfl) hq3), .q (ixA_ok (kd := .i64) (T := 26) (x := sb0_0) (sz := 1) (N := 4) rfl rfl (fun w => by kernel_rfl) hq4), .l (accG (i := 17) (f := c_Arr26) (A := s0_5) (k := (s0_6).toNat) ((sb0_0).toNat * 1) [.int .u64 (nn (g_Arr26 (s0_5 (s0_6).toNat) (sb0_0).toNat))] c_Arr26_len (inR_nat hq3) (g_Arr26_at _ (inR_nat hq4))), .o, .ov (fun w => (run_aggeq 41 #[.int .i64 (((g_Arr42 (g6_0 ((IntKind.i64.wrap (4 + s0_6))).toNat) (sb0_0).toNat)).fKind), .int .u64 (nn ((g_Arr42 (g6_0 ((IntKind.i64.wrap (4 + s0_6))).toNat) (sb0_0).toNat)).fNum), .int .i64 (((g_Arr42 (g6_0 ((IntKind.i64.wrap (4 + s0_6))).toNat) (sb0_0).toNat)).fId), .int .i64 (((g_Arr42 (g6_0 ((IntKind.i64.wrap (4 + s0_6))).toNat) (sb0_0).toNat)).fOff)] #[.int .i64 (1), .int .u64 (nn (g_Arr26 (s0_5 (s0_6).toNat) (sb0_0).toNat)), .int .i64 (0), .int .i64 (0)] true (by kernel_rfl) (fun w => (eqi41 9998 ((g_Arr42 (g6_0 ((IntKind.i64.wrap (4 + s0_6))).toNat) (sb0_0).toNat)).fKind 1 ((g_Arr42 (g6_0 ((IntKind.i64.wrap (4 + s0_6))).toNat) (sb0_0).toNat)).fNum (g_Arr26 (s0_5 (s0_6).toNat) (sb0_0).toNat) ((g_Arr42 (g6_0 ((IntKind.i64.wrap (4 + s0_6))).toNat) (sb0_0).toNat)).fId 0 ((g_Arr42 (g6_0 ((IntKind.i64.wrap (4 + s0_6))).toNat) (sb0_0).toNat)).fOff 0 w).trans (congrArg (fun b => Result.ok b w) hq5)) (.tmp 191) (.tmp 198) w).2), .o, .o, .o] [0, 1, 2, 3, 4, 5, 6, 7, 8, 9, 10, 11, 12, 13, 14, 15, 16, 17, 18, 19, 20] (fun b => rfl) (by decide) rfl rfl (fun b => by kernel_rfl)
                · exact none_some e
              · exact none_some e
            · exact none_some e
          · exact none_some e
        · exact none_some e
      · cases e; exact ⟨ne_exit 6, goes_runM hU [.o, .b (z_lssF hq0)] [0, 1, 2, 3, 4, 5, 6, 7, 8, 9, 10, 11, 12, 13, 14, 15, 16, 17, 18, 19, 20] (fun b => rfl) (by decide) rfl rfl (fun b => by kernel_rfl)⟩) s r h
noncomputable def t0_barbicanlaw25_FoldStraight_L2v1_L3v2_0 (y0 : Arr22) (a0 : Option Addr) (p0 : Nat) (q0 : Nat) (n0 : Nat) (k0 : Nat) (A0 : Nat → Insn) (r0 : Nat → BitVec 64) (r1 : Nat → Insn) (r2 : Nat → Insn) (r3 : Nat → BitVec 64) (r4 : Nat → Insn) (g5_0 : Nat → BitVec 32) (g5_1 : Nat → BitVec 64) (g5_2 : BitVec 32) (g5_3 : BitVec 32) (g5_4 : BitVec 32) (g5_5 : BitVec 32) (g5_6 : Nat) (g5_7 : Nat → Insn) (g5_8 : Nat) (g5_9 : Nat → Arr26) (g5_10 : Nat) (g5_11 : Nat → BitVec 8) (g6_0 : Nat → Arr42) (g7_0 : Nat → Insn) (s0_0 : Nat → Insn) (s0_1 : BitVec 64) (s0_2 : BitVec 64) (s0_3 : BitVec 64) (s0_4 : BitVec 64) (s0_5 : Nat → Arr26) (s0_6 : Int) (sb0_0 : Int) (ls : List L1) : List Value := List.append (jks (lget ls 20).u 0 5) (List.append [(rowV (lget ls 15) (g5_6 + 1) 5), ((lget ls 20).u 6), ((lget ls 20).u 7), (rowV (lget ls 17) (g5_8 + 1) 4), (rowV (lget ls 12) g5_10 1)] (List.append (jks (lget ls 20).u 10 6) (List.append [(rowV (lget ls 18) (g5_6 + 1) 44), ((lget ls 20).u 17), (rowV (lget ls 19) (0 + (g5_6 + 1)) 5), ((lget ls 20).u 19), .int .i64 (s0_6), .int .i64 (sb0_0)] (List.append (jks (lget ls 20).u 22 153) (List.append [.int .i64 (s0_6), (rowV (lget ls 17) (g5_8 + 1) 4), .int .i64 (((g5_8 + 1) : Int)), .bool true] (jks (lget ls 20).u 179 102))))))
def pre_barbicanlaw25_FoldStraight_L2v1_L3v2_0 (y0 : Arr22) (a0 : Option Addr) (p0 : Nat) (q0 : Nat) (n0 : Nat) (k0 : Nat) (A0 : Nat → Insn) (r0 : Nat → BitVec 64) (r1 : Nat → Insn) (r2 : Nat → Insn) (r3 : Nat → BitVec 64) (r4 : Nat → Insn) (g5_0 : Nat → BitVec 32) (g5_1 : Nat → BitVec 64) (g5_2 : BitVec 32) (g5_3 : BitVec 32) (g5_4 : BitVec 32) (g5_5 : BitVec 32) (g5_6 : Nat) (g5_7 : Nat → Insn) (g5_8 : Nat) (g5_9 : Nat → Arr26) (g5_10 : Nat) (g5_11 : Nat → BitVec 8) (g6_0 : Nat → Arr42) (g7_0 : Nat → Insn) (s0_0 : Nat → Insn) (s0_1 : BitVec 64) (s0_2 : BitVec 64) (s0_3 : BitVec 64) (s0_4 : BitVec 64) (s0_5 : Nat → Arr26) (s0_6 : Int) (sb0_0 : Int) (ls : List L1) : List Obj := [.cells ⟨esG ci32 4 g5_0⟩ 22, .cells ⟨esG cu64 4 g5_1⟩ 26, .cells #[.int .u8 (183), .int .u8 (0), .int .u8 (0), .int .i16 (0), .int .i32 (ii g5_2)] 29, unb, .cells #[.int .u8 (183), .int .u8 (1), .int .u8 (0), .int .i16 (0), .int .i32 (ii g5_3)] 29, unb, .cells #[.int .u8 (183), .int .u8 (2), .int .u8 (0), .int .i16 (0), .int .i32 (ii g5_4)] 29, unb, .cells #[.int .u8 (183), .int .u8 (3), .int .u8 (0), .int .i16 (0), .int .i32 (ii g5_5)] 29, unb, unb, unb, rowO (lget ls 12) (esG cu8 g5_10 g5_11) 5 g5_10 1, unb, .cells #[.int .u8 (149), .int .u8 (0), .int .u8 (0), .int .i16 (0), .int .i32 (0)] 29, rowO (lget ls 15) (esG c_Insn (g5_6 + 1) s0_0) 29 (g5_6 + 1) 5, .cells #[.int .u64 (nn s0_1), .int .u64 (nn s0_2), .int .u64 (nn s0_3), .int .u64 (nn s0_4)] 26, rowO (lget ls 17) (esG c_Arr26 (g5_8 + 1) s0_5) 26 (g5_8 + 1) 4, rowO (lget ls 18) (esG c_Arr42 (g5_6 + 1) g6_0) 42 (g5_6 + 1) 44, rowO (lget ls 19) (esG c_Insn (0 + (g5_6 + 1)) g7_0) 29 (0 + (g5_6 + 1)) 5, unb]
theorem sp0_barbicanlaw25_FoldStraight_L2v1_L3v2_0_ok (g5_0 : Nat → BitVec 32) (g5_1 : Nat → BitVec 64) (g5_2 : BitVec 32) (g5_3 : BitVec 32) (g5_4 : BitVec 32) (g5_5 : BitVec 32) (g5_6 : Nat) (g5_7 : Nat → Insn) (g5_8 : Nat) (g5_9 : Nat → Arr26) (g5_10 : Nat) (g5_11 : Nat → BitVec 8) (g6_0 : Nat → Arr42) (g7_0 : Nat → Insn) (s0_0 : Nat → Insn) (s0_1 : BitVec 64) (s0_2 : BitVec 64) (s0_3 : BitVec 64) (s0_4 : BitVec 64) (s0_5 : Nat → Arr26) (s0_6 : Int) (sb0_0 : Int) (h : lpO (st_barbicanlaw25_FoldStraight_L2v1_L3v2 g5_6 g5_8 g6_0 s0_5 s0_6) (.c0 sb0_0) = some (.e0 )) : SpcG Tryz.prog M B0 S ⟨fun ls => .code (.loop bd_barbicanlaw25_FoldStraight_L2v1_L3v2) (t0_barbicanlaw25_FoldStraight_L2v1_L3v2_0 y0 a0 p0 q0 n0 k0 A0 r0 r1 r2 r3 r4 g5_0 g5_1 g5_2 g5_3 g5_4 g5_5 g5_6 g5_7 g5_8 g5_9 g5_10 g5_11 g6_0 g7_0 s0_0 s0_1 s0_2 s0_3 s0_4 s0_5 s0_6 sb0_0 ls), pre_barbicanlaw25_FoldStraight_L2v1_L3v2_0 y0 a0 p0 q0 n0 k0 A0 r0 r1 r2 r3 r4 g5_0 g5_1 g5_2 g5_3 g5_4 g5_5 g5_6 g5_7 g5_8 g5_9 g5_10 g5_11 g6_0 g7_0 s0_0 s0_1 s0_2 s0_3 s0_4 s0_5 s0_6 sb0_0, 1, (.exit 6), fun ls => vf_barbicanlaw25_FoldStraight_L2v1_L3v2 y0 a0 p0 q0 n0 k0 A0 r0 r1 r2 r3 r4 g5_0 g5_1 g5_2 g5_3 g5_4 g5_5 g5_6 g5_7 g5_8 g5_9 g5_10 g5_11 g6_0 g7_0 s0_0 s0_1 s0_2 s0_3 s0_4 s0_5 s0_6 (.e0 ) (ls.take 21 ++ ls.drop 21), fun ls => (Hf_barbicanlaw25_FoldStraight_L2v1_L3v2 y0 a0 p0 q0 n0 k0 A0 r0 r1 r2 r3 r4 g5_0 g5_1 g5_2 g5_3 g5_4 g5_5 g5_6 g5_7 g5_8 g5_9 g5_10 g5_11 g6_0 g7_0 s0_0 s0_1 s0_2 s0_3 s0_4 s0_5 s0_6 (.e0 ) (ls.take 21 ++ ls.drop 21)).take 21 ++ List.replicate 0 unb, fun ls => (Hf_barbicanlaw25_FoldStraight_L2v1_L3v2 y0 a0 p0 q0 n0 k0 A0 r0 r1 r2 r3 r4 g5_0 g5_1 g5_2 g5_3 g5_4 g5_5 g5_6 g5_7 g5_8 g5_9 g5_10 g5_11 g6_0 g7_0 s0_0 s0_1 s0_2 s0_3 s0_4 s0_5 s0_6 (.e0 ) (ls.take 21 ++ ls.drop 21)).drop 21⟩ :=
  spc_of_goesM hU 0 (k0 := 21) (go_barbicanlaw25_FoldStraight_L2v1_L3v2 hU y0 a0 p0 q0 n0 k0 A0 hR0 r0 r1 r2 r3 r4 g5_0 g5_1 g5_2 g5_3 g5_4 g5_5 g5_6 g5_7 g5_8 g5_9 g5_10 g5_11 g6_0 g7_0 s0_0 s0_1 s0_2 s0_3 s0_4 s0_5 s0_6 _ _ h) (t0_barbicanlaw25_FoldStraight_L2v1_L3v2_0 y0 a0 p0 q0 n0 k0 A0 r0 r1 r2 r3 r4 g5_0 g5_1 g5_2 g5_3 g5_4 g5_5 g5_6 g5_7 g5_8 g5_9 g5_10 g5_11 g6_0 g7_0 s0_0 s0_1 s0_2 s0_3 s0_4 s0_5 s0_6 sb0_0) (pre_barbicanlaw25_FoldStraight_L2v1_L3v2_0 y0 a0 p0 q0 n0 k0 A0 r0 r1 r2 r3 r4 g5_0 g5_1 g5_2 g5_3 g5_4 g5_5 g5_6 g5_7 g5_8 g5_9 g5_10 g5_11 g6_0 g7_0 s0_0 s0_1 s0_2 s0_3 s0_4 s0_5 s0_6 sb0_0) (fun _ => rfl) (fun ls h => by match ls, h with | [l0, l1, l2, l3, l4, l5, l6, l7, l8, l9, l10, l11, l12, l13, l14, l15, l16, l17, l18, l19, l20], _ => exact ⟨by kernel_rfl, by kernel_rfl⟩) (fun ls h => by match ls, h with | [l0, l1, l2, l3, l4, l5, l6, l7, l8, l9, l10, l11, l12, l13, l14, l15, l16, l17, l18, l19, l20], _ => rfl) (by decide) (by decide) (fun ls => rfl)
inductive Sh_barbicanlaw25_FoldStraight_L2v1 where
  | c0 (s0_0 : Nat → Insn) (s0_1 : BitVec 64) (s0_2 : BitVec 64) (s0_3 : BitVec 64) (s0_4 : BitVec 64) (s0_5 : Nat → Arr26) (s0_6 : Int)
inductive Ex_barbicanlaw25_FoldStraight_L2v1 where
  | e0 (c0_0 : Nat → Insn) (c0_1 : BitVec 64) (c0_2 : BitVec 64) (c0_3 : BitVec 64) (c0_4 : BitVec 64) (c0_5 : Nat → Arr26)
noncomputable def st_barbicanlaw25_FoldStraight_L2v1 (g5_6 : Nat) (g5_8 : Nat) (g5_10 : Nat) (g5_11 : Nat → BitVec 8) (g6_0 : Nat → Arr42) (g7_0 : Nat → Insn) : Sh_barbicanlaw25_FoldStraight_L2v1 → Option (Sh_barbicanlaw25_FoldStraight_L2v1 ⊕ Ex_barbicanlaw25_FoldStraight_L2v1)
  | .c0 s0_0 s0_1 s0_2 s0_3 s0_4 s0_5 s0_6 =>
    bif decide (s0_6 < ((g5_8 + 1) : Int)) then
      ((lpO (st_barbicanlaw25_FoldStraight_L2v1_L3v2 g5_6 g5_8 g6_0 s0_5 s0_6) (.c0 0)).bind fun gb0 => match gb0 with
      | .e0 =>
      bif decide ((IntKind.i64.wrap (s0_6 + 1)) < ((g5_8 + 1) : Int)) then
        (bif inR s0_6 g5_10 then
          (bif inR (IntKind.i64.wrap (s0_6 + 1)) (g5_8 + 1) then
            (bif inR (nn (g5_11 (s0_6).toNat)) 4 then
              (bif (BitVec.ofInt 64 (ii (((g_Arr26 (s0_5 ((IntKind.i64.wrap (s0_6 + 1))).toNat) (nn (g5_11 (s0_6).toNat)).toNat) % 4294967296#64).setWidth 32))) == (g_Arr26 (s0_5 ((IntKind.i64.wrap (s0_6 + 1))).toNat) (nn (g5_11 (s0_6).toNat)).toNat) then
                (bif inR (IntKind.i64.wrap (4 + s0_6)) (g5_6 + 1) then
                  (bif ((s0_0 ((IntKind.i64.wrap (4 + s0_6))).toNat)).fOp == 183#8 then
                    (bif inR (IntKind.i64.wrap (4 + s0_6)) (0 + (g5_6 + 1)) then
                      (bif ((((g7_0 ((IntKind.i64.wrap (4 + s0_6))).toNat)).fOp == ((s0_0 ((IntKind.i64.wrap (4 + s0_6))).toNat)).fOp) && ((((g7_0 ((IntKind.i64.wrap (4 + s0_6))).toNat)).fDst == ((s0_0 ((IntKind.i64.wrap (4 + s0_6))).toNat)).fDst) && ((((g7_0 ((IntKind.i64.wrap (4 + s0_6))).toNat)).fSrc == ((s0_0 ((IntKind.i64.wrap (4 + s0_6))).toNat)).fSrc) && ((((g7_0 ((IntKind.i64.wrap (4 + s0_6))).toNat)).fOff == ((s0_0 ((IntKind.i64.wrap (4 + s0_6))).toNat)).fOff) && (((g7_0 ((IntKind.i64.wrap (4 + s0_6))).toNat)).fImm == ((s0_0 ((IntKind.i64.wrap (4 + s0_6))).toNat)).fImm))))) then
                        (some (.inl (.c0 s0_0 s0_1 s0_2 s0_3 s0_4 s0_5 (IntKind.i64.wrap (s0_6 + 1)))))
                      else (none))
                    else (none))
                  else (bif ((s0_0 ((IntKind.i64.wrap (4 + s0_6))).toNat)).fOp == 180#8 then
                    (bif inR (IntKind.i64.wrap (4 + s0_6)) (0 + (g5_6 + 1)) then
                      (bif ((((g7_0 ((IntKind.i64.wrap (4 + s0_6))).toNat)).fOp == ((s0_0 ((IntKind.i64.wrap (4 + s0_6))).toNat)).fOp) && ((((g7_0 ((IntKind.i64.wrap (4 + s0_6))).toNat)).fDst == ((s0_0 ((IntKind.i64.wrap (4 + s0_6))).toNat)).fDst) && ((((g7_0 ((IntKind.i64.wrap (4 + s0_6))).toNat)).fSrc == ((s0_0 ((IntKind.i64.wrap (4 + s0_6))).toNat)).fSrc) && ((((g7_0 ((IntKind.i64.wrap (4 + s0_6))).toNat)).fOff == ((s0_0 ((IntKind.i64.wrap (4 + s0_6))).toNat)).fOff) && (((g7_0 ((IntKind.i64.wrap (4 + s0_6))).toNat)).fImm == ((s0_0 ((IntKind.i64.wrap (4 + s0_6))).toNat)).fImm))))) then
                        (some (.inl (.c0 s0_0 s0_1 s0_2 s0_3 s0_4 s0_5 (IntKind.i64.wrap (s0_6 + 1)))))
                      else (none))
                    else (none))
                  else (bif inR (IntKind.i64.wrap (4 + s0_6)) (0 + (g5_6 + 1)) then
                    (bif ((((g7_0 ((IntKind.i64.wrap (4 + s0_6))).toNat)).fOp == 183#8) && ((((g7_0 ((IntKind.i64.wrap (4 + s0_6))).toNat)).fDst == (g5_11 (s0_6).toNat)) && ((((g7_0 ((IntKind.i64.wrap (4 + s0_6))).toNat)).fSrc == 0#8) && ((((g7_0 ((IntKind.i64.wrap (4 + s0_6))).toNat)).fOff == 0#16) && (((g7_0 ((IntKind.i64.wrap (4 + s0_6))).toNat)).fImm == (((g_Arr26 (s0_5 ((IntKind.i64.wrap (s0_6 + 1))).toNat) (nn (g5_11 (s0_6).toNat)).toNat) % 4294967296#64).setWidth 32)))))) then
                      (some (.inl (.c0 s0_0 s0_1 s0_2 s0_3 s0_4 s0_5 (IntKind.i64.wrap (s0_6 + 1)))))
                    else (none))
                  else (none))))
                else (none))
              else (bif inR (IntKind.i64.wrap (4 + s0_6)) (g5_6 + 1) then
                (bif ((s0_0 ((IntKind.i64.wrap (4 + s0_6))).toNat)).fOp == 183#8 then
                  (bif inR (IntKind.i64.wrap (4 + s0_6)) (0 + (g5_6 + 1)) then
                    (bif ((((g7_0 ((IntKind.i64.wrap (4 + s0_6))).toNat)).fOp == ((s0_0 ((IntKind.i64.wrap (4 + s0_6))).toNat)).fOp) && ((((g7_0 ((IntKind.i64.wrap (4 + s0_6))).toNat)).fDst == ((s0_0 ((IntKind.i64.wrap (4 + s0_6))).toNat)).fDst) && ((((g7_0 ((IntKind.i64.wrap (4 + s0_6))).toNat)).fSrc == ((s0_0 ((IntKind.i64.wrap (4 + s0_6))).toNat)).fSrc) && ((((g7_0 ((IntKind.i64.wrap (4 + s0_6))).toNat)).fOff == ((s0_0 ((IntKind.i64.wrap (4 + s0_6))).toNat)).fOff) && (((g7_0 ((IntKind.i64.wrap (4 + s0_6))).toNat)).fImm == ((s0_0 ((IntKind.i64.wrap (4 + s0_6))).toNat)).fImm))))) then
                      (some (.inl (.c0 s0_0 s0_1 s0_2 s0_3 s0_4 s0_5 (IntKind.i64.wrap (s0_6 + 1)))))
                    else (none))
                  else (none))
                else (bif ((s0_0 ((IntKind.i64.wrap (4 + s0_6))).toNat)).fOp == 180#8 then
                  (bif inR (IntKind.i64.wrap (4 + s0_6)) (0 + (g5_6 + 1)) then
                    (bif ((((g7_0 ((IntKind.i64.wrap (4 + s0_6))).toNat)).fOp == ((s0_0 ((IntKind.i64.wrap (4 + s0_6))).toNat)).fOp) && ((((g7_0 ((IntKind.i64.wrap (4 + s0_6))).toNat)).fDst == ((s0_0 ((IntKind.i64.wrap (4 + s0_6))).toNat)).fDst) && ((((g7_0 ((IntKind.i64.wrap (4 + s0_6))).toNat)).fSrc == ((s0_0 ((IntKind.i64.wrap (4 + s0_6))).toNat)).fSrc) && ((((g7_0 ((IntKind.i64.wrap (4 + s0_6))).toNat)).fOff == ((s0_0 ((IntKind.i64.wrap (4 + s0_6))).toNat)).fOff) && (((g7_0 ((IntKind.i64.wrap (4 + s0_6))).toNat)).fImm == ((s0_0 ((IntKind.i64.wrap (4 + s0_6))).toNat)).fImm))))) then
                      (some (.inl (.c0 s0_0 s0_1 s0_2 s0_3 s0_4 s0_5 (IntKind.i64.wrap (s0_6 + 1)))))
                    else (none))
                  else (none))
                else (bif inR (IntKind.i64.wrap (4 + s0_6)) (0 + (g5_6 + 1)) then
                  (bif ((((g7_0 ((IntKind.i64.wrap (4 + s0_6))).toNat)).fOp == ((s0_0 ((IntKind.i64.wrap (4 + s0_6))).toNat)).fOp) && ((((g7_0 ((IntKind.i64.wrap (4 + s0_6))).toNat)).fDst == ((s0_0 ((IntKind.i64.wrap (4 + s0_6))).toNat)).fDst) && ((((g7_0 ((IntKind.i64.wrap (4 + s0_6))).toNat)).fSrc == ((s0_0 ((IntKind.i64.wrap (4 + s0_6))).toNat)).fSrc) && ((((g7_0 ((IntKind.i64.wrap (4 + s0_6))).toNat)).fOff == ((s0_0 ((IntKind.i64.wrap (4 + s0_6))).toNat)).fOff) && (((g7_0 ((IntKind.i64.wrap (4 + s0_6))).toNat)).fImm == ((s0_0 ((IntKind.i64.wrap (4 + s0_6))).toNat)).fImm))))) then
                    (some (.inl (.c0 s0_0 s0_1 s0_2 s0_3 s0_4 s0_5 (IntKind.i64.wrap (s0_6 + 1)))))
                  else (none))
                else (none))))
              else (none)))
            else (none))
          else (none))
        else (none))
      else (some (.inl (.c0 s0_0 s0_1 s0_2 s0_3 s0_4 s0_5 (IntKind.i64.wrap (s0_6 + 1))))))
    else (some (.inr (.e0 s0_0 s0_1 s0_2 s0_3 s0_4 s0_5)))
noncomputable def bd_barbicanlaw25_FoldStraight_L2v1 : Code := codeOf Tryz.f3 [1, 1, 1, 1, 1, 1, 1, 1, 1, 1, 1, 1, 1, 1, 0, 1, 0, 0]
def fl_barbicanlaw25_FoldStraight_L2v1 (y0 : Arr22) (a0 : Option Addr) (p0 : Nat) (q0 : Nat) (n0 : Nat) (k0 : Nat) (A0 : Nat → Insn) (r0 : Nat → BitVec 64) (r1 : Nat → Insn) (r2 : Nat → Insn) (r3 : Nat → BitVec 64) (r4 : Nat → Insn) (g5_0 : Nat → BitVec 32) (g5_1 : Nat → BitVec 64) (g5_2 : BitVec 32) (g5_3 : BitVec 32) (g5_4 : BitVec 32) (g5_5 : BitVec 32) (g5_6 : Nat) (g5_7 : Nat → Insn) (g5_8 : Nat) (g5_9 : Nat → Arr26) (g5_10 : Nat) (g5_11 : Nat → BitVec 8) (g6_0 : Nat → Arr42) (g7_0 : Nat → Insn) : Sh_barbicanlaw25_FoldStraight_L2v1 → List L1 → List Value
  | .c0 s0_0 s0_1 s0_2 s0_3 s0_4 s0_5 s0_6, ls => [(rowV (lget ls 15) (g5_6 + 1) 5), (rowV (lget ls 17) (g5_8 + 1) 4), (rowV (lget ls 12) g5_10 1), (rowV (lget ls 18) (g5_6 + 1) 44), (rowV (lget ls 19) (0 + (g5_6 + 1)) 5), .int .i64 (s0_6)]
def mf_barbicanlaw25_FoldStraight_L2v1 : Sh_barbicanlaw25_FoldStraight_L2v1 → List (Nat × Nat)
  | .c0 _ _ _ _ _ _ _ => [(0, 5), (1, 2), (2, 6), (1, 1), (1, 1), (1, 260)]
noncomputable def fr_barbicanlaw25_FoldStraight_L2v1 (y0 : Arr22) (a0 : Option Addr) (p0 : Nat) (q0 : Nat) (n0 : Nat) (k0 : Nat) (A0 : Nat → Insn) (r0 : Nat → BitVec 64) (r1 : Nat → Insn) (r2 : Nat → Insn) (r3 : Nat → BitVec 64) (r4 : Nat → Insn) (g5_0 : Nat → BitVec 32) (g5_1 : Nat → BitVec 64) (g5_2 : BitVec 32) (g5_3 : BitVec 32) (g5_4 : BitVec 32) (g5_5 : BitVec 32) (g5_6 : Nat) (g5_7 : Nat → Insn) (g5_8 : Nat) (g5_9 : Nat → Arr26) (g5_10 : Nat) (g5_11 : Nat → BitVec 8) (g6_0 : Nat → Arr42) (g7_0 : Nat → Insn) (s : Sh_barbicanlaw25_FoldStraight_L2v1) : List L1 → List Value := mrgF (mf_barbicanlaw25_FoldStraight_L2v1 s) (fl_barbicanlaw25_FoldStraight_L2v1 y0 a0 p0 q0 n0 k0 A0 r0 r1 r2 r3 r4 g5_0 g5_1 g5_2 g5_3 g5_4 g5_5 g5_6 g5_7 g5_8 g5_9 g5_10 g5_11 g6_0 g7_0 s) 20
def Hs_barbicanlaw25_FoldStraight_L2v1 (y0 : Arr22) (a0 : Option Addr) (p0 : Nat) (q0 : Nat) (n0 : Nat) (k0 : Nat) (A0 : Nat → Insn) (r0 : Nat → BitVec 64) (r1 : Nat → Insn) (r2 : Nat → Insn) (r3 : Nat → BitVec 64) (r4 : Nat → Insn) (g5_0 : Nat → BitVec 32) (g5_1 : Nat → BitVec 64) (g5_2 : BitVec 32) (g5_3 : BitVec 32) (g5_4 : BitVec 32) (g5_5 : BitVec 32) (g5_6 : Nat) (g5_7 : Nat → Insn) (g5_8 : Nat) (g5_9 : Nat → Arr26) (g5_10 : Nat) (g5_11 : Nat → BitVec 8) (g6_0 : Nat → Arr42) (g7_0 : Nat → Insn) : Sh_barbicanlaw25_FoldStraight_L2v1 → List L1 → List Obj
  | .c0 s0_0 s0_1 s0_2 s0_3 s0_4 s0_5 s0_6, ls => [.cells ⟨esG ci32 4 g5_0⟩ 22, .cells ⟨esG cu64 4 g5_1⟩ 26, .cells #[.int .u8 (183), .int .u8 (0), .int .u8 (0), .int .i16 (0), .int .i32 (ii g5_2)] 29, unb, .cells #[.int .u8 (183), .int .u8 (1), .int .u8 (0), .int .i16 (0), .int .i32 (ii g5_3)] 29, unb, .cells #[.int .u8 (183), .int .u8 (2), .int .u8 (0), .int .i16 (0), .int .i32 (ii g5_4)] 29, unb, .cells #[.int .u8 (183), .int .u8 (3), .int .u8 (0), .int .i16 (0), .int .i32 (ii g5_5)] 29, unb, unb, unb, rowO (lget ls 12) (esG cu8 g5_10 g5_11) 5 g5_10 1, unb, .cells #[.int .u8 (149), .int .u8 (0), .int .u8 (0), .int .i16 (0), .int .i32 (0)] 29, rowO (lget ls 15) (esG c_Insn (g5_6 + 1) s0_0) 29 (g5_6 + 1) 5, .cells #[.int .u64 (nn s0_1), .int .u64 (nn s0_2), .int .u64 (nn s0_3), .int .u64 (nn s0_4)] 26, rowO (lget ls 17) (esG c_Arr26 (g5_8 + 1) s0_5) 26 (g5_8 + 1) 4, rowO (lget ls 18) (esG c_Arr42 (g5_6 + 1) g6_0) 42 (g5_6 + 1) 44, rowO (lget ls 19) (esG c_Insn (0 + (g5_6 + 1)) g7_0) 29 (0 + (g5_6 + 1)) 5, unb]
def vl_barbicanlaw25_FoldStraight_L2v1 (y0 : Arr22) (a0 : Option Addr) (p0 : Nat) (q0 : Nat) (n0 : Nat) (k0 : Nat) (A0 : Nat → Insn) (r0 : Nat → BitVec 64) (r1 : Nat → Insn) (r2 : Nat → Insn) (r3 : Nat → BitVec 64) (r4 : Nat → Insn) (g5_0 : Nat → BitVec 32) (g5_1 : Nat → BitVec 64) (g5_2 : BitVec 32) (g5_3 : BitVec 32) (g5_4 : BitVec 32) (g5_5 : BitVec 32) (g5_6 : Nat) (g5_7 : Nat → Insn) (g5_8 : Nat) (g5_9 : Nat → Arr26) (g5_10 : Nat) (g5_11 : Nat → BitVec 8) (g6_0 : Nat → Arr42) (g7_0 : Nat → Insn) : Ex_barbicanlaw25_FoldStraight_L2v1 → List L1 → List Value
  | .e0 c0_0 c0_1 c0_2 c0_3 c0_4 c0_5, ls => [(rowV (lget ls 15) (g5_6 + 1) 5), (rowV (lget ls 17) (g5_8 + 1) 4), (rowV (lget ls 12) g5_10 1), (rowV (lget ls 18) (g5_6 + 1) 44), (rowV (lget ls 19) (0 + (g5_6 + 1)) 5)]
def mk_barbicanlaw25_FoldStraight_L2v1 : Ex_barbicanlaw25_FoldStraight_L2v1 → List (Nat × Nat)
  | .e0 _ _ _ _ _ _ => [(0, 5), (1, 2), (2, 6), (1, 1), (1, 262)]
noncomputable def vf_barbicanlaw25_FoldStraight_L2v1 (y0 : Arr22) (a0 : Option Addr) (p0 : Nat) (q0 : Nat) (n0 : Nat) (k0 : Nat) (A0 : Nat → Insn) (r0 : Nat → BitVec 64) (r1 : Nat → Insn) (r2 : Nat → Insn) (r3 : Nat → BitVec 64) (r4 : Nat → Insn) (g5_0 : Nat → BitVec 32) (g5_1 : Nat → BitVec 64) (g5_2 : BitVec 32) (g5_3 : BitVec 32) (g5_4 : BitVec 32) (g5_5 : BitVec 32) (g5_6 : Nat) (g5_7 : Nat → Insn) (g5_8 : Nat) (g5_9 : Nat → Arr26) (g5_10 : Nat) (g5_11 : Nat → BitVec 8) (g6_0 : Nat → Arr42) (g7_0 : Nat → Insn) (r : Ex_barbicanlaw25_FoldStraight_L2v1) : List L1 → List Value := mrgF (mk_barbicanlaw25_FoldStraight_L2v1 r) (vl_barbicanlaw25_FoldStraight_L2v1 y0 a0 p0 q0 n0 k0 A0 r0 r1 r2 r3 r4 g5_0 g5_1 g5_2 g5_3 g5_4 g5_5 g5_6 g5_7 g5_8 g5_9 g5_10 g5_11 g6_0 g7_0 r) 20
def Hf_barbicanlaw25_FoldStraight_L2v1 (y0 : Arr22) (a0 : Option Addr) (p0 : Nat) (q0 : Nat) (n0 : Nat) (k0 : Nat) (A0 : Nat → Insn) (r0 : Nat → BitVec 64) (r1 : Nat → Insn) (r2 : Nat → Insn) (r3 : Nat → BitVec 64) (r4 : Nat → Insn) (g5_0 : Nat → BitVec 32) (g5_1 : Nat → BitVec 64) (g5_2 : BitVec 32) (g5_3 : BitVec 32) (g5_4 : BitVec 32) (g5_5 : BitVec 32) (g5_6 : Nat) (g5_7 : Nat → Insn) (g5_8 : Nat) (g5_9 : Nat → Arr26) (g5_10 : Nat) (g5_11 : Nat → BitVec 8) (g6_0 : Nat → Arr42) (g7_0 : Nat → Insn) : Ex_barbicanlaw25_FoldStraight_L2v1 → List L1 → List Obj
  | .e0 c0_0 c0_1 c0_2 c0_3 c0_4 c0_5, ls => [.cells ⟨esG ci32 4 g5_0⟩ 22, .cells ⟨esG cu64 4 g5_1⟩ 26, .cells #[.int .u8 (183), .int .u8 (0), .int .u8 (0), .int .i16 (0), .int .i32 (ii g5_2)] 29, unb, .cells #[.int .u8 (183), .int .u8 (1), .int .u8 (0), .int .i16 (0), .int .i32 (ii g5_3)] 29, unb, .cells #[.int .u8 (183), .int .u8 (2), .int .u8 (0), .int .i16 (0), .int .i32 (ii g5_4)] 29, unb, .cells #[.int .u8 (183), .int .u8 (3), .int .u8 (0), .int .i16 (0), .int .i32 (ii g5_5)] 29, unb, unb, unb, rowO (lget ls 12) (esG cu8 g5_10 g5_11) 5 g5_10 1, unb, .cells #[.int .u8 (149), .int .u8 (0), .int .u8 (0), .int .i16 (0), .int .i32 (0)] 29, rowO (lget ls 15) (esG c_Insn (g5_6 + 1) c0_0) 29 (g5_6 + 1) 5, .cells #[.int .u64 (nn c0_1), .int .u64 (nn c0_2), .int .u64 (nn c0_3), .int .u64 (nn c0_4)] 26, rowO (lget ls 17) (esG c_Arr26 (g5_8 + 1) c0_5) 26 (g5_8 + 1) 4, rowO (lget ls 18) (esG c_Arr42 (g5_6 + 1) g6_0) 42 (g5_6 + 1) 44, rowO (lget ls 19) (esG c_Insn (0 + (g5_6 + 1)) g7_0) 29 (0 + (g5_6 + 1)) 5, unb]
def ex_barbicanlaw25_FoldStraight_L2v1 : Ex_barbicanlaw25_FoldStraight_L2v1 → Ex
  | .e0 _ _ _ _ _ _ => (.exit 4)
theorem go_barbicanlaw25_FoldStraight_L2v1 (g5_0 : Nat → BitVec 32) (g5_1 : Nat → BitVec 64) (g5_2 : BitVec 32) (g5_3 : BitVec 32) (g5_4 : BitVec 32) (g5_5 : BitVec 32) (g5_6 : Nat) (g5_7 : Nat → Insn) (g5_8 : Nat) (g5_9 : Nat → Arr26) (g5_10 : Nat) (g5_11 : Nat → BitVec 8) (g6_0 : Nat → Arr42) (g7_0 : Nat → Insn) (s : Sh_barbicanlaw25_FoldStraight_L2v1) (r : Ex_barbicanlaw25_FoldStraight_L2v1) (h : lpO (st_barbicanlaw25_FoldStraight_L2v1 g5_6 g5_8 g5_10 g5_11 g6_0 g7_0) s = some r) : GoesG Tryz.prog M B0 S (.loop bd_barbicanlaw25_FoldStraight_L2v1) 21 (fr_barbicanlaw25_FoldStraight_L2v1 y0 a0 p0 q0 n0 k0 A0 r0 r1 r2 r3 r4 g5_0 g5_1 g5_2 g5_3 g5_4 g5_5 g5_6 g5_7 g5_8 g5_9 g5_10 g5_11 g6_0 g7_0 s) (Hs_barbicanlaw25_FoldStraight_L2v1 y0 a0 p0 q0 n0 k0 A0 r0 r1 r2 r3 r4 g5_0 g5_1 g5_2 g5_3 g5_4 g5_5 g5_6 g5_7 g5_8 g5_9 g5_10 g5_11 g6_0 g7_0 s) (ex_barbicanlaw25_FoldStraight_L2v1 r) 20 (vf_barbicanlaw25_FoldStraight_L2v1 y0 a0 p0 q0 n0 k0 A0 r0 r1 r2 r3 r4 g5_0 g5_1 g5_2 g5_3 g5_4 g5_5 g5_6 g5_7 g5_8 g5_9 g5_10 g5_11 g6_0 g7_0 r) (Hf_barbicanlaw25_FoldStraight_L2v1 y0 a0 p0 q0 n0 k0 A0 r0 r1 r2 r3 r4 g5_0 g5_1 g5_2 g5_3 g5_4 g5_5 g5_6 g5_7 g5_8 g5_9 g5_10 g5_11 g6_0 g7_0 r) 21 :=
  goes_lpO (fun s q e => by
    cases s with
    | c0 s0_0 s0_1 s0_2 s0_3 s0_4 s0_5 s0_6 =>
      unfold st_barbicanlaw25_FoldStraight_L2v1 at e
      dsimp only at e
      replace e := cond_eq_or e
      rcases e with ⟨hq0, e⟩ | ⟨hq0, e⟩
      · replace e := bindO_eq e
        obtain ⟨gb0, e_gb0, e⟩ := e
        cases gb0
        try dsimp only at e
        replace e := cond_eq_or e
        let P1 : List (PG Tryz.prog M B0 S) := [.o, .o, .o, .b (z_lssT hq0), .o, .cp, .cx (sp0_barbicanlaw25_FoldStraight_L2v1_L3v2_0_ok hU y0 a0 p0 q0 n0 k0 A0 hR0 r0 r1 r2 r3 r4 g5_0 g5_1 g5_2 g5_3 g5_4 g5_5 g5_6 g5_7 g5_8 g5_9 g5_10 g5_11 g6_0 g7_0 s0_0 s0_1 s0_2 s0_3 s0_4 s0_5 s0_6 0  e_gb0) [0, 1, 2, 3, 4, 5, 6, 7, 8, 9, 10, 11, 12, 13, 14, 15, 16, 17, 18, 19, 20], .o, .o, .o, .o]
        rcases e with ⟨hq1, e⟩ | ⟨hq1, e⟩
        · replace e := cond_eq_or e
          let P2 : List (PG Tryz.prog M B0 S) := P1 ++ [.b (z_lssT hq1), .r [0, 1, 2, 3, 4, 5, 6, 7, 8, 9, 10] [] [], .o, .o, .o, .o, .o]
          rcases e with ⟨hq2, e⟩ | ⟨hq2, e⟩
          · replace e := cond_eq_or e
            let P3 : List (PG Tryz.prog M B0 S) := P2 ++ [.q (ixM_ok (kd := .i64) (T := 31) (x := s0_6) (N := g5_10) (sz := 1) rfl (fun w => by kernel_rfl) hq2), .l (accG (i := 12) (f := cu8) (A := g5_11) (k := (s0_6).toNat) 0 [.int .u8 (nn (g5_11 (s0_6).toNat))] cu8_len (inR_nat hq2) rfl)]
            rcases e with ⟨hq3, e⟩ | ⟨hq3, e⟩
            · replace e := cond_eq_or e
              let P4 : List (PG Tryz.prog M B0 S) := P3 ++ [.q (ixM_ok (kd := .i64) (T := 30) (x := (IntKind.i64.wrap (s0_6 + 1))) (N := (g5_8 + 1)) (sz := 4) rfl (fun w => by kernel_rfl) hq3)]
              rcases e with ⟨hq4, e⟩ | ⟨hq4, e⟩
              · replace e := cond_eq_or e
                let P5 : List (PG Tryz.prog M B0 S) := P4 ++ [.q (ixA_ok (kd := .u8) (T := 26) (x := nn (g5_11 (s0_6).toNat)) (sz := 1) (N := 4) rfl rfl (fun w => by kernel_rfl) hq4), .l (accG (i := 17) (f := c_Arr26) (A := s0_5) (k := ((IntKind.i64.wrap (s0_6 + 1))).toNat) ((nn (g5_11 (s0_6).toNat)).toNat * 1) [.int .u64 (nn (g_Arr26 (s0_5 ((IntKind.i64.wrap (s0_6 + 1))).toNat) (nn (g5_11 (s0_6).toNat)).toNat))] c_Arr26_len (inR_nat hq3) (g_Arr26_at _ (inR_nat hq4))), .o, .o, .ov (u64_rem Tryz.prog 25 (.tmp 215) (.const (.int .u64 (4294967296))) (g_Arr26 (s0_5 ((IntKind.i64.wrap (s0_6 + 1))).toNat) (nn (g5_11 (s0_6).toNat)).toNat) (4294967296#64) (by decide)), .v .u32 (u32_of_u64 ((g_Arr26 (s0_5 ((IntKind.i64.wrap (s0_6 + 1))).toNat) (nn (g5_11 (s0_6).toNat)).toNat) % 4294967296#64)), .v .i32 (i32_of_u32 (((g_Arr26 (s0_5 ((IntKind.i64.wrap (s0_6 + 1))).toNat) (nn (g5_11 (s0_6).toNat)).toNat) % 4294967296#64).setWidth 32)), .v .i64 (z_of_ii (by decide) (((g_Arr26 (s0_5 ((IntKind.i64.wrap (s0_6 + 1))).toNat) (nn (g5_11 (s0_6).toNat)).toNat) % 4294967296#64).setWidth 32)), .v .u64 (u64_of_z (ii (((g_Arr26 (s0_5 ((IntKind.i64.wrap (s0_6 + 1))).toNat) (nn (g5_11 (s0_6).toNat)).toNat) % 4294967296#64).setWidth 32))), .o]
                rcases e with ⟨hq5, e⟩ | ⟨hq5, e⟩
                · replace e := cond_eq_or e
                  let P6 : List (PG Tryz.prog M B0 S) := P5 ++ [.t (u_eq (BitVec.ofInt 64 (ii (((g_Arr26 (s0_5 ((IntKind.i64.wrap (s0_6 + 1))).toNat) (nn (g5_11 (s0_6).toNat)).toNat) % 4294967296#64).setWidth 32))) (g_Arr26 (s0_5 ((IntKind.i64.wrap (s0_6 + 1))).toNat) (nn (g5_11 (s0_6).toNat)).toNat)) hq5, .o, .o, .o, .o]
                  rcases e with ⟨hq6, e⟩ | ⟨hq6, e⟩
                  · replace e := cond_eq_or e
                    let P7 : List (PG Tryz.prog M B0 S) := P6 ++ [.q (ixM_ok (kd := .i64) (T := 23) (x := (IntKind.i64.wrap (4 + s0_6))) (N := (g5_6 + 1)) (sz := 5) rfl (fun w => by kernel_rfl) hq6), .o, .l (accG (i := 15) (f := c_Insn) (A := s0_0) (k := ((IntKind.i64.wrap (4 + s0_6))).toNat) 0 [.int .u8 (nn ((s0_0 ((IntKind.i64.wrap (4 + s0_6))).toNat)).fOp)] c_Insn_len (inR_nat hq6) rfl)]
                    rcases e with ⟨hq7, e⟩ | ⟨hq7, e⟩
                    · replace e := cond_eq_or e
                      rcases e with ⟨hq8, e⟩ | ⟨hq8, e⟩
                      · replace e := cond_eq_or e
                        rcases e with ⟨hq9, e⟩ | ⟨hq9, e⟩
                        · cases e; exact goes_runM hU (P7 ++ [.t (u_eq ((s0_0 ((IntKind.i64.wrap (4 + s0_6))).toNat)).fOp (183#8)) hq7, .o, .o, .o, .r [0, 1, 2, 3, 4, 5, 6, 7, 8, 9, 10, 11, 12, 13, 14, 15, 16, 17, 18, 19, 20, 21, 22, 23, 24, 25, 26, 27, 28, 29, 30, 31, 32, 33, 34, 35, 36, 37, 38, 39, 40, 41] [] [], .o, .o, .o, .o, .o, .o, .o, .o, .o, .o, .o, .o, .o, .o, .o, .o, .o, .q (ixM_ok (kd := .i64) (T := 23) (x := (IntKind.i64.wrap (4 + s0_6))) (N := (0 + (g5_6 + 1))) (sz := 5) rfl (fun w => by kernel_rfl) hq8), .l (accG (i := 19) (f := c_Insn) (A := g7_0) (k := ((IntKind.i64.wrap (4 + s0_6))).toNat) 0 [.int .u8 (nn ((g7_0 ((IntKind.i64.wrap (4 + s0_6))).toNat)).fOp), .int .u8 (nn ((g7_0 ((IntKind.i64.wrap (4 + s0_6))).toNat)).fDst), .int .u8 (nn ((g7_0 ((IntKind.i64.wrap (4 + s0_6))).toNat)).fSrc), .int .i16 (ii ((g7_0 ((IntKind.i64.wrap (4 + s0_6))).toNat)).fOff), .int .i32 (ii ((g7_0 ((IntKind.i64.wrap (4 + s0_6))).toNat)).fImm)] c_Insn_len (inR_nat hq8) rfl), .o, .o, .o, .q (ixM_ok (kd := .i64) (T := 23) (x := (IntKind.i64.wrap (4 + s0_6))) (N := (g5_6 + 1)) (sz := 5) rfl (fun w => by kernel_rfl) hq6), .l (accG (i := 15) (f := c_Insn) (A := s0_0) (k := ((IntKind.i64.wrap (4 + s0_6))).toNat) 0 [.int .u8 (nn ((s0_0 ((IntKind.i64.wrap (4 + s0_6))).toNat)).fOp), .int .u8 (nn ((s0_0 ((IntKind.i64.wrap (4 + s0_6))).toNat)).fDst), .int .u8 (nn ((s0_0 ((IntKind.i64.wrap (4 + s0_6))).toNat)).fSrc), .int .i16 (ii ((s0_0 ((IntKind.i64.wrap (4 + s0_6))).toNat)).fOff), .int .i32 (ii ((s0_0 ((IntKind.i64.wrap (4 + s0_6))).toNat)).fImm)] c_Insn_len (inR_nat hq6) rfl), .ov (fun w => (run_aggeq 29 #[.int .u8 (nn ((g7_0 ((IntKind.i64.wrap (4 + s0_6))).toNat)).fOp), .int .u8 (nn ((g7_0 ((IntKind.i64.wrap (4 + s0_6))).toNat)).fDst), .int .u8 (nn ((g7_0 ((IntKind.i64.wrap (4 + s0_6))).toNat)).fSrc), .int .i16 (ii ((g7_0 ((IntKind.i64.wrap (4 + s0_6))).toNat)).fOff), .int .i32 (ii ((g7_0 ((IntKind.i64.wrap (4 + s0_6))).toNat)).fImm)] #[.int .u8 (nn ((s0_0 ((IntKind.i64.wrap (4 + s0_6))).toNat)).fOp), .int .u8 (nn ((s0_0 ((IntKind.i64.wrap (4 + s0_6))).toNat)).fDst), .int .u8 (nn ((s0_0 ((IntKind.i64.wrap (4 + s0_6))).toNat)).fSrc), .int .i16 (ii ((s0_0 ((IntKind.i64.wrap (4 + s0_6))).toNat)).fOff), .int .i32 (ii ((s0_0 ((IntKind.i64.wrap (4 + s0_6))).toNat)).fImm)] true (by kernel_rfl) (fun w => (eqi29 9998 ((g7_0 ((IntKind.i64.wrap (4 + s0_6))).toNat)).fOp ((s0_0 ((IntKind.i64.wrap (4 + s0_6))).toNat)).fOp ((g7_0 ((IntKind.i64.wrap (4 + s0_6))).toNat)).fDst ((s0_0 ((IntKind.i64.wrap (4 + s0_6))).toNat)).fDst ((g7_0 ((IntKind.i64.wrap (4 + s0_6))).toNat)).fSrc ((s0_0 ((IntKind.i64.wrap (4 + s0_6))).toNat)).fSrc ((g7_0 ((IntKind.i64.wrap (4 + s0_6))).toNat)).fOff ((s0_0 ((IntKind.i64.wrap (4 + s0_6))).toNat)).fOff ((g7_0 ((IntKind.i64.wrap (4 + s0_6))).toNat)).fImm ((s0_0 ((IntKind.i64.wrap (4 + s0_6))).toNat)).fImm w).trans (congrArg (fun b => Result.ok b w) hq9)) (.tmp 272) (.tmp 277) w).2), .o, .o, .o, .o, .o]) [0, 1, 2, 3, 4, 5, 6, 7, 8, 9, 10, 11, 12, 13, 14, 15, 16, 17, 18, 19] (fun b => rfl) (by decide) rfl rfl (fun b => by kernel_rfl)
                        · exact none_some e
                      · exact none_some e
                    · replace e := cond_eq_or e
                      let P8 : List (PG Tryz.prog M B0 S) := P7 ++ [.t (u_eq ((s0_0 ((IntKind.i64.wrap (4 + s0_6))).toNat)).fOp (183#8)) hq7, .o, .o, .o, .o, .q (ixM_ok (kd := .i64) (T := 23) (x := (IntKind.i64.wrap (4 + s0_6))) (N := (g5_6 + 1)) (sz := 5) rfl (fun w => by kernel_rfl) hq6), .o, .l (accG (i := 15) (f := c_Insn) (A := s0_0) (k := ((IntKind.i64.wrap (4 + s0_6))).toNat) 0 [.int .u8 (nn ((s0_0 ((IntKind.i64.wrap (4 + s0_6))).toNat)).fOp)] c_Insn_len (inR_nat hq6) rfl)]
                      rcases e with ⟨hq8, e⟩ | ⟨hq8, e⟩
                      · replace e := cond_eq_or e
                        rcases e with ⟨hq9, e⟩ | ⟨hq9, e⟩
                        · replace e := cond_eq_or e
                          rcases e with ⟨hq10, e⟩ | ⟨hq10, e⟩
                          · cases e; exact goes_runM hU (P8 ++ [.t (u_eq ((s0_0 ((IntKind.i64.wrap (4 + s0_6))).toNat)).fOp (180#8)) hq8, .o, .o, .r [0, 1, 2, 3, 4, 5, 6, 7, 8, 9, 10, 11, 12, 13, 14, 15, 16, 17, 18, 19, 20, 21, 22, 23, 24, 25, 26, 27, 28, 29, 30, 31, 32, 33, 34, 35, 36, 37, 38, 39, 40, 41] [] [], .o, .o, .o, .o, .o, .o, .o, .o, .o, .o, .o, .o, .o, .o, .o, .o, .o, .q (ixM_ok (kd := .i64) (T := 23) (x := (IntKind.i64.wrap (4 + s0_6))) (N := (0 + (g5_6 + 1))) (sz := 5) rfl (fun w => by kernel_rfl) hq9), .l (accG (i := 19) (f := c_Insn) (A := g7_0) (k := ((IntKind.i64.wrap (4 + s0_6))).toNat) 0 [.int .u8 (nn ((g7_0 ((IntKind.i64.wrap (4 + s0_6))).toNat)).fOp), .int .u8 (nn ((g7_0 ((IntKind.i64.wrap (4 + s0_6))).toNat)).fDst), .int .u8 (nn ((g7_0 ((IntKind.i64.wrap (4 + s0_6))).toNat)).fSrc), .int .i16 (ii ((g7_0 ((IntKind.i64.wrap (4 + s0_6))).toNat)).fOff), .int .i32 (ii ((g7_0 ((IntKind.i64.wrap (4 + s0_6))).toNat)).fImm)] c_Insn_len (inR_nat hq9) rfl), .o, .o, .o, .q (ixM_ok (kd := .i64) (T := 23) (x := (IntKind.i64.wrap (4 + s0_6))) (N := (g5_6 + 1)) (sz := 5) rfl (fun w => by kernel_rfl) hq6), .l (accG (i := 15) (f := c_Insn) (A := s0_0) (k := ((IntKind.i64.wrap (4 + s0_6))).toNat) 0 [.int .u8 (nn ((s0_0 ((IntKind.i64.wrap (4 + s0_6))).toNat)).fOp), .int .u8 (nn ((s0_0 ((IntKind.i64.wrap (4 + s0_6))).toNat)).fDst), .int .u8 (nn ((s0_0 ((IntKind.i64.wrap (4 + s0_6))).toNat)).fSrc), .int .i16 (ii ((s0_0 ((IntKind.i64.wrap (4 + s0_6))).toNat)).fOff), .int .i32 (ii ((s0_0 ((IntKind.i64.wrap (4 + s0_6))).toNat)).fImm)] c_Insn_len (inR_nat hq6) rfl), .ov (fun w => (run_aggeq 29 #[.int .u8 (nn ((g7_0 ((IntKind.i64.wrap (4 + s0_6))).toNat)).fOp), .int .u8 (nn ((g7_0 ((IntKind.i64.wrap (4 + s0_6))).toNat)).fDst), .int .u8 (nn ((g7_0 ((IntKind.i64.wrap (4 + s0_6))).toNat)).fSrc), .int .i16 (ii ((g7_0 ((IntKind.i64.wrap (4 + s0_6))).toNat)).fOff), .int .i32 (ii ((g7_0 ((IntKind.i64.wrap (4 + s0_6))).toNat)).fImm)] #[.int .u8 (nn ((s0_0 ((IntKind.i64.wrap (4 + s0_6))).toNat)).fOp), .int .u8 (nn ((s0_0 ((IntKind.i64.wrap (4 + s0_6))).toNat)).fDst), .int .u8 (nn ((s0_0 ((IntKind.i64.wrap (4 + s0_6))).toNat)).fSrc), .int .i16 (ii ((s0_0 ((IntKind.i64.wrap (4 + s0_6))).toNat)).fOff), .int .i32 (ii ((s0_0 ((IntKind.i64.wrap (4 + s0_6))).toNat)).fImm)] true (by kernel_rfl) (fun w => (eqi29 9998 ((g7_0 ((IntKind.i64.wrap (4 + s0_6))).toNat)).fOp ((s0_0 ((IntKind.i64.wrap (4 + s0_6))).toNat)).fOp ((g7_0 ((IntKind.i64.wrap (4 + s0_6))).toNat)).fDst ((s0_0 ((IntKind.i64.wrap (4 + s0_6))).toNat)).fDst ((g7_0 ((IntKind.i64.wrap (4 + s0_6))).toNat)).fSrc ((s0_0 ((IntKind.i64.wrap (4 + s0_6))).toNat)).fSrc ((g7_0 ((IntKind.i64.wrap (4 + s0_6))).toNat)).fOff ((s0_0 ((IntKind.i64.wrap (4 + s0_6))).toNat)).fOff ((g7_0 ((IntKind.i64.wrap (4 + s0_6))).toNat)).fImm ((s0_0 ((IntKind.i64.wrap (4 + s0_6))).toNat)).fImm w).trans (congrArg (fun b => Result.ok b w) hq10)) (.tmp 272) (.tmp 277) w).2), .o, .o, .o, .o, .o]) [0, 1, 2, 3, 4, 5, 6, 7, 8, 9, 10, 11, 12, 13, 14, 15, 16, 17, 18, 19] (fun b => rfl) (by decide) rfl rfl (fun b => by kernel_rfl)
                          · exact none_some e
                        · exact none_some e
                      · replace e := cond_eq_or e
                        rcases e with ⟨hq9, e⟩ | ⟨hq9, e⟩
                        · replace e := cond_eq_or e
                          rcases e with ⟨hq10, e⟩ | ⟨hq10, e⟩
                          · cases e; exact goes_runM hU (P8 ++ [.t (u_eq ((s0_0 ((IntKind.i64.wrap (4 + s0_6))).toNat)).fOp (180#8)) hq8, .o, .o, .r [0, 1, 2, 3, 4, 5, 6, 7, 8, 9, 10, 11, 12, 13, 14, 15, 16, 17, 18, 19, 20, 21, 22, 23, 24, 25, 26, 27, 28, 29, 30, 31, 32, 33, 34, 35, 36, 37, 38, 39, 40, 41] [] [], .o, .o, .o, .o, .o, .o, .o, .o, .o, .q (ixM_ok (kd := .i64) (T := 23) (x := (IntKind.i64.wrap (4 + s0_6))) (N := (0 + (g5_6 + 1))) (sz := 5) rfl (fun w => by kernel_rfl) hq9), .l (accG (i := 19) (f := c_Insn) (A := g7_0) (k := ((IntKind.i64.wrap (4 + s0_6))).toNat) 0 [.int .u8 (nn ((g7_0 ((IntKind.i64.wrap (4 + s0_6))).toNat)).fOp), .int .u8 (nn ((g7_0 ((IntKind.i64.wrap (4 + s0_6))).toNat)).fDst), .int .u8 (nn ((g7_0 ((IntKind.i64.wrap (4 + s0_6))).toNat)).fSrc), .int .i16 (ii ((g7_0 ((IntKind.i64.wrap (4 + s0_6))).toNat)).fOff), .int .i32 (ii ((g7_0 ((IntKind.i64.wrap (4 + s0_6))).toNat)).fImm)] c_Insn_len (inR_nat hq9) rfl), .o, .o, .q (ixM_ok (kd := .i64) (T := 31) (x := s0_6) (N := g5_10) (sz := 1) rfl (fun w => by kernel_rfl) hq2), .l (accG (i := 12) (f := cu8) (A := g5_11) (k := (s0_6).toNat) 0 [.int .u8 (nn (g5_11 (s0_6).toNat))] cu8_len (inR_nat hq2) rfl), .o, .ov (u64_rem Tryz.prog 25 (.tmp 254) (.const (.int .u64 (4294967296))) (g_Arr26 (s0_5 ((IntKind.i64.wrap (s0_6 + 1))).toNat) (nn (g5_11 (s0_6).toNat)).toNat) (4294967296#64) (by decide)), .v .u32 (u32_of_u64 ((g_Arr26 (s0_5 ((IntKind.i64.wrap (s0_6 + 1))).toNat) (nn (g5_11 (s0_6).toNat)).toNat) % 4294967296#64)), .v .i32 (i32_of_u32 (((g_Arr26 (s0_5 ((IntKind.i64.wrap (s0_6 + 1))).toNat) (nn (g5_11 (s0_6).toNat)).toNat) % 4294967296#64).setWidth 32)), .o, .ov (fun w => (run_aggeq 29 #[.int .u8 (nn ((g7_0 ((IntKind.i64.wrap (4 + s0_6))).toNat)).fOp), .int .u8 (nn ((g7_0 ((IntKind.i64.wrap (4 + s0_6))).toNat)).fDst), .int .u8 (nn ((g7_0 ((IntKind.i64.wrap (4 + s0_6))).toNat)).fSrc), .int .i16 (ii ((g7_0 ((IntKind.i64.wrap (4 + s0_6))).toNat)).fOff), .int .i32 (ii ((g7_0 ((IntKind.i64.wrap (4 + s0_6))).toNat)).fImm)] #[.int .u8 (183), .int .u8 (nn (g5_11 (s0_6).toNat)), .int .u8 (0), .int .i16 (0), .int .i32 (ii (((g_Arr26 (s0_5 ((IntKind.i64.wrap (s0_6 + 1))).toNat) (nn (g5_11 (s0_6).toNat)).toNat) % 4294967296#64).setWidth 32))] true (by kernel_rfl) (fun w => (eqi29 9998 ((g7_0 ((IntKind.i64.wrap (4 + s0_6))).toNat)).fOp (183#8) ((g7_0 ((IntKind.i64.wrap (4 + s0_6))).toNat)).fDst (g5_11 (s0_6).toNat) ((g7_0 ((IntKind.i64.wrap (4 + s0_6))).toNat)).fSrc (0#8) ((g7_0 ((IntKind.i64.wrap (4 + s0_6))).toNat)).fOff (0#16) ((g7_0 ((IntKind.i64.wrap (4 + s0_6))).toNat)).fImm (((g_Arr26 (s0_5 ((IntKind.i64.wrap (s0_6 + 1))).toNat) (nn (g5_11 (s0_6).toNat)).toNat) % 4294967296#64).setWidth 32) w).trans (congrArg (fun b => Result.ok b w) hq10)) (.tmp 249) (.tmp 258) w).2), .o, .o, .o, .o, .o, .o, .o, .o, .o, .o, .o, .o, .o]) [0, 1, 2, 3, 4, 5, 6, 7, 8, 9, 10, 11, 12, 13, 14, 15, 16, 17, 18, 19] (fun b => rfl) (by decide) rfl rfl (fun b => by kernel_rfl)
                          · exact none_some e
                        · exact none_some e
                  · exact none_some e
                · replace e := cond_eq_or e
                  let P9 : List (PG Tryz.prog M B0 S) := P5 ++ [.t (u_eq (BitVec.ofInt 64 (ii (((g_Arr26 (s0_5 ((IntKind.i64.wrap (s0_6 + 1))).toNat) (nn (g5_11 (s0_6).toNat)).toNat) % 4294967296#64).setWidth 32))) (g_Arr26 (s0_5 ((IntKind.i64.wrap (s0_6 + 1))).toNat) (nn (g5_11 (s0_6).toNat)).toNat)) hq5, .o, .o, .o, .o]
                  rcases e with ⟨hq6, e⟩ | ⟨hq6, e⟩
                  · replace e := cond_eq_or e
                    let P10 : List (PG Tryz.prog M B0 S) := P9 ++ [.q (ixM_ok (kd := .i64) (T := 23) (x := (IntKind.i64.wrap (4 + s0_6))) (N := (g5_6 + 1)) (sz := 5) rfl (fun w => by kernel_rfl) hq6), .o, .l (accG (i := 15) (f := c_Insn) (A := s0_0) (k := ((IntKind.i64.wrap (4 + s0_6))).toNat) 0 [.int .u8 (nn ((s0_0 ((IntKind.i64.wrap (4 + s0_6))).toNat)).fOp)] c_Insn_len (inR_nat hq6) rfl)]
                    rcases e with ⟨hq7, e⟩ | ⟨hq7, e⟩
                    · replace e := cond_eq_or e
                      rcases e with ⟨hq8, e⟩ | ⟨hq8, e⟩
                      · replace e := cond_eq_or e
                        rcases e with ⟨hq9, e⟩ | ⟨hq9, e⟩
                        · cases e; exact goes_runM hU (P10 ++ [.t (u_eq ((s0_0 ((IntKind.i64.wrap (4 + s0_6))).toNat)).fOp (183#8)) hq7, .o, .o, .o, .r [0, 1, 2, 3, 4, 5, 6, 7, 8, 9, 10, 11, 12, 13, 14, 15, 16, 17, 18, 19, 20, 21, 22, 23, 24, 25, 26, 27, 28, 29, 30, 31, 32, 33, 34, 35, 36, 37, 38, 39, 40, 41] [] [], .o, .o, .o, .o, .o, .o, .o, .o, .o, .o, .o, .o, .o, .o, .q (ixM_ok (kd := .i64) (T := 23) (x := (IntKind.i64.wrap (4 + s0_6))) (N := (0 + (g5_6 + 1))) (sz := 5) rfl (fun w => by kernel_rfl) hq8), .l (accG (i := 19) (f := c_Insn) (A := g7_0) (k := ((IntKind.i64.wrap (4 + s0_6))).toNat) 0 [.int .u8 (nn ((g7_0 ((IntKind.i64.wrap (4 + s0_6))).toNat)).fOp), .int .u8 (nn ((g7_0 ((IntKind.i64.wrap (4 + s0_6))).toNat)).fDst), .int .u8 (nn ((g7_0 ((IntKind.i64.wrap (4 + s0_6))).toNat)).fSrc), .int .i16 (ii ((g7_0 ((IntKind.i64.wrap (4 + s0_6))).toNat)).fOff), .int .i32 (ii ((g7_0 ((IntKind.i64.wrap (4 + s0_6))).toNat)).fImm)] c_Insn_len (inR_nat hq8) rfl), .o, .o, .o, .q (ixM_ok (kd := .i64) (T := 23) (x := (IntKind.i64.wrap (4 + s0_6))) (N := (g5_6 + 1)) (sz := 5) rfl (fun w => by kernel_rfl) hq6), .l (accG (i := 15) (f := c_Insn) (A := s0_0) (k := ((IntKind.i64.wrap (4 + s0_6))).toNat) 0 [.int .u8 (nn ((s0_0 ((IntKind.i64.wrap (4 + s0_6))).toNat)).fOp), .int .u8 (nn ((s0_0 ((IntKind.i64.wrap (4 + s0_6))).toNat)).fDst), .int .u8 (nn ((s0_0 ((IntKind.i64.wrap (4 + s0_6))).toNat)).fSrc), .int .i16 (ii ((s0_0 ((IntKind.i64.wrap (4 + s0_6))).toNat)).fOff), .int .i32 (ii ((s0_0 ((IntKind.i64.wrap (4 + s0_6))).toNat)).fImm)] c_Insn_len (inR_nat hq6) rfl), .ov (fun w => (run_aggeq 29 #[.int .u8 (nn ((g7_0 ((IntKind.i64.wrap (4 + s0_6))).toNat)).fOp), .int .u8 (nn ((g7_0 ((IntKind.i64.wrap (4 + s0_6))).toNat)).fDst), .int .u8 (nn ((g7_0 ((IntKind.i64.wrap (4 + s0_6))).toNat)).fSrc), .int .i16 (ii ((g7_0 ((IntKind.i64.wrap (4 + s0_6))).toNat)).fOff), .int .i32 (ii ((g7_0 ((IntKind.i64.wrap (4 + s0_6))).toNat)).fImm)] #[.int .u8 (nn ((s0_0 ((IntKind.i64.wrap (4 + s0_6))).toNat)).fOp), .int .u8 (nn ((s0_0 ((IntKind.i64.wrap (4 + s0_6))).toNat)).fDst), .int .u8 (nn ((s0_0 ((IntKind.i64.wrap (4 + s0_6))).toNat)).fSrc), .int .i16 (ii ((s0_0 ((IntKind.i64.wrap (4 + s0_6))).toNat)).fOff), .int .i32 (ii ((s0_0 ((IntKind.i64.wrap (4 + s0_6))).toNat)).fImm)] true (by kernel_rfl) (fun w => (eqi29 9998 ((g7_0 ((IntKind.i64.wrap (4 + s0_6))).toNat)).fOp ((s0_0 ((IntKind.i64.wrap (4 + s0_6))).toNat)).fOp ((g7_0 ((IntKind.i64.wrap (4 + s0_6))).toNat)).fDst ((s0_0 ((IntKind.i64.wrap (4 + s0_6))).toNat)).fDst ((g7_0 ((IntKind.i64.wrap (4 + s0_6))).toNat)).fSrc ((s0_0 ((IntKind.i64.wrap (4 + s0_6))).toNat)).fSrc ((g7_0 ((IntKind.i64.wrap (4 + s0_6))).toNat)).fOff ((s0_0 ((IntKind.i64.wrap (4 + s0_6))).toNat)).fOff ((g7_0 ((IntKind.i64.wrap (4 + s0_6))).toNat)).fImm ((s0_0 ((IntKind.i64.wrap (4 + s0_6))).toNat)).fImm w).trans (congrArg (fun b => Result.ok b w) hq9)) (.tmp 272) (.tmp 277) w).2), .o, .o, .o, .o, .o]) [0, 1, 2, 3, 4, 5, 6, 7, 8, 9, 10, 11, 12, 13, 14, 15, 16, 17, 18, 19] (fun b => rfl) (by decide) rfl rfl (fun b => by kernel_rfl)
                        · exact none_some e
                      · exact none_some e
                    · replace e := cond_eq_or e
                      let P11 : List (PG Tryz.prog M B0 S) := P10 ++ [.t (u_eq ((s0_0 ((IntKind.i64.wrap (4 + s0_6))).toNat)).fOp (183#8)) hq7, .o, .o, .o, .o, .q (ixM_ok (kd := .i64) (T := 23) (x := (IntKind.i64.wrap (4 + s0_6))) (N := (g5_6 + 1)) (sz := 5) rfl (fun w => by kernel_rfl) hq6), .o, .l (accG (i := 15) (f := c_Insn) (A := s0_0) (k := ((IntKind.i64.wrap (4 + s0_6))).toNat) 0 [.int .u8 (nn ((s0_0 ((IntKind.i64.wrap (4 + s0_6))).toNat)).fOp)] c_Insn_len (inR_nat hq6) rfl)]
                      rcases e with ⟨hq8, e⟩ | ⟨hq8, e⟩
                      · replace e := cond_eq_or e
                        rcases e with ⟨hq9, e⟩ | ⟨hq9, e⟩
                        · replace e := cond_eq_or e
                          rcases e with ⟨hq10, e⟩ | ⟨hq10, e⟩
                          · cases e; exact goes_runM hU (P11 ++ [.t (u_eq ((s0_0 ((IntKind.i64.wrap (4 + s0_6))).toNat)).fOp (180#8)) hq8, .o, .o, .r [0, 1, 2, 3, 4, 5, 6, 7, 8, 9, 10, 11, 12, 13, 14, 15, 16, 17, 18, 19, 20, 21, 22, 23, 24, 25, 26, 27, 28, 29, 30, 31, 32, 33, 34, 35, 36, 37, 38, 39, 40, 41] [] [], .o, .o, .o, .o, .o, .o, .o, .o, .o, .o, .o, .o, .o, .o, .q (ixM_ok (kd := .i64) (T := 23) (x := (IntKind.i64.wrap (4 + s0_6))) (N := (0 + (g5_6 + 1))) (sz := 5) rfl (fun w => by kernel_rfl) hq9), .l (accG (i := 19) (f := c_Insn) (A := g7_0) (k := ((IntKind.i64.wrap (4 + s0_6))).toNat) 0 [.int .u8 (nn ((g7_0 ((IntKind.i64.wrap (4 + s0_6))).toNat)).fOp), .int .u8 (nn ((g7_0 ((IntKind.i64.wrap (4 + s0_6))).toNat)).fDst), .int .u8 (nn ((g7_0 ((IntKind.i64.wrap (4 + s0_6))).toNat)).fSrc), .int .i16 (ii ((g7_0 ((IntKind.i64.wrap (4 + s0_6))).toNat)).fOff), .int .i32 (ii ((g7_0 ((IntKind.i64.wrap (4 + s0_6))).toNat)).fImm)] c_Insn_len (inR_nat hq9) rfl), .o, .o, .o, .q (ixM_ok (kd := .i64) (T := 23) (x := (IntKind.i64.wrap (4 + s0_6))) (N := (g5_6 + 1)) (sz := 5) rfl (fun w => by kernel_rfl) hq6), .l (accG (i := 15) (f := c_Insn) (A := s0_0) (k := ((IntKind.i64.wrap (4 + s0_6))).toNat) 0 [.int .u8 (nn ((s0_0 ((IntKind.i64.wrap (4 + s0_6))).toNat)).fOp), .int .u8 (nn ((s0_0 ((IntKind.i64.wrap (4 + s0_6))).toNat)).fDst), .int .u8 (nn ((s0_0 ((IntKind.i64.wrap (4 + s0_6))).toNat)).fSrc), .int .i16 (ii ((s0_0 ((IntKind.i64.wrap (4 + s0_6))).toNat)).fOff), .int .i32 (ii ((s0_0 ((IntKind.i64.wrap (4 + s0_6))).toNat)).fImm)] c_Insn_len (inR_nat hq6) rfl), .ov (fun w => (run_aggeq 29 #[.int .u8 (nn ((g7_0 ((IntKind.i64.wrap (4 + s0_6))).toNat)).fOp), .int .u8 (nn ((g7_0 ((IntKind.i64.wrap (4 + s0_6))).toNat)).fDst), .int .u8 (nn ((g7_0 ((IntKind.i64.wrap (4 + s0_6))).toNat)).fSrc), .int .i16 (ii ((g7_0 ((IntKind.i64.wrap (4 + s0_6))).toNat)).fOff), .int .i32 (ii ((g7_0 ((IntKind.i64.wrap (4 + s0_6))).toNat)).fImm)] #[.int .u8 (nn ((s0_0 ((IntKind.i64.wrap (4 + s0_6))).toNat)).fOp), .int .u8 (nn ((s0_0 ((IntKind.i64.wrap (4 + s0_6))).toNat)).fDst), .int .u8 (nn ((s0_0 ((IntKind.i64.wrap (4 + s0_6))).toNat)).fSrc), .int .i16 (ii ((s0_0 ((IntKind.i64.wrap (4 + s0_6))).toNat)).fOff), .int .i32 (ii ((s0_0 ((IntKind.i64.wrap (4 + s0_6))).toNat)).fImm)] true (by kernel_rfl) (fun w => (eqi29 9998 ((g7_0 ((IntKind.i64.wrap (4 + s0_6))).toNat)).fOp ((s0_0 ((IntKind.i64.wrap (4 + s0_6))).toNat)).fOp ((g7_0 ((IntKind.i64.wrap (4 + s0_6))).toNat)).fDst ((s0_0 ((IntKind.i64.wrap (4 + s0_6))).toNat)).fDst ((g7_0 ((IntKind.i64.wrap (4 + s0_6))).toNat)).fSrc ((s0_0 ((IntKind.i64.wrap (4 + s0_6))).toNat)).fSrc ((g7_0 ((IntKind.i64.wrap (4 + s0_6))).toNat)).fOff ((s0_0 ((IntKind.i64.wrap (4 + s0_6))).toNat)).fOff ((g7_0 ((IntKind.i64.wrap (4 + s0_6))).toNat)).fImm ((s0_0 ((IntKind.i64.wrap (4 + s0_6))).toNat)).fImm w).trans (congrArg (fun b => Result.ok b w) hq10)) (.tmp 272) (.tmp 277) w).2), .o, .o, .o, .o, .o]) [0, 1, 2, 3, 4, 5, 6, 7, 8, 9, 10, 11, 12, 13, 14, 15, 16, 17, 18, 19] (fun b => rfl) (by decide) rfl rfl (fun b => by kernel_rfl)
                          · exact none_some e
                        · exact none_some e
                      · replace e := cond_eq_or e
                        rcases e with ⟨hq9, e⟩ | ⟨hq9, e⟩
                        · replace e := cond_eq_or e
                          rcases e with ⟨hq10, e⟩ | ⟨hq10, e⟩
                          · cases e; exact goes_runM hU (P11 ++ [.t (u_eq ((s0_0 ((IntKind.i64.wrap (4 + s0_6))).toNat)).fOp (180#8)) hq8, .o, .o, .r [0, 1, 2, 3, 4, 5, 6, 7, 8, 9, 10, 11, 12, 13, 14, 15, 16, 17, 18, 19, 20, 21, 22, 23, 24, 25, 26, 27, 28, 29, 30, 31, 32, 33, 34, 35, 36, 37, 38, 39, 40, 41] [] [], .o, .o, .o, .o, .o, .o, .o, .o, .o, .o, .o, .o, .o, .o, .q (ixM_ok (kd := .i64) (T := 23) (x := (IntKind.i64.wrap (4 + s0_6))) (N := (0 + (g5_6 + 1))) (sz := 5) rfl (fun w => by kernel_rfl) hq9), .l (accG (i := 19) (f := c_Insn) (A := g7_0) (k := ((IntKind.i64.wrap (4 + s0_6))).toNat) 0 [.int .u8 (nn ((g7_0 ((IntKind.i64.wrap (4 + s0_6))).toNat)).fOp), .int .u8 (nn ((g7_0 ((IntKind.i64.wrap (4 + s0_6))).toNat)).fDst), .int .u8 (nn ((g7_0 ((IntKind.i64.wrap (4 + s0_6))).toNat)).fSrc), .int .i16 (ii ((g7_0 ((IntKind.i64.wrap (4 + s0_6))).toNat)).fOff), .int .i32 (ii ((g7_0 ((IntKind.i64.wrap (4 + s0_6))).toNat)).fImm)] c_Insn_len (inR_nat hq9) rfl), .o, .o, .o, .q (ixM_ok (kd := .i64) (T := 23) (x := (IntKind.i64.wrap (4 + s0_6))) (N := (g5_6 + 1)) (sz := 5) rfl (fun w => by kernel_rfl) hq6), .l (accG (i := 15) (f := c_Insn) (A := s0_0) (k := ((IntKind.i64.wrap (4 + s0_6))).toNat) 0 [.int .u8 (nn ((s0_0 ((IntKind.i64.wrap (4 + s0_6))).toNat)).fOp), .int .u8 (nn ((s0_0 ((IntKind.i64.wrap (4 + s0_6))).toNat)).fDst), .int .u8 (nn ((s0_0 ((IntKind.i64.wrap (4 + s0_6))).toNat)).fSrc), .int .i16 (ii ((s0_0 ((IntKind.i64.wrap (4 + s0_6))).toNat)).fOff), .int .i32 (ii ((s0_0 ((IntKind.i64.wrap (4 + s0_6))).toNat)).fImm)] c_Insn_len (inR_nat hq6) rfl), .ov (fun w => (run_aggeq 29 #[.int .u8 (nn ((g7_0 ((IntKind.i64.wrap (4 + s0_6))).toNat)).fOp), .int .u8 (nn ((g7_0 ((IntKind.i64.wrap (4 + s0_6))).toNat)).fDst), .int .u8 (nn ((g7_0 ((IntKind.i64.wrap (4 + s0_6))).toNat)).fSrc), .int .i16 (ii ((g7_0 ((IntKind.i64.wrap (4 + s0_6))).toNat)).fOff), .int .i32 (ii ((g7_0 ((IntKind.i64.wrap (4 + s0_6))).toNat)).fImm)] #[.int .u8 (nn ((s0_0 ((IntKind.i64.wrap (4 + s0_6))).toNat)).fOp), .int .u8 (nn ((s0_0 ((IntKind.i64.wrap (4 + s0_6))).toNat)).fDst), .int .u8 (nn ((s0_0 ((IntKind.i64.wrap (4 + s0_6))).toNat)).fSrc), .int .i16 (ii ((s0_0 ((IntKind.i64.wrap (4 + s0_6))).toNat)).fOff), .int .i32 (ii ((s0_0 ((IntKind.i64.wrap (4 + s0_6))).toNat)).fImm)] true (by kernel_rfl) (fun w => (eqi29 9998 ((g7_0 ((IntKind.i64.wrap (4 + s0_6))).toNat)).fOp ((s0_0 ((IntKind.i64.wrap (4 + s0_6))).toNat)).fOp ((g7_0 ((IntKind.i64.wrap (4 + s0_6))).toNat)).fDst ((s0_0 ((IntKind.i64.wrap (4 + s0_6))).toNat)).fDst ((g7_0 ((IntKind.i64.wrap (4 + s0_6))).toNat)).fSrc ((s0_0 ((IntKind.i64.wrap (4 + s0_6))).toNat)).fSrc ((g7_0 ((IntKind.i64.wrap (4 + s0_6))).toNat)).fOff ((s0_0 ((IntKind.i64.wrap (4 + s0_6))).toNat)).fOff ((g7_0 ((IntKind.i64.wrap (4 + s0_6))).toNat)).fImm ((s0_0 ((IntKind.i64.wrap (4 + s0_6))).toNat)).fImm w).trans (congrArg (fun b => Result.ok b w) hq10)) (.tmp 272) (.tmp 277) w).2), .o, .o, .o, .o, .o]) [0, 1, 2, 3, 4, 5, 6, 7, 8, 9, 10, 11, 12, 13, 14, 15, 16, 17, 18, 19] (fun b => rfl) (by decide) rfl rfl (fun b => by kernel_rfl)
                          · exact none_some e
                        · exact none_some e
                  · exact none_some e
              · exact none_some e
            · exact none_some e
          · exact none_some e
        · cases e; exact goes_runM hU (P1 ++ [.b (z_lssF hq1), .o, .o, .o]) [0, 1, 2, 3, 4, 5, 6, 7, 8, 9, 10, 11, 12, 13, 14, 15, 16, 17, 18, 19] (fun b => rfl) (by decide) rfl rfl (fun b => by kernel_rfl)
      · cases e; exact ⟨ne_exit 4, goes_runM hU [.o, .o, .o, .b (z_lssF hq0)] [0, 1, 2, 3, 4, 5, 6, 7, 8, 9, 10, 11, 12, 13, 14, 15, 16, 17, 18, 19] (fun b => rfl) (by decide) rfl rfl (fun b => by kernel_rfl)⟩) s r h
noncomputable def t0_barbicanlaw25_FoldStraight_L2v1_0 (y0 : Arr22) (a0 : Option Addr) (p0 : Nat) (q0 : Nat) (n0 : Nat) (k0 : Nat) (A0 : Nat → Insn) (r0 : Nat → BitVec 64) (r1 : Nat → Insn) (r2 : Nat → Insn) (r3 : Nat → BitVec 64) (r4 : Nat → Insn) (g5_0 : Nat → BitVec 32) (g5_1 : Nat → BitVec 64) (g5_2 : BitVec 32) (g5_3 : BitVec 32) (g5_4 : BitVec 32) (g5_5 : BitVec 32) (g5_6 : Nat) (g5_7 : Nat → Insn) (g5_8 : Nat) (g5_9 : Nat → Arr26) (g5_10 : Nat) (g5_11 : Nat → BitVec 8) (g6_0 : Nat → Arr42) (g7_0 : Nat → Insn) (s0_0 : Nat → Insn) (s0_1 : BitVec 64) (s0_2 : BitVec 64) (s0_3 : BitVec 64) (s0_4 : BitVec 64) (s0_5 : Nat → Arr26) (s0_6 : Int) (ls : List L1) : List Value := List.append [((lget ls 13).u 0), .slice a0 n0 (n0 + k0), ((lget ls 13).u 2), ((lget ls 13).u 3), ((lget ls 13).u 4), (rowV (lget ls 15) (g5_6 + 1) 5), .pointer (some ⟨(lget ls 1).n, 0, none⟩), ((lget ls 13).u 7), (rowV (lget ls 17) (g5_8 + 1) 4), (rowV (lget ls 12) g5_10 1)] (List.append (jks (lget ls 13).u 10 6) (List.append [(rowV (lget ls 18) (g5_6 + 1) 44), .int .i64 (0), (rowV (lget ls 19) (0 + (g5_6 + 1)) 5), .int .i64 (0), .int .i64 (s0_6)] (List.append (jks (lget ls 13).u 21 116) (List.append [(rowV (lget ls 10) g5_6 5), .agg #[.int .u8 (149), .int .u8 (0), .int .u8 (0), .int .i16 (0), .int .i32 (0)], .slice (some ⟨(lget ls 14).n, 0, none⟩) 1 1, (rowV (lget ls 15) (g5_6 + 1) 5), (rowV (lget ls 11) g5_8 4), (v_Arr26 (⟨g5_1 0, g5_1 1, g5_1 2, g5_1 3⟩ : Arr26)), .slice (some ⟨(lget ls 16).n, 0, none⟩) 1 1, (rowV (lget ls 17) (g5_8 + 1) 4), .tuple #[(rowV (lget ls 18) (g5_6 + 1) 44), .int .i64 (0)], (rowV (lget ls 15) (g5_6 + 1) 5), .tuple #[(rowV (lget ls 18) (g5_6 + 1) 44), .int .i64 (0)], (rowV (lget ls 18) (g5_6 + 1) 44), .int .i64 (0), .tuple #[(rowV (lget ls 19) (0 + (g5_6 + 1)) 5), .int .i64 (0)], (rowV (lget ls 15) (g5_6 + 1) 5), .tuple #[(rowV (lget ls 19) (0 + (g5_6 + 1)) 5), .int .i64 (0)], (rowV (lget ls 19) (0 + (g5_6 + 1)) 5), .int .i64 (0), .int .i64 (0), .bool false, .bool false, .int .i64 (0), .bool false, .bool false, .bool false, (rowV (lget ls 18) (g5_6 + 1) 44), .int .i64 (((g5_6 + 1) : Int)), (rowV (lget ls 15) (g5_6 + 1) 5), .int .i64 (((g5_6 + 1) : Int)), .bool false, .bool false, .bool false, (rowV (lget ls 19) (0 + (g5_6 + 1)) 5), .int .i64 (((0 + (g5_6 + 1)) : Int)), (rowV (lget ls 15) (g5_6 + 1) 5), .int .i64 (((g5_6 + 1) : Int)), .bool false, .bool false] (jks (lget ls 13).u 175 106)))))
def pre_barbicanlaw25_FoldStraight_L2v1_0 (y0 : Arr22) (a0 : Option Addr) (p0 : Nat) (q0 : Nat) (n0 : Nat) (k0 : Nat) (A0 : Nat → Insn) (r0 : Nat → BitVec 64) (r1 : Nat → Insn) (r2 : Nat → Insn) (r3 : Nat → BitVec 64) (r4 : Nat → Insn) (g5_0 : Nat → BitVec 32) (g5_1 : Nat → BitVec 64) (g5_2 : BitVec 32) (g5_3 : BitVec 32) (g5_4 : BitVec 32) (g5_5 : BitVec 32) (g5_6 : Nat) (g5_7 : Nat → Insn) (g5_8 : Nat) (g5_9 : Nat → Arr26) (g5_10 : Nat) (g5_11 : Nat → BitVec 8) (g6_0 : Nat → Arr42) (g7_0 : Nat → Insn) (s0_0 : Nat → Insn) (s0_1 : BitVec 64) (s0_2 : BitVec 64) (s0_3 : BitVec 64) (s0_4 : BitVec 64) (s0_5 : Nat → Arr26) (s0_6 : Int) (ls : List L1) : List Obj := [.cells ⟨esG ci32 4 g5_0⟩ 22, .cells ⟨esG cu64 4 g5_1⟩ 26, .cells #[.int .u8 (183), .int .u8 (0), .int .u8 (0), .int .i16 (0), .int .i32 (ii g5_2)] 29, unb, .cells #[.int .u8 (183), .int .u8 (1), .int .u8 (0), .int .i16 (0), .int .i32 (ii g5_3)] 29, unb, .cells #[.int .u8 (183), .int .u8 (2), .int .u8 (0), .int .i16 (0), .int .i32 (ii g5_4)] 29, unb, .cells #[.int .u8 (183), .int .u8 (3), .int .u8 (0), .int .i16 (0), .int .i32 (ii g5_5)] 29, unb, unb, unb, rowO (lget ls 12) (esG cu8 g5_10 g5_11) 5 g5_10 1, unb, .cells #[.int .u8 (149), .int .u8 (0), .int .u8 (0), .int .i16 (0), .int .i32 (0)] 29, rowO (lget ls 15) (esG c_Insn (g5_6 + 1) s0_0) 29 (g5_6 + 1) 5, .cells #[.int .u64 (nn s0_1), .int .u64 (nn s0_2), .int .u64 (nn s0_3), .int .u64 (nn s0_4)] 26, rowO (lget ls 17) (esG c_Arr26 (g5_8 + 1) s0_5) 26 (g5_8 + 1) 4, rowO (lget ls 18) (esG c_Arr42 (g5_6 + 1) g6_0) 42 (g5_6 + 1) 44, rowO (lget ls 19) (esG c_Insn (0 + (g5_6 + 1)) g7_0) 29 (0 + (g5_6 + 1)) 5]
theorem sp0_barbicanlaw25_FoldStraight_L2v1_0_ok (g5_0 : Nat → BitVec 32) (g5_1 : Nat → BitVec 64) (g5_2 : BitVec 32) (g5_3 : BitVec 32) (g5_4 : BitVec 32) (g5_5 : BitVec 32) (g5_6 : Nat) (g5_7 : Nat → Insn) (g5_8 : Nat) (g5_9 : Nat → Arr26) (g5_10 : Nat) (g5_11 : Nat → BitVec 8) (g6_0 : Nat → Arr42) (g7_0 : Nat → Insn) (s0_0 : Nat → Insn) (s0_1 : BitVec 64) (s0_2 : BitVec 64) (s0_3 : BitVec 64) (s0_4 : BitVec 64) (s0_5 : Nat → Arr26) (s0_6 : Int) (c0_0 : Nat → Insn) (c0_1 : BitVec 64) (c0_2 : BitVec 64) (c0_3 : BitVec 64) (c0_4 : BitVec 64) (c0_5 : Nat → Arr26) (h : lpO (st_barbicanlaw25_FoldStraight_L2v1 g5_6 g5_8 g5_10 g5_11 g6_0 g7_0) (.c0 s0_0 s0_1 s0_2 s0_3 s0_4 s0_5 s0_6) = some (.e0 c0_0 c0_1 c0_2 c0_3 c0_4 c0_5)) : SpcG Tryz.prog M B0 S ⟨fun ls => .code (.loop bd_barbicanlaw25_FoldStraight_L2v1) (t0_barbicanlaw25_FoldStraight_L2v1_0 y0 a0 p0 q0 n0 k0 A0 r0 r1 r2 r3 r4 g5_0 g5_1 g5_2 g5_3 g5_4 g5_5 g5_6 g5_7 g5_8 g5_9 g5_10 g5_11 g6_0 g7_0 s0_0 s0_1 s0_2 s0_3 s0_4 s0_5 s0_6 ls), pre_barbicanlaw25_FoldStraight_L2v1_0 y0 a0 p0 q0 n0 k0 A0 r0 r1 r2 r3 r4 g5_0 g5_1 g5_2 g5_3 g5_4 g5_5 g5_6 g5_7 g5_8 g5_9 g5_10 g5_11 g6_0 g7_0 s0_0 s0_1 s0_2 s0_3 s0_4 s0_5 s0_6, 1, (.exit 4), fun ls => vf_barbicanlaw25_FoldStraight_L2v1 y0 a0 p0 q0 n0 k0 A0 r0 r1 r2 r3 r4 g5_0 g5_1 g5_2 g5_3 g5_4 g5_5 g5_6 g5_7 g5_8 g5_9 g5_10 g5_11 g6_0 g7_0 (.e0 c0_0 c0_1 c0_2 c0_3 c0_4 c0_5) (ls.take 20 ++ ls.drop 20), fun ls => (Hf_barbicanlaw25_FoldStraight_L2v1 y0 a0 p0 q0 n0 k0 A0 r0 r1 r2 r3 r4 g5_0 g5_1 g5_2 g5_3 g5_4 g5_5 g5_6 g5_7 g5_8 g5_9 g5_10 g5_11 g6_0 g7_0 (.e0 c0_0 c0_1 c0_2 c0_3 c0_4 c0_5) (ls.take 20 ++ ls.drop 20)).take 20 ++ List.replicate 0 unb, fun ls => (Hf_barbicanlaw25_FoldStraight_L2v1 y0 a0 p0 q0 n0 k0 A0 r0 r1 r2 r3 r4 g5_0 g5_1 g5_2 g5_3 g5_4 g5_5 g5_6 g5_7 g5_8 g5_9 g5_10 g5_11 g6_0 g7_0 (.e0 c0_0 c0_1 c0_2 c0_3 c0_4 c0_5) (ls.take 20 ++ ls.drop 20)).drop 20⟩ :=
  spc_of_goesM hU 0 (k0 := 20) (go_barbicanlaw25_FoldStraight_L2v1 hU y0 a0 p0 q0 n0 k0 A0 hR0 r0 r1 r2 r3 r4 g5_0 g5_1 g5_2 g5_3 g5_4 g5_5 g5_6 g5_7 g5_8 g5_9 g5_10 g5_11 g6_0 g7_0 _ _ h) (t0_barbicanlaw25_FoldStraight_L2v1_0 y0 a0 p0 q0 n0 k0 A0 r0 r1 r2 r3 r4 g5_0 g5_1 g5_2 g5_3 g5_4 g5_5 g5_6 g5_7 g5_8 g5_9 g5_10 g5_11 g6_0 g7_0 s0_0 s0_1 s0_2 s0_3 s0_4 s0_5 s0_6) (pre_barbicanlaw25_FoldStraight_L2v1_0 y0 a0 p0 q0 n0 k0 A0 r0 r1 r2 r3 r4 g5_0 g5_1 g5_2 g5_3 g5_4 g5_5 g5_6 g5_7 g5_8 g5_9 g5_10 g5_11 g6_0 g7_0 s0_0 s0_1 s0_2 s0_3 s0_4 s0_5 s0_6) (fun _ => rfl) (fun ls h => by match ls, h with | [l0, l1, l2, l3, l4, l5, l6, l7, l8, l9, l10, l11, l12, l13, l14, l15, l16, l17, l18, l19], _ => exact ⟨by kernel_rfl, by kernel_rfl⟩) (fun ls h => by match ls, h with | [l0, l1, l2, l3, l4, l5, l6, l7, l8, l9, l10, l11, l12, l13, l14, l15, l16, l17, l18, l19], _ => rfl) (by decide) (by decide) (fun ls => rfl)
end

end Go.Proofs.YtcdkghdjfcccfaaGreat


