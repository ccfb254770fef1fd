/-
  Instructions: bytes.
-/
import Derived.Test.YtmlkiamemkfdlaaS1K
import Derived.Test.YtmlkiamemkfdlaaRxO
import Derived.Test.YtmlkiamemkfdlaaRxN
namespace Go.Proofs.Ytmlkiamemkfdlaa
open Go.RowKit
set_option linter.unusedVariables false
set_option linter.unusedSimpArgs false
set_option linter.unusedSectionVars false
set_option maxRecDepth 100000
set_option maxHeartbeats 4000000
abbrev cu8 (x : BitVec 8) : List Value := [.int .u8 (nn x)]
theorem cu8_len (x : BitVec 8) : (cu8 x).length = 1 := rfl
theorem cu8_one (x : BitVec 8) : ((cu8 x).all fun u => u.oneCell') = true := rfl
noncomputable def zr23 : Value := (Try.prog.info? 5).bind TypeInfo.zero |>.getD undef
theorem rt23 : RowT Try.prog 23 5 ((Try.prog.info? 5).getD default) zr23 1 1 := ⟨by kernel_rfl, by kernel_rfl, by kernel_rfl, by kernel_rfl, by kernel_rfl, by kernel_rfl, by decide⟩
noncomputable def zr22 : Value := (Try.prog.info? 35).bind TypeInfo.zero |>.getD undef
theorem rt22 : RowT Try.prog 22 35 ((Try.prog.info? 35).getD default) zr22 5 12 := ⟨by kernel_rfl, by kernel_rfl, by kernel_rfl, by kernel_rfl, by kernel_rfl, by kernel_rfl, by decide⟩
inductive Sh_insn_Encode_L0 where
  | c0 (s0_0 : Nat) (s0_1 : Nat → BitVec 8) (s0_2 : Int)
inductive Ex_insn_Encode_L0 where
  | e0 (c0_0 : Nat) (c0_1 : Nat → BitVec 8)
noncomputable def st_insn_Encode_L0 (n0 : Nat) (A0 : Nat → Insn) : Sh_insn_Encode_L0 → Option (Sh_insn_Encode_L0 ⊕ Ex_insn_Encode_L0)
  | .c0 s0_0 s0_1 s0_2 =>
    bif decide (s0_2 < (n0 : Int)) then
      (bif inR s0_2 n0 then
        (bif decide (s0_0 ≤ 1000000) then
          (bindT (appL s0_1 s0_0 [((A0 (s0_2).toNat)).fOp, ((((A0 (s0_2).toNat)).fSrc <<< 4) ||| (((A0 (s0_2).toNat)).fDst &&& 15#8)), (((A0 (s0_2).toNat)).fOff.setWidth 8), ((((A0 (s0_2).toNat)).fOff >>> 8).setWidth 8)]) fun rb0 =>
          bif decide ((s0_0 + 4) ≤ 1000000) then
            (bindT (appL rb0 (s0_0 + 4) [(((A0 (s0_2).toNat)).fImm.setWidth 8), ((((A0 (s0_2).toNat)).fImm >>> 8).setWidth 8), ((((A0 (s0_2).toNat)).fImm >>> 16).setWidth 8), ((((A0 (s0_2).toNat)).fImm >>> 24).setWidth 8)]) fun rb1 =>
            some (.inl (.c0 ((s0_0 + 4) + 4) rb1 (IntKind.i64.wrap (s0_2 + 1)))))
          else (none))
        else (none))
      else (none))
    else (some (.inr (.e0 s0_0 s0_1)))
noncomputable def bd_insn_Encode_L0 : Code := codeOf Try.f11 [1, 1, 0, 1, 0, 0]
def fr_insn_Encode_L0 (a0 : Option Addr) (p0 : Nat) (q0 : Nat) (n0 : Nat) (k0 : Nat) (A0 : Nat → Insn) : Sh_insn_Encode_L0 → List L1 → List Value
  | .c0 s0_0 s0_1 s0_2, ls => [((lget ls 1).u 0), ((lget ls 1).u 1), .slice none 0 0, (rowV (lget ls 0) s0_0 1), ((lget ls 1).u 4), ((lget ls 1).u 5), ((lget ls 1).u 6), ((lget ls 1).u 7), ((lget ls 1).u 8), ((lget ls 1).u 9), ((lget ls 1).u 10), ((lget ls 1).u 11), .slice a0 n0 (n0 + k0), .int .i64 ((n0 : Int)), .int .i64 (s0_2), ((lget ls 1).u 15), ((lget ls 1).u 16), ((lget ls 1).u 17), ((lget ls 1).u 18), ((lget ls 1).u 19), ((lget ls 1).u 20), ((lget ls 1).u 21), ((lget ls 1).u 22), ((lget ls 1).u 23), ((lget ls 1).u 24), ((lget ls 1).u 25), ((lget ls 1).u 26), ((lget ls 1).u 27), ((lget ls 1).u 28), ((lget ls 1).u 29), ((lget ls 1).u 30), ((lget ls 1).u 31), ((lget ls 1).u 32), ((lget ls 1).u 33), ((lget ls 1).u 34), ((lget ls 1).u 35), ((lget ls 1).u 36), ((lget ls 1).u 37), ((lget ls 1).u 38), ((lget ls 1).u 39), ((lget ls 1).u 40), ((lget ls 1).u 41), ((lget ls 1).u 42), ((lget ls 1).u 43), ((lget ls 1).u 44), ((lget ls 1).u 45), ((lget ls 1).u 46), ((lget ls 1).u 47), ((lget ls 1).u 48), ((lget ls 1).u 49), ((lget ls 1).u 50), ((lget ls 1).u 51), ((lget ls 1).u 52), ((lget ls 1).u 53), ((lget ls 1).u 54), ((lget ls 1).u 55), undef]
def Hs_insn_Encode_L0 (a0 : Option Addr) (p0 : Nat) (q0 : Nat) (n0 : Nat) (k0 : Nat) (A0 : Nat → Insn) : Sh_insn_Encode_L0 → List L1 → List Obj
  | .c0 s0_0 s0_1 s0_2, ls => [rowO (lget ls 0) (esG cu8 s0_0 s0_1) 5 s0_0 1, unb]
def vf_insn_Encode_L0 (a0 : Option Addr) (p0 : Nat) (q0 : Nat) (n0 : Nat) (k0 : Nat) (A0 : Nat → Insn) : Ex_insn_Encode_L0 → List L1 → List Value
  | .e0 c0_0 c0_1, ls => [((lget ls 1).u 0), ((lget ls 1).u 1), .slice none 0 0, (rowV (lget ls 0) c0_0 1), ((lget ls 1).u 4), ((lget ls 1).u 5), ((lget ls 1).u 6), ((lget ls 1).u 7), ((lget ls 1).u 8), ((lget ls 1).u 9), ((lget ls 1).u 10), ((lget ls 1).u 11), .slice a0 n0 (n0 + k0), .int .i64 ((n0 : Int)), ((lget ls 1).u 14), ((lget ls 1).u 15), ((lget ls 1).u 16), ((lget ls 1).u 17), ((lget ls 1).u 18), ((lget ls 1).u 19), ((lget ls 1).u 20), ((lget ls 1).u 21), ((lget ls 1).u 22), ((lget ls 1).u 23), ((lget ls 1).u 24), ((lget ls 1).u 25), ((lget ls 1).u 26), ((lget ls 1).u 27), ((lget ls 1).u 28), ((lget ls 1).u 29), ((lget ls 1).u 30), ((lget ls 1).u 31), ((lget ls 1).u 32), ((lget ls 1).u 33), ((lget ls 1).u 34), ((lget ls 1).u 35), ((lget ls 1).u 36), ((lget ls 1).u 37), ((lget ls 1).u 38), ((lget ls 1).u 39), ((lget ls 1).u 40), ((lget ls 1).u 41), ((lget ls 1).u 42), ((lget ls 1).u 43), ((lget ls 1).u 44), ((lget ls 1).u 45), ((lget ls 1).u 46), ((lget ls 1).u 47), ((lget ls 1).u 48), ((lget ls 1).u 49), ((lget ls 1).u 50), ((lget ls 1).u 51), ((lget ls 1).u 52), ((lget ls 1).u 53), ((lget ls 1).u 54), ((lget ls 1).u 55), undef]
def Hf_insn_Encode_L0 (a0 : Option Addr) (p0 : Nat) (q0 : Nat) (n0 : Nat) (k0 : Nat) (A0 : Nat → Insn) : Ex_insn_Encode_L0 → List L1 → List Obj
  | .e0 c0_0 c0_1, ls => [rowO (lget ls 0) (esG cu8 c0_0 c0_1) 5 c0_0 1, unb]
def ex_insn_Encode_L0 : Ex_insn_Encode_L0 → Ex
  | .e0 _ _ => (.exit 0)
section
variable {M : Nat → Prop} {B0 : Nat} {S : World → Prop} (hU : Up M B0 S) (a0 : Option Addr) (p0 : Nat) (q0 : Nat) (n0 : Nat) (k0 : Nat) (A0 : Nat → Insn) (hR0 : Ro S c_Insn 5 a0 p0 q0 n0 A0) (s0_0 : Nat) (s0_1 : Nat → BitVec 8) (s0_2 : Int)
include hU a0 p0 q0 n0 k0 A0 hR0 s0_0 s0_1 s0_2
theorem w0_0_insn_Encode_L0 (h0 : (decide (s0_2 < (n0 : Int))) = true) (h1 : (inR s0_2 n0) = true) (h2 : (decide (s0_0 ≤ 1000000)) = true) (rb0 : Nat → BitVec 8) (e_rb0 : appL s0_1 s0_0 [((A0 (s0_2).toNat)).fOp, ((((A0 (s0_2).toNat)).fSrc <<< 4) ||| (((A0 (s0_2).toNat)).fDst &&& 15#8)), (((A0 (s0_2).toNat)).fOff.setWidth 8), ((((A0 (s0_2).toNat)).fOff >>> 8).setWidth 8)] = rb0) (h3 : (decide ((s0_0 + 4) ≤ 1000000)) = true) (rb1 : Nat → BitVec 8) (e_rb1 : appL rb0 (s0_0 + 4) [(((A0 (s0_2).toNat)).fImm.setWidth 8), ((((A0 (s0_2).toNat)).fImm >>> 8).setWidth 8), ((((A0 (s0_2).toNat)).fImm >>> 16).setWidth 8), ((((A0 (s0_2).toNat)).fImm >>> 24).setWidth 8)] = rb1) : GoesG Try.prog M B0 S bd_insn_Encode_L0 2 (fr_insn_Encode_L0 a0 p0 q0 n0 k0 A0 (.c0 s0_0 s0_1 s0_2)) (Hs_insn_Encode_L0 a0 p0 q0 n0 k0 A0 (.c0 s0_0 s0_1 s0_2)) .normal 0 (fr_insn_Encode_L0 a0 p0 q0 n0 k0 A0 (.c0 ((s0_0 + 4) + 4) rb1 (IntKind.i64.wrap (s0_2 + 1)))) (Hs_insn_Encode_L0 a0 p0 q0 n0 k0 A0 (.c0 ((s0_0 + 4) + 4) rb1 (IntKind.i64.wrap (s0_2 + 1)))) 2 :=
  goes_runG hU [.b (z_lssT h0), .q (ixRo_ok (kd := .i64) (T := 22) (x := s0_2) (sz := 5) rfl (fun w => by kernel_rfl) hR0 h1), .l (accRo hR0 c_Insn_len (inR_nat h1) 0 [.int .u8 (nn ((A0 (s0_2).toNat)).fOp), .int .u8 (nn ((A0 (s0_2).toNat)).fDst), .int .u8 (nn ((A0 (s0_2).toNat)).fSrc), .int .i16 (ii ((A0 (s0_2).toNat)).fOff), .int .i32 (ii ((A0 (s0_2).toNat)).fImm)] rfl), .o, .a 2, .r [0, 1, 2, 3, 4, 5, 6, 7] [] [], .o, .a 2, .v .u16 (u16_of_i16 ((A0 (s0_2).toNat)).fOff), .o, .a 2, .v .u32 (u32_of_i32 ((A0 (s0_2).toNat)).fImm), .o, .o, .o, .o, .a 2, .o, .a 2, .ov (u8_shl Try.prog 5 (.tmp 28) (.const (.int .u64 (4))) ((A0 (s0_2).toNat)).fSrc 4 .u64 rfl), .o, .a 2, .v .u8 (u8_and ((A0 (s0_2).toNat)).fDst (15#8)), .v .u8 (u8_or (((A0 (s0_2).toNat)).fSrc <<< 4) (((A0 (s0_2).toNat)).fDst &&& 15#8)), .o, .v .u8 (u8_of_u16 ((A0 (s0_2).toNat)).fOff), .o, .ov (u16_shr Try.prog 60 (.tmp 36) (.const (.int .u64 (8))) ((A0 (s0_2).toNat)).fOff 8 .u64 rfl), .v .u8 (u8_of_u16 (((A0 (s0_2).toNat)).fOff >>> 8)), .o, .x (sqAppLr_ok (ty := 23) rt23 #[false, false] (f := cu8) (N := s0_0) (A := s0_1) (c := 4) [((A0 (s0_2).toNat)).fOp, ((((A0 (s0_2).toNat)).fSrc <<< 4) ||| (((A0 (s0_2).toNat)).fDst &&& 15#8)), (((A0 (s0_2).toNat)).fOff.setWidth 8), ((((A0 (s0_2).toNat)).fOff >>> 8).setWidth 8)] (T' := 5) .row cu8_len cu8_one h2 rfl (by decide) e_rb0) [0, 3], .o, .o, .o, .v .u8 (u8_of_u32 ((A0 (s0_2).toNat)).fImm), .o, .ov (u32_shr Try.prog 54 (.tmp 44) (.const (.int .u64 (8))) ((A0 (s0_2).toNat)).fImm 8 .u64 rfl), .v .u8 (u8_of_u32 (((A0 (s0_2).toNat)).fImm >>> 8)), .o, .ov (u32_shr Try.prog 54 (.tmp 47) (.const (.int .u64 (16))) ((A0 (s0_2).toNat)).fImm 16 .u64 rfl), .v .u8 (u8_of_u32 (((A0 (s0_2).toNat)).fImm >>> 16)), .o, .ov (u32_shr Try.prog 54 (.tmp 50) (.const (.int .u64 (24))) ((A0 (s0_2).toNat)).fImm 24 .u64 rfl), .v .u8 (u8_of_u32 (((A0 (s0_2).toNat)).fImm >>> 24)), .o, .x (sqAppLr_ok (ty := 23) rt23 #[false, false] (f := cu8) (N := (s0_0 + 4)) (A := rb0) (c := 4) [(((A0 (s0_2).toNat)).fImm.setWidth 8), ((((A0 (s0_2).toNat)).fImm >>> 8).setWidth 8), ((((A0 (s0_2).toNat)).fImm >>> 16).setWidth 8), ((((A0 (s0_2).toNat)).fImm >>> 24).setWidth 8)] (T' := 5) .row cu8_len cu8_one h3 rfl (by decide) e_rb1) [4, 5], .o, .o, .o] [6] (fun b => rfl) (by decide) rfl (fun b => by kernel_rfl)
theorem w0_4_insn_Encode_L0 (h0 : (decide (s0_2 < (n0 : Int))) = false) : GoesG Try.prog M B0 S bd_insn_Encode_L0 2 (fr_insn_Encode_L0 a0 p0 q0 n0 k0 A0 (.c0 s0_0 s0_1 s0_2)) (Hs_insn_Encode_L0 a0 p0 q0 n0 k0 A0 (.c0 s0_0 s0_1 s0_2)) (.exit 0) 0 (vf_insn_Encode_L0 a0 p0 q0 n0 k0 A0 (.e0 s0_0 s0_1)) (Hf_insn_Encode_L0 a0 p0 q0 n0 k0 A0 (.e0 s0_0 s0_1)) 2 :=
  goes_runG hU [.b (z_lssF h0)] [0] (fun b => rfl) (by decide) rfl (fun b => by kernel_rfl)
end
section
variable {M : Nat → Prop} {B0 : Nat} {S : World → Prop} (hU : Up M B0 S) (a0 : Option Addr) (p0 : Nat) (q0 : Nat) (n0 : Nat) (k0 : Nat) (A0 : Nat → Insn) (hR0 : Ro S c_Insn 5 a0 p0 q0 n0 A0)
include hU a0 p0 q0 n0 k0 A0 hR0
theorem go_insn_Encode_L0 (s : Sh_insn_Encode_L0) (r : Ex_insn_Encode_L0) (h : lpO (st_insn_Encode_L0 n0 A0) s = some r) : GoesG Try.prog M B0 S (.loop bd_insn_Encode_L0) 2 (fr_insn_Encode_L0 a0 p0 q0 n0 k0 A0 s) (Hs_insn_Encode_L0 a0 p0 q0 n0 k0 A0 s) (ex_insn_Encode_L0 r) 0 (vf_insn_Encode_L0 a0 p0 q0 n0 k0 A0 r) (Hf_insn_Encode_L0 a0 p0 q0 n0 k0 A0 r) 2 :=
  goes_lpO (fun s q e => by
    cases s with
    | c0 s0_0 s0_1 s0_2 =>
      unfold st_insn_Encode_L0 at e
      dsimp only at e
      replace e := cond_eq_or e
      rcases e with ⟨hq0, e⟩ | ⟨hq0, e⟩
      · replace e := cond_eq_or e
        rcases e with ⟨hq1, e⟩ | ⟨hq1, e⟩
        · replace e := cond_eq_or e
          rcases e with ⟨hq2, e⟩ | ⟨hq2, e⟩
          · replace e := bindT_eq e
            obtain ⟨rb0, e_rb0, e⟩ := e
            try dsimp only at e
            replace e := cond_eq_or e
            rcases e with ⟨hq3, e⟩ | ⟨hq3, e⟩
            · replace e := bindT_eq e
              obtain ⟨rb1, e_rb1, e⟩ := e
              try dsimp only at e
              cases e; exact w0_0_insn_Encode_L0 hU a0 p0 q0 n0 k0 A0 hR0 s0_0 s0_1 s0_2 hq0 hq1 hq2 rb0 e_rb0 hq3 rb1 e_rb1
            · exact none_some e
          · exact none_some e
        · exact none_some e
      · cases e; exact ⟨ne_exit 0, w0_4_insn_Encode_L0 hU a0 p0 q0 n0 k0 A0 hR0 s0_0 s0_1 s0_2 hq0⟩) s r h
def t0_insn_Encode_L0_0 (a0 : Option Addr) (p0 : Nat) (q0 : Nat) (n0 : Nat) (k0 : Nat) (A0 : Nat → Insn) (s0_0 : Nat) (s0_1 : Nat → BitVec 8) (s0_2 : Int) (ls : List L1) : List Value := [.slice a0 n0 (n0 + k0), undef, .slice none 0 0, (rowV (lget ls 0) s0_0 1), undef, undef, undef, undef, .slice a0 n0 (n0 + k0), .int .i64 ((n0 : Int)), .int .i64 ((IntKind.i64.wrap ((n0 : Int) * 8))), (rowV (lget ls 0) 0 1), .slice a0 n0 (n0 + k0), .int .i64 ((n0 : Int)), .int .i64 (s0_2), undef, undef, undef, undef, undef, undef, undef, undef, undef, undef, undef, undef, undef, undef, undef, undef, undef, undef, undef, undef, undef, undef, undef, undef, undef, undef, undef, undef, undef, undef, undef, undef, undef, undef, undef, undef, undef, undef, undef, undef, undef, undef]
def pre_insn_Encode_L0_0 (a0 : Option Addr) (p0 : Nat) (q0 : Nat) (n0 : Nat) (k0 : Nat) (A0 : Nat → Insn) (s0_0 : Nat) (s0_1 : Nat → BitVec 8) (s0_2 : Int) (ls : List L1) : List Obj := [rowO (lget ls 0) (esG cu8 s0_0 s0_1) 5 s0_0 1]
theorem sp0_insn_Encode_L0_0_ok (s0_0 : Nat) (s0_1 : Nat → BitVec 8) (s0_2 : Int) (c0_0 : Nat) (c0_1 : Nat → BitVec 8) (h : lpO (st_insn_Encode_L0 n0 A0) (.c0 s0_0 s0_1 s0_2) = some (.e0 c0_0 c0_1)) : SpcG Try.prog M B0 S ⟨fun ls => .code (.loop bd_insn_Encode_L0) (t0_insn_Encode_L0_0 a0 p0 q0 n0 k0 A0 s0_0 s0_1 s0_2 ls), pre_insn_Encode_L0_0 a0 p0 q0 n0 k0 A0 s0_0 s0_1 s0_2, 2, (.exit 0), fun ls => vf_insn_Encode_L0 a0 p0 q0 n0 k0 A0 (.e0 c0_0 c0_1) (ls.take 0 ++ ls.drop 1), fun ls => (Hf_insn_Encode_L0 a0 p0 q0 n0 k0 A0 (.e0 c0_0 c0_1) (ls.take 0 ++ ls.drop 1)).take 0 ++ List.replicate 1 unb, fun ls => (Hf_insn_Encode_L0 a0 p0 q0 n0 k0 A0 (.e0 c0_0 c0_1) (ls.take 0 ++ ls.drop 1)).drop 0⟩ :=
  spc_of_goesG hU 0 (k0 := 1) (go_insn_Encode_L0 hU a0 p0 q0 n0 k0 A0 hR0 _ _ h) (t0_insn_Encode_L0_0 a0 p0 q0 n0 k0 A0 s0_0 s0_1 s0_2) (pre_insn_Encode_L0_0 a0 p0 q0 n0 k0 A0 s0_0 s0_1 s0_2) (fun _ => rfl) (fun ls h => by match ls, h with | [l0], _ => rfl) (fun ls h => by match ls, h with | [l0], _ => rfl) (by decide) (by decide) (fun ls => rfl)
inductive R_insn_Encode where
  | e0 (c0_0 : Nat) (c0_1 : Nat → BitVec 8)
noncomputable def m_insn_Encode (n0 : Nat) (A0 : Nat → Insn) : Option R_insn_Encode :=
  bif inR (IntKind.i64.wrap ((n0 : Int) * 8)) 1000001 then
    ((lpO (st_insn_Encode_L0 n0 A0) (.c0 0 (fun _ => 0#8) 0)).bind fun g0 => match g0 with
    | .e0 g0_0 g0_1 =>
    some (.e0 g0_0 g0_1))
  else (none)
def sq0_insn_Encode (a0 : Option Addr) (p0 : Nat) (q0 : Nat) (n0 : Nat) (k0 : Nat) (A0 : Nat → Insn) (c0_0 : Nat) (c0_1 : Nat → BitVec 8) : Spc := ⟨fun ls => .call 11 #[.slice a0 n0 (n0 + k0)], fun ls => [], 1, .normal, fun ls => [(rowV (lget ls 0) c0_0 1)], fun ls => [], fun ls => [rowO (lget ls 0) (esG cu8 c0_0 c0_1) 5 c0_0 1]⟩
theorem p0_insn_Encode (h0 : (inR (IntKind.i64.wrap ((n0 : Int) * 8)) 1000001) = true) (g0_0 : Nat) (g0_1 : Nat → BitVec 8) (e_g0 : lpO (st_insn_Encode_L0 n0 A0) (.c0 0 (fun _ => 0#8) 0) = some (.e0 g0_0 g0_1)) : SpcG Try.prog M B0 S (sq0_insn_Encode a0 p0 q0 n0 k0 A0 g0_0 g0_1) :=
  fn_specG hU (P := Try.prog) Try.func11 (fun xs w => by kernel_rfl) 0 _ _ (fun _ => rfl) _ _ _ [1]
    [.o, .o, .o, .o, .x (sqMkE_ok rt23 (f := cu8) (c := (IntKind.i64.wrap ((n0 : Int) * 8))) (A := fun _ => 0#8) cu8_len h0 (by decide)) [], .o, .o, .o, .o, .cp, .cx (sp0_insn_Encode_L0_0_ok hU a0 p0 q0 n0 k0 A0 hR0 0 (fun _ => 0#8) 0 g0_0 g0_1 e_g0) [0], .o, .o]
    [] (fun b => by kernel_rfl)
theorem ok0_insn_Encode (c0_0 : Nat) (c0_1 : Nat → BitVec 8) (e : m_insn_Encode n0 A0 = some (.e0 c0_0 c0_1)) : SpcG Try.prog M B0 S (sq0_insn_Encode a0 p0 q0 n0 k0 A0 c0_0 c0_1) := by
  unfold m_insn_Encode at e
  replace e := cond_eq_or e
  rcases e with ⟨hq0, e⟩ | ⟨hq0, e⟩
  · replace e := bindO_eq e
    obtain ⟨g0, e_g0, e⟩ := e
    obtain ⟨g0_0, g0_1⟩ := g0
    try dsimp only at e
    injection e with e; injection e with i0 i1; subst i0 i1; exact p0_insn_Encode hU a0 p0 q0 n0 k0 A0 hR0 hq0 g0_0 g0_1 e_g0
  · exact none_some e
noncomputable def m_barbicanhelp_Bytes (n0 : Nat) (A0 : Nat → BitVec 8) (n1 : Nat) (A1 : Nat → BitVec 8) : Bool :=
  ((bstr n0 A0) == (bstr n1 A1))
end
section
variable {M : Nat → Prop} {B0 : Nat} {S : World → Prop} (hU : Up M B0 S) (a0 : Option Addr) (p0 : Nat) (q0 : Nat) (n0 : Nat) (k0 : Nat) (A0 : Nat → BitVec 8) (hR0 : Ro S cu8 1 a0 p0 q0 n0 A0) (a1 : Option Addr) (p1 : Nat) (q1 : Nat) (n1 : Nat) (k1 : Nat) (A1 : Nat → BitVec 8) (hR1 : Ro S cu8 1 a1 p1 q1 n1 A1)
include hU a0 p0 q0 n0 k0 A0 hR0 a1 p1 q1 n1 k1 A1 hR1
theorem p0_barbicanhelp_Bytes : ConG Try.prog S 12 #[.slice a0 n0 (n0 + k0), .slice a1 n1 (n1 + k1)] (.bool (((bstr n0 A0) == (bstr n1 A1)))) :=
  fn_conG hU (P := Try.prog) Try.func12 (fun xs w => by kernel_rfl) [.slice a0 n0 (n0 + k0), .slice a1 n1 (n1 + k1)] (.bool (((bstr n0 A0) == (bstr n1 A1))))
    [.o, .o, .x (sqStrV_ok (s := 23) (d := 9) (e := 5) (f := cu8) (c := (n0 + k0)) (by kernel_rfl) (by kernel_rfl) (by kernel_rfl) (fun _ => rfl) hR0) [], .o, .x (sqStrV_ok (s := 23) (d := 9) (e := 5) (f := cu8) (c := (n1 + k1)) (by kernel_rfl) (by kernel_rfl) (by kernel_rfl) (fun _ => rfl) hR1) [], .ov (str_eql 9 (bstr n0 A0) (bstr n1 A1) (by kernel_rfl) (.tmp 6) (.tmp 8)), .o]
    [] (fun b => by kernel_rfl)
theorem ok_barbicanhelp_Bytes (r : Bool) (e : m_barbicanhelp_Bytes n0 A0 n1 A1 = r) : ConG Try.prog S 12 #[.slice a0 n0 (n0 + k0), .slice a1 n1 (n1 + k1)] (.bool (r)) := by
  unfold m_barbicanhelp_Bytes at e
  subst e; exact p0_barbicanhelp_Bytes hU a0 p0 q0 n0 k0 A0 hR0 a1 p1 q1 n1 k1 A1 hR1 
noncomputable def m_barbicanlaw1_InsnJoined (n0 : Nat) (A0 : Nat → Insn) (n1 : Nat) (A1 : Nat → Insn) : Option (Bool) :=
  bif decide (2000 < (IntKind.i64.wrap ((n0 : Int) + (n1 : Int)))) then
    (some true)
  else (bif decide (0 < n0) then
    (bif decide (n0 ≤ 1000000) then
      (bif decide (n1 ≤ 1000000) then
        ((m_insn_Encode (n0 + n1) (catF A0 n0 A1)).bind fun g0 => match g0 with
        | .e0 g0_0 g0_1 =>
        (m_insn_Encode n0 A0).bind fun g1 => match g1 with
        | .e0 g1_0 g1_1 =>
        (m_insn_Encode n1 A1).bind fun g2 => match g2 with
        | .e0 g2_0 g2_1 =>
        bif decide (g1_0 ≤ 1000000) then
          (bif decide (g2_0 ≤ 1000000) then
            (bindT (m_barbicanhelp_Bytes g0_0 g0_1 (g1_0 + g2_0) (catF g1_1 g1_0 g2_1)) fun r3 =>
            some r3)
          else (none))
        else (none))
      else (none))
    else (none))
  else (bif decide (0 < n1) then
    (bif decide (n1 ≤ 1000000) then
      ((m_insn_Encode n1 A1).bind fun g0 => match g0 with
      | .e0 g0_0 g0_1 =>
      (m_insn_Encode n0 A0).bind fun g1 => match g1 with
      | .e0 g1_0 g1_1 =>
      (m_insn_Encode n1 A1).bind fun g2 => match g2 with
      | .e0 g2_0 g2_1 =>
      bif decide (g1_0 ≤ 1000000) then
        (bif decide (g2_0 ≤ 1000000) then
          (bindT (m_barbicanhelp_Bytes g0_0 g0_1 (g1_0 + g2_0) (catF g1_1 g1_0 g2_1)) fun r3 =>
          some r3)
        else (none))
      else (none))
    else (none))
  else ((m_insn_Encode 0 (fun _ => (⟨0#8, 0#8, 0#8, 0#16, 0#32⟩ : Insn))).bind fun g0 => match g0 with
  | .e0 g0_0 g0_1 =>
  (m_insn_Encode n0 A0).bind fun g1 => match g1 with
  | .e0 g1_0 g1_1 =>
  (m_insn_Encode n1 A1).bind fun g2 => match g2 with
  | .e0 g2_0 g2_1 =>
  bif decide (g1_0 ≤ 1000000) then
    (bif decide (g2_0 ≤ 1000000) then
      (bindT (m_barbicanhelp_Bytes g0_0 g0_1 (g1_0 + g2_0) (catF g1_1 g1_0 g2_1)) fun r3 =>
      some r3)
    else (none))
  else (none))))
end
section
variable {M : Nat → Prop} {B0 : Nat} {S : World → Prop} (hU : Up M B0 S) (a0 : Option Addr) (p0 : Nat) (q0 : Nat) (n0 : Nat) (k0 : Nat) (A0 : Nat → Insn) (hR0 : Ro S c_Insn 5 a0 p0 q0 n0 A0) (a1 : Option Addr) (p1 : Nat) (q1 : Nat) (n1 : Nat) (k1 : Nat) (A1 : Nat → Insn) (hR1 : Ro S c_Insn 5 a1 p1 q1 n1 A1)
include hU a0 p0 q0 n0 k0 A0 hR0 a1 p1 q1 n1 k1 A1 hR1
theorem p0_barbicanlaw1_InsnJoined (h0 : (decide (2000 < (IntKind.i64.wrap ((n0 : Int) + (n1 : Int))))) = true) : ConG Try.prog S 6 #[.slice a0 n0 (n0 + k0), .slice a1 n1 (n1 + k1)] (.bool true) :=
  fn_conG hU (P := Try.prog) Try.func6 (fun xs w => by kernel_rfl) [.slice a0 n0 (n0 + k0), .slice a1 n1 (n1 + k1)] (.bool true)
    [.o, .cg (ok_barbicanlaw1_known hU  ), .o, .o, .o, .o, .o, .o, .b (z_gtrT h0), .o]
    [] (fun b => by kernel_rfl)
theorem p1_barbicanlaw1_InsnJoined (h0 : (decide (2000 < (IntKind.i64.wrap ((n0 : Int) + (n1 : Int))))) = false) (h1 : (decide (0 < n0)) = true) (h2 : (decide (n0 ≤ 1000000)) = true) (h3 : (decide (n1 ≤ 1000000)) = true) (g0_0 : Nat) (g0_1 : Nat → BitVec 8) (e_g0 : m_insn_Encode (n0 + n1) (catF A0 n0 A1) = some (.e0 g0_0 g0_1)) (g1_0 : Nat) (g1_1 : Nat → BitVec 8) (e_g1 : m_insn_Encode n0 A0 = some (.e0 g1_0 g1_1)) (g2_0 : Nat) (g2_1 : Nat → BitVec 8) (e_g2 : m_insn_Encode n1 A1 = some (.e0 g2_0 g2_1)) (h4 : (decide (g1_0 ≤ 1000000)) = true) (h5 : (decide (g2_0 ≤ 1000000)) = true) (r3 : Bool) (e_r3 : m_barbicanhelp_Bytes g0_0 g0_1 (g1_0 + g2_0) (catF g1_1 g1_0 g2_1) = r3) : ConG Try.prog S 6 #[.slice a0 n0 (n0 + k0), .slice a1 n1 (n1 + k1)] (.bool (r3)) :=
  fn_conG hU (P := Try.prog) Try.func6 (fun xs w => by kernel_rfl) [.slice a0 n0 (n0 + k0), .slice a1 n1 (n1 + k1)] (.bool (r3))
    [.o, .cg (ok_barbicanlaw1_known hU  ), .o, .o, .o, .o, .o, .o, .b (z_gtrF h0), .o, .x (sqAp0R_ok (ty := 22) rt22 #[true, false] (c := (n0 + k0)) hR0 c_Insn_len c_Insn_one h1 h2 (by decide)) [], .o, .x (sqApR_ok (ty := 22) rt22 #[false, false] (N := n0) (A := A0) (c := (n1 + k1)) .row hR1 c_Insn_len c_Insn_one h2 h3 (by decide) rfl) [0], .o, .o, .xg (SpcG.own hU (f := c_Insn) c_Insn_len (n0 + n1) (catF A0 n0 A1) 35 (fun l => padL l (n0 + n1) 5) (fun l => (padL l (n0 + n1) 5).length / 5) _ 1 .normal (by intros; rfl) (by intros; rfl) (by intros; rfl) (fun M0 B0 S0 x0 u0 v0 z0 hU0 hs0 hr0 => ok0_insn_Encode hU0 x0 u0 v0 (n0 + n1) z0 (catF A0 n0 A1) hr0 g0_0 g0_1 e_g0)) [1], .o, .xg (ok0_insn_Encode hU a0 p0 q0 n0 k0 A0 hR0 g1_0 g1_1 e_g1) [], .o, .xg (ok0_insn_Encode hU a1 p1 q1 n1 k1 A1 hR1 g2_0 g2_1 e_g2) [], .x (sqApS_ok (ty := 23) rt23 #[false, false] (N := g1_0) (m := g2_0) (A := g1_1) (B := g2_1) (T' := 5) .row cu8_len cu8_one h4 h5 (by decide) rfl) [3, 4], .xg (SpcG.own hU (f := cu8) cu8_len g0_0 g0_1 5 (fun l => padL l g0_0 1) (fun l => (padL l g0_0 1).length / 1) _ 0 .normal (by intros; rfl) (by intros; rfl) (by intros; rfl) (fun M0 B0 S0 x0 u0 v0 z0 hU0 hs0 hr0 => SpcG.own hU0 (f := cu8) cu8_len (g1_0 + g2_0) (catF g1_1 g1_0 g2_1) 5 (fun l => padL l (g1_0 + g2_0) 1) (fun l => (padL l (g1_0 + g2_0) 1).length / 1) _ 0 .normal (by intros; rfl) (by intros; rfl) (by intros; rfl) (fun M1 B1 S1 x1 u1 v1 z1 hU1 hs1 hr1 => ConG.sp (ok_barbicanhelp_Bytes hU1 x0 u0 v0 g0_0 z0 g0_1 (Ro.mono hr0 hs1) x1 u1 v1 (g1_0 + g2_0) z1 (catF g1_1 g1_0 g2_1) hr1 r3 e_r3)))) [2, 5], .o]
    [] (fun b => by kernel_rfl)
theorem p6_barbicanlaw1_InsnJoined (h0 : (decide (2000 < (IntKind.i64.wrap ((n0 : Int) + (n1 : Int))))) = false) (h1 : (decide (0 < n0)) = false) (h2 : (decide (0 < n1)) = true) (h3 : (decide (n1 ≤ 1000000)) = true) (g0_0 : Nat) (g0_1 : Nat → BitVec 8) (e_g0 : m_insn_Encode n1 A1 = some (.e0 g0_0 g0_1)) (g1_0 : Nat) (g1_1 : Nat → BitVec 8) (e_g1 : m_insn_Encode n0 A0 = some (.e0 g1_0 g1_1)) (g2_0 : Nat) (g2_1 : Nat → BitVec 8) (e_g2 : m_insn_Encode n1 A1 = some (.e0 g2_0 g2_1)) (h4 : (decide (g1_0 ≤ 1000000)) = true) (h5 : (decide (g2_0 ≤ 1000000)) = true) (r3 : Bool) (e_r3 : m_barbicanhelp_Bytes g0_0 g0_1 (g1_0 + g2_0) (catF g1_1 g1_0 g2_1) = r3) : ConG Try.prog S 6 #[.slice a0 n0 (n0 + k0), .slice a1 n1 (n1 + k1)] (.bool (r3)) :=
  fn_conG hU (P := Try.prog) Try.func6 (fun xs w => by kernel_rfl) [.slice a0 n0 (n0 + k0), .slice a1 n1 (n1 + k1)] (.bool (r3))
    [.o, .cg (ok_barbicanlaw1_known hU  ), .o, .o, .o, .o, .o, .o, .b (z_gtrF h0), .o, .x (sqAp0Z_ok (ty := 22) rt22 #[true, false] (a := a0) (c := (n0 + k0)) h1) [], .o, .x (sqAp0R_ok (ty := 22) rt22 #[false, false] (c := (n1 + k1)) hR1 c_Insn_len c_Insn_one h2 h3 (by decide)) [], .o, .o, .xg (SpcG.own hU (f := c_Insn) c_Insn_len n1 A1 35 (fun l => padL l n1 5) (fun l => (padL l n1 5).length / 5) _ 1 .normal (by intros; rfl) (by intros; rfl) (by intros; rfl) (fun M0 B0 S0 x0 u0 v0 z0 hU0 hs0 hr0 => ok0_insn_Encode hU0 x0 u0 v0 n1 z0 A1 hr0 g0_0 g0_1 e_g0)) [0], .o, .xg (ok0_insn_Encode hU a0 p0 q0 n0 k0 A0 hR0 g1_0 g1_1 e_g1) [], .o, .xg (ok0_insn_Encode hU a1 p1 q1 n1 k1 A1 hR1 g2_0 g2_1 e_g2) [], .x (sqApS_ok (ty := 23) rt23 #[false, false] (N := g1_0) (m := g2_0) (A := g1_1) (B := g2_1) (T' := 5) .row cu8_len cu8_one h4 h5 (by decide) rfl) [2, 3], .xg (SpcG.own hU (f := cu8) cu8_len g0_0 g0_1 5 (fun l => padL l g0_0 1) (fun l => (padL l g0_0 1).length / 1) _ 0 .normal (by intros; rfl) (by intros; rfl) (by intros; rfl) (fun M0 B0 S0 x0 u0 v0 z0 hU0 hs0 hr0 => SpcG.own hU0 (f := cu8) cu8_len (g1_0 + g2_0) (catF g1_1 g1_0 g2_1) 5 (fun l => padL l (g1_0 + g2_0) 1) (fun l => (padL l (g1_0 + g2_0) 1).length / 1) _ 0 .normal (by intros; rfl) (by intros; rfl) (by intros; rfl) (fun M1 B1 S1 x1 u1 v1 z1 hU1 hs1 hr1 => ConG.sp (ok_barbicanhelp_Bytes hU1 x0 u0 v0 g0_0 z0 g0_1 (Ro.mono hr0 hs1) x1 u1 v1 (g1_0 + g2_0) z1 (catF g1_1 g1_0 g2_1) hr1 r3 e_r3)))) [1, 4], .o]
    [] (fun b => by kernel_rfl)
theorem p10_barbicanlaw1_InsnJoined (h0 : (decide (2000 < (IntKind.i64.wrap ((n0 : Int) + (n1 : Int))))) = false) (h1 : (decide (0 < n0)) = false) (h2 : (decide (0 < n1)) = false) (g0_0 : Nat) (g0_1 : Nat → BitVec 8) (e_g0 : m_insn_Encode 0 (fun _ => (⟨0#8, 0#8, 0#8, 0#16, 0#32⟩ : Insn)) = some (.e0 g0_0 g0_1)) (g1_0 : Nat) (g1_1 : Nat → BitVec 8) (e_g1 : m_insn_Encode n0 A0 = some (.e0 g1_0 g1_1)) (g2_0 : Nat) (g2_1 : Nat → BitVec 8) (e_g2 : m_insn_Encode n1 A1 = some (.e0 g2_0 g2_1)) (h3 : (decide (g1_0 ≤ 1000000)) = true) (h4 : (decide (g2_0 ≤ 1000000)) = true) (r3 : Bool) (e_r3 : m_barbicanhelp_Bytes g0_0 g0_1 (g1_0 + g2_0) (catF g1_1 g1_0 g2_1) = r3) : ConG Try.prog S 6 #[.slice a0 n0 (n0 + k0), .slice a1 n1 (n1 + k1)] (.bool (r3)) :=
  fn_conG hU (P := Try.prog) Try.func6 (fun xs w => by kernel_rfl) [.slice a0 n0 (n0 + k0), .slice a1 n1 (n1 + k1)] (.bool (r3))
    [.o, .cg (ok_barbicanlaw1_known hU  ), .o, .o, .o, .o, .o, .o, .b (z_gtrF h0), .o, .x (sqAp0Z_ok (ty := 22) rt22 #[true, false] (a := a0) (c := (n0 + k0)) h1) [], .o, .x (sqAp0Z_ok (ty := 22) rt22 #[false, false] (a := a1) (c := (n1 + k1)) h2) [], .o, .o, .xg (ok0_insn_Encode hU none 0 0 0 0 (fun _ => (⟨0#8, 0#8, 0#8, 0#16, 0#32⟩ : Insn)) Ro.nil g0_0 g0_1 e_g0) [], .o, .xg (ok0_insn_Encode hU a0 p0 q0 n0 k0 A0 hR0 g1_0 g1_1 e_g1) [], .o, .xg (ok0_insn_Encode hU a1 p1 q1 n1 k1 A1 hR1 g2_0 g2_1 e_g2) [], .x (sqApS_ok (ty := 23) rt23 #[false, false] (N := g1_0) (m := g2_0) (A := g1_1) (B := g2_1) (T' := 5) .row cu8_len cu8_one h3 h4 (by decide) rfl) [1, 2], .xg (SpcG.own hU (f := cu8) cu8_len g0_0 g0_1 5 (fun l => padL l g0_0 1) (fun l => (padL l g0_0 1).length / 1) _ 0 .normal (by intros; rfl) (by intros; rfl) (by intros; rfl) (fun M0 B0 S0 x0 u0 v0 z0 hU0 hs0 hr0 => SpcG.own hU0 (f := cu8) cu8_len (g1_0 + g2_0) (catF g1_1 g1_0 g2_1) 5 (fun l => padL l (g1_0 + g2_0) 1) (fun l => (padL l (g1_0 + g2_0) 1).length / 1) _ 0 .normal (by intros; rfl) (by intros; rfl) (by intros; rfl) (fun M1 B1 S1 x1 u1 v1 z1 hU1 hs1 hr1 => ConG.sp (ok_barbicanhelp_Bytes hU1 x0 u0 v0 g0_0 z0 g0_1 (Ro.mono hr0 hs1) x1 u1 v1 (g1_0 + g2_0) z1 (catF g1_1 g1_0 g2_1) hr1 r3 e_r3)))) [0, 3], .o]
    [] (fun b => by kernel_rfl)
theorem ok_barbicanlaw1_InsnJoined (r : Bool) (e : m_barbicanlaw1_InsnJoined n0 A0 n1 A1 = some r) : ConG Try.prog S 6 #[.slice a0 n0 (n0 + k0), .slice a1 n1 (n1 + k1)] (.bool (r)) := by
  unfold m_barbicanlaw1_InsnJoined at e
  replace e := cond_eq_or e
  rcases e with ⟨hq0, e⟩ | ⟨hq0, e⟩
  · injection e with e; subst e; exact p0_barbicanlaw1_InsnJoined hU a0 p0 q0 n0 k0 A0 hR0 a1 p1 q1 n1 k1 A1 hR1 hq0
  · replace e := cond_eq_or e
    rcases e with ⟨hq1, e⟩ | ⟨hq1, e⟩
    · replace e := cond_eq_or e
      rcases e with ⟨hq2, e⟩ | ⟨hq2, e⟩
      · replace e := cond_eq_or e
        rcases e with ⟨hq3, e⟩ | ⟨hq3, e⟩
        · replace e := bindO_eq e
          obtain ⟨g0, e_g0, e⟩ := e
          obtain ⟨g0_0, g0_1⟩ := g0
          try dsimp only at e
          replace e := bindO_eq e
          obtain ⟨g1, e_g1, e⟩ := e
          obtain ⟨g1_0, g1_1⟩ := g1
          try dsimp only at e
          replace e := bindO_eq e
          obtain ⟨g2, e_g2, e⟩ := e
          obtain ⟨g2_0, g2_1⟩ := g2
          try dsimp only at e
          replace e := cond_eq_or e
          rcases e with ⟨hq4, e⟩ | ⟨hq4, e⟩
          · replace e := cond_eq_or e
            rcases e with ⟨hq5, e⟩ | ⟨hq5, e⟩
            · replace e := bindT_eq e
              obtain ⟨r3, e_r3, e⟩ := e
              try dsimp only at e
              injection e with e; subst e; exact p1_barbicanlaw1_InsnJoined hU a0 p0 q0 n0 k0 A0 hR0 a1 p1 q1 n1 k1 A1 hR1 hq0 hq1 hq2 hq3 g0_0 g0_1 e_g0 g1_0 g1_1 e_g1 g2_0 g2_1 e_g2 hq4 hq5 r3 e_r3
            · exact none_some e
          · exact none_some e
        · exact none_some e
      · exact none_some e
    · replace e := cond_eq_or e
      rcases e with ⟨hq2, e⟩ | ⟨hq2, e⟩
      · replace e := cond_eq_or e
        rcases e with ⟨hq3, e⟩ | ⟨hq3, e⟩
        · replace e := bindO_eq e
          obtain ⟨g0, e_g0, e⟩ := e
          obtain ⟨g0_0, g0_1⟩ := g0
          try dsimp only at e
          replace e := bindO_eq e
          obtain ⟨g1, e_g1, e⟩ := e
          obtain ⟨g1_0, g1_1⟩ := g1
          try dsimp only at e
          replace e := bindO_eq e
          obtain ⟨g2, e_g2, e⟩ := e
          obtain ⟨g2_0, g2_1⟩ := g2
          try dsimp only at e
          replace e := cond_eq_or e
          rcases e with ⟨hq4, e⟩ | ⟨hq4, e⟩
          · replace e := cond_eq_or e
            rcases e with ⟨hq5, e⟩ | ⟨hq5, e⟩
            · replace e := bindT_eq e
              obtain ⟨r3, e_r3, e⟩ := e
              try dsimp only at e
              injection e with e; subst e; exact p6_barbicanlaw1_InsnJoined hU a0 p0 q0 n0 k0 A0 hR0 a1 p1 q1 n1 k1 A1 hR1 hq0 hq1 hq2 hq3 g0_0 g0_1 e_g0 g1_0 g1_1 e_g1 g2_0 g2_1 e_g2 hq4 hq5 r3 e_r3
            · exact none_some e
          · exact none_some e
        · exact none_some e
      · replace e := bindO_eq e
        obtain ⟨g0, e_g0, e⟩ := e
        obtain ⟨g0_0, g0_1⟩ := g0
        try dsimp only at e
        replace e := bindO_eq e
        obtain ⟨g1, e_g1, e⟩ := e
        obtain ⟨g1_0, g1_1⟩ := g1
        try dsimp only at e
        replace e := bindO_eq e
        obtain ⟨g2, e_g2, e⟩ := e
        obtain ⟨g2_0, g2_1⟩ := g2
        try dsimp only at e
        replace e := cond_eq_or e
        rcases e with ⟨hq3, e⟩ | ⟨hq3, e⟩
        · replace e := cond_eq_or e
          rcases e with ⟨hq4, e⟩ | ⟨hq4, e⟩
          · replace e := bindT_eq e
            obtain ⟨r3, e_r3, e⟩ := e
            try dsimp only at e
            injection e with e; subst e; exact p10_barbicanlaw1_InsnJoined hU a0 p0 q0 n0 k0 A0 hR0 a1 p1 q1 n1 k1 A1 hR1 hq0 hq1 hq2 g0_0 g0_1 e_g0 g1_0 g1_1 e_g1 g2_0 g2_1 e_g2 hq3 hq4 r3 e_r3
          · exact none_some e
        · exact none_some e
end

end Go.Proofs.Ytmlkiamemkfdlaa
