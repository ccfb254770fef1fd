/-
  Instructions: the reference of the bytes.
-/
import Derived.Test.YtmlkiamemkfdlaaS1G
namespace Go.Proofs.Ytmlkiamemkfdlaa
open Go.RowKit
set_option linter.unusedVariables false
set_option linter.unusedSimpArgs false
set_option linter.unusedSectionVars false
set_option maxRecDepth 100000
set_option maxHeartbeats 4000000
inductive Sh_barbicanref1_Encode_L0 where
  | c0 
  | c1 (s0_0 : Nat) (s0_1 : Nat → BitVec 8) (s0_2 : Int)
inductive Ex_barbicanref1_Encode_L0 where
  | e0 
  | e1 (c1_0 : Nat) (c1_1 : Nat → BitVec 8)
noncomputable def st_barbicanref1_Encode_L0 (n0 : Nat) (A0 : Nat → Insn) : Sh_barbicanref1_Encode_L0 → Option (Sh_barbicanref1_Encode_L0 ⊕ Ex_barbicanref1_Encode_L0)
  | .c0  =>
    bif decide (0 < (n0 : Int)) then
      (bif inR 0 n0 then
        (bindT (appL (fun _ => 0#8) 0 [((A0 0)).fOp, (((((A0 0)).fSrc % 16#8) * 16#8) + (((A0 0)).fDst % 16#8))]) fun rb0 =>
        bindT (appL rb0 2 [((((A0 0)).fOff % 256#16).setWidth 8), ((((A0 0)).fOff / 256#16).setWidth 8)]) fun rb1 =>
        bindT (updF (updF rb1 4 ((((A0 0)).fImm >>> 0).setWidth 8)) 5 ((((A0 0)).fImm >>> 8).setWidth 8)) fun rb2 =>
        bindT (updF (updF rb2 6 ((((A0 0)).fImm >>> 16).setWidth 8)) 7 ((((A0 0)).fImm >>> 24).setWidth 8)) fun rb3 =>
        some (.inl (.c1 8 rb3 1)))
      else (none))
    else (some (.inr (.e0 )))
  | .c1 s0_0 s0_1 s0_2 =>
    bif decide (s0_2 < (n0 : Int)) then
      (bif inR s0_2 n0 then
        (bif decide (s0_0 ≤ 1000000) then
          (bindT (appL s0_1 s0_0 [((A0 (s0_2).toNat)).fOp, (((((A0 (s0_2).toNat)).fSrc % 16#8) * 16#8) + (((A0 (s0_2).toNat)).fDst % 16#8))]) fun rb0 =>
          bif decide ((s0_0 + 2) ≤ 1000000) then
            (bindT (appL rb0 (s0_0 + 2) [((((A0 (s0_2).toNat)).fOff % 256#16).setWidth 8), ((((A0 (s0_2).toNat)).fOff / 256#16).setWidth 8)]) fun rb1 =>
            bif decide (((s0_0 + 2) + 2) ≤ 1000000) then
              (bindT (updF rb1 ((s0_0 + 2) + 2) ((((A0 (s0_2).toNat)).fImm >>> 0).setWidth 8)) fun rb2 =>
              bif decide ((((s0_0 + 2) + 2) + 1) ≤ 1000000) then
                (bindT (updF rb2 (((s0_0 + 2) + 2) + 1) ((((A0 (s0_2).toNat)).fImm >>> 8).setWidth 8)) fun rb3 =>
                bif decide (((((s0_0 + 2) + 2) + 1) + 1) ≤ 1000000) then
                  (bindT (updF rb3 ((((s0_0 + 2) + 2) + 1) + 1) ((((A0 (s0_2).toNat)).fImm >>> 16).setWidth 8)) fun rb4 =>
                  bif decide ((((((s0_0 + 2) + 2) + 1) + 1) + 1) ≤ 1000000) then
                    (bindT (updF rb4 (((((s0_0 + 2) + 2) + 1) + 1) + 1) ((((A0 (s0_2).toNat)).fImm >>> 24).setWidth 8)) fun rb5 =>
                    some (.inl (.c1 ((((((s0_0 + 2) + 2) + 1) + 1) + 1) + 1) rb5 (IntKind.i64.wrap (s0_2 + 1)))))
                  else (none))
                else (none))
              else (none))
            else (none))
          else (none))
        else (none))
      else (none))
    else (some (.inr (.e1 s0_0 s0_1)))
noncomputable def bd_barbicanref1_Encode_L0 : Code := codeOf Try.f13 [1, 1, 0, 1, 0, 0]
def fr_barbicanref1_Encode_L0 (a0 : Option Addr) (p0 : Nat) (q0 : Nat) (n0 : Nat) (k0 : Nat) (A0 : Nat → Insn) : Sh_barbicanref1_Encode_L0 → List L1 → List Value
  | .c0 , ls => [.slice a0 n0 (n0 + k0), ((lget ls 1).u 1), .slice none 0 0, .slice none 0 0, .int .i64 (0), ((lget ls 1).u 5), ((lget ls 1).u 6), ((lget ls 1).u 7), ((lget ls 1).u 8), ((lget ls 1).u 9), ((lget ls 1).u 10), ((lget ls 1).u 11), ((lget ls 1).u 12), ((lget ls 1).u 13), ((lget ls 1).u 14), ((lget ls 1).u 15), ((lget ls 1).u 16), ((lget ls 1).u 17), ((lget ls 1).u 18), ((lget ls 1).u 19), ((lget ls 1).u 20), ((lget ls 1).u 21), ((lget ls 1).u 22), ((lget ls 1).u 23), ((lget ls 1).u 24), ((lget ls 1).u 25), ((lget ls 1).u 26), ((lget ls 1).u 27), ((lget ls 1).u 28), ((lget ls 1).u 29), ((lget ls 1).u 30), ((lget ls 1).u 31), ((lget ls 1).u 32), ((lget ls 1).u 33), ((lget ls 1).u 34), ((lget ls 1).u 35), ((lget ls 1).u 36), ((lget ls 1).u 37), ((lget ls 1).u 38), ((lget ls 1).u 39), ((lget ls 1).u 40), ((lget ls 1).u 41), ((lget ls 1).u 42), ((lget ls 1).u 43), ((lget ls 1).u 44), ((lget ls 1).u 45), ((lget ls 1).u 46), ((lget ls 1).u 47), ((lget ls 1).u 48), ((lget ls 1).u 49), ((lget ls 1).u 50), ((lget ls 1).u 51), ((lget ls 1).u 52), ((lget ls 1).u 53), ((lget ls 1).u 54), ((lget ls 1).u 55), ((lget ls 1).u 56), ((lget ls 1).u 57), ((lget ls 1).u 58), undef]
  | .c1 s0_0 s0_1 s0_2, ls => [.slice a0 n0 (n0 + k0), ((lget ls 1).u 1), .slice none 0 0, (rowV (lget ls 0) s0_0 1), .int .i64 (s0_2), ((lget ls 1).u 5), ((lget ls 1).u 6), ((lget ls 1).u 7), ((lget ls 1).u 8), ((lget ls 1).u 9), ((lget ls 1).u 10), ((lget ls 1).u 11), ((lget ls 1).u 12), ((lget ls 1).u 13), ((lget ls 1).u 14), ((lget ls 1).u 15), ((lget ls 1).u 16), ((lget ls 1).u 17), ((lget ls 1).u 18), ((lget ls 1).u 19), ((lget ls 1).u 20), ((lget ls 1).u 21), ((lget ls 1).u 22), ((lget ls 1).u 23), ((lget ls 1).u 24), ((lget ls 1).u 25), ((lget ls 1).u 26), ((lget ls 1).u 27), ((lget ls 1).u 28), ((lget ls 1).u 29), ((lget ls 1).u 30), ((lget ls 1).u 31), ((lget ls 1).u 32), ((lget ls 1).u 33), ((lget ls 1).u 34), ((lget ls 1).u 35), ((lget ls 1).u 36), ((lget ls 1).u 37), ((lget ls 1).u 38), ((lget ls 1).u 39), ((lget ls 1).u 40), ((lget ls 1).u 41), ((lget ls 1).u 42), ((lget ls 1).u 43), ((lget ls 1).u 44), ((lget ls 1).u 45), ((lget ls 1).u 46), ((lget ls 1).u 47), ((lget ls 1).u 48), ((lget ls 1).u 49), ((lget ls 1).u 50), ((lget ls 1).u 51), ((lget ls 1).u 52), ((lget ls 1).u 53), ((lget ls 1).u 54), ((lget ls 1).u 55), ((lget ls 1).u 56), ((lget ls 1).u 57), ((lget ls 1).u 58), undef]
def Hs_barbicanref1_Encode_L0 (a0 : Option Addr) (p0 : Nat) (q0 : Nat) (n0 : Nat) (k0 : Nat) (A0 : Nat → Insn) : Sh_barbicanref1_Encode_L0 → List L1 → List Obj
  | .c0 , ls => [unb, unb]
  | .c1 s0_0 s0_1 s0_2, ls => [rowO (lget ls 0) (esG cu8 s0_0 s0_1) 5 s0_0 1, unb]
def vf_barbicanref1_Encode_L0 (a0 : Option Addr) (p0 : Nat) (q0 : Nat) (n0 : Nat) (k0 : Nat) (A0 : Nat → Insn) : Ex_barbicanref1_Encode_L0 → List L1 → List Value
  | .e0 , ls => [.slice a0 n0 (n0 + k0), ((lget ls 1).u 1), .slice none 0 0, .slice none 0 0, ((lget ls 1).u 4), ((lget ls 1).u 5), ((lget ls 1).u 6), ((lget ls 1).u 7), ((lget ls 1).u 8), ((lget ls 1).u 9), ((lget ls 1).u 10), ((lget ls 1).u 11), ((lget ls 1).u 12), ((lget ls 1).u 13), ((lget ls 1).u 14), ((lget ls 1).u 15), ((lget ls 1).u 16), ((lget ls 1).u 17), ((lget ls 1).u 18), ((lget ls 1).u 19), ((lget ls 1).u 20), ((lget ls 1).u 21), ((lget ls 1).u 22), ((lget ls 1).u 23), ((lget ls 1).u 24), ((lget ls 1).u 25), ((lget ls 1).u 26), ((lget ls 1).u 27), ((lget ls 1).u 28), ((lget ls 1).u 29), ((lget ls 1).u 30), ((lget ls 1).u 31), ((lget ls 1).u 32), ((lget ls 1).u 33), ((lget ls 1).u 34), ((lget ls 1).u 35), ((lget ls 1).u 36), ((lget ls 1).u 37), ((lget ls 1).u 38), ((lget ls 1).u 39), ((lget ls 1).u 40), ((lget ls 1).u 41), ((lget ls 1).u 42), ((lget ls 1).u 43), ((lget ls 1).u 44), ((lget ls 1).u 45), ((lget ls 1).u 46), ((lget ls 1).u 47), ((lget ls 1).u 48), ((lget ls 1).u 49), ((lget ls 1).u 50), ((lget ls 1).u 51), ((lget ls 1).u 52), ((lget ls 1).u 53), ((lget ls 1).u 54), ((lget ls 1).u 55), ((lget ls 1).u 56), ((lget ls 1).u 57), ((lget ls 1).u 58), undef]
  | .e1 c1_0 c1_1, ls => [.slice a0 n0 (n0 + k0), ((lget ls 1).u 1), .slice none 0 0, (rowV (lget ls 0) c1_0 1), ((lget ls 1).u 4), ((lget ls 1).u 5), ((lget ls 1).u 6), ((lget ls 1).u 7), ((lget ls 1).u 8), ((lget ls 1).u 9), ((lget ls 1).u 10), ((lget ls 1).u 11), ((lget ls 1).u 12), ((lget ls 1).u 13), ((lget ls 1).u 14), ((lget ls 1).u 15), ((lget ls 1).u 16), ((lget ls 1).u 17), ((lget ls 1).u 18), ((lget ls 1).u 19), ((lget ls 1).u 20), ((lget ls 1).u 21), ((lget ls 1).u 22), ((lget ls 1).u 23), ((lget ls 1).u 24), ((lget ls 1).u 25), ((lget ls 1).u 26), ((lget ls 1).u 27), ((lget ls 1).u 28), ((lget ls 1).u 29), ((lget ls 1).u 30), ((lget ls 1).u 31), ((lget ls 1).u 32), ((lget ls 1).u 33), ((lget ls 1).u 34), ((lget ls 1).u 35), ((lget ls 1).u 36), ((lget ls 1).u 37), ((lget ls 1).u 38), ((lget ls 1).u 39), ((lget ls 1).u 40), ((lget ls 1).u 41), ((lget ls 1).u 42), ((lget ls 1).u 43), ((lget ls 1).u 44), ((lget ls 1).u 45), ((lget ls 1).u 46), ((lget ls 1).u 47), ((lget ls 1).u 48), ((lget ls 1).u 49), ((lget ls 1).u 50), ((lget ls 1).u 51), ((lget ls 1).u 52), ((lget ls 1).u 53), ((lget ls 1).u 54), ((lget ls 1).u 55), ((lget ls 1).u 56), ((lget ls 1).u 57), ((lget ls 1).u 58), undef]
def Hf_barbicanref1_Encode_L0 (a0 : Option Addr) (p0 : Nat) (q0 : Nat) (n0 : Nat) (k0 : Nat) (A0 : Nat → Insn) : Ex_barbicanref1_Encode_L0 → List L1 → List Obj
  | .e0 , ls => [unb, unb]
  | .e1 c1_0 c1_1, ls => [rowO (lget ls 0) (esG cu8 c1_0 c1_1) 5 c1_0 1, unb]
def ex_barbicanref1_Encode_L0 : Ex_barbicanref1_Encode_L0 → Ex
  | .e0  => (.exit 0)
  | .e1 _ _ => (.exit 0)
section
variable {M : Nat → Prop} {B0 : Nat} {S : World → Prop} (hU : Up M B0 S) (a0 : Option Addr) (p0 : Nat) (q0 : Nat) (n0 : Nat) (k0 : Nat) (A0 : Nat → Insn) (hR0 : Ro S c_Insn 5 a0 p0 q0 n0 A0)
include hU a0 p0 q0 n0 k0 A0 hR0
theorem w0_0_barbicanref1_Encode_L0 (h0 : (decide (0 < (n0 : Int))) = true) (h1 : (inR 0 n0) = true) (rb0 : Nat → BitVec 8) (e_rb0 : appL (fun _ => 0#8) 0 [((A0 0)).fOp, (((((A0 0)).fSrc % 16#8) * 16#8) + (((A0 0)).fDst % 16#8))] = rb0) (rb1 : Nat → BitVec 8) (e_rb1 : appL rb0 2 [((((A0 0)).fOff % 256#16).setWidth 8), ((((A0 0)).fOff / 256#16).setWidth 8)] = rb1) (rb2 : Nat → BitVec 8) (e_rb2 : updF (updF rb1 4 ((((A0 0)).fImm >>> 0).setWidth 8)) 5 ((((A0 0)).fImm >>> 8).setWidth 8) = rb2) (rb3 : Nat → BitVec 8) (e_rb3 : updF (updF rb2 6 ((((A0 0)).fImm >>> 16).setWidth 8)) 7 ((((A0 0)).fImm >>> 24).setWidth 8) = rb3) : GoesG Try.prog M B0 S bd_barbicanref1_Encode_L0 2 (fr_barbicanref1_Encode_L0 a0 p0 q0 n0 k0 A0 (.c0 )) (Hs_barbicanref1_Encode_L0 a0 p0 q0 n0 k0 A0 (.c0 )) .normal 0 (fr_barbicanref1_Encode_L0 a0 p0 q0 n0 k0 A0 (.c1 8 rb3 1)) (Hs_barbicanref1_Encode_L0 a0 p0 q0 n0 k0 A0 (.c1 8 rb3 1)) 2 :=
  goes_runG hU [.o, .o, .o, .b (z_lssT h0), .o, .o, .q (ixRo_ok (kd := .i64) (T := 22) (x := 0) (sz := 5) rfl (fun w => by kernel_rfl) hR0 h1), .l (accRo hR0 c_Insn_len (inR_nat h1) 0 [.int .u8 (nn ((A0 0)).fOp), .int .u8 (nn ((A0 0)).fDst), .int .u8 (nn ((A0 0)).fSrc), .int .i16 (ii ((A0 0)).fOff), .int .i32 (ii ((A0 0)).fImm)] rfl), .o, .a 2, .o, .o, .a 2, .o, .a 2, .ov (u8_rem Try.prog 5 (.tmp 23) (.const (.int .u8 (16))) ((A0 0)).fSrc (16#8) (by decide)), .v .u8 (u8_mul (((A0 0)).fSrc % 16#8) (16#8)), .o, .a 2, .ov (u8_rem Try.prog 5 (.tmp 27) (.const (.int .u8 (16))) ((A0 0)).fDst (16#8) (by decide)), .v .u8 (u8_add ((((A0 0)).fSrc % 16#8) * 16#8) (((A0 0)).fDst % 16#8)), .o, .x (sqAppL0r_ok (ty := 23) rt23 #[false, false] (f := cu8) (a0 := 0#8) (c := 2) [((A0 0)).fOp, (((((A0 0)).fSrc % 16#8) * 16#8) + (((A0 0)).fDst % 16#8))] (T' := 5) cu8_len cu8_one rfl rfl (by decide) e_rb0) [3], .o, .o, .a 2, .v .u16 (u16_of_i16 ((A0 0)).fOff), .o, .o, .o, .ov (u16_rem Try.prog 60 (.tmp 36) (.const (.int .u16 (256))) ((A0 0)).fOff (256#16) (by decide)), .v .u8 (u8_of_u16 (((A0 0)).fOff % 256#16)), .o, .ov (u16_quo Try.prog 60 (.tmp 39) (.const (.int .u16 (256))) ((A0 0)).fOff (256#16) (by decide)), .v .u8 (u8_of_u16 (((A0 0)).fOff / 256#16)), .o, .x (sqAppLr_ok (ty := 23) rt23 #[false, false] (f := cu8) (N := 2) (A := rb0) (c := 2) [((((A0 0)).fOff % 256#16).setWidth 8), ((((A0 0)).fOff / 256#16).setWidth 8)] (T' := 5) .row cu8_len cu8_one (by decide) rfl (by decide) e_rb1) [4, 5], .o, .o, .a 2, .v .u32 (u32_of_i32 ((A0 0)).fImm), .o, .o, .o, .o, .o, .o, .o, .o, .ov (u32_shr Try.prog 54 (.tmp 52) (.tmp 54) ((A0 0)).fImm 0 .i64 rfl), .v .u8 (u8_of_u32 (((A0 0)).fImm >>> 0)), .o, .x (sqAppL_ok (ty := 23) rt23 #[false, false] (f := cu8) (N := 4) (A := rb1) (c := 1) [((((A0 0)).fImm >>> 0).setWidth 8)] (T' := 5) .row cu8_len cu8_one (by decide) rfl (by decide)) [6, 7], .o, .o, .o, .o, .o, .o, .o, .o, .o, .o, .ov (u32_shr Try.prog 54 (.tmp 52) (.tmp 54) ((A0 0)).fImm 8 .i64 rfl), .v .u8 (u8_of_u32 (((A0 0)).fImm >>> 8)), .o, .x (sqAppLr_ok (ty := 23) rt23 #[false, false] (f := cu8) (N := 5) (A := updF rb1 4 ((((A0 0)).fImm >>> 0).setWidth 8)) (c := 1) [((((A0 0)).fImm >>> 8).setWidth 8)] (T' := 5) .row cu8_len cu8_one (by decide) rfl (by decide) e_rb2) [8, 9], .o, .o, .o, .o, .o, .o, .o, .o, .o, .o, .ov (u32_shr Try.prog 54 (.tmp 52) (.tmp 54) ((A0 0)).fImm 16 .i64 rfl), .v .u8 (u8_of_u32 (((A0 0)).fImm >>> 16)), .o, .x (sqAppL_ok (ty := 23) rt23 #[false, false] (f := cu8) (N := 6) (A := rb2) (c := 1) [((((A0 0)).fImm >>> 16).setWidth 8)] (T' := 5) .row cu8_len cu8_one (by decide) rfl (by decide)) [10, 11], .o, .o, .o, .o, .o, .o, .o, .o, .o, .o, .ov (u32_shr Try.prog 54 (.tmp 52) (.tmp 54) ((A0 0)).fImm 24 .i64 rfl), .v .u8 (u8_of_u32 (((A0 0)).fImm >>> 24)), .o, .x (sqAppLr_ok (ty := 23) rt23 #[false, false] (f := cu8) (N := 7) (A := updF rb2 6 ((((A0 0)).fImm >>> 16).setWidth 8)) (c := 1) [((((A0 0)).fImm >>> 24).setWidth 8)] (T' := 5) .row cu8_len cu8_one (by decide) rfl (by decide) e_rb3) [12, 13], .o, .o, .o, .o, .o, .o, .o, .o, .o] [14] (fun b => rfl) (by decide) rfl (fun b => by kernel_rfl)
theorem w0_2_barbicanref1_Encode_L0 (h0 : (decide (0 < (n0 : Int))) = false) : GoesG Try.prog M B0 S bd_barbicanref1_Encode_L0 2 (fr_barbicanref1_Encode_L0 a0 p0 q0 n0 k0 A0 (.c0 )) (Hs_barbicanref1_Encode_L0 a0 p0 q0 n0 k0 A0 (.c0 )) (.exit 0) 0 (vf_barbicanref1_Encode_L0 a0 p0 q0 n0 k0 A0 (.e0 )) (Hf_barbicanref1_Encode_L0 a0 p0 q0 n0 k0 A0 (.e0 )) 2 :=
  goes_runG hU [.o, .o, .o, .b (z_lssF h0)] [0] (fun b => rfl) (by decide) rfl (fun b => by kernel_rfl)
theorem w1_0_barbicanref1_Encode_L0 (s0_0 : Nat) (s0_1 : Nat → BitVec 8) (s0_2 : Int) (h0 : (decide (s0_2 < (n0 : Int))) = true) (h1 : (inR s0_2 n0) = true) (h2 : (decide (s0_0 ≤ 1000000)) = true) (rb0 : Nat → BitVec 8) (e_rb0 : appL s0_1 s0_0 [((A0 (s0_2).toNat)).fOp, (((((A0 (s0_2).toNat)).fSrc % 16#8) * 16#8) + (((A0 (s0_2).toNat)).fDst % 16#8))] = rb0) (h3 : (decide ((s0_0 + 2) ≤ 1000000)) = true) (rb1 : Nat → BitVec 8) (e_rb1 : appL rb0 (s0_0 + 2) [((((A0 (s0_2).toNat)).fOff % 256#16).setWidth 8), ((((A0 (s0_2).toNat)).fOff / 256#16).setWidth 8)] = rb1) (h4 : (decide (((s0_0 + 2) + 2) ≤ 1000000)) = true) (rb2 : Nat → BitVec 8) (e_rb2 : updF rb1 ((s0_0 + 2) + 2) ((((A0 (s0_2).toNat)).fImm >>> 0).setWidth 8) = rb2) (h5 : (decide ((((s0_0 + 2) + 2) + 1) ≤ 1000000)) = true) (rb3 : Nat → BitVec 8) (e_rb3 : updF rb2 (((s0_0 + 2) + 2) + 1) ((((A0 (s0_2).toNat)).fImm >>> 8).setWidth 8) = rb3) (h6 : (decide (((((s0_0 + 2) + 2) + 1) + 1) ≤ 1000000)) = true) (rb4 : Nat → BitVec 8) (e_rb4 : updF rb3 ((((s0_0 + 2) + 2) + 1) + 1) ((((A0 (s0_2).toNat)).fImm >>> 16).setWidth 8) = rb4) (h7 : (decide ((((((s0_0 + 2) + 2) + 1) + 1) + 1) ≤ 1000000)) = true) (rb5 : Nat → BitVec 8) (e_rb5 : updF rb4 (((((s0_0 + 2) + 2) + 1) + 1) + 1) ((((A0 (s0_2).toNat)).fImm >>> 24).setWidth 8) = rb5) : GoesG Try.prog M B0 S bd_barbicanref1_Encode_L0 2 (fr_barbicanref1_Encode_L0 a0 p0 q0 n0 k0 A0 (.c1 s0_0 s0_1 s0_2)) (Hs_barbicanref1_Encode_L0 a0 p0 q0 n0 k0 A0 (.c1 s0_0 s0_1 s0_2)) .normal 0 (fr_barbicanref1_Encode_L0 a0 p0 q0 n0 k0 A0 (.c1 ((((((s0_0 + 2) + 2) + 1) + 1) + 1) + 1) rb5 (IntKind.i64.wrap (s0_2 + 1)))) (Hs_barbicanref1_Encode_L0 a0 p0 q0 n0 k0 A0 (.c1 ((((((s0_0 + 2) + 2) + 1) + 1) + 1) + 1) rb5 (IntKind.i64.wrap (s0_2 + 1)))) 2 :=
  goes_runG hU [.o, .o, .o, .b (z_lssT h0), .o, .o, .q (ixRo_ok (kd := .i64) (T := 22) (x := s0_2) (sz := 5) rfl (fun w => by kernel_rfl) hR0 h1), .l (accRo hR0 c_Insn_len (inR_nat h1) 0 [.int .u8 (nn ((A0 (s0_2).toNat)).fOp), .int .u8 (nn ((A0 (s0_2).toNat)).fDst), .int .u8 (nn ((A0 (s0_2).toNat)).fSrc), .int .i16 (ii ((A0 (s0_2).toNat)).fOff), .int .i32 (ii ((A0 (s0_2).toNat)).fImm)] rfl), .o, .a 2, .o, .o, .a 2, .o, .a 2, .ov (u8_rem Try.prog 5 (.tmp 23) (.const (.int .u8 (16))) ((A0 (s0_2).toNat)).fSrc (16#8) (by decide)), .v .u8 (u8_mul (((A0 (s0_2).toNat)).fSrc % 16#8) (16#8)), .o, .a 2, .ov (u8_rem Try.prog 5 (.tmp 27) (.const (.int .u8 (16))) ((A0 (s0_2).toNat)).fDst (16#8) (by decide)), .v .u8 (u8_add ((((A0 (s0_2).toNat)).fSrc % 16#8) * 16#8) (((A0 (s0_2).toNat)).fDst % 16#8)), .o, .x (sqAppLr_ok (ty := 23) rt23 #[false, false] (f := cu8) (N := s0_0) (A := s0_1) (c := 2) [((A0 (s0_2).toNat)).fOp, (((((A0 (s0_2).toNat)).fSrc % 16#8) * 16#8) + (((A0 (s0_2).toNat)).fDst % 16#8))] (T' := 5) .row cu8_len cu8_one h2 rfl (by decide) e_rb0) [0, 3], .o, .o, .a 2, .v .u16 (u16_of_i16 ((A0 (s0_2).toNat)).fOff), .o, .o, .o, .ov (u16_rem Try.prog 60 (.tmp 36) (.const (.int .u16 (256))) ((A0 (s0_2).toNat)).fOff (256#16) (by decide)), .v .u8 (u8_of_u16 (((A0 (s0_2).toNat)).fOff % 256#16)), .o, .ov (u16_quo Try.prog 60 (.tmp 39) (.const (.int .u16 (256))) ((A0 (s0_2).toNat)).fOff (256#16) (by decide)), .v .u8 (u8_of_u16 (((A0 (s0_2).toNat)).fOff / 256#16)), .o, .x (sqAppLr_ok (ty := 23) rt23 #[false, false] (f := cu8) (N := (s0_0 + 2)) (A := rb0) (c := 2) [((((A0 (s0_2).toNat)).fOff % 256#16).setWidth 8), ((((A0 (s0_2).toNat)).fOff / 256#16).setWidth 8)] (T' := 5) .row cu8_len cu8_one h3 rfl (by decide) e_rb1) [4, 5], .o, .o, .a 2, .v .u32 (u32_of_i32 ((A0 (s0_2).toNat)).fImm), .o, .o, .o, .o, .o, .o, .o, .o, .ov (u32_shr Try.prog 54 (.tmp 52) (.tmp 54) ((A0 (s0_2).toNat)).fImm 0 .i64 rfl), .v .u8 (u8_of_u32 (((A0 (s0_2).toNat)).fImm >>> 0)), .o, .x (sqAppLr_ok (ty := 23) rt23 #[false, false] (f := cu8) (N := ((s0_0 + 2) + 2)) (A := rb1) (c := 1) [((((A0 (s0_2).toNat)).fImm >>> 0).setWidth 8)] (T' := 5) .row cu8_len cu8_one h4 rfl (by decide) e_rb2) [6, 7], .o, .o, .o, .o, .o, .o, .o, .o, .o, .o, .ov (u32_shr Try.prog 54 (.tmp 52) (.tmp 54) ((A0 (s0_2).toNat)).fImm 8 .i64 rfl), .v .u8 (u8_of_u32 (((A0 (s0_2).toNat)).fImm >>> 8)), .o, .x (sqAppLr_ok (ty := 23) rt23 #[false, false] (f := cu8) (N := (((s0_0 + 2) + 2) + 1)) (A := rb2) (c := 1) [((((A0 (s0_2).toNat)).fImm >>> 8).setWidth 8)] (T' := 5) .row cu8_len cu8_one h5 rfl (by decide) e_rb3) [8, 9], .o, .o, .o, .o, .o, .o, .o, .o, .o, .o, .ov (u32_shr Try.prog 54 (.tmp 52) (.tmp 54) ((A0 (s0_2).toNat)).fImm 16 .i64 rfl), .v .u8 (u8_of_u32 (((A0 (s0_2).toNat)).fImm >>> 16)), .o, .x (sqAppLr_ok (ty := 23) rt23 #[false, false] (f := cu8) (N := ((((s0_0 + 2) + 2) + 1) + 1)) (A := rb3) (c := 1) [((((A0 (s0_2).toNat)).fImm >>> 16).setWidth 8)] (T' := 5) .row cu8_len cu8_one h6 rfl (by decide) e_rb4) [10, 11], .o, .o, .o, .o, .o, .o, .o, .o, .o, .o, .ov (u32_shr Try.prog 54 (.tmp 52) (.tmp 54) ((A0 (s0_2).toNat)).fImm 24 .i64 rfl), .v .u8 (u8_of_u32 (((A0 (s0_2).toNat)).fImm >>> 24)), .o, .x (sqAppLr_ok (ty := 23) rt23 #[false, false] (f := cu8) (N := (((((s0_0 + 2) + 2) + 1) + 1) + 1)) (A := rb4) (c := 1) [((((A0 (s0_2).toNat)).fImm >>> 24).setWidth 8)] (T' := 5) .row cu8_len cu8_one h7 rfl (by decide) e_rb5) [12, 13], .o, .o, .o, .o, .o, .o, .o, .o, .o] [14] (fun b => rfl) (by decide) rfl (fun b => by kernel_rfl)
theorem w1_8_barbicanref1_Encode_L0 (s0_0 : Nat) (s0_1 : Nat → BitVec 8) (s0_2 : Int) (h0 : (decide (s0_2 < (n0 : Int))) = false) : GoesG Try.prog M B0 S bd_barbicanref1_Encode_L0 2 (fr_barbicanref1_Encode_L0 a0 p0 q0 n0 k0 A0 (.c1 s0_0 s0_1 s0_2)) (Hs_barbicanref1_Encode_L0 a0 p0 q0 n0 k0 A0 (.c1 s0_0 s0_1 s0_2)) (.exit 0) 0 (vf_barbicanref1_Encode_L0 a0 p0 q0 n0 k0 A0 (.e1 s0_0 s0_1)) (Hf_barbicanref1_Encode_L0 a0 p0 q0 n0 k0 A0 (.e1 s0_0 s0_1)) 2 :=
  goes_runG hU [.o, .o, .o, .b (z_lssF h0)] [0] (fun b => rfl) (by decide) rfl (fun b => by kernel_rfl)
theorem go_barbicanref1_Encode_L0 (s : Sh_barbicanref1_Encode_L0) (r : Ex_barbicanref1_Encode_L0) (h : lpO (st_barbicanref1_Encode_L0 n0 A0) s = some r) : GoesG Try.prog M B0 S (.loop bd_barbicanref1_Encode_L0) 2 (fr_barbicanref1_Encode_L0 a0 p0 q0 n0 k0 A0 s) (Hs_barbicanref1_Encode_L0 a0 p0 q0 n0 k0 A0 s) (ex_barbicanref1_Encode_L0 r) 0 (vf_barbicanref1_Encode_L0 a0 p0 q0 n0 k0 A0 r) (Hf_barbicanref1_Encode_L0 a0 p0 q0 n0 k0 A0 r) 2 :=
  goes_lpO (fun s q e => by
    cases s with
    | c0  =>
      unfold st_barbicanref1_Encode_L0 at e
      dsimp only at e
      replace e := cond_eq_or e
      rcases e with ⟨hq0, e⟩ | ⟨hq0, e⟩
      · replace e := cond_eq_or e
        rcases e with ⟨hq1, e⟩ | ⟨hq1, e⟩
        · replace e := bindT_eq e
          obtain ⟨rb0, e_rb0, e⟩ := e
          try dsimp only at e
          replace e := bindT_eq e
          obtain ⟨rb1, e_rb1, e⟩ := e
          try dsimp only at e
          replace e := bindT_eq e
          obtain ⟨rb2, e_rb2, e⟩ := e
          try dsimp only at e
          replace e := bindT_eq e
          obtain ⟨rb3, e_rb3, e⟩ := e
          try dsimp only at e
          cases e; exact w0_0_barbicanref1_Encode_L0 hU a0 p0 q0 n0 k0 A0 hR0  hq0 hq1 rb0 e_rb0 rb1 e_rb1 rb2 e_rb2 rb3 e_rb3
        · exact none_some e
      · cases e; exact ⟨ne_exit 0, w0_2_barbicanref1_Encode_L0 hU a0 p0 q0 n0 k0 A0 hR0  hq0⟩
    | c1 s0_0 s0_1 s0_2 =>
      unfold st_barbicanref1_Encode_L0 at e
      dsimp only at e
      replace e := cond_eq_or e
      rcases e with ⟨hq0, e⟩ | ⟨hq0, e⟩
      · replace e := cond_eq_or e
        rcases e with ⟨hq1, e⟩ | ⟨hq1, e⟩
        · replace e := cond_eq_or e
          rcases e with ⟨hq2, e⟩ | ⟨hq2, e⟩
          · replace e := bindT_eq e
            obtain ⟨rb0, e_rb0, e⟩ := e
            try dsimp only at e
            replace e := cond_eq_or e
            rcases e with ⟨hq3, e⟩ | ⟨hq3, e⟩
            · replace e := bindT_eq e
              obtain ⟨rb1, e_rb1, e⟩ := e
              try dsimp only at e
              replace e := cond_eq_or e
              rcases e with ⟨hq4, e⟩ | ⟨hq4, e⟩
              · replace e := bindT_eq e
                obtain ⟨rb2, e_rb2, e⟩ := e
                try dsimp only at e
                replace e := cond_eq_or e
                rcases e with ⟨hq5, e⟩ | ⟨hq5, e⟩
                · replace e := bindT_eq e
                  obtain ⟨rb3, e_rb3, e⟩ := e
                  try dsimp only at e
                  replace e := cond_eq_or e
                  rcases e with ⟨hq6, e⟩ | ⟨hq6, e⟩
                  · replace e := bindT_eq e
                    obtain ⟨rb4, e_rb4, e⟩ := e
                    try dsimp only at e
                    replace e := cond_eq_or e
                    rcases e with ⟨hq7, e⟩ | ⟨hq7, e⟩
                    · replace e := bindT_eq e
                      obtain ⟨rb5, e_rb5, e⟩ := e
                      try dsimp only at e
                      cases e; exact w1_0_barbicanref1_Encode_L0 hU a0 p0 q0 n0 k0 A0 hR0 s0_0 s0_1 s0_2 hq0 hq1 hq2 rb0 e_rb0 hq3 rb1 e_rb1 hq4 rb2 e_rb2 hq5 rb3 e_rb3 hq6 rb4 e_rb4 hq7 rb5 e_rb5
                    · exact none_some e
                  · exact none_some e
                · exact none_some e
              · exact none_some e
            · exact none_some e
          · exact none_some e
        · exact none_some e
      · cases e; exact ⟨ne_exit 0, w1_8_barbicanref1_Encode_L0 hU a0 p0 q0 n0 k0 A0 hR0 s0_0 s0_1 s0_2 hq0⟩) s r h
def t0_barbicanref1_Encode_L0_0 (a0 : Option Addr) (p0 : Nat) (q0 : Nat) (n0 : Nat) (k0 : Nat) (A0 : Nat → Insn)  (ls : List L1) : List Value := [.slice a0 n0 (n0 + k0), undef, .slice none 0 0, .slice none 0 0, .int .i64 (0), undef, undef, undef, undef, undef, undef, undef, undef, undef, undef, undef, undef, undef, undef, undef, undef, undef, undef, undef, undef, undef, undef, undef, undef, undef, undef, undef, undef, undef, undef, undef, undef, undef, undef, undef, undef, undef, undef, undef, undef, undef, undef, undef, undef, undef, undef, undef, undef, undef, undef, undef, undef, undef, undef, undef]
def pre_barbicanref1_Encode_L0_0 (a0 : Option Addr) (p0 : Nat) (q0 : Nat) (n0 : Nat) (k0 : Nat) (A0 : Nat → Insn)  (ls : List L1) : List Obj := []
theorem sp0_barbicanref1_Encode_L0_0_ok (h : lpO (st_barbicanref1_Encode_L0 n0 A0) (.c0) = some (.e0 )) : SpcG Try.prog M B0 S ⟨fun ls => .code (.loop bd_barbicanref1_Encode_L0) (t0_barbicanref1_Encode_L0_0 a0 p0 q0 n0 k0 A0  ls), pre_barbicanref1_Encode_L0_0 a0 p0 q0 n0 k0 A0 , 2, (.exit 0), fun ls => vf_barbicanref1_Encode_L0 a0 p0 q0 n0 k0 A0 (.e0 ) (ls.take 0 ++ ls.drop 0), fun ls => (Hf_barbicanref1_Encode_L0 a0 p0 q0 n0 k0 A0 (.e0 ) (ls.take 0 ++ ls.drop 0)).take 0 ++ List.replicate 0 unb, fun ls => (Hf_barbicanref1_Encode_L0 a0 p0 q0 n0 k0 A0 (.e0 ) (ls.take 0 ++ ls.drop 0)).drop 0⟩ :=
  spc_of_goesG hU 1 (k0 := 0) (go_barbicanref1_Encode_L0 hU a0 p0 q0 n0 k0 A0 hR0 _ _ h) (t0_barbicanref1_Encode_L0_0 a0 p0 q0 n0 k0 A0 ) (pre_barbicanref1_Encode_L0_0 a0 p0 q0 n0 k0 A0 ) (fun _ => rfl) (fun ls h => by match ls, h with | [], _ => rfl) (fun ls h => by match ls, h with | [], _ => rfl) (by decide) (by decide) (fun ls => rfl)
theorem sp1_barbicanref1_Encode_L0_0_ok (c1_0 : Nat) (c1_1 : Nat → BitVec 8) (h : lpO (st_barbicanref1_Encode_L0 n0 A0) (.c0) = some (.e1 c1_0 c1_1)) : SpcG Try.prog M B0 S ⟨fun ls => .code (.loop bd_barbicanref1_Encode_L0) (t0_barbicanref1_Encode_L0_0 a0 p0 q0 n0 k0 A0  ls), pre_barbicanref1_Encode_L0_0 a0 p0 q0 n0 k0 A0 , 2, (.exit 0), fun ls => vf_barbicanref1_Encode_L0 a0 p0 q0 n0 k0 A0 (.e1 c1_0 c1_1) (ls.take 0 ++ ls.drop 0), fun ls => (Hf_barbicanref1_Encode_L0 a0 p0 q0 n0 k0 A0 (.e1 c1_0 c1_1) (ls.take 0 ++ ls.drop 0)).take 0 ++ List.replicate 0 unb, fun ls => (Hf_barbicanref1_Encode_L0 a0 p0 q0 n0 k0 A0 (.e1 c1_0 c1_1) (ls.take 0 ++ ls.drop 0)).drop 0⟩ :=
  spc_of_goesG hU 1 (k0 := 0) (go_barbicanref1_Encode_L0 hU a0 p0 q0 n0 k0 A0 hR0 _ _ h) (t0_barbicanref1_Encode_L0_0 a0 p0 q0 n0 k0 A0 ) (pre_barbicanref1_Encode_L0_0 a0 p0 q0 n0 k0 A0 ) (fun _ => rfl) (fun ls h => by match ls, h with | [], _ => rfl) (fun ls h => by match ls, h with | [], _ => rfl) (by decide) (by decide) (fun ls => rfl)
inductive R_barbicanref1_Encode where
  | e0 
  | e1 (c1_0 : Nat) (c1_1 : Nat → BitVec 8)
noncomputable def m_barbicanref1_Encode (n0 : Nat) (A0 : Nat → Insn) : Option R_barbicanref1_Encode :=
  (lpO (st_barbicanref1_Encode_L0 n0 A0) (.c0)).bind fun g0 => match g0 with
  | .e0  => (some (.e0))
  | .e1 g0_0 g0_1 => (some (.e1 g0_0 g0_1))
def sq0_barbicanref1_Encode (a0 : Option Addr) (p0 : Nat) (q0 : Nat) (n0 : Nat) (k0 : Nat) (A0 : Nat → Insn)  : Spc := ⟨fun ls => .call 13 #[.slice a0 n0 (n0 + k0)], fun ls => [], 0, .normal, fun ls => [.slice none 0 0], fun ls => [], fun ls => []⟩
def sq1_barbicanref1_Encode (a0 : Option Addr) (p0 : Nat) (q0 : Nat) (n0 : Nat) (k0 : Nat) (A0 : Nat → Insn) (c1_0 : Nat) (c1_1 : Nat → BitVec 8) : Spc := ⟨fun ls => .call 13 #[.slice a0 n0 (n0 + k0)], fun ls => [], 1, .normal, fun ls => [(rowV (lget ls 0) c1_0 1)], fun ls => [], fun ls => [rowO (lget ls 0) (esG cu8 c1_0 c1_1) 5 c1_0 1]⟩
theorem p0_barbicanref1_Encode (e_g0 : lpO (st_barbicanref1_Encode_L0 n0 A0) (.c0) = some (.e0 )) : SpcG Try.prog M B0 S (sq0_barbicanref1_Encode a0 p0 q0 n0 k0 A0 ) :=
  fn_specG hU (P := Try.prog) Try.func13 (fun xs w => by kernel_rfl) 0 _ _ (fun _ => rfl) _ _ _ []
    [.o, .o, .o, .cp, .cx (sp0_barbicanref1_Encode_L0_0_ok hU a0 p0 q0 n0 k0 A0 hR0   e_g0) [], .o, .o]
    [] (fun b => by kernel_rfl)
theorem p1_barbicanref1_Encode (g0_0 : Nat) (g0_1 : Nat → BitVec 8) (e_g0 : lpO (st_barbicanref1_Encode_L0 n0 A0) (.c0) = some (.e1 g0_0 g0_1)) : SpcG Try.prog M B0 S (sq1_barbicanref1_Encode a0 p0 q0 n0 k0 A0 g0_0 g0_1) :=
  fn_specG hU (P := Try.prog) Try.func13 (fun xs w => by kernel_rfl) 0 _ _ (fun _ => rfl) _ _ _ [0]
    [.o, .o, .o, .cp, .cx (sp1_barbicanref1_Encode_L0_0_ok hU a0 p0 q0 n0 k0 A0 hR0  g0_0 g0_1 e_g0) [], .o, .o]
    [] (fun b => by kernel_rfl)
theorem ok0_barbicanref1_Encode (e : m_barbicanref1_Encode n0 A0 = some (.e0 )) : SpcG Try.prog M B0 S (sq0_barbicanref1_Encode a0 p0 q0 n0 k0 A0 ) := by
  unfold m_barbicanref1_Encode at e
  replace e := bindO_eq e
  obtain ⟨g0, e_g0, e⟩ := e
  rcases g0 with _ | ⟨g0_0, g0_1⟩
  · try dsimp only at e
    exact p0_barbicanref1_Encode hU a0 p0 q0 n0 k0 A0 hR0 e_g0
  · try dsimp only at e
    cases e
theorem ok1_barbicanref1_Encode (c1_0 : Nat) (c1_1 : Nat → BitVec 8) (e : m_barbicanref1_Encode n0 A0 = some (.e1 c1_0 c1_1)) : SpcG Try.prog M B0 S (sq1_barbicanref1_Encode a0 p0 q0 n0 k0 A0 c1_0 c1_1) := by
  unfold m_barbicanref1_Encode at e
  replace e := bindO_eq e
  obtain ⟨g0, e_g0, e⟩ := e
  rcases g0 with _ | ⟨g0_0, g0_1⟩
  · try dsimp only at e
    cases e
  · try dsimp only at e
    injection e with e; injection e with i0 i1; subst i0 i1; exact p1_barbicanref1_Encode hU a0 p0 q0 n0 k0 A0 hR0 g0_0 g0_1 e_g0
inductive Sh_barbicanref1_Decode_L0 where
  | c0 
  | c1 (s0_0 : Nat) (s0_1 : Nat → Insn) (s0_2 : Int)
inductive Ex_barbicanref1_Decode_L0 where
  | e0 
  | e1 (c1_0 : Nat) (c1_1 : Nat → Insn)
noncomputable def st_barbicanref1_Decode_L0 (n0 : Nat) (A0 : Nat → BitVec 8) : Sh_barbicanref1_Decode_L0 → Option (Sh_barbicanref1_Decode_L0 ⊕ Ex_barbicanref1_Decode_L0)
  | .c0  =>
    bif decide (0 < (n0 : Int)) then
      (bif inR 0 n0 then
        (bif inR 1 n0 then
          (bif inR 2 n0 then
            (bif inR 3 n0 then
              (bif inR 7 n0 then
                (bif inR 6 n0 then
                  (bif inR 5 n0 then
                    (bif inR 4 n0 then
                      (some (.inl (.c1 1 (fun _ => (⟨(A0 0), ((A0 1) % 16#8), ((A0 1) / 16#8), (((A0 2).setWidth 16) + (256#16 * ((A0 3).setWidth 16))), ((256#32 * ((256#32 * ((256#32 * (0#32 + ((A0 7).setWidth 32))) + ((A0 6).setWidth 32))) + ((A0 5).setWidth 32))) + ((A0 4).setWidth 32))⟩ : Insn)) 8)))
                    else (none))
                  else (none))
                else (none))
              else (none))
            else (none))
          else (none))
        else (none))
      else (none))
    else (some (.inr (.e0 )))
  | .c1 s0_0 s0_1 s0_2 =>
    bif decide (s0_2 < (n0 : Int)) then
      (bif inR s0_2 n0 then
        (bif inR (IntKind.i64.wrap (s0_2 + 1)) n0 then
          (bif inR (IntKind.i64.wrap (s0_2 + 2)) n0 then
            (bif inR (IntKind.i64.wrap (s0_2 + 3)) n0 then
              (bif inR (IntKind.i64.wrap ((IntKind.i64.wrap (s0_2 + 4)) + 3)) n0 then
                (bif inR (IntKind.i64.wrap ((IntKind.i64.wrap (s0_2 + 4)) + 2)) n0 then
                  (bif inR (IntKind.i64.wrap ((IntKind.i64.wrap (s0_2 + 4)) + 1)) n0 then
                    (bif inR (IntKind.i64.wrap ((IntKind.i64.wrap (s0_2 + 4)) + 0)) n0 then
                      (bif decide (s0_0 ≤ 1000000) then
                        (bindT (updF s0_1 s0_0 (⟨(A0 (s0_2).toNat), ((A0 ((IntKind.i64.wrap (s0_2 + 1))).toNat) % 16#8), ((A0 ((IntKind.i64.wrap (s0_2 + 1))).toNat) / 16#8), (((A0 ((IntKind.i64.wrap (s0_2 + 2))).toNat).setWidth 16) + (256#16 * ((A0 ((IntKind.i64.wrap (s0_2 + 3))).toNat).setWidth 16))), ((256#32 * ((256#32 * ((256#32 * (0#32 + ((A0 ((IntKind.i64.wrap ((IntKind.i64.wrap (s0_2 + 4)) + 3))).toNat).setWidth 32))) + ((A0 ((IntKind.i64.wrap ((IntKind.i64.wrap (s0_2 + 4)) + 2))).toNat).setWidth 32))) + ((A0 ((IntKind.i64.wrap ((IntKind.i64.wrap (s0_2 + 4)) + 1))).toNat).setWidth 32))) + ((A0 ((IntKind.i64.wrap ((IntKind.i64.wrap (s0_2 + 4)) + 0))).toNat).setWidth 32))⟩ : Insn)) fun rb0 =>
                        some (.inl (.c1 (s0_0 + 1) rb0 (IntKind.i64.wrap (s0_2 + 8)))))
                      else (none))
                    else (none))
                  else (none))
                else (none))
              else (none))
            else (none))
          else (none))
        else (none))
      else (none))
    else (some (.inr (.e1 s0_0 s0_1)))
noncomputable def bd_barbicanref1_Decode_L0 : Code := codeOf Try.f15 [1, 1, 1, 0, 1, 0, 0]
def fr_barbicanref1_Decode_L0 (a0 : Option Addr) (p0 : Nat) (q0 : Nat) (n0 : Nat) (k0 : Nat) (A0 : Nat → BitVec 8) : Sh_barbicanref1_Decode_L0 → List L1 → List Value
  | .c0 , ls => [.slice a0 n0 (n0 + k0), ((lget ls 1).u 1), .slice none 0 0, .int .i64 (0), .slice none 0 0, .int .i64 (0), ((lget ls 1).u 6), ((lget ls 1).u 7), ((lget ls 1).u 8), ((lget ls 1).u 9), ((lget ls 1).u 10), ((lget ls 1).u 11), ((lget ls 1).u 12), ((lget ls 1).u 13), ((lget ls 1).u 14), ((lget ls 1).u 15), ((lget ls 1).u 16), ((lget ls 1).u 17), ((lget ls 1).u 18), ((lget ls 1).u 19), ((lget ls 1).u 20), ((lget ls 1).u 21), ((lget ls 1).u 22), ((lget ls 1).u 23), ((lget ls 1).u 24), ((lget ls 1).u 25), ((lget ls 1).u 26), ((lget ls 1).u 27), ((lget ls 1).u 28), ((lget ls 1).u 29), ((lget ls 1).u 30), ((lget ls 1).u 31), ((lget ls 1).u 32), ((lget ls 1).u 33), ((lget ls 1).u 34), ((lget ls 1).u 35), ((lget ls 1).u 36), ((lget ls 1).u 37), ((lget ls 1).u 38), ((lget ls 1).u 39), ((lget ls 1).u 40), ((lget ls 1).u 41), ((lget ls 1).u 42), ((lget ls 1).u 43), ((lget ls 1).u 44), ((lget ls 1).u 45), ((lget ls 1).u 46), ((lget ls 1).u 47), ((lget ls 1).u 48), ((lget ls 1).u 49), ((lget ls 1).u 50), ((lget ls 1).u 51), ((lget ls 1).u 52), ((lget ls 1).u 53), ((lget ls 1).u 54), ((lget ls 1).u 55), ((lget ls 1).u 56), ((lget ls 1).u 57), ((lget ls 1).u 58), ((lget ls 1).u 59), ((lget ls 1).u 60), ((lget ls 1).u 61), ((lget ls 1).u 62), ((lget ls 1).u 63), ((lget ls 1).u 64), ((lget ls 1).u 65), ((lget ls 1).u 66), ((lget ls 1).u 67), ((lget ls 1).u 68), ((lget ls 1).u 69), ((lget ls 1).u 70), ((lget ls 1).u 71), ((lget ls 1).u 72), ((lget ls 1).u 73), undef]
  | .c1 s0_0 s0_1 s0_2, ls => [.slice a0 n0 (n0 + k0), ((lget ls 1).u 1), .slice none 0 0, .int .i64 (0), (rowV (lget ls 0) s0_0 5), .int .i64 (s0_2), ((lget ls 1).u 6), ((lget ls 1).u 7), ((lget ls 1).u 8), ((lget ls 1).u 9), ((lget ls 1).u 10), ((lget ls 1).u 11), ((lget ls 1).u 12), ((lget ls 1).u 13), ((lget ls 1).u 14), ((lget ls 1).u 15), ((lget ls 1).u 16), ((lget ls 1).u 17), ((lget ls 1).u 18), ((lget ls 1).u 19), ((lget ls 1).u 20), ((lget ls 1).u 21), ((lget ls 1).u 22), ((lget ls 1).u 23), ((lget ls 1).u 24), ((lget ls 1).u 25), ((lget ls 1).u 26), ((lget ls 1).u 27), ((lget ls 1).u 28), ((lget ls 1).u 29), ((lget ls 1).u 30), ((lget ls 1).u 31), ((lget ls 1).u 32), ((lget ls 1).u 33), ((lget ls 1).u 34), ((lget ls 1).u 35), ((lget ls 1).u 36), ((lget ls 1).u 37), ((lget ls 1).u 38), ((lget ls 1).u 39), ((lget ls 1).u 40), ((lget ls 1).u 41), ((lget ls 1).u 42), ((lget ls 1).u 43), ((lget ls 1).u 44), ((lget ls 1).u 45), ((lget ls 1).u 46), ((lget ls 1).u 47), ((lget ls 1).u 48), ((lget ls 1).u 49), ((lget ls 1).u 50), ((lget ls 1).u 51), ((lget ls 1).u 52), ((lget ls 1).u 53), ((lget ls 1).u 54), ((lget ls 1).u 55), ((lget ls 1).u 56), ((lget ls 1).u 57), ((lget ls 1).u 58), ((lget ls 1).u 59), ((lget ls 1).u 60), ((lget ls 1).u 61), ((lget ls 1).u 62), ((lget ls 1).u 63), ((lget ls 1).u 64), ((lget ls 1).u 65), ((lget ls 1).u 66), ((lget ls 1).u 67), ((lget ls 1).u 68), ((lget ls 1).u 69), ((lget ls 1).u 70), ((lget ls 1).u 71), ((lget ls 1).u 72), ((lget ls 1).u 73), undef]
def Hs_barbicanref1_Decode_L0 (a0 : Option Addr) (p0 : Nat) (q0 : Nat) (n0 : Nat) (k0 : Nat) (A0 : Nat → BitVec 8) : Sh_barbicanref1_Decode_L0 → List L1 → List Obj
  | .c0 , ls => [unb, unb]
  | .c1 s0_0 s0_1 s0_2, ls => [rowO (lget ls 0) (esG c_Insn s0_0 s0_1) 35 s0_0 5, unb]
def vf_barbicanref1_Decode_L0 (a0 : Option Addr) (p0 : Nat) (q0 : Nat) (n0 : Nat) (k0 : Nat) (A0 : Nat → BitVec 8) : Ex_barbicanref1_Decode_L0 → List L1 → List Value
  | .e0 , ls => [.slice a0 n0 (n0 + k0), ((lget ls 1).u 1), .slice none 0 0, .int .i64 (0), .slice none 0 0, ((lget ls 1).u 5), ((lget ls 1).u 6), ((lget ls 1).u 7), ((lget ls 1).u 8), ((lget ls 1).u 9), ((lget ls 1).u 10), ((lget ls 1).u 11), ((lget ls 1).u 12), ((lget ls 1).u 13), ((lget ls 1).u 14), ((lget ls 1).u 15), ((lget ls 1).u 16), ((lget ls 1).u 17), ((lget ls 1).u 18), ((lget ls 1).u 19), ((lget ls 1).u 20), ((lget ls 1).u 21), ((lget ls 1).u 22), ((lget ls 1).u 23), ((lget ls 1).u 24), ((lget ls 1).u 25), ((lget ls 1).u 26), ((lget ls 1).u 27), ((lget ls 1).u 28), ((lget ls 1).u 29), ((lget ls 1).u 30), ((lget ls 1).u 31), ((lget ls 1).u 32), ((lget ls 1).u 33), ((lget ls 1).u 34), ((lget ls 1).u 35), ((lget ls 1).u 36), ((lget ls 1).u 37), ((lget ls 1).u 38), ((lget ls 1).u 39), ((lget ls 1).u 40), ((lget ls 1).u 41), ((lget ls 1).u 42), ((lget ls 1).u 43), ((lget ls 1).u 44), ((lget ls 1).u 45), ((lget ls 1).u 46), ((lget ls 1).u 47), ((lget ls 1).u 48), ((lget ls 1).u 49), ((lget ls 1).u 50), ((lget ls 1).u 51), ((lget ls 1).u 52), ((lget ls 1).u 53), ((lget ls 1).u 54), ((lget ls 1).u 55), ((lget ls 1).u 56), ((lget ls 1).u 57), ((lget ls 1).u 58), ((lget ls 1).u 59), ((lget ls 1).u 60), ((lget ls 1).u 61), ((lget ls 1).u 62), ((lget ls 1).u 63), ((lget ls 1).u 64), ((lget ls 1).u 65), ((lget ls 1).u 66), ((lget ls 1).u 67), ((lget ls 1).u 68), ((lget ls 1).u 69), ((lget ls 1).u 70), ((lget ls 1).u 71), ((lget ls 1).u 72), ((lget ls 1).u 73), undef]
  | .e1 c1_0 c1_1, ls => [.slice a0 n0 (n0 + k0), ((lget ls 1).u 1), .slice none 0 0, .int .i64 (0), (rowV (lget ls 0) c1_0 5), ((lget ls 1).u 5), ((lget ls 1).u 6), ((lget ls 1).u 7), ((lget ls 1).u 8), ((lget ls 1).u 9), ((lget ls 1).u 10), ((lget ls 1).u 11), ((lget ls 1).u 12), ((lget ls 1).u 13), ((lget ls 1).u 14), ((lget ls 1).u 15), ((lget ls 1).u 16), ((lget ls 1).u 17), ((lget ls 1).u 18), ((lget ls 1).u 19), ((lget ls 1).u 20), ((lget ls 1).u 21), ((lget ls 1).u 22), ((lget ls 1).u 23), ((lget ls 1).u 24), ((lget ls 1).u 25), ((lget ls 1).u 26), ((lget ls 1).u 27), ((lget ls 1).u 28), ((lget ls 1).u 29), ((lget ls 1).u 30), ((lget ls 1).u 31), ((lget ls 1).u 32), ((lget ls 1).u 33), ((lget ls 1).u 34), ((lget ls 1).u 35), ((lget ls 1).u 36), ((lget ls 1).u 37), ((lget ls 1).u 38), ((lget ls 1).u 39), ((lget ls 1).u 40), ((lget ls 1).u 41), ((lget ls 1).u 42), ((lget ls 1).u 43), ((lget ls 1).u 44), ((lget ls 1).u 45), ((lget ls 1).u 46), ((lget ls 1).u 47), ((lget ls 1).u 48), ((lget ls 1).u 49), ((lget ls 1).u 50), ((lget ls 1).u 51), ((lget ls 1).u 52), ((lget ls 1).u 53), ((lget ls 1).u 54), ((lget ls 1).u 55), ((lget ls 1).u 56), ((lget ls 1).u 57), ((lget ls 1).u 58), ((lget ls 1).u 59), ((lget ls 1).u 60), ((lget ls 1).u 61), ((lget ls 1).u 62), ((lget ls 1).u 63), ((lget ls 1).u 64), ((lget ls 1).u 65), ((lget ls 1).u 66), ((lget ls 1).u 67), ((lget ls 1).u 68), ((lget ls 1).u 69), ((lget ls 1).u 70), ((lget ls 1).u 71), ((lget ls 1).u 72), ((lget ls 1).u 73), undef]
def Hf_barbicanref1_Decode_L0 (a0 : Option Addr) (p0 : Nat) (q0 : Nat) (n0 : Nat) (k0 : Nat) (A0 : Nat → BitVec 8) : Ex_barbicanref1_Decode_L0 → List L1 → List Obj
  | .e0 , ls => [unb, unb]
  | .e1 c1_0 c1_1, ls => [rowO (lget ls 0) (esG c_Insn c1_0 c1_1) 35 c1_0 5, unb]
def ex_barbicanref1_Decode_L0 : Ex_barbicanref1_Decode_L0 → Ex
  | .e0  => (.exit 0)
  | .e1 _ _ => (.exit 0)
end
section
variable {M : Nat → Prop} {B0 : Nat} {S : World → Prop} (hU : Up M B0 S) (a0 : Option Addr) (p0 : Nat) (q0 : Nat) (n0 : Nat) (k0 : Nat) (A0 : Nat → BitVec 8) (hR0 : Ro S cu8 1 a0 p0 q0 n0 A0)
include hU a0 p0 q0 n0 k0 A0 hR0
theorem w0_0_barbicanref1_Decode_L0 (h0 : (decide (0 < (n0 : Int))) = true) (h1 : (inR 0 n0) = true) (h2 : (inR 1 n0) = true) (h3 : (inR 2 n0) = true) (h4 : (inR 3 n0) = true) (h5 : (inR 7 n0) = true) (h6 : (inR 6 n0) = true) (h7 : (inR 5 n0) = true) (h8 : (inR 4 n0) = true) : GoesG Try.prog M B0 S bd_barbicanref1_Decode_L0 2 (fr_barbicanref1_Decode_L0 a0 p0 q0 n0 k0 A0 (.c0 )) (Hs_barbicanref1_Decode_L0 a0 p0 q0 n0 k0 A0 (.c0 )) .normal 0 (fr_barbicanref1_Decode_L0 a0 p0 q0 n0 k0 A0 (.c1 1 (fun _ => (⟨(A0 0), ((A0 1) % 16#8), ((A0 1) / 16#8), (((A0 2).setWidth 16) + (256#16 * ((A0 3).setWidth 16))), ((256#32 * ((256#32 * ((256#32 * (0#32 + ((A0 7).setWidth 32))) + ((A0 6).setWidth 32))) + ((A0 5).setWidth 32))) + ((A0 4).setWidth 32))⟩ : Insn)) 8)) (Hs_barbicanref1_Decode_L0 a0 p0 q0 n0 k0 A0 (.c1 1 (fun _ => (⟨(A0 0), ((A0 1) % 16#8), ((A0 1) / 16#8), (((A0 2).setWidth 16) + (256#16 * ((A0 3).setWidth 16))), ((256#32 * ((256#32 * ((256#32 * (0#32 + ((A0 7).setWidth 32))) + ((A0 6).setWidth 32))) + ((A0 5).setWidth 32))) + ((A0 4).setWidth 32))⟩ : Insn)) 8)) 2 :=
  goes_runG hU [.o, .o, .o, .b (z_lssT h0), .r [0, 1, 2, 3, 4, 5, 6, 7, 8, 9, 10, 11, 12, 13, 14, 15, 16] [17] [18], .o, .o, .q (ixRo_ok (kd := .i64) (T := 23) (x := 0) (sz := 1) rfl (fun w => by kernel_rfl) hR0 h1), .l (accRo hR0 cu8_len (inR_nat h1) 0 [.int .u8 (nn (A0 0))] rfl), .o, .o, .o, .q (ixRo_ok (kd := .i64) (T := 23) (x := 1) (sz := 1) rfl (fun w => by kernel_rfl) hR0 h2), .l (accRo hR0 cu8_len (inR_nat h2) 0 [.int .u8 (nn (A0 1))] rfl), .ov (u8_rem Try.prog 5 (.tmp 27) (.const (.int .u8 (16))) (A0 1) (16#8) (by decide)), .o, .o, .o, .q (ixRo_ok (kd := .i64) (T := 23) (x := 1) (sz := 1) rfl (fun w => by kernel_rfl) hR0 h2), .l (accRo hR0 cu8_len (inR_nat h2) 0 [.int .u8 (nn (A0 1))] rfl), .ov (u8_quo Try.prog 5 (.tmp 33) (.const (.int .u8 (16))) (A0 1) (16#8) (by decide)), .o, .a 2, .r [0, 1, 2, 3, 4, 5, 6, 7, 8, 9, 10, 11, 12, 13, 14, 15] [] [16], .o, .o, .o, .q (ixRo_ok (kd := .i64) (T := 23) (x := 2) (sz := 1) rfl (fun w => by kernel_rfl) hR0 h3), .l (accRo hR0 cu8_len (inR_nat h3) 0 [.int .u8 (nn (A0 2))] rfl), .v .u16 (u16_of_u8 (A0 2)), .o, .o, .o, .q (ixRo_ok (kd := .i64) (T := 23) (x := 3) (sz := 1) rfl (fun w => by kernel_rfl) hR0 h4), .l (accRo hR0 cu8_len (inR_nat h4) 0 [.int .u8 (nn (A0 3))] rfl), .v .u16 (u16_of_u8 (A0 3)), .v .u16 (u16_mul (256#16) ((A0 3).setWidth 16)), .v .u16 (u16_add ((A0 2).setWidth 16) (256#16 * ((A0 3).setWidth 16))), .v .i16 (i16_of_u16 (((A0 2).setWidth 16) + (256#16 * ((A0 3).setWidth 16)))), .o, .a 2, .o, .o, .o, .o, .o, .o, .o, .o, .o, .o, .o, .q (ixRo_ok (kd := .i64) (T := 23) (x := 7) (sz := 1) rfl (fun w => by kernel_rfl) hR0 h5), .l (accRo hR0 cu8_len (inR_nat h5) 0 [.int .u8 (nn (A0 7))] rfl), .v .u32 (u32_of_u8 (A0 7)), .v .u32 (u32_add (0#32) ((A0 7).setWidth 32)), .o, .o, .o, .o, .o, .o, .o, .v .u32 (u32_mul (256#32) (0#32 + ((A0 7).setWidth 32))), .o, .o, .o, .o, .o, .q (ixRo_ok (kd := .i64) (T := 23) (x := 6) (sz := 1) rfl (fun w => by kernel_rfl) hR0 h6), .l (accRo hR0 cu8_len (inR_nat h6) 0 [.int .u8 (nn (A0 6))] rfl), .v .u32 (u32_of_u8 (A0 6)), .v .u32 (u32_add (256#32 * (0#32 + ((A0 7).setWidth 32))) ((A0 6).setWidth 32)), .o, .o, .o, .o, .o, .o, .o, .v .u32 (u32_mul (256#32) ((256#32 * (0#32 + ((A0 7).setWidth 32))) + ((A0 6).setWidth 32))), .o, .o, .o, .o, .o, .q (ixRo_ok (kd := .i64) (T := 23) (x := 5) (sz := 1) rfl (fun w => by kernel_rfl) hR0 h7), .l (accRo hR0 cu8_len (inR_nat h7) 0 [.int .u8 (nn (A0 5))] rfl), .v .u32 (u32_of_u8 (A0 5)), .v .u32 (u32_add (256#32 * ((256#32 * (0#32 + ((A0 7).setWidth 32))) + ((A0 6).setWidth 32))) ((A0 5).setWidth 32)), .o, .o, .o, .o, .o, .o, .o, .v .u32 (u32_mul (256#32) ((256#32 * ((256#32 * (0#32 + ((A0 7).setWidth 32))) + ((A0 6).setWidth 32))) + ((A0 5).setWidth 32))), .o, .o, .o, .o, .o, .q (ixRo_ok (kd := .i64) (T := 23) (x := 4) (sz := 1) rfl (fun w => by kernel_rfl) hR0 h8), .l (accRo hR0 cu8_len (inR_nat h8) 0 [.int .u8 (nn (A0 4))] rfl), .v .u32 (u32_of_u8 (A0 4)), .v .u32 (u32_add (256#32 * ((256#32 * ((256#32 * (0#32 + ((A0 7).setWidth 32))) + ((A0 6).setWidth 32))) + ((A0 5).setWidth 32))) ((A0 4).setWidth 32)), .o, .o, .o, .o, .o, .o, .o, .v .i32 (i32_of_u32 ((256#32 * ((256#32 * ((256#32 * (0#32 + ((A0 7).setWidth 32))) + ((A0 6).setWidth 32))) + ((A0 5).setWidth 32))) + ((A0 4).setWidth 32))), .o, .a 2, .o, .a 2, .o, .x (sqAppL1_ok (ty := 22) rt22 #[false, false] (f := c_Insn) (c := 1) (⟨(A0 0), ((A0 1) % 16#8), ((A0 1) / 16#8), (((A0 2).setWidth 16) + (256#16 * ((A0 3).setWidth 16))), ((256#32 * ((256#32 * ((256#32 * (0#32 + ((A0 7).setWidth 32))) + ((A0 6).setWidth 32))) + ((A0 5).setWidth 32))) + ((A0 4).setWidth 32))⟩ : Insn) (T' := 35) c_Insn_len c_Insn_one (by decide)) [3], .o, .o, .o, .o] [4] (fun b => rfl) (by decide) rfl (fun b => by kernel_rfl)
theorem w0_9_barbicanref1_Decode_L0 (h0 : (decide (0 < (n0 : Int))) = false) : GoesG Try.prog M B0 S bd_barbicanref1_Decode_L0 2 (fr_barbicanref1_Decode_L0 a0 p0 q0 n0 k0 A0 (.c0 )) (Hs_barbicanref1_Decode_L0 a0 p0 q0 n0 k0 A0 (.c0 )) (.exit 0) 0 (vf_barbicanref1_Decode_L0 a0 p0 q0 n0 k0 A0 (.e0 )) (Hf_barbicanref1_Decode_L0 a0 p0 q0 n0 k0 A0 (.e0 )) 2 :=
  goes_runG hU [.o, .o, .o, .b (z_lssF h0)] [0] (fun b => rfl) (by decide) rfl (fun b => by kernel_rfl)
theorem w1_0_barbicanref1_Decode_L0 (s0_0 : Nat) (s0_1 : Nat → Insn) (s0_2 : Int) (h0 : (decide (s0_2 < (n0 : Int))) = true) (h1 : (inR s0_2 n0) = true) (h2 : (inR (IntKind.i64.wrap (s0_2 + 1)) n0) = true) (h3 : (inR (IntKind.i64.wrap (s0_2 + 2)) n0) = true) (h4 : (inR (IntKind.i64.wrap (s0_2 + 3)) n0) = true) (h5 : (inR (IntKind.i64.wrap ((IntKind.i64.wrap (s0_2 + 4)) + 3)) n0) = true) (h6 : (inR (IntKind.i64.wrap ((IntKind.i64.wrap (s0_2 + 4)) + 2)) n0) = true) (h7 : (inR (IntKind.i64.wrap ((IntKind.i64.wrap (s0_2 + 4)) + 1)) n0) = true) (h8 : (inR (IntKind.i64.wrap ((IntKind.i64.wrap (s0_2 + 4)) + 0)) n0) = true) (h9 : (decide (s0_0 ≤ 1000000)) = true) (rb0 : Nat → Insn) (e_rb0 : updF s0_1 s0_0 (⟨(A0 (s0_2).toNat), ((A0 ((IntKind.i64.wrap (s0_2 + 1))).toNat) % 16#8), ((A0 ((IntKind.i64.wrap (s0_2 + 1))).toNat) / 16#8), (((A0 ((IntKind.i64.wrap (s0_2 + 2))).toNat).setWidth 16) + (256#16 * ((A0 ((IntKind.i64.wrap (s0_2 + 3))).toNat).setWidth 16))), ((256#32 * ((256#32 * ((256#32 * (0#32 + ((A0 ((IntKind.i64.wrap ((IntKind.i64.wrap (s0_2 + 4)) + 3))).toNat).setWidth 32))) + ((A0 ((IntKind.i64.wrap ((IntKind.i64.wrap (s0_2 + 4)) + 2))).toNat).setWidth 32))) + ((A0 ((IntKind.i64.wrap ((IntKind.i64.wrap (s0_2 + 4)) + 1))).toNat).setWidth 32))) + ((A0 ((IntKind.i64.wrap ((IntKind.i64.wrap (s0_2 + 4)) + 0))).toNat).setWidth 32))⟩ : Insn) = rb0) : GoesG Try.prog M B0 S bd_barbicanref1_Decode_L0 2 (fr_barbicanref1_Decode_L0 a0 p0 q0 n0 k0 A0 (.c1 s0_0 s0_1 s0_2)) (Hs_barbicanref1_Decode_L0 a0 p0 q0 n0 k0 A0 (.c1 s0_0 s0_1 s0_2)) .normal 0 (fr_barbicanref1_Decode_L0 a0 p0 q0 n0 k0 A0 (.c1 (s0_0 + 1) rb0 (IntKind.i64.wrap (s0_2 + 8)))) (Hs_barbicanref1_Decode_L0 a0 p0 q0 n0 k0 A0 (.c1 (s0_0 + 1) rb0 (IntKind.i64.wrap (s0_2 + 8)))) 2 :=
  goes_runG hU [.o, .o, .o, .b (z_lssT h0), .r [0, 1, 2, 3, 4, 5, 6, 7, 8, 9, 10, 11, 12, 13, 14, 15, 16] [17] [18], .o, .o, .q (ixRo_ok (kd := .i64) (T := 23) (x := s0_2) (sz := 1) rfl (fun w => by kernel_rfl) hR0 h1), .l (accRo hR0 cu8_len (inR_nat h1) 0 [.int .u8 (nn (A0 (s0_2).toNat))] rfl), .o, .o, .o, .q (ixRo_ok (kd := .i64) (T := 23) (x := (IntKind.i64.wrap (s0_2 + 1))) (sz := 1) rfl (fun w => by kernel_rfl) hR0 h2), .l (accRo hR0 cu8_len (inR_nat h2) 0 [.int .u8 (nn (A0 ((IntKind.i64.wrap (s0_2 + 1))).toNat))] rfl), .ov (u8_rem Try.prog 5 (.tmp 27) (.const (.int .u8 (16))) (A0 ((IntKind.i64.wrap (s0_2 + 1))).toNat) (16#8) (by decide)), .o, .o, .o, .q (ixRo_ok (kd := .i64) (T := 23) (x := (IntKind.i64.wrap (s0_2 + 1))) (sz := 1) rfl (fun w => by kernel_rfl) hR0 h2), .l (accRo hR0 cu8_len (inR_nat h2) 0 [.int .u8 (nn (A0 ((IntKind.i64.wrap (s0_2 + 1))).toNat))] rfl), .ov (u8_quo Try.prog 5 (.tmp 33) (.const (.int .u8 (16))) (A0 ((IntKind.i64.wrap (s0_2 + 1))).toNat) (16#8) (by decide)), .o, .a 2, .r [0, 1, 2, 3, 4, 5, 6, 7, 8, 9, 10, 11, 12, 13, 14, 15] [] [16], .o, .o, .o, .q (ixRo_ok (kd := .i64) (T := 23) (x := (IntKind.i64.wrap (s0_2 + 2))) (sz := 1) rfl (fun w => by kernel_rfl) hR0 h3), .l (accRo hR0 cu8_len (inR_nat h3) 0 [.int .u8 (nn (A0 ((IntKind.i64.wrap (s0_2 + 2))).toNat))] rfl), .v .u16 (u16_of_u8 (A0 ((IntKind.i64.wrap (s0_2 + 2))).toNat)), .o, .o, .o, .q (ixRo_ok (kd := .i64) (T := 23) (x := (IntKind.i64.wrap (s0_2 + 3))) (sz := 1) rfl (fun w => by kernel_rfl) hR0 h4), .l (accRo hR0 cu8_len (inR_nat h4) 0 [.int .u8 (nn (A0 ((IntKind.i64.wrap (s0_2 + 3))).toNat))] rfl), .v .u16 (u16_of_u8 (A0 ((IntKind.i64.wrap (s0_2 + 3))).toNat)), .v .u16 (u16_mul (256#16) ((A0 ((IntKind.i64.wrap (s0_2 + 3))).toNat).setWidth 16)), .v .u16 (u16_add ((A0 ((IntKind.i64.wrap (s0_2 + 2))).toNat).setWidth 16) (256#16 * ((A0 ((IntKind.i64.wrap (s0_2 + 3))).toNat).setWidth 16))), .v .i16 (i16_of_u16 (((A0 ((IntKind.i64.wrap (s0_2 + 2))).toNat).setWidth 16) + (256#16 * ((A0 ((IntKind.i64.wrap (s0_2 + 3))).toNat).setWidth 16)))), .o, .a 2, .o, .o, .o, .o, .o, .o, .o, .o, .o, .o, .o, .q (ixRo_ok (kd := .i64) (T := 23) (x := (IntKind.i64.wrap ((IntKind.i64.wrap (s0_2 + 4)) + 3))) (sz := 1) rfl (fun w => by kernel_rfl) hR0 h5), .l (accRo hR0 cu8_len (inR_nat h5) 0 [.int .u8 (nn (A0 ((IntKind.i64.wrap ((IntKind.i64.wrap (s0_2 + 4)) + 3))).toNat))] rfl), .v .u32 (u32_of_u8 (A0 ((IntKind.i64.wrap ((IntKind.i64.wrap (s0_2 + 4)) + 3))).toNat)), .v .u32 (u32_add (0#32) ((A0 ((IntKind.i64.wrap ((IntKind.i64.wrap (s0_2 + 4)) + 3))).toNat).setWidth 32)), .o, .o, .o, .o, .o, .o, .o, .v .u32 (u32_mul (256#32) (0#32 + ((A0 ((IntKind.i64.wrap ((IntKind.i64.wrap (s0_2 + 4)) + 3))).toNat).setWidth 32))), .o, .o, .o, .o, .o, .q (ixRo_ok (kd := .i64) (T := 23) (x := (IntKind.i64.wrap ((IntKind.i64.wrap (s0_2 + 4)) + 2))) (sz := 1) rfl (fun w => by kernel_rfl) hR0 h6), .l (accRo hR0 cu8_len (inR_nat h6) 0 [.int .u8 (nn (A0 ((IntKind.i64.wrap ((IntKind.i64.wrap (s0_2 + 4)) + 2))).toNat))] rfl), .v .u32 (u32_of_u8 (A0 ((IntKind.i64.wrap ((IntKind.i64.wrap (s0_2 + 4)) + 2))).toNat)), .v .u32 (u32_add (256#32 * (0#32 + ((A0 ((IntKind.i64.wrap ((IntKind.i64.wrap (s0_2 + 4)) + 3))).toNat).setWidth 32))) ((A0 ((IntKind.i64.wrap ((IntKind.i64.wrap (s0_2 + 4)) + 2))).toNat).setWidth 32)), .o, .o, .o, .o, .o, .o, .o, .v .u32 (u32_mul (256#32) ((256#32 * (0#32 + ((A0 ((IntKind.i64.wrap ((IntKind.i64.wrap (s0_2 + 4)) + 3))).toNat).setWidth 32))) + ((A0 ((IntKind.i64.wrap ((IntKind.i64.wrap (s0_2 + 4)) + 2))).toNat).setWidth 32))), .o, .o, .o, .o, .o, .q (ixRo_ok (kd := .i64) (T := 23) (x := (IntKind.i64.wrap ((IntKind.i64.wrap (s0_2 + 4)) + 1))) (sz := 1) rfl (fun w => by kernel_rfl) hR0 h7), .l (accRo hR0 cu8_len (inR_nat h7) 0 [.int .u8 (nn (A0 ((IntKind.i64.wrap ((IntKind.i64.wrap (s0_2 + 4)) + 1))).toNat))] rfl), .v .u32 (u32_of_u8 (A0 ((IntKind.i64.wrap ((IntKind.i64.wrap (s0_2 + 4)) + 1))).toNat)), .v .u32 (u32_add (256#32 * ((256#32 * (0#32 + ((A0 ((IntKind.i64.wrap ((IntKind.i64.wrap (s0_2 + 4)) + 3))).toNat).setWidth 32))) + ((A0 ((IntKind.i64.wrap ((IntKind.i64.wrap (s0_2 + 4)) + 2))).toNat).setWidth 32))) ((A0 ((IntKind.i64.wrap ((IntKind.i64.wrap (s0_2 + 4)) + 1))).toNat).setWidth 32)), .o, .o, .o, .o, .o, .o, .o, .v .u32 (u32_mul (256#32) ((256#32 * ((256#32 * (0#32 + ((A0 ((IntKind.i64.wrap ((IntKind.i64.wrap (s0_2 + 4)) + 3))).toNat).setWidth 32))) + ((A0 ((IntKind.i64.wrap ((IntKind.i64.wrap (s0_2 + 4)) + 2))).toNat).setWidth 32))) + ((A0 ((IntKind.i64.wrap ((IntKind.i64.wrap (s0_2 + 4)) + 1))).toNat).setWidth 32))), .o, .o, .o, .o, .o, .q (ixRo_ok (kd := .i64) (T := 23) (x := (IntKind.i64.wrap ((IntKind.i64.wrap (s0_2 + 4)) + 0))) (sz := 1) rfl (fun w => by kernel_rfl) hR0 h8), .l (accRo hR0 cu8_len (inR_nat h8) 0 [.int .u8 (nn (A0 ((IntKind.i64.wrap ((IntKind.i64.wrap (s0_2 + 4)) + 0))).toNat))] rfl), .v .u32 (u32_of_u8 (A0 ((IntKind.i64.wrap ((IntKind.i64.wrap (s0_2 + 4)) + 0))).toNat)), .v .u32 (u32_add (256#32 * ((256#32 * ((256#32 * (0#32 + ((A0 ((IntKind.i64.wrap ((IntKind.i64.wrap (s0_2 + 4)) + 3))).toNat).setWidth 32))) + ((A0 ((IntKind.i64.wrap ((IntKind.i64.wrap (s0_2 + 4)) + 2))).toNat).setWidth 32))) + ((A0 ((IntKind.i64.wrap ((IntKind.i64.wrap (s0_2 + 4)) + 1))).toNat).setWidth 32))) ((A0 ((IntKind.i64.wrap ((IntKind.i64.wrap (s0_2 + 4)) + 0))).toNat).setWidth 32)), .o, .o, .o, .o, .o, .o, .o, .v .i32 (i32_of_u32 ((256#32 * ((256#32 * ((256#32 * (0#32 + ((A0 ((IntKind.i64.wrap ((IntKind.i64.wrap (s0_2 + 4)) + 3))).toNat).setWidth 32))) + ((A0 ((IntKind.i64.wrap ((IntKind.i64.wrap (s0_2 + 4)) + 2))).toNat).setWidth 32))) + ((A0 ((IntKind.i64.wrap ((IntKind.i64.wrap (s0_2 + 4)) + 1))).toNat).setWidth 32))) + ((A0 ((IntKind.i64.wrap ((IntKind.i64.wrap (s0_2 + 4)) + 0))).toNat).setWidth 32))), .o, .a 2, .o, .a 2, .o, .x (sqAppLr_ok (ty := 22) rt22 #[false, false] (f := c_Insn) (N := s0_0) (A := s0_1) (c := 1) [(⟨(A0 (s0_2).toNat), ((A0 ((IntKind.i64.wrap (s0_2 + 1))).toNat) % 16#8), ((A0 ((IntKind.i64.wrap (s0_2 + 1))).toNat) / 16#8), (((A0 ((IntKind.i64.wrap (s0_2 + 2))).toNat).setWidth 16) + (256#16 * ((A0 ((IntKind.i64.wrap (s0_2 + 3))).toNat).setWidth 16))), ((256#32 * ((256#32 * ((256#32 * (0#32 + ((A0 ((IntKind.i64.wrap ((IntKind.i64.wrap (s0_2 + 4)) + 3))).toNat).setWidth 32))) + ((A0 ((IntKind.i64.wrap ((IntKind.i64.wrap (s0_2 + 4)) + 2))).toNat).setWidth 32))) + ((A0 ((IntKind.i64.wrap ((IntKind.i64.wrap (s0_2 + 4)) + 1))).toNat).setWidth 32))) + ((A0 ((IntKind.i64.wrap ((IntKind.i64.wrap (s0_2 + 4)) + 0))).toNat).setWidth 32))⟩ : Insn)] (T' := 35) .row c_Insn_len c_Insn_one h9 rfl (by decide) e_rb0) [0, 3], .o, .o, .o, .o] [4] (fun b => rfl) (by decide) rfl (fun b => by kernel_rfl)
theorem w1_10_barbicanref1_Decode_L0 (s0_0 : Nat) (s0_1 : Nat → Insn) (s0_2 : Int) (h0 : (decide (s0_2 < (n0 : Int))) = false) : GoesG Try.prog M B0 S bd_barbicanref1_Decode_L0 2 (fr_barbicanref1_Decode_L0 a0 p0 q0 n0 k0 A0 (.c1 s0_0 s0_1 s0_2)) (Hs_barbicanref1_Decode_L0 a0 p0 q0 n0 k0 A0 (.c1 s0_0 s0_1 s0_2)) (.exit 0) 0 (vf_barbicanref1_Decode_L0 a0 p0 q0 n0 k0 A0 (.e1 s0_0 s0_1)) (Hf_barbicanref1_Decode_L0 a0 p0 q0 n0 k0 A0 (.e1 s0_0 s0_1)) 2 :=
  goes_runG hU [.o, .o, .o, .b (z_lssF h0)] [0] (fun b => rfl) (by decide) rfl (fun b => by kernel_rfl)
theorem go_barbicanref1_Decode_L0 (s : Sh_barbicanref1_Decode_L0) (r : Ex_barbicanref1_Decode_L0) (h : lpO (st_barbicanref1_Decode_L0 n0 A0) s = some r) : GoesG Try.prog M B0 S (.loop bd_barbicanref1_Decode_L0) 2 (fr_barbicanref1_Decode_L0 a0 p0 q0 n0 k0 A0 s) (Hs_barbicanref1_Decode_L0 a0 p0 q0 n0 k0 A0 s) (ex_barbicanref1_Decode_L0 r) 0 (vf_barbicanref1_Decode_L0 a0 p0 q0 n0 k0 A0 r) (Hf_barbicanref1_Decode_L0 a0 p0 q0 n0 k0 A0 r) 2 :=
  goes_lpO (fun s q e => by
    cases s with
    | c0  =>
      unfold st_barbicanref1_Decode_L0 at e
      dsimp only at e
      replace e := cond_eq_or e
      rcases e with ⟨hq0, e⟩ | ⟨hq0, e⟩
      · replace e := cond_eq_or e
        rcases e with ⟨hq1, e⟩ | ⟨hq1, e⟩
        · replace e := cond_eq_or e
          rcases e with ⟨hq2, e⟩ | ⟨hq2, e⟩
          · replace e := cond_eq_or e
            rcases e with ⟨hq3, e⟩ | ⟨hq3, e⟩
            · replace e := cond_eq_or e
              rcases e with ⟨hq4, e⟩ | ⟨hq4, e⟩
              · replace e := cond_eq_or e
                rcases e with ⟨hq5, e⟩ | ⟨hq5, e⟩
                · replace e := cond_eq_or e
                  rcases e with ⟨hq6, e⟩ | ⟨hq6, e⟩
                  · replace e := cond_eq_or e
                    rcases e with ⟨hq7, e⟩ | ⟨hq7, e⟩
                    · replace e := cond_eq_or e
                      rcases e with ⟨hq8, e⟩ | ⟨hq8, e⟩
                      · cases e; exact w0_0_barbicanref1_Decode_L0 hU a0 p0 q0 n0 k0 A0 hR0  hq0 hq1 hq2 hq3 hq4 hq5 hq6 hq7 hq8
                      · exact none_some e
                    · exact none_some e
                  · exact none_some e
                · exact none_some e
              · exact none_some e
            · exact none_some e
          · exact none_some e
        · exact none_some e
      · cases e; exact ⟨ne_exit 0, w0_9_barbicanref1_Decode_L0 hU a0 p0 q0 n0 k0 A0 hR0  hq0⟩
    | c1 s0_0 s0_1 s0_2 =>
      unfold st_barbicanref1_Decode_L0 at e
      dsimp only at e
      replace e := cond_eq_or e
      rcases e with ⟨hq0, e⟩ | ⟨hq0, e⟩
      · replace e := cond_eq_or e
        rcases e with ⟨hq1, e⟩ | ⟨hq1, e⟩
        · replace e := cond_eq_or e
          rcases e with ⟨hq2, e⟩ | ⟨hq2, e⟩
          · replace e := cond_eq_or e
            rcases e with ⟨hq3, e⟩ | ⟨hq3, e⟩
            · replace e := cond_eq_or e
              rcases e with ⟨hq4, e⟩ | ⟨hq4, e⟩
              · replace e := cond_eq_or e
                rcases e with ⟨hq5, e⟩ | ⟨hq5, e⟩
                · replace e := cond_eq_or e
                  rcases e with ⟨hq6, e⟩ | ⟨hq6, e⟩
                  · replace e := cond_eq_or e
                    rcases e with ⟨hq7, e⟩ | ⟨hq7, e⟩
                    · replace e := cond_eq_or e
                      rcases e with ⟨hq8, e⟩ | ⟨hq8, e⟩
                      · replace e := cond_eq_or e
                        rcases e with ⟨hq9, e⟩ | ⟨hq9, e⟩
                        · replace e := bindT_eq e
                          obtain ⟨rb0, e_rb0, e⟩ := e
                          try dsimp only at e
                          cases e; exact w1_0_barbicanref1_Decode_L0 hU a0 p0 q0 n0 k0 A0 hR0 s0_0 s0_1 s0_2 hq0 hq1 hq2 hq3 hq4 hq5 hq6 hq7 hq8 hq9 rb0 e_rb0
                        · exact none_some e
                      · exact none_some e
                    · exact none_some e
                  · exact none_some e
                · exact none_some e
              · exact none_some e
            · exact none_some e
          · exact none_some e
        · exact none_some e
      · cases e; exact ⟨ne_exit 0, w1_10_barbicanref1_Decode_L0 hU a0 p0 q0 n0 k0 A0 hR0 s0_0 s0_1 s0_2 hq0⟩) s r h
def t0_barbicanref1_Decode_L0_0 (a0 : Option Addr) (p0 : Nat) (q0 : Nat) (n0 : Nat) (k0 : Nat) (A0 : Nat → BitVec 8)  (ls : List L1) : List Value := [.slice a0 n0 (n0 + k0), undef, .slice none 0 0, .int .i64 (0), .slice none 0 0, .int .i64 (0), undef, undef, undef, .slice a0 n0 (n0 + k0), .int .i64 ((n0 : Int)), .int .i64 ((zrem (n0 : Int) 8)), .bool false, undef, undef, undef, undef, undef, undef, undef, undef, undef, undef, undef, undef, undef, undef, undef, undef, undef, undef, undef, undef, undef, undef, undef, undef, undef, undef, undef, undef, undef, undef, undef, undef, undef, undef, undef, undef, undef, undef, undef, undef, undef, undef, undef, undef, undef, undef, undef, undef, undef, undef, undef, undef, undef, undef, undef, undef, undef, undef, undef, undef, undef, undef]
def pre_barbicanref1_Decode_L0_0 (a0 : Option Addr) (p0 : Nat) (q0 : Nat) (n0 : Nat) (k0 : Nat) (A0 : Nat → BitVec 8)  (ls : List L1) : List Obj := []
theorem sp0_barbicanref1_Decode_L0_0_ok (h : lpO (st_barbicanref1_Decode_L0 n0 A0) (.c0) = some (.e0 )) : SpcG Try.prog M B0 S ⟨fun ls => .code (.loop bd_barbicanref1_Decode_L0) (t0_barbicanref1_Decode_L0_0 a0 p0 q0 n0 k0 A0  ls), pre_barbicanref1_Decode_L0_0 a0 p0 q0 n0 k0 A0 , 2, (.exit 0), fun ls => vf_barbicanref1_Decode_L0 a0 p0 q0 n0 k0 A0 (.e0 ) (ls.take 0 ++ ls.drop 0), fun ls => (Hf_barbicanref1_Decode_L0 a0 p0 q0 n0 k0 A0 (.e0 ) (ls.take 0 ++ ls.drop 0)).take 0 ++ List.replicate 0 unb, fun ls => (Hf_barbicanref1_Decode_L0 a0 p0 q0 n0 k0 A0 (.e0 ) (ls.take 0 ++ ls.drop 0)).drop 0⟩ :=
  spc_of_goesG hU 1 (k0 := 0) (go_barbicanref1_Decode_L0 hU a0 p0 q0 n0 k0 A0 hR0 _ _ h) (t0_barbicanref1_Decode_L0_0 a0 p0 q0 n0 k0 A0 ) (pre_barbicanref1_Decode_L0_0 a0 p0 q0 n0 k0 A0 ) (fun _ => rfl) (fun ls h => by match ls, h with | [], _ => rfl) (fun ls h => by match ls, h with | [], _ => rfl) (by decide) (by decide) (fun ls => rfl)
theorem sp1_barbicanref1_Decode_L0_0_ok (c1_0 : Nat) (c1_1 : Nat → Insn) (h : lpO (st_barbicanref1_Decode_L0 n0 A0) (.c0) = some (.e1 c1_0 c1_1)) : SpcG Try.prog M B0 S ⟨fun ls => .code (.loop bd_barbicanref1_Decode_L0) (t0_barbicanref1_Decode_L0_0 a0 p0 q0 n0 k0 A0  ls), pre_barbicanref1_Decode_L0_0 a0 p0 q0 n0 k0 A0 , 2, (.exit 0), fun ls => vf_barbicanref1_Decode_L0 a0 p0 q0 n0 k0 A0 (.e1 c1_0 c1_1) (ls.take 0 ++ ls.drop 0), fun ls => (Hf_barbicanref1_Decode_L0 a0 p0 q0 n0 k0 A0 (.e1 c1_0 c1_1) (ls.take 0 ++ ls.drop 0)).take 0 ++ List.replicate 0 unb, fun ls => (Hf_barbicanref1_Decode_L0 a0 p0 q0 n0 k0 A0 (.e1 c1_0 c1_1) (ls.take 0 ++ ls.drop 0)).drop 0⟩ :=
  spc_of_goesG hU 1 (k0 := 0) (go_barbicanref1_Decode_L0 hU a0 p0 q0 n0 k0 A0 hR0 _ _ h) (t0_barbicanref1_Decode_L0_0 a0 p0 q0 n0 k0 A0 ) (pre_barbicanref1_Decode_L0_0 a0 p0 q0 n0 k0 A0 ) (fun _ => rfl) (fun ls h => by match ls, h with | [], _ => rfl) (fun ls h => by match ls, h with | [], _ => rfl) (by decide) (by decide) (fun ls => rfl)
inductive R_barbicanref1_Decode where
  | e0 (c0_0 : Int)
  | e1 (c1_0 : Nat) (c1_1 : Nat → Insn)
noncomputable def m_barbicanref1_Decode (n0 : Nat) (A0 : Nat → BitVec 8) : Option R_barbicanref1_Decode :=
  bif (zrem (n0 : Int) 8) == 0 then
    ((lpO (st_barbicanref1_Decode_L0 n0 A0) (.c0)).bind fun g0 => match g0 with
    | .e0  => (some (.e0 0))
    | .e1 g0_0 g0_1 => (some (.e1 g0_0 g0_1)))
  else (some (.e0 18))
def sq0_barbicanref1_Decode (a0 : Option Addr) (p0 : Nat) (q0 : Nat) (n0 : Nat) (k0 : Nat) (A0 : Nat → BitVec 8) (c0_0 : Int) : Spc := ⟨fun ls => .call 15 #[.slice a0 n0 (n0 + k0)], fun ls => [], 0, .normal, fun ls => [.tuple #[.slice none 0 0, .int .i64 (c0_0)]], fun ls => [], fun ls => []⟩
def sq1_barbicanref1_Decode (a0 : Option Addr) (p0 : Nat) (q0 : Nat) (n0 : Nat) (k0 : Nat) (A0 : Nat → BitVec 8) (c1_0 : Nat) (c1_1 : Nat → Insn) : Spc := ⟨fun ls => .call 15 #[.slice a0 n0 (n0 + k0)], fun ls => [], 1, .normal, fun ls => [.tuple #[(rowV (lget ls 0) c1_0 5), .int .i64 (0)]], fun ls => [], fun ls => [rowO (lget ls 0) (esG c_Insn c1_0 c1_1) 35 c1_0 5]⟩
theorem p0_barbicanref1_Decode (h0 : ((zrem (n0 : Int) 8) == 0) = true) (e_g0 : lpO (st_barbicanref1_Decode_L0 n0 A0) (.c0) = some (.e0 )) : SpcG Try.prog M B0 S (sq0_barbicanref1_Decode a0 p0 q0 n0 k0 A0 0) :=
  fn_specG hU (P := Try.prog) Try.func15 (fun xs w => by kernel_rfl) 0 _ _ (fun _ => rfl) _ _ _ []
    [.o, .o, .o, .o, .ov (z_rem Try.prog 3 (.tmp 10) (.const (.int .i64 (8))) (n0 : Int) 8 (by decide)), .b (z_neqT h0), .o, .o, .cp, .cx (sp0_barbicanref1_Decode_L0_0_ok hU a0 p0 q0 n0 k0 A0 hR0   e_g0) [], .o, .o, .o]
    [] (fun b => by kernel_rfl)
theorem p1_barbicanref1_Decode (h0 : ((zrem (n0 : Int) 8) == 0) = true) (g0_0 : Nat) (g0_1 : Nat → Insn) (e_g0 : lpO (st_barbicanref1_Decode_L0 n0 A0) (.c0) = some (.e1 g0_0 g0_1)) : SpcG Try.prog M B0 S (sq1_barbicanref1_Decode a0 p0 q0 n0 k0 A0 g0_0 g0_1) :=
  fn_specG hU (P := Try.prog) Try.func15 (fun xs w => by kernel_rfl) 0 _ _ (fun _ => rfl) _ _ _ [0]
    [.o, .o, .o, .o, .ov (z_rem Try.prog 3 (.tmp 10) (.const (.int .i64 (8))) (n0 : Int) 8 (by decide)), .b (z_neqT h0), .o, .o, .cp, .cx (sp1_barbicanref1_Decode_L0_0_ok hU a0 p0 q0 n0 k0 A0 hR0  g0_0 g0_1 e_g0) [], .o, .o, .o]
    [] (fun b => by kernel_rfl)
theorem p2_barbicanref1_Decode (h0 : ((zrem (n0 : Int) 8) == 0) = false) : SpcG Try.prog M B0 S (sq0_barbicanref1_Decode a0 p0 q0 n0 k0 A0 18) :=
  fn_specG hU (P := Try.prog) Try.func15 (fun xs w => by kernel_rfl) 0 _ _ (fun _ => rfl) _ _ _ []
    [.o, .o, .o, .o, .ov (z_rem Try.prog 3 (.tmp 10) (.const (.int .i64 (8))) (n0 : Int) 8 (by decide)), .b (z_neqF h0), .o, .o]
    [] (fun b => by kernel_rfl)
theorem ok0_barbicanref1_Decode (c0_0 : Int) (e : m_barbicanref1_Decode n0 A0 = some (.e0 c0_0)) : SpcG Try.prog M B0 S (sq0_barbicanref1_Decode a0 p0 q0 n0 k0 A0 c0_0) := by
  unfold m_barbicanref1_Decode at e
  replace e := cond_eq_or e
  rcases e with ⟨hq0, e⟩ | ⟨hq0, e⟩
  · replace e := bindO_eq e
    obtain ⟨g0, e_g0, e⟩ := e
    rcases g0 with _ | ⟨g0_0, g0_1⟩
    · try dsimp only at e
      injection e with e; injection e with i0; subst i0; exact p0_barbicanref1_Decode hU a0 p0 q0 n0 k0 A0 hR0 hq0 e_g0
    · try dsimp only at e
      cases e
  · injection e with e; injection e with i0; subst i0; exact p2_barbicanref1_Decode hU a0 p0 q0 n0 k0 A0 hR0 hq0
theorem ok1_barbicanref1_Decode (c1_0 : Nat) (c1_1 : Nat → Insn) (e : m_barbicanref1_Decode n0 A0 = some (.e1 c1_0 c1_1)) : SpcG Try.prog M B0 S (sq1_barbicanref1_Decode a0 p0 q0 n0 k0 A0 c1_0 c1_1) := by
  unfold m_barbicanref1_Decode at e
  replace e := cond_eq_or e
  rcases e with ⟨hq0, e⟩ | ⟨hq0, e⟩
  · replace e := bindO_eq e
    obtain ⟨g0, e_g0, e⟩ := e
    rcases g0 with _ | ⟨g0_0, g0_1⟩
    · try dsimp only at e
      cases e
    · try dsimp only at e
      injection e with e; injection e with i0 i1; subst i0 i1; exact p1_barbicanref1_Decode hU a0 p0 q0 n0 k0 A0 hR0 hq0 g0_0 g0_1 e_g0
  · cases e
inductive Sh_barbicanhelp_Insns_L0 where
  | c0 (s0_0 : Int)
inductive Ex_barbicanhelp_Insns_L0 where
  | e0 
  | e1 
noncomputable def st_barbicanhelp_Insns_L0 (n0 : Nat) (A0 : Nat → Insn) (n1 : Nat) (A1 : Nat → Insn) : Sh_barbicanhelp_Insns_L0 → Option (Sh_barbicanhelp_Insns_L0 ⊕ Ex_barbicanhelp_Insns_L0)
  | .c0 s0_0 =>
    bif decide (s0_0 < (n0 : Int)) then
      (bif inR s0_0 n0 then
        (bif inR s0_0 n1 then
          (bif ((((A0 (s0_0).toNat)).fOp == ((A1 (s0_0).toNat)).fOp) && ((((A0 (s0_0).toNat)).fDst == ((A1 (s0_0).toNat)).fDst) && ((((A0 (s0_0).toNat)).fSrc == ((A1 (s0_0).toNat)).fSrc) && ((((A0 (s0_0).toNat)).fOff == ((A1 (s0_0).toNat)).fOff) && (((A0 (s0_0).toNat)).fImm == ((A1 (s0_0).toNat)).fImm))))) then
            (some (.inl (.c0 (IntKind.i64.wrap (s0_0 + 1)))))
          else (some (.inr (.e1 ))))
        else (none))
      else (none))
    else (some (.inr (.e0 )))
noncomputable def bd_barbicanhelp_Insns_L0 : Code := codeOf Try.f16 [1, 1, 0, 1, 0, 0]
def fr_barbicanhelp_Insns_L0 (a0 : Option Addr) (p0 : Nat) (q0 : Nat) (n0 : Nat) (k0 : Nat) (A0 : Nat → Insn) (a1 : Option Addr) (p1 : Nat) (q1 : Nat) (n1 : Nat) (k1 : Nat) (A1 : Nat → Insn) : Sh_barbicanhelp_Insns_L0 → List L1 → List Value
  | .c0 s0_0, ls => [.slice a0 n0 (n0 + k0), .slice a1 n1 (n1 + k1), ((lget ls 0).u 2), ((lget ls 0).u 3), .bool false, .int .i64 (s0_0), ((lget ls 0).u 6), ((lget ls 0).u 7), ((lget ls 0).u 8), ((lget ls 0).u 9), ((lget ls 0).u 10), ((lget ls 0).u 11), ((lget ls 0).u 12), ((lget ls 0).u 13), ((lget ls 0).u 14), ((lget ls 0).u 15), ((lget ls 0).u 16), ((lget ls 0).u 17), ((lget ls 0).u 18), ((lget ls 0).u 19), ((lget ls 0).u 20), ((lget ls 0).u 21), ((lget ls 0).u 22), ((lget ls 0).u 23), ((lget ls 0).u 24), ((lget ls 0).u 25)]
def Hs_barbicanhelp_Insns_L0 (a0 : Option Addr) (p0 : Nat) (q0 : Nat) (n0 : Nat) (k0 : Nat) (A0 : Nat → Insn) (a1 : Option Addr) (p1 : Nat) (q1 : Nat) (n1 : Nat) (k1 : Nat) (A1 : Nat → Insn) : Sh_barbicanhelp_Insns_L0 → List L1 → List Obj
  | .c0 s0_0, ls => [unb]
def vf_barbicanhelp_Insns_L0 (a0 : Option Addr) (p0 : Nat) (q0 : Nat) (n0 : Nat) (k0 : Nat) (A0 : Nat → Insn) (a1 : Option Addr) (p1 : Nat) (q1 : Nat) (n1 : Nat) (k1 : Nat) (A1 : Nat → Insn) : Ex_barbicanhelp_Insns_L0 → List L1 → List Value
  | .e0 , ls => [.slice a0 n0 (n0 + k0), .slice a1 n1 (n1 + k1), ((lget ls 0).u 2), ((lget ls 0).u 3), .bool false, ((lget ls 0).u 5), ((lget ls 0).u 6), ((lget ls 0).u 7), ((lget ls 0).u 8), ((lget ls 0).u 9), ((lget ls 0).u 10), ((lget ls 0).u 11), ((lget ls 0).u 12), ((lget ls 0).u 13), ((lget ls 0).u 14), ((lget ls 0).u 15), ((lget ls 0).u 16), ((lget ls 0).u 17), ((lget ls 0).u 18), ((lget ls 0).u 19), ((lget ls 0).u 20), ((lget ls 0).u 21), ((lget ls 0).u 22), ((lget ls 0).u 23), ((lget ls 0).u 24), ((lget ls 0).u 25)]
  | .e1 , ls => [.slice a0 n0 (n0 + k0), .slice a1 n1 (n1 + k1), ((lget ls 0).u 2), ((lget ls 0).u 3), .bool false, ((lget ls 0).u 5), ((lget ls 0).u 6), ((lget ls 0).u 7), ((lget ls 0).u 8), ((lget ls 0).u 9), ((lget ls 0).u 10), ((lget ls 0).u 11), ((lget ls 0).u 12), ((lget ls 0).u 13), ((lget ls 0).u 14), ((lget ls 0).u 15), ((lget ls 0).u 16), ((lget ls 0).u 17), ((lget ls 0).u 18), ((lget ls 0).u 19), ((lget ls 0).u 20), ((lget ls 0).u 21), ((lget ls 0).u 22), ((lget ls 0).u 23), ((lget ls 0).u 24), ((lget ls 0).u 25)]
def Hf_barbicanhelp_Insns_L0 (a0 : Option Addr) (p0 : Nat) (q0 : Nat) (n0 : Nat) (k0 : Nat) (A0 : Nat → Insn) (a1 : Option Addr) (p1 : Nat) (q1 : Nat) (n1 : Nat) (k1 : Nat) (A1 : Nat → Insn) : Ex_barbicanhelp_Insns_L0 → List L1 → List Obj
  | .e0 , ls => [unb]
  | .e1 , ls => [unb]
def ex_barbicanhelp_Insns_L0 : Ex_barbicanhelp_Insns_L0 → Ex
  | .e0  => (.exit 0)
  | .e1  => .ret
end
section
variable {M : Nat → Prop} {B0 : Nat} {S : World → Prop} (hU : Up M B0 S) (a0 : Option Addr) (p0 : Nat) (q0 : Nat) (n0 : Nat) (k0 : Nat) (A0 : Nat → Insn) (hR0 : Ro S c_Insn 5 a0 p0 q0 n0 A0) (a1 : Option Addr) (p1 : Nat) (q1 : Nat) (n1 : Nat) (k1 : Nat) (A1 : Nat → Insn) (hR1 : Ro S c_Insn 5 a1 p1 q1 n1 A1) (s0_0 : Int) (h0 : (decide (s0_0 < (n0 : Int))) = true) (h1 : (inR s0_0 n0) = true) (h2 : (inR s0_0 n1) = true)
include hU a0 p0 q0 n0 k0 A0 hR0 a1 p1 q1 n1 k1 A1 hR1 s0_0 h0 h1 h2
theorem w0_0_barbicanhelp_Insns_L0 (h3 : (((((A0 (s0_0).toNat)).fOp == ((A1 (s0_0).toNat)).fOp) && ((((A0 (s0_0).toNat)).fDst == ((A1 (s0_0).toNat)).fDst) && ((((A0 (s0_0).toNat)).fSrc == ((A1 (s0_0).toNat)).fSrc) && ((((A0 (s0_0).toNat)).fOff == ((A1 (s0_0).toNat)).fOff) && (((A0 (s0_0).toNat)).fImm == ((A1 (s0_0).toNat)).fImm)))))) = true) : GoesG Try.prog M B0 S bd_barbicanhelp_Insns_L0 1 (fr_barbicanhelp_Insns_L0 a0 p0 q0 n0 k0 A0 a1 p1 q1 n1 k1 A1 (.c0 s0_0)) (Hs_barbicanhelp_Insns_L0 a0 p0 q0 n0 k0 A0 a1 p1 q1 n1 k1 A1 (.c0 s0_0)) .normal 0 (fr_barbicanhelp_Insns_L0 a0 p0 q0 n0 k0 A0 a1 p1 q1 n1 k1 A1 (.c0 (IntKind.i64.wrap (s0_0 + 1)))) (Hs_barbicanhelp_Insns_L0 a0 p0 q0 n0 k0 A0 a1 p1 q1 n1 k1 A1 (.c0 (IntKind.i64.wrap (s0_0 + 1)))) 1 :=
  goes_runG hU [.o, .o, .o, .b (z_lssT h0), .r [0, 1, 2, 3, 4, 5, 6, 7, 8] [] [], .o, .o, .q (ixRo_ok (kd := .i64) (T := 22) (x := s0_0) (sz := 5) rfl (fun w => by kernel_rfl) hR0 h1), .l (accRo hR0 c_Insn_len (inR_nat h1) 0 [.int .u8 (nn ((A0 (s0_0).toNat)).fOp), .int .u8 (nn ((A0 (s0_0).toNat)).fDst), .int .u8 (nn ((A0 (s0_0).toNat)).fSrc), .int .i16 (ii ((A0 (s0_0).toNat)).fOff), .int .i32 (ii ((A0 (s0_0).toNat)).fImm)] rfl), .o, .o, .q (ixRo_ok (kd := .i64) (T := 22) (x := s0_0) (sz := 5) rfl (fun w => by kernel_rfl) hR1 h2), .l (accRo hR1 c_Insn_len (inR_nat h2) 0 [.int .u8 (nn ((A1 (s0_0).toNat)).fOp), .int .u8 (nn ((A1 (s0_0).toNat)).fDst), .int .u8 (nn ((A1 (s0_0).toNat)).fSrc), .int .i16 (ii ((A1 (s0_0).toNat)).fOff), .int .i32 (ii ((A1 (s0_0).toNat)).fImm)] rfl), .ov (fun w => (run_aggeq 35 #[.int .u8 (nn ((A0 (s0_0).toNat)).fOp), .int .u8 (nn ((A0 (s0_0).toNat)).fDst), .int .u8 (nn ((A0 (s0_0).toNat)).fSrc), .int .i16 (ii ((A0 (s0_0).toNat)).fOff), .int .i32 (ii ((A0 (s0_0).toNat)).fImm)] #[.int .u8 (nn ((A1 (s0_0).toNat)).fOp), .int .u8 (nn ((A1 (s0_0).toNat)).fDst), .int .u8 (nn ((A1 (s0_0).toNat)).fSrc), .int .i16 (ii ((A1 (s0_0).toNat)).fOff), .int .i32 (ii ((A1 (s0_0).toNat)).fImm)] true (by kernel_rfl) (fun w => (eqi35 9998 ((A0 (s0_0).toNat)).fOp ((A1 (s0_0).toNat)).fOp ((A0 (s0_0).toNat)).fDst ((A1 (s0_0).toNat)).fDst ((A0 (s0_0).toNat)).fSrc ((A1 (s0_0).toNat)).fSrc ((A0 (s0_0).toNat)).fOff ((A1 (s0_0).toNat)).fOff ((A0 (s0_0).toNat)).fImm ((A1 (s0_0).toNat)).fImm w).trans (congrArg (fun b => Result.ok b w) h3)) (.tmp 20) (.tmp 24) w).2), .o, .o, .o] [] (fun b => rfl) (by decide) rfl (fun b => by kernel_rfl)
theorem w0_1_barbicanhelp_Insns_L0 (h3 : (((((A0 (s0_0).toNat)).fOp == ((A1 (s0_0).toNat)).fOp) && ((((A0 (s0_0).toNat)).fDst == ((A1 (s0_0).toNat)).fDst) && ((((A0 (s0_0).toNat)).fSrc == ((A1 (s0_0).toNat)).fSrc) && ((((A0 (s0_0).toNat)).fOff == ((A1 (s0_0).toNat)).fOff) && (((A0 (s0_0).toNat)).fImm == ((A1 (s0_0).toNat)).fImm)))))) = false) : GoesG Try.prog M B0 S bd_barbicanhelp_Insns_L0 1 (fr_barbicanhelp_Insns_L0 a0 p0 q0 n0 k0 A0 a1 p1 q1 n1 k1 A1 (.c0 s0_0)) (Hs_barbicanhelp_Insns_L0 a0 p0 q0 n0 k0 A0 a1 p1 q1 n1 k1 A1 (.c0 s0_0)) .ret 0 (vf_barbicanhelp_Insns_L0 a0 p0 q0 n0 k0 A0 a1 p1 q1 n1 k1 A1 (.e1 )) (Hf_barbicanhelp_Insns_L0 a0 p0 q0 n0 k0 A0 a1 p1 q1 n1 k1 A1 (.e1 )) 1 :=
  goes_runG hU [.o, .o, .o, .b (z_lssT h0), .r [0, 1, 2, 3, 4, 5, 6, 7, 8] [] [], .o, .o, .q (ixRo_ok (kd := .i64) (T := 22) (x := s0_0) (sz := 5) rfl (fun w => by kernel_rfl) hR0 h1), .l (accRo hR0 c_Insn_len (inR_nat h1) 0 [.int .u8 (nn ((A0 (s0_0).toNat)).fOp), .int .u8 (nn ((A0 (s0_0).toNat)).fDst), .int .u8 (nn ((A0 (s0_0).toNat)).fSrc), .int .i16 (ii ((A0 (s0_0).toNat)).fOff), .int .i32 (ii ((A0 (s0_0).toNat)).fImm)] rfl), .o, .o, .q (ixRo_ok (kd := .i64) (T := 22) (x := s0_0) (sz := 5) rfl (fun w => by kernel_rfl) hR1 h2), .l (accRo hR1 c_Insn_len (inR_nat h2) 0 [.int .u8 (nn ((A1 (s0_0).toNat)).fOp), .int .u8 (nn ((A1 (s0_0).toNat)).fDst), .int .u8 (nn ((A1 (s0_0).toNat)).fSrc), .int .i16 (ii ((A1 (s0_0).toNat)).fOff), .int .i32 (ii ((A1 (s0_0).toNat)).fImm)] rfl), .ov (fun w => (run_aggeq 35 #[.int .u8 (nn ((A0 (s0_0).toNat)).fOp), .int .u8 (nn ((A0 (s0_0).toNat)).fDst), .int .u8 (nn ((A0 (s0_0).toNat)).fSrc), .int .i16 (ii ((A0 (s0_0).toNat)).fOff), .int .i32 (ii ((A0 (s0_0).toNat)).fImm)] #[.int .u8 (nn ((A1 (s0_0).toNat)).fOp), .int .u8 (nn ((A1 (s0_0).toNat)).fDst), .int .u8 (nn ((A1 (s0_0).toNat)).fSrc), .int .i16 (ii ((A1 (s0_0).toNat)).fOff), .int .i32 (ii ((A1 (s0_0).toNat)).fImm)] false (by kernel_rfl) (fun w => (eqi35 9998 ((A0 (s0_0).toNat)).fOp ((A1 (s0_0).toNat)).fOp ((A0 (s0_0).toNat)).fDst ((A1 (s0_0).toNat)).fDst ((A0 (s0_0).toNat)).fSrc ((A1 (s0_0).toNat)).fSrc ((A0 (s0_0).toNat)).fOff ((A1 (s0_0).toNat)).fOff ((A0 (s0_0).toNat)).fImm ((A1 (s0_0).toNat)).fImm w).trans (congrArg (fun b => Result.ok b w) h3)) (.tmp 20) (.tmp 24) w).2), .o] [] (fun b => rfl) (by decide) rfl (fun b => by kernel_rfl)
end
section
variable {M : Nat → Prop} {B0 : Nat} {S : World → Prop} (hU : Up M B0 S) (a0 : Option Addr) (p0 : Nat) (q0 : Nat) (n0 : Nat) (k0 : Nat) (A0 : Nat → Insn) (hR0 : Ro S c_Insn 5 a0 p0 q0 n0 A0) (a1 : Option Addr) (p1 : Nat) (q1 : Nat) (n1 : Nat) (k1 : Nat) (A1 : Nat → Insn) (hR1 : Ro S c_Insn 5 a1 p1 q1 n1 A1)
include hU a0 p0 q0 n0 k0 A0 hR0 a1 p1 q1 n1 k1 A1 hR1
theorem w0_4_barbicanhelp_Insns_L0 (s0_0 : Int) (h0 : (decide (s0_0 < (n0 : Int))) = false) : GoesG Try.prog M B0 S bd_barbicanhelp_Insns_L0 1 (fr_barbicanhelp_Insns_L0 a0 p0 q0 n0 k0 A0 a1 p1 q1 n1 k1 A1 (.c0 s0_0)) (Hs_barbicanhelp_Insns_L0 a0 p0 q0 n0 k0 A0 a1 p1 q1 n1 k1 A1 (.c0 s0_0)) (.exit 0) 0 (vf_barbicanhelp_Insns_L0 a0 p0 q0 n0 k0 A0 a1 p1 q1 n1 k1 A1 (.e0 )) (Hf_barbicanhelp_Insns_L0 a0 p0 q0 n0 k0 A0 a1 p1 q1 n1 k1 A1 (.e0 )) 1 :=
  goes_runG hU [.o, .o, .o, .b (z_lssF h0)] [] (fun b => rfl) (by decide) rfl (fun b => by kernel_rfl)
theorem go_barbicanhelp_Insns_L0 (s : Sh_barbicanhelp_Insns_L0) (r : Ex_barbicanhelp_Insns_L0) (h : lpO (st_barbicanhelp_Insns_L0 n0 A0 n1 A1) s = some r) : GoesG Try.prog M B0 S (.loop bd_barbicanhelp_Insns_L0) 1 (fr_barbicanhelp_Insns_L0 a0 p0 q0 n0 k0 A0 a1 p1 q1 n1 k1 A1 s) (Hs_barbicanhelp_Insns_L0 a0 p0 q0 n0 k0 A0 a1 p1 q1 n1 k1 A1 s) (ex_barbicanhelp_Insns_L0 r) 0 (vf_barbicanhelp_Insns_L0 a0 p0 q0 n0 k0 A0 a1 p1 q1 n1 k1 A1 r) (Hf_barbicanhelp_Insns_L0 a0 p0 q0 n0 k0 A0 a1 p1 q1 n1 k1 A1 r) 1 :=
  goes_lpO (fun s q e => by
    cases s with
    | c0 s0_0 =>
      unfold st_barbicanhelp_Insns_L0 at e
      dsimp only at e
      replace e := cond_eq_or e
      rcases e with ⟨hq0, e⟩ | ⟨hq0, e⟩
      · replace e := cond_eq_or e
        rcases e with ⟨hq1, e⟩ | ⟨hq1, e⟩
        · replace e := cond_eq_or e
          rcases e with ⟨hq2, e⟩ | ⟨hq2, e⟩
          · replace e := cond_eq_or e
            rcases e with ⟨hq3, e⟩ | ⟨hq3, e⟩
            · cases e; exact w0_0_barbicanhelp_Insns_L0 hU a0 p0 q0 n0 k0 A0 hR0 a1 p1 q1 n1 k1 A1 hR1 s0_0 hq0 hq1 hq2 hq3
            · cases e; exact ⟨ne_ret, w0_1_barbicanhelp_Insns_L0 hU a0 p0 q0 n0 k0 A0 hR0 a1 p1 q1 n1 k1 A1 hR1 s0_0 hq0 hq1 hq2 hq3⟩
          · exact none_some e
        · exact none_some e
      · cases e; exact ⟨ne_exit 0, w0_4_barbicanhelp_Insns_L0 hU a0 p0 q0 n0 k0 A0 hR0 a1 p1 q1 n1 k1 A1 hR1 s0_0 hq0⟩) s r h
def t0_barbicanhelp_Insns_L0_0 (a0 : Option Addr) (p0 : Nat) (q0 : Nat) (n0 : Nat) (k0 : Nat) (A0 : Nat → Insn) (a1 : Option Addr) (p1 : Nat) (q1 : Nat) (n1 : Nat) (k1 : Nat) (A1 : Nat → Insn) (s0_0 : Int) (ls : List L1) : List Value := [.slice a0 n0 (n0 + k0), .slice a1 n1 (n1 + k1), undef, undef, .bool false, .int .i64 (s0_0), .slice a0 n0 (n0 + k0), .int .i64 ((n0 : Int)), .slice a1 n1 (n1 + k1), .int .i64 ((n1 : Int)), .bool false, undef, undef, undef, undef, undef, undef, undef, undef, undef, undef, undef, undef, undef, undef, undef]
def pre_barbicanhelp_Insns_L0_0 (a0 : Option Addr) (p0 : Nat) (q0 : Nat) (n0 : Nat) (k0 : Nat) (A0 : Nat → Insn) (a1 : Option Addr) (p1 : Nat) (q1 : Nat) (n1 : Nat) (k1 : Nat) (A1 : Nat → Insn) (s0_0 : Int) (ls : List L1) : List Obj := []
theorem sp0_barbicanhelp_Insns_L0_0_ok (s0_0 : Int) (h : lpO (st_barbicanhelp_Insns_L0 n0 A0 n1 A1) (.c0 s0_0) = some (.e0 )) : SpcG Try.prog M B0 S ⟨fun ls => .code (.loop bd_barbicanhelp_Insns_L0) (t0_barbicanhelp_Insns_L0_0 a0 p0 q0 n0 k0 A0 a1 p1 q1 n1 k1 A1 s0_0 ls), pre_barbicanhelp_Insns_L0_0 a0 p0 q0 n0 k0 A0 a1 p1 q1 n1 k1 A1 s0_0, 1, (.exit 0), fun ls => vf_barbicanhelp_Insns_L0 a0 p0 q0 n0 k0 A0 a1 p1 q1 n1 k1 A1 (.e0 ) (ls.take 0 ++ ls.drop 0), fun ls => (Hf_barbicanhelp_Insns_L0 a0 p0 q0 n0 k0 A0 a1 p1 q1 n1 k1 A1 (.e0 ) (ls.take 0 ++ ls.drop 0)).take 0 ++ List.replicate 0 unb, fun ls => (Hf_barbicanhelp_Insns_L0 a0 p0 q0 n0 k0 A0 a1 p1 q1 n1 k1 A1 (.e0 ) (ls.take 0 ++ ls.drop 0)).drop 0⟩ :=
  spc_of_goesG hU 0 (k0 := 0) (go_barbicanhelp_Insns_L0 hU a0 p0 q0 n0 k0 A0 hR0 a1 p1 q1 n1 k1 A1 hR1 _ _ h) (t0_barbicanhelp_Insns_L0_0 a0 p0 q0 n0 k0 A0 a1 p1 q1 n1 k1 A1 s0_0) (pre_barbicanhelp_Insns_L0_0 a0 p0 q0 n0 k0 A0 a1 p1 q1 n1 k1 A1 s0_0) (fun _ => rfl) (fun ls h => by match ls, h with | [], _ => rfl) (fun ls h => by match ls, h with | [], _ => rfl) (by decide) (by decide) (fun ls => rfl)
theorem sp1_barbicanhelp_Insns_L0_0_ok (s0_0 : Int) (h : lpO (st_barbicanhelp_Insns_L0 n0 A0 n1 A1) (.c0 s0_0) = some (.e1 )) : SpcG Try.prog M B0 S ⟨fun ls => .code (.loop bd_barbicanhelp_Insns_L0) (t0_barbicanhelp_Insns_L0_0 a0 p0 q0 n0 k0 A0 a1 p1 q1 n1 k1 A1 s0_0 ls), pre_barbicanhelp_Insns_L0_0 a0 p0 q0 n0 k0 A0 a1 p1 q1 n1 k1 A1 s0_0, 1, .ret, fun ls => vf_barbicanhelp_Insns_L0 a0 p0 q0 n0 k0 A0 a1 p1 q1 n1 k1 A1 (.e1 ) (ls.take 0 ++ ls.drop 0), fun ls => (Hf_barbicanhelp_Insns_L0 a0 p0 q0 n0 k0 A0 a1 p1 q1 n1 k1 A1 (.e1 ) (ls.take 0 ++ ls.drop 0)).take 0 ++ List.replicate 0 unb, fun ls => (Hf_barbicanhelp_Insns_L0 a0 p0 q0 n0 k0 A0 a1 p1 q1 n1 k1 A1 (.e1 ) (ls.take 0 ++ ls.drop 0)).drop 0⟩ :=
  spc_of_goesG hU 0 (k0 := 0) (go_barbicanhelp_Insns_L0 hU a0 p0 q0 n0 k0 A0 hR0 a1 p1 q1 n1 k1 A1 hR1 _ _ h) (t0_barbicanhelp_Insns_L0_0 a0 p0 q0 n0 k0 A0 a1 p1 q1 n1 k1 A1 s0_0) (pre_barbicanhelp_Insns_L0_0 a0 p0 q0 n0 k0 A0 a1 p1 q1 n1 k1 A1 s0_0) (fun _ => rfl) (fun ls h => by match ls, h with | [], _ => rfl) (fun ls h => by match ls, h with | [], _ => rfl) (by decide) (by decide) (fun ls => rfl)
noncomputable def m_barbicanhelp_Insns (n0 : Nat) (A0 : Nat → Insn) (n1 : Nat) (A1 : Nat → Insn) : Option (Bool) :=
  bif (n0 : Int) == (n1 : Int) then
    ((lpO (st_barbicanhelp_Insns_L0 n0 A0 n1 A1) (.c0 0)).bind fun g0 => match g0 with
    | .e0  => (some true)
    | .e1  => (some false))
  else (some false)
theorem p0_barbicanhelp_Insns (h0 : ((n0 : Int) == (n1 : Int)) = true) (e_g0 : lpO (st_barbicanhelp_Insns_L0 n0 A0 n1 A1) (.c0 0) = some (.e0 )) : ConG Try.prog S 16 #[.slice a0 n0 (n0 + k0), .slice a1 n1 (n1 + k1)] (.bool true) :=
  fn_conG hU (P := Try.prog) Try.func16 (fun xs w => by kernel_rfl) [.slice a0 n0 (n0 + k0), .slice a1 n1 (n1 + k1)] (.bool true)
    [.o, .o, .o, .o, .o, .b (z_neqT h0), .o, .cp, .cx (sp0_barbicanhelp_Insns_L0_0_ok hU a0 p0 q0 n0 k0 A0 hR0 a1 p1 q1 n1 k1 A1 hR1 0  e_g0) [], .o]
    [] (fun b => by kernel_rfl)
theorem p1_barbicanhelp_Insns (h0 : ((n0 : Int) == (n1 : Int)) = true) (e_g0 : lpO (st_barbicanhelp_Insns_L0 n0 A0 n1 A1) (.c0 0) = some (.e1 )) : ConG Try.prog S 16 #[.slice a0 n0 (n0 + k0), .slice a1 n1 (n1 + k1)] (.bool false) :=
  fn_conG hU (P := Try.prog) Try.func16 (fun xs w => by kernel_rfl) [.slice a0 n0 (n0 + k0), .slice a1 n1 (n1 + k1)] (.bool false)
    [.o, .o, .o, .o, .o, .b (z_neqT h0), .o, .cp, .cx (sp1_barbicanhelp_Insns_L0_0_ok hU a0 p0 q0 n0 k0 A0 hR0 a1 p1 q1 n1 k1 A1 hR1 0  e_g0) []]
    [] (fun b => by kernel_rfl)
theorem p2_barbicanhelp_Insns (h0 : ((n0 : Int) == (n1 : Int)) = false) : ConG Try.prog S 16 #[.slice a0 n0 (n0 + k0), .slice a1 n1 (n1 + k1)] (.bool false) :=
  fn_conG hU (P := Try.prog) Try.func16 (fun xs w => by kernel_rfl) [.slice a0 n0 (n0 + k0), .slice a1 n1 (n1 + k1)] (.bool false)
    [.o, .o, .o, .o, .o, .b (z_neqF h0), .o]
    [] (fun b => by kernel_rfl)
theorem ok_barbicanhelp_Insns (r : Bool) (e : m_barbicanhelp_Insns n0 A0 n1 A1 = some r) : ConG Try.prog S 16 #[.slice a0 n0 (n0 + k0), .slice a1 n1 (n1 + k1)] (.bool (r)) := by
  unfold m_barbicanhelp_Insns at e
  replace e := cond_eq_or e
  rcases e with ⟨hq0, e⟩ | ⟨hq0, e⟩
  · replace e := bindO_eq e
    obtain ⟨g0, e_g0, e⟩ := e
    rcases g0 with _ | _
    · try dsimp only at e
      injection e with e; subst e; exact p0_barbicanhelp_Insns hU a0 p0 q0 n0 k0 A0 hR0 a1 p1 q1 n1 k1 A1 hR1 hq0 e_g0
    · try dsimp only at e
      injection e with e; subst e; exact p1_barbicanhelp_Insns hU a0 p0 q0 n0 k0 A0 hR0 a1 p1 q1 n1 k1 A1 hR1 hq0 e_g0
  · injection e with e; subst e; exact p2_barbicanhelp_Insns hU a0 p0 q0 n0 k0 A0 hR0 a1 p1 q1 n1 k1 A1 hR1 hq0
end

end Go.Proofs.Ytmlkiamemkfdlaa
