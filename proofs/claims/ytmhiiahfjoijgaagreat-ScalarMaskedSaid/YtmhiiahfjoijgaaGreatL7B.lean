/-
  Packages scalar and alu, by the program's own text.
-/
import Derived.Test.YtmhiiahfjoijgaaGreatL7N
namespace Go.Proofs.YtmhiiahfjoijgaaGreat
open Go.RowKit
set_option linter.unusedVariables false
set_option linter.unusedSimpArgs false
set_option maxRecDepth 100000
set_option maxHeartbeats 4000000
-- tuples
def vt0 (r : (T) × (Bool)) : Value := .tuple #[(tv (r.1)), (.bool (r.2))]

-- loop 0 of barbican/scalar.atMost: state t8 t7, out t4 t5
def st_scalar_atMost_L0 (x0 : T) (x1 : BitVec 64) (ra0 : BitVec 64) : (BitVec 64) × (BitVec 64) → ((BitVec 64) × (BitVec 64)) ⊕ (Bool × ((BitVec 64) × (Bool)))
  | (s0, s1) =>
    (bif BitVec.slt s0 0#64 then
      (.inr (true, (0#64, false)))
      else (bif (x0.m &&& (1#64 <<< (s0).toNat)) == 0#64 then
        (bif BitVec.ult (x0.v &&& (1#64 <<< (s0).toNat)) (x1 &&& (1#64 <<< (s0).toNat)) then
          (.inr (false, (((x1 &&& ~~~(((1#64 <<< (s0).toNat) <<< 1) - 1#64)) ||| (ra0 &&& ((1#64 <<< (s0).toNat) - 1#64))), true)))
          else (bif BitVec.ult (x1 &&& (1#64 <<< (s0).toNat)) (x0.v &&& (1#64 <<< (s0).toNat)) then
            (bif BitVec.slt s1 0#64 then
              (.inr (false, (0#64, false)))
              else (.inr (false, (((x1 &&& ~~~(((1#64 <<< (s1).toNat) <<< 1) - 1#64)) ||| (ra0 &&& ((1#64 <<< (s1).toNat) - 1#64))), true))))
            else (.inl ((s0 - 1#64), s1))))
        else (bif (x1 &&& (1#64 <<< (s0).toNat)) == 0#64 then
          (.inl ((s0 - 1#64), s1))
          else (.inl ((s0 - 1#64), s0)))))
def mu_scalar_atMost_L0 (x0 : T) (x1 : BitVec 64) (ra0 : BitVec 64) : (BitVec 64) × (BitVec 64) → Nat
  | (s0, s1) => (s0.toInt + 1).toNat
def inv_scalar_atMost_L0 (x0 : T) (x1 : BitVec 64) (ra0 : BitVec 64) : (BitVec 64) × (BitVec 64) → Prop
  | (s0, s1) => (-1 : Int) ≤ s0.toInt ∧ s0.toInt ≤ 63
def lp_scalar_atMost_L0 (x0 : T) (x1 : BitVec 64) (ra0 : BitVec 64) (s : (BitVec 64) × (BitVec 64)) : Bool × ((BitVec 64) × (Bool)) := lp (st_scalar_atMost_L0 x0 x1 ra0) (false, (0#64, false)) (mu_scalar_atMost_L0 x0 x1 ra0) s
noncomputable def bd_scalar_atMost_L0 : Code := codeOf Tryz.f139 [1, 1, 1, 0, 1, 0, 0]
def fr_scalar_atMost_L0 (x0 : T) (x1 : BitVec 64) (ra0 : BitVec 64) : (BitVec 64) × (BitVec 64) → List L1 → List Value
  | (s0, s1), [l0, l1] => [tv (x0), .int .u64 (nn (x1)), (ptrTo l0.n), undef, (l1.u 4), (l1.u 5), .int .u64 (nn (ra0)), .int .i64 (ii (s1)), .int .i64 (ii (s0)), (l1.u 9), .agg #[.int .u64 (nn (x0.v)), .int .u64 (nn (x0.m))], .int .u64 (nn (ra0)), (l1.u 12), (l1.u 13), (l1.u 14), (l1.u 15), (l1.u 16), (l1.u 17), (l1.u 18), (l1.u 19), (l1.u 20), (l1.u 21), (l1.u 22), (l1.u 23), (l1.u 24), (l1.u 25), (l1.u 26), (l1.u 27), (l1.u 28), (l1.u 29), (l1.u 30), (l1.u 31), (l1.u 32), (l1.u 33), (l1.u 34), (l1.u 35), (l1.u 36), (l1.u 37), (l1.u 38), (l1.u 39), (l1.u 40), (l1.u 41), (l1.u 42), (l1.u 43), (l1.u 44), (l1.u 45), (l1.u 46), (l1.u 47), (l1.u 48), (l1.u 49), (l1.u 50), (l1.u 51), (l1.u 52), (l1.u 53), (l1.u 54), (l1.u 55), (l1.u 56), (l1.u 57), (l1.u 58), (l1.u 59), (l1.u 60), (l1.u 61), (l1.u 62), (l1.u 63), (l1.u 64), (l1.u 65), (l1.u 66), (l1.u 67), (l1.u 68), (l1.u 69), (l1.u 70), (l1.u 71), (l1.u 72), (l1.u 73), (l1.u 74), (l1.u 75), (l1.u 76), (l1.u 77), (l1.u 78), (l1.u 79), (l1.u 80), (l1.u 81), undef]
  | _, _ => []
def Hs_scalar_atMost_L0 (x0 : T) (x1 : BitVec 64) (ra0 : BitVec 64) : (BitVec 64) × (BitVec 64) → List L1 → List Obj
  | (s0, s1), _ => [.cells #[.int .u64 (nn (x0.v)), .int .u64 (nn (x0.m))] 25, unb]
def vf0_scalar_atMost_L0 (x0 : T) (x1 : BitVec 64) (ra0 : BitVec 64) (r : Bool × ((BitVec 64) × (Bool))) (b1 : Bool) : List L1 → List Value
  | [l0, l1] => [tv (x0), .int .u64 (nn (x1)), (ptrTo l0.n), undef, (l1.u 4), (l1.u 5), .int .u64 (nn (ra0)), (l1.u 7), (l1.u 8), (l1.u 9), .agg #[.int .u64 (nn (x0.v)), .int .u64 (nn (x0.m))], .int .u64 (nn (ra0)), (l1.u 12), (l1.u 13), (l1.u 14), (l1.u 15), (l1.u 16), (l1.u 17), (l1.u 18), (l1.u 19), (l1.u 20), (l1.u 21), (l1.u 22), (l1.u 23), (l1.u 24), (l1.u 25), (l1.u 26), (l1.u 27), (l1.u 28), (l1.u 29), (l1.u 30), (l1.u 31), (l1.u 32), (l1.u 33), (l1.u 34), (l1.u 35), (l1.u 36), (l1.u 37), (l1.u 38), (l1.u 39), (l1.u 40), (l1.u 41), (l1.u 42), (l1.u 43), (l1.u 44), (l1.u 45), (l1.u 46), (l1.u 47), (l1.u 48), (l1.u 49), (l1.u 50), (l1.u 51), (l1.u 52), (l1.u 53), (l1.u 54), (l1.u 55), (l1.u 56), (l1.u 57), (l1.u 58), (l1.u 59), (l1.u 60), (l1.u 61), (l1.u 62), (l1.u 63), (l1.u 64), (l1.u 65), (l1.u 66), (l1.u 67), (l1.u 68), (l1.u 69), (l1.u 70), (l1.u 71), (l1.u 72), (l1.u 73), (l1.u 74), (l1.u 75), (l1.u 76), (l1.u 77), (l1.u 78), (l1.u 79), (l1.u 80), (l1.u 81), undef]
  | _ => []
def Hf_scalar_atMost_L0 (x0 : T) (x1 : BitVec 64) (ra0 : BitVec 64) (r : Bool × ((BitVec 64) × (Bool))) (b1 : Bool) (_ : List L1) : List Obj := [.cells #[.int .u64 (nn (x0.v)), .int .u64 (nn (x0.m))] 25, unb]
def vf1_scalar_atMost_L0 (x0 : T) (x1 : BitVec 64) (ra0 : BitVec 64) (r : Bool × ((BitVec 64) × (Bool))) (b1 : Bool) : List L1 → List Value
  | [l0, l1] => [tv (x0), .int .u64 (nn (x1)), (ptrTo l0.n), undef, .int .u64 (nn (((r.2).1))), .bool (b1), .int .u64 (nn (ra0)), (l1.u 7), (l1.u 8), (l1.u 9), .agg #[.int .u64 (nn (x0.v)), .int .u64 (nn (x0.m))], .int .u64 (nn (ra0)), (l1.u 12), (l1.u 13), (l1.u 14), (l1.u 15), (l1.u 16), (l1.u 17), (l1.u 18), (l1.u 19), (l1.u 20), (l1.u 21), (l1.u 22), (l1.u 23), (l1.u 24), (l1.u 25), (l1.u 26), (l1.u 27), (l1.u 28), (l1.u 29), (l1.u 30), (l1.u 31), (l1.u 32), (l1.u 33), (l1.u 34), (l1.u 35), (l1.u 36), (l1.u 37), (l1.u 38), (l1.u 39), (l1.u 40), (l1.u 41), (l1.u 42), (l1.u 43), (l1.u 44), (l1.u 45), (l1.u 46), (l1.u 47), (l1.u 48), (l1.u 49), (l1.u 50), (l1.u 51), (l1.u 52), (l1.u 53), (l1.u 54), (l1.u 55), (l1.u 56), (l1.u 57), (l1.u 58), (l1.u 59), (l1.u 60), (l1.u 61), (l1.u 62), (l1.u 63), (l1.u 64), (l1.u 65), (l1.u 66), (l1.u 67), (l1.u 68), (l1.u 69), (l1.u 70), (l1.u 71), (l1.u 72), (l1.u 73), (l1.u 74), (l1.u 75), (l1.u 76), (l1.u 77), (l1.u 78), (l1.u 79), (l1.u 80), (l1.u 81), undef]
  | _ => []
def vf_scalar_atMost_L0 (x0 : T) (x1 : BitVec 64) (ra0 : BitVec 64) (r : Bool × ((BitVec 64) × (Bool))) (b1 : Bool) : List L1 → List Value := bif r.1 then vf0_scalar_atMost_L0 x0 x1 ra0 r b1 else vf1_scalar_atMost_L0 x0 x1 ra0 r b1
def ex_scalar_atMost_L0 (r : Bool × ((BitVec 64) × (Bool))) : Ex := bif r.1 then (.exit 0) else .ret
theorem w0_scalar_atMost_L0 (x0 : T) (x1 : BitVec 64) (ra0 : BitVec 64) (s0 : BitVec 64) (s1 : BitVec 64) (hI : inv_scalar_atMost_L0 x0 x1 ra0 (s0, s1)) (h0 : (BitVec.slt s0 0#64) = true) : Goes1 Tryz.prog bd_scalar_atMost_L0 2 (fr_scalar_atMost_L0 x0 x1 ra0 (s0, s1)) (Hs_scalar_atMost_L0 x0 x1 ra0 (s0, s1)) (.exit 0) 1 (vf_scalar_atMost_L0 x0 x1 ra0 (true, (0#64, false)) (false)) (Hf_scalar_atMost_L0 x0 x1 ra0 (true, (0#64, false)) (false)) 2 :=
  goes_runI [.o, .tn (i_ge s0 0#64) h0] [0] (fun b => rfl) (by decide) rfl (fun b => by kernel_rfl)
theorem w1_scalar_atMost_L0 (x0 : T) (x1 : BitVec 64) (ra0 : BitVec 64) (s0 : BitVec 64) (s1 : BitVec 64) (hI : inv_scalar_atMost_L0 x0 x1 ra0 (s0, s1)) (h0 : (BitVec.slt s0 0#64) = false) (h1 : ((x0.m &&& (1#64 <<< (s0).toNat)) == 0#64) = true) (h2 : (BitVec.ult (x0.v &&& (1#64 <<< (s0).toNat)) (x1 &&& (1#64 <<< (s0).toNat))) = true) : Goes1 Tryz.prog bd_scalar_atMost_L0 2 (fr_scalar_atMost_L0 x0 x1 ra0 (s0, s1)) (Hs_scalar_atMost_L0 x0 x1 ra0 (s0, s1)) .ret 1 (vf_scalar_atMost_L0 x0 x1 ra0 (false, (((x1 &&& ~~~(((1#64 <<< (s0).toNat) <<< 1) - 1#64)) ||| (ra0 &&& ((1#64 <<< (s0).toNat) - 1#64))), true)) (true)) (Hf_scalar_atMost_L0 x0 x1 ra0 (false, (((x1 &&& ~~~(((1#64 <<< (s0).toNat) <<< 1) - 1#64)) ||| (ra0 &&& ((1#64 <<< (s0).toNat) - 1#64))), true)) (true)) 2 :=
  goes_runI [.o, .tn (i_ge s0 0#64) h0, .o, .ov (u64_shl Tryz.prog 22 (.const (.int .u64 ((1)))) (.tmp 16) (1#64) (s0).toNat .i64 (ii_pos h0)), .o, .o, .a 0, .o, .v .u64 (u64_and x0.m (1#64 <<< (s0).toNat)), .tn (u_ne (x0.m &&& (1#64 <<< (s0).toNat)) 0#64) h1, .o, .o, .a 0, .o, .v .u64 (u64_and x0.v (1#64 <<< (s0).toNat)), .o, .o, .v .u64 (u64_and x1 (1#64 <<< (s0).toNat)), .t (u_lt (x0.v &&& (1#64 <<< (s0).toNat)) (x1 &&& (1#64 <<< (s0).toNat))) h2, .o, .o, .o, .ov (u64_shl Tryz.prog 22 (.tmp 39) (.const (.int .u64 ((1)))) ((1#64 <<< (s0).toNat)) 1 .u64 rfl), .v .u64 (u64_sub ((1#64 <<< (s0).toNat) <<< 1) 1#64), .v .u64 (u64_not x1 (((1#64 <<< (s0).toNat) <<< 1) - 1#64)), .o, .o, .v .u64 (u64_sub (1#64 <<< (s0).toNat) 1#64), .v .u64 (u64_and ra0 ((1#64 <<< (s0).toNat) - 1#64)), .v .u64 (u64_or (x1 &&& ~~~(((1#64 <<< (s0).toNat) <<< 1) - 1#64)) (ra0 &&& ((1#64 <<< (s0).toNat) - 1#64))), .o, .o] [0] (fun b => rfl) (by decide) rfl (fun b => by kernel_rfl)
theorem w2_scalar_atMost_L0 (x0 : T) (x1 : BitVec 64) (ra0 : BitVec 64) (s0 : BitVec 64) (s1 : BitVec 64) (hI : inv_scalar_atMost_L0 x0 x1 ra0 (s0, s1)) (h0 : (BitVec.slt s0 0#64) = false) (h1 : ((x0.m &&& (1#64 <<< (s0).toNat)) == 0#64) = true) (h2 : (BitVec.ult (x0.v &&& (1#64 <<< (s0).toNat)) (x1 &&& (1#64 <<< (s0).toNat))) = false) (h3 : (BitVec.ult (x1 &&& (1#64 <<< (s0).toNat)) (x0.v &&& (1#64 <<< (s0).toNat))) = true) (h4 : (BitVec.slt s1 0#64) = true) : Goes1 Tryz.prog bd_scalar_atMost_L0 2 (fr_scalar_atMost_L0 x0 x1 ra0 (s0, s1)) (Hs_scalar_atMost_L0 x0 x1 ra0 (s0, s1)) .ret 1 (vf_scalar_atMost_L0 x0 x1 ra0 (false, (0#64, false)) (false)) (Hf_scalar_atMost_L0 x0 x1 ra0 (false, (0#64, false)) (false)) 2 :=
  goes_runI [.o, .tn (i_ge s0 0#64) h0, .o, .ov (u64_shl Tryz.prog 22 (.const (.int .u64 ((1)))) (.tmp 16) (1#64) (s0).toNat .i64 (ii_pos h0)), .o, .o, .a 0, .o, .v .u64 (u64_and x0.m (1#64 <<< (s0).toNat)), .tn (u_ne (x0.m &&& (1#64 <<< (s0).toNat)) 0#64) h1, .o, .o, .a 0, .o, .v .u64 (u64_and x0.v (1#64 <<< (s0).toNat)), .o, .o, .v .u64 (u64_and x1 (1#64 <<< (s0).toNat)), .t (u_lt (x0.v &&& (1#64 <<< (s0).toNat)) (x1 &&& (1#64 <<< (s0).toNat))) h2, .o, .o, .a 0, .o, .v .u64 (u64_and x0.v (1#64 <<< (s0).toNat)), .o, .o, .v .u64 (u64_and x1 (1#64 <<< (s0).toNat)), .t (u_gt (x0.v &&& (1#64 <<< (s0).toNat)) (x1 &&& (1#64 <<< (s0).toNat))) h3, .o, .o, .t (i_lt s1 0#64) h4, .o, .o, .o, .o] [0] (fun b => rfl) (by decide) rfl (fun b => by kernel_rfl)
theorem w3_scalar_atMost_L0 (x0 : T) (x1 : BitVec 64) (ra0 : BitVec 64) (s0 : BitVec 64) (s1 : BitVec 64) (hI : inv_scalar_atMost_L0 x0 x1 ra0 (s0, s1)) (h0 : (BitVec.slt s0 0#64) = false) (h1 : ((x0.m &&& (1#64 <<< (s0).toNat)) == 0#64) = true) (h2 : (BitVec.ult (x0.v &&& (1#64 <<< (s0).toNat)) (x1 &&& (1#64 <<< (s0).toNat))) = false) (h3 : (BitVec.ult (x1 &&& (1#64 <<< (s0).toNat)) (x0.v &&& (1#64 <<< (s0).toNat))) = true) (h4 : (BitVec.slt s1 0#64) = false) : Goes1 Tryz.prog bd_scalar_atMost_L0 2 (fr_scalar_atMost_L0 x0 x1 ra0 (s0, s1)) (Hs_scalar_atMost_L0 x0 x1 ra0 (s0, s1)) .ret 1 (vf_scalar_atMost_L0 x0 x1 ra0 (false, (((x1 &&& ~~~(((1#64 <<< (s1).toNat) <<< 1) - 1#64)) ||| (ra0 &&& ((1#64 <<< (s1).toNat) - 1#64))), true)) (true)) (Hf_scalar_atMost_L0 x0 x1 ra0 (false, (((x1 &&& ~~~(((1#64 <<< (s1).toNat) <<< 1) - 1#64)) ||| (ra0 &&& ((1#64 <<< (s1).toNat) - 1#64))), true)) (true)) 2 :=
  goes_runI [.o, .tn (i_ge s0 0#64) h0, .o, .ov (u64_shl Tryz.prog 22 (.const (.int .u64 ((1)))) (.tmp 16) (1#64) (s0).toNat .i64 (ii_pos h0)), .o, .o, .a 0, .o, .v .u64 (u64_and x0.m (1#64 <<< (s0).toNat)), .tn (u_ne (x0.m &&& (1#64 <<< (s0).toNat)) 0#64) h1, .o, .o, .a 0, .o, .v .u64 (u64_and x0.v (1#64 <<< (s0).toNat)), .o, .o, .v .u64 (u64_and x1 (1#64 <<< (s0).toNat)), .t (u_lt (x0.v &&& (1#64 <<< (s0).toNat)) (x1 &&& (1#64 <<< (s0).toNat))) h2, .o, .o, .a 0, .o, .v .u64 (u64_and x0.v (1#64 <<< (s0).toNat)), .o, .o, .v .u64 (u64_and x1 (1#64 <<< (s0).toNat)), .t (u_gt (x0.v &&& (1#64 <<< (s0).toNat)) (x1 &&& (1#64 <<< (s0).toNat))) h3, .o, .o, .t (i_lt s1 0#64) h4, .o, .o, .o, .a 0, .o, .v .u64 (u64_and x0.v (1#64 <<< (s0).toNat)), .o, .o, .v .u64 (u64_and x1 (1#64 <<< (s0).toNat)), .t (u_gt (x0.v &&& (1#64 <<< (s0).toNat)) (x1 &&& (1#64 <<< (s0).toNat))) h3, .o, .o, .ov (u64_shl Tryz.prog 22 (.const (.int .u64 ((1)))) (.tmp 70) (1#64) (s1).toNat .i64 (ii_pos h4)), .o, .o, .o, .ov (u64_shl Tryz.prog 22 (.tmp 73) (.const (.int .u64 ((1)))) ((1#64 <<< (s1).toNat)) 1 .u64 rfl), .v .u64 (u64_sub ((1#64 <<< (s1).toNat) <<< 1) 1#64), .v .u64 (u64_not x1 (((1#64 <<< (s1).toNat) <<< 1) - 1#64)), .o, .o, .v .u64 (u64_sub (1#64 <<< (s1).toNat) 1#64), .v .u64 (u64_and ra0 ((1#64 <<< (s1).toNat) - 1#64)), .v .u64 (u64_or (x1 &&& ~~~(((1#64 <<< (s1).toNat) <<< 1) - 1#64)) (ra0 &&& ((1#64 <<< (s1).toNat) - 1#64))), .o, .o] [0] (fun b => rfl) (by decide) rfl (fun b => by kernel_rfl)
theorem w4_scalar_atMost_L0 (x0 : T) (x1 : BitVec 64) (ra0 : BitVec 64) (s0 : BitVec 64) (s1 : BitVec 64) (hI : inv_scalar_atMost_L0 x0 x1 ra0 (s0, s1)) (h0 : (BitVec.slt s0 0#64) = false) (h1 : ((x0.m &&& (1#64 <<< (s0).toNat)) == 0#64) = true) (h2 : (BitVec.ult (x0.v &&& (1#64 <<< (s0).toNat)) (x1 &&& (1#64 <<< (s0).toNat))) = false) (h3 : (BitVec.ult (x1 &&& (1#64 <<< (s0).toNat)) (x0.v &&& (1#64 <<< (s0).toNat))) = false) : Goes1 Tryz.prog bd_scalar_atMost_L0 2 (fr_scalar_atMost_L0 x0 x1 ra0 (s0, s1)) (Hs_scalar_atMost_L0 x0 x1 ra0 (s0, s1)) Ex.normal 1 (fr_scalar_atMost_L0 x0 x1 ra0 ((s0 - 1#64), s1)) (Hs_scalar_atMost_L0 x0 x1 ra0 ((s0 - 1#64), s1)) 2 :=
  goes_runI [.o, .tn (i_ge s0 0#64) h0, .o, .ov (u64_shl Tryz.prog 22 (.const (.int .u64 ((1)))) (.tmp 16) (1#64) (s0).toNat .i64 (ii_pos h0)), .o, .o, .a 0, .o, .v .u64 (u64_and x0.m (1#64 <<< (s0).toNat)), .tn (u_ne (x0.m &&& (1#64 <<< (s0).toNat)) 0#64) h1, .o, .o, .a 0, .o, .v .u64 (u64_and x0.v (1#64 <<< (s0).toNat)), .o, .o, .v .u64 (u64_and x1 (1#64 <<< (s0).toNat)), .t (u_lt (x0.v &&& (1#64 <<< (s0).toNat)) (x1 &&& (1#64 <<< (s0).toNat))) h2, .o, .o, .a 0, .o, .v .u64 (u64_and x0.v (1#64 <<< (s0).toNat)), .o, .o, .v .u64 (u64_and x1 (1#64 <<< (s0).toNat)), .t (u_gt (x0.v &&& (1#64 <<< (s0).toNat)) (x1 &&& (1#64 <<< (s0).toNat))) h3, .o, .o, .o, .o, .a 0, .o, .v .u64 (u64_and x0.v (1#64 <<< (s0).toNat)), .o, .o, .v .u64 (u64_and x1 (1#64 <<< (s0).toNat)), .t (u_gt (x0.v &&& (1#64 <<< (s0).toNat)) (x1 &&& (1#64 <<< (s0).toNat))) h3, .o, .o, .v .i64 (i64_sub s0 1#64), .o] [0] (fun b => rfl) (by decide) rfl (fun b => by kernel_rfl)
theorem w5_scalar_atMost_L0 (x0 : T) (x1 : BitVec 64) (ra0 : BitVec 64) (s0 : BitVec 64) (s1 : BitVec 64) (hI : inv_scalar_atMost_L0 x0 x1 ra0 (s0, s1)) (h0 : (BitVec.slt s0 0#64) = false) (h1 : ((x0.m &&& (1#64 <<< (s0).toNat)) == 0#64) = false) (h2 : ((x1 &&& (1#64 <<< (s0).toNat)) == 0#64) = true) : Goes1 Tryz.prog bd_scalar_atMost_L0 2 (fr_scalar_atMost_L0 x0 x1 ra0 (s0, s1)) (Hs_scalar_atMost_L0 x0 x1 ra0 (s0, s1)) Ex.normal 1 (fr_scalar_atMost_L0 x0 x1 ra0 ((s0 - 1#64), s1)) (Hs_scalar_atMost_L0 x0 x1 ra0 ((s0 - 1#64), s1)) 2 :=
  goes_runI [.o, .tn (i_ge s0 0#64) h0, .o, .ov (u64_shl Tryz.prog 22 (.const (.int .u64 ((1)))) (.tmp 16) (1#64) (s0).toNat .i64 (ii_pos h0)), .o, .o, .a 0, .o, .v .u64 (u64_and x0.m (1#64 <<< (s0).toNat)), .tn (u_ne (x0.m &&& (1#64 <<< (s0).toNat)) 0#64) h1, .o, .o, .o, .v .u64 (u64_and x1 (1#64 <<< (s0).toNat)), .tn (u_ne (x1 &&& (1#64 <<< (s0).toNat)) 0#64) h2, .o, .v .i64 (i64_sub s0 1#64), .o] [0] (fun b => rfl) (by decide) rfl (fun b => by kernel_rfl)
theorem w6_scalar_atMost_L0 (x0 : T) (x1 : BitVec 64) (ra0 : BitVec 64) (s0 : BitVec 64) (s1 : BitVec 64) (hI : inv_scalar_atMost_L0 x0 x1 ra0 (s0, s1)) (h0 : (BitVec.slt s0 0#64) = false) (h1 : ((x0.m &&& (1#64 <<< (s0).toNat)) == 0#64) = false) (h2 : ((x1 &&& (1#64 <<< (s0).toNat)) == 0#64) = false) : Goes1 Tryz.prog bd_scalar_atMost_L0 2 (fr_scalar_atMost_L0 x0 x1 ra0 (s0, s1)) (Hs_scalar_atMost_L0 x0 x1 ra0 (s0, s1)) Ex.normal 1 (fr_scalar_atMost_L0 x0 x1 ra0 ((s0 - 1#64), s0)) (Hs_scalar_atMost_L0 x0 x1 ra0 ((s0 - 1#64), s0)) 2 :=
  goes_runI [.o, .tn (i_ge s0 0#64) h0, .o, .ov (u64_shl Tryz.prog 22 (.const (.int .u64 ((1)))) (.tmp 16) (1#64) (s0).toNat .i64 (ii_pos h0)), .o, .o, .a 0, .o, .v .u64 (u64_and x0.m (1#64 <<< (s0).toNat)), .tn (u_ne (x0.m &&& (1#64 <<< (s0).toNat)) 0#64) h1, .o, .o, .o, .v .u64 (u64_and x1 (1#64 <<< (s0).toNat)), .tn (u_ne (x1 &&& (1#64 <<< (s0).toNat)) 0#64) h2, .o, .o, .o, .v .i64 (i64_sub s0 1#64), .o] [0] (fun b => rfl) (by decide) rfl (fun b => by kernel_rfl)
theorem dec_scalar_atMost_L0 (x0 : T) (x1 : BitVec 64) (ra0 : BitVec 64) : Falls (st_scalar_atMost_L0 x0 x1 ra0) (mu_scalar_atMost_L0 x0 x1 ra0) (inv_scalar_atMost_L0 x0 x1 ra0) := ⟨by
  rintro ⟨s0, s1⟩ s' hI e
  simp only [st_scalar_atMost_L0, Bool.cond_eq_ite] at e
  repeat' (split at e)
  all_goals first
    | (cases e; done)
    | (simp only [Sum.inl.injEq] at e; subst e; simp only [inv_scalar_atMost_L0, mu_scalar_atMost_L0] at hI ⊢; have := down1 (s := s0) (by assumption); omega)⟩
theorem go_scalar_atMost_L0 (x0 : T) (x1 : BitVec 64) (ra0 : BitVec 64) : ∀ s, inv_scalar_atMost_L0 x0 x1 ra0 s → Goes1 Tryz.prog (.loop bd_scalar_atMost_L0) 2 (fr_scalar_atMost_L0 x0 x1 ra0 s) (Hs_scalar_atMost_L0 x0 x1 ra0 s) (ex_scalar_atMost_L0 (lp_scalar_atMost_L0 x0 x1 ra0 s)) 1 (vf_scalar_atMost_L0 x0 x1 ra0 (lp_scalar_atMost_L0 x0 x1 ra0 s) (((lp_scalar_atMost_L0 x0 x1 ra0 s).2).2)) (Hf_scalar_atMost_L0 x0 x1 ra0 (lp_scalar_atMost_L0 x0 x1 ra0 s) (((lp_scalar_atMost_L0 x0 x1 ra0 s).2).2)) 2 :=
  goes_lp (ex := ex_scalar_atMost_L0) (vf := fun r => vf_scalar_atMost_L0 x0 x1 ra0 r ((r.2).2)) (Hf := fun r => Hf_scalar_atMost_L0 x0 x1 ra0 r ((r.2).2)) _ (dec_scalar_atMost_L0 x0 x1 ra0 ) fun s hI => by
  obtain ⟨s0, s1⟩ := s
  unfold st_scalar_atMost_L0
  dsimp only
  cases h0 : (BitVec.slt s0 0#64)
  · cases h1 : ((x0.m &&& (1#64 <<< (s0).toNat)) == 0#64)
    · cases h2 : ((x1 &&& (1#64 <<< (s0).toNat)) == 0#64)
      · exact w6_scalar_atMost_L0 x0 x1 ra0  s0 s1 hI  h0 h1 h2
      · exact w5_scalar_atMost_L0 x0 x1 ra0  s0 s1 hI  h0 h1 h2
    · cases h2 : (BitVec.ult (x0.v &&& (1#64 <<< (s0).toNat)) (x1 &&& (1#64 <<< (s0).toNat)))
      · cases h3 : (BitVec.ult (x1 &&& (1#64 <<< (s0).toNat)) (x0.v &&& (1#64 <<< (s0).toNat)))
        · exact w4_scalar_atMost_L0 x0 x1 ra0  s0 s1 hI  h0 h1 h2 h3
        · cases h4 : (BitVec.slt s1 0#64)
          · exact ⟨ne_ret, w3_scalar_atMost_L0 x0 x1 ra0  s0 s1 hI  h0 h1 h2 h3 h4⟩
          · exact ⟨ne_ret, w2_scalar_atMost_L0 x0 x1 ra0  s0 s1 hI  h0 h1 h2 h3 h4⟩
      · exact ⟨ne_ret, w1_scalar_atMost_L0 x0 x1 ra0  s0 s1 hI  h0 h1 h2⟩
  · exact ⟨ne_exit 0, w0_scalar_atMost_L0 x0 x1 ra0  s0 s1 hI  h0⟩
def t0_scalar_atMost_L0 (x0 : T) (x1 : BitVec 64) (ra0 : BitVec 64) (s : (BitVec 64) × (BitVec 64)) : List L1 → List Value
  | [l0] => [tv (x0), .int .u64 (nn (x1)), (ptrTo l0.n), undef, .int .u64 ((0)), .bool false, .int .u64 (nn (ra0)), (.int .i64 (ii (s.2))), (.int .i64 (ii (s.1))), undef, .agg #[.int .u64 (nn (x0.v)), .int .u64 (nn (x0.m))], .int .u64 (nn (ra0)), undef, undef, undef, undef, undef, undef, undef, undef, undef, undef, undef, undef, undef, undef, undef, undef, undef, undef, undef, undef, undef, undef, undef, undef, undef, undef, undef, undef, undef, undef, undef, undef, undef, undef, undef, undef, undef, undef, undef, undef, undef, undef, undef, undef, undef, undef, undef, undef, undef, undef, undef, undef, undef, undef, undef, undef, undef, undef, undef, undef, undef, undef, undef, undef, undef, undef, undef, undef, undef, undef, undef]
  | _ => []
def pre_scalar_atMost_L0 (x0 : T) (x1 : BitVec 64) (ra0 : BitVec 64) (s : (BitVec 64) × (BitVec 64)) : List Obj := [.cells #[.int .u64 (nn (x0.v)), .int .u64 (nn (x0.m))] 25]
noncomputable def sp_scalar_atMost_L0_0 (x0 : T) (x1 : BitVec 64) (ra0 : BitVec 64) (s : (BitVec 64) × (BitVec 64)) (b1 : Bool) : Spc := ⟨fun ls => .code (.loop bd_scalar_atMost_L0) (t0_scalar_atMost_L0 x0 x1 ra0 s ls), fun _ => pre_scalar_atMost_L0 x0 x1 ra0 s, 1, (.exit 0), fun ls => vf0_scalar_atMost_L0 x0 x1 ra0 (lp_scalar_atMost_L0 x0 x1 ra0 s) b1 (ls.take 1 ++ ls.drop 1), fun ls => (Hf_scalar_atMost_L0 x0 x1 ra0 (lp_scalar_atMost_L0 x0 x1 ra0 s) b1 (ls.take 1 ++ ls.drop 1)).take 1 ++ List.replicate 0 unb, fun ls => (Hf_scalar_atMost_L0 x0 x1 ra0 (lp_scalar_atMost_L0 x0 x1 ra0 s) b1 (ls.take 1 ++ ls.drop 1)).drop 1⟩
theorem sp_scalar_atMost_L0_0_ok (x0 : T) (x1 : BitVec 64) (ra0 : BitVec 64) (s : (BitVec 64) × (BitVec 64)) (b1 : Bool) (hI : inv_scalar_atMost_L0 x0 x1 ra0 s) (ht : (lp_scalar_atMost_L0 x0 x1 ra0 s).1 = true) (hb1 : (((lp_scalar_atMost_L0 x0 x1 ra0 s).2).2) = b1) : SpcOk Tryz.prog (fun _ => True) (sp_scalar_atMost_L0_0 x0 x1 ra0 s b1) := by
  subst hb1
  have h := go_scalar_atMost_L0 x0 x1 ra0  s hI
  rw [show ex_scalar_atMost_L0 (lp_scalar_atMost_L0 x0 x1 ra0 s) = (.exit 0) from by unfold ex_scalar_atMost_L0; rw [ht]; rfl, show vf_scalar_atMost_L0 x0 x1 ra0 (lp_scalar_atMost_L0 x0 x1 ra0 s) (((lp_scalar_atMost_L0 x0 x1 ra0 s).2).2) = vf0_scalar_atMost_L0 x0 x1 ra0 (lp_scalar_atMost_L0 x0 x1 ra0 s) (((lp_scalar_atMost_L0 x0 x1 ra0 s).2).2) from by unfold vf_scalar_atMost_L0; rw [ht]; rfl] at h
  exact spc_of_goes (k0 := 1) h (t0_scalar_atMost_L0 x0 x1 ra0 s) (fun _ => pre_scalar_atMost_L0 x0 x1 ra0 s) (fun _ => rfl) (fun ls h => by match ls, h with | [l0], _ => rfl) (fun ls h => rfl) (by decide) (by decide) (fun ls => rfl)
noncomputable def sp_scalar_atMost_L0_1 (x0 : T) (x1 : BitVec 64) (ra0 : BitVec 64) (s : (BitVec 64) × (BitVec 64)) (b1 : Bool) : Spc := ⟨fun ls => .code (.loop bd_scalar_atMost_L0) (t0_scalar_atMost_L0 x0 x1 ra0 s ls), fun _ => pre_scalar_atMost_L0 x0 x1 ra0 s, 1, .ret, fun ls => vf1_scalar_atMost_L0 x0 x1 ra0 (lp_scalar_atMost_L0 x0 x1 ra0 s) b1 (ls.take 1 ++ ls.drop 1), fun ls => (Hf_scalar_atMost_L0 x0 x1 ra0 (lp_scalar_atMost_L0 x0 x1 ra0 s) b1 (ls.take 1 ++ ls.drop 1)).take 1 ++ List.replicate 0 unb, fun ls => (Hf_scalar_atMost_L0 x0 x1 ra0 (lp_scalar_atMost_L0 x0 x1 ra0 s) b1 (ls.take 1 ++ ls.drop 1)).drop 1⟩
theorem sp_scalar_atMost_L0_1_ok (x0 : T) (x1 : BitVec 64) (ra0 : BitVec 64) (s : (BitVec 64) × (BitVec 64)) (b1 : Bool) (hI : inv_scalar_atMost_L0 x0 x1 ra0 s) (ht : (lp_scalar_atMost_L0 x0 x1 ra0 s).1 = false) (hb1 : (((lp_scalar_atMost_L0 x0 x1 ra0 s).2).2) = b1) : SpcOk Tryz.prog (fun _ => True) (sp_scalar_atMost_L0_1 x0 x1 ra0 s b1) := by
  subst hb1
  have h := go_scalar_atMost_L0 x0 x1 ra0  s hI
  rw [show ex_scalar_atMost_L0 (lp_scalar_atMost_L0 x0 x1 ra0 s) = .ret from by unfold ex_scalar_atMost_L0; rw [ht]; rfl, show vf_scalar_atMost_L0 x0 x1 ra0 (lp_scalar_atMost_L0 x0 x1 ra0 s) (((lp_scalar_atMost_L0 x0 x1 ra0 s).2).2) = vf1_scalar_atMost_L0 x0 x1 ra0 (lp_scalar_atMost_L0 x0 x1 ra0 s) (((lp_scalar_atMost_L0 x0 x1 ra0 s).2).2) from by unfold vf_scalar_atMost_L0; rw [ht]; rfl] at h
  exact spc_of_goes (k0 := 1) h (t0_scalar_atMost_L0 x0 x1 ra0 s) (fun _ => pre_scalar_atMost_L0 x0 x1 ra0 s) (fun _ => rfl) (fun ls h => by match ls, h with | [l0], _ => rfl) (fun ls h => rfl) (by decide) (by decide) (fun ls => rfl)
-- tuples
def vt1 (r : (BitVec 64) × (Bool)) : Value := .tuple #[(.int .u64 (nn (r.1))), (.bool (r.2))]

-- barbican/scalar.atMost
def m_scalar_atMost (x0 : T) (x1 : BitVec 64) : (BitVec 64) × (Bool) :=
  (bif (lp_scalar_atMost_L0 x0 x1 (m_tnum_Most x0) ((63#64, 18446744073709551615#64))).1 then
    ((x1, true))
    else ((((lp_scalar_atMost_L0 x0 x1 (m_tnum_Most x0) ((63#64, 18446744073709551615#64))).2).1, ((lp_scalar_atMost_L0 x0 x1 (m_tnum_Most x0) ((63#64, 18446744073709551615#64))).2).2)))
theorem p0_scalar_atMost (x0 : T) (x1 : BitVec 64) (ra0 : BitVec 64) (ea0 : m_tnum_Most x0 = ra0) (h0 : ((lp_scalar_atMost_L0 x0 x1 ra0 ((63#64, 18446744073709551615#64))).1) = true) : Con Tryz.prog 139 #[(tv (x0)), (.int .u64 (nn (x1)))] (.tuple #[(.int .u64 (nn (x1))), (.bool (true))]) :=
  fn_conI (P := Tryz.prog) Tryz.func139 (fun xs w => by kernel_rfl) _ _
    [.o, .o, .o, .a 0, .cr (fun r => (Value.int .u64 (nn (r)))) (ok_tnum_Most (x0)) ea0, .o, .o, .o, .cp, .cx (sp_scalar_atMost_L0_0_ok x0 x1 ra0 ((63#64, 18446744073709551615#64)) (((lp_scalar_atMost_L0 x0 x1 ra0 ((63#64, 18446744073709551615#64))).2).2)  (show (-1 : Int) ≤ (63#64).toInt ∧ (63#64).toInt ≤ 63 from by decide) h0 rfl) [0], .o, .o, .o]
    [] (fun b => by kernel_rfl)
theorem p1_scalar_atMost (x0 : T) (x1 : BitVec 64) (ra0 : BitVec 64) (ea0 : m_tnum_Most x0 = ra0) (h0 : ((lp_scalar_atMost_L0 x0 x1 ra0 ((63#64, 18446744073709551615#64))).1) = false) : Con Tryz.prog 139 #[(tv (x0)), (.int .u64 (nn (x1)))] (.tuple #[(.int .u64 (nn (((lp_scalar_atMost_L0 x0 x1 ra0 ((63#64, 18446744073709551615#64))).2).1))), (.bool (((lp_scalar_atMost_L0 x0 x1 ra0 ((63#64, 18446744073709551615#64))).2).2))]) :=
  fn_conI (P := Tryz.prog) Tryz.func139 (fun xs w => by kernel_rfl) _ _
    [.o, .o, .o, .a 0, .cr (fun r => (Value.int .u64 (nn (r)))) (ok_tnum_Most (x0)) ea0, .o, .o, .o, .cp, .cx (sp_scalar_atMost_L0_1_ok x0 x1 ra0 ((63#64, 18446744073709551615#64)) (((lp_scalar_atMost_L0 x0 x1 ra0 ((63#64, 18446744073709551615#64))).2).2)  (show (-1 : Int) ≤ (63#64).toInt ∧ (63#64).toInt ≤ 63 from by decide) h0 rfl) [0]]
    [] (fun b => by kernel_rfl)
theorem ok_scalar_atMost (x0 : T) (x1 : BitVec 64) : Con Tryz.prog 139 #[(tv (x0)), (.int .u64 (nn (x1)))] (vt1 (m_scalar_atMost x0 x1)) := by
  unfold m_scalar_atMost
  refine Con.cond vt1 _ _ _ (fun h0 => ?_) (fun h0 => ?_)
  · exact p0_scalar_atMost x0 x1 _ rfl h0
  · exact p1_scalar_atMost x0 x1 _ rfl h0
-- loop 0 of (barbican/tnum.pair).mul: state t16 b3, out b3
def st_tnum_pair_mul_L0 (x0 : TT) (ra0 : T) (ra1 : T) : (BitVec 64) × (T) → ((BitVec 64) × (T)) ⊕ ((T))
  | (s0, s1) =>
    (bif BitVec.slt s0 64#64 then
      (bif (x0.a.v &&& (1#64 <<< (s0).toNat)) == 0#64 then
        (bif (x0.a.m &&& (1#64 <<< (s0).toNat)) == 0#64 then
          (.inl ((s0 + 1#64), s1))
          else (.inl ((s0 + 1#64), (m_tnum_Add s1 (⟨0#64, ((x0.b.v ||| x0.b.m) <<< (s0).toNat)⟩ : T)))))
        else (.inl ((s0 + 1#64), (m_tnum_Add s1 (⟨0#64, (x0.b.m <<< (s0).toNat)⟩ : T)))))
      else (.inr (s1)))
def mu_tnum_pair_mul_L0 (x0 : TT) (ra0 : T) (ra1 : T) : (BitVec 64) × (T) → Nat
  | (s0, s1) => 64 - s0.toNat
def inv_tnum_pair_mul_L0 (x0 : TT) (ra0 : T) (ra1 : T) : (BitVec 64) × (T) → Prop
  | (s0, s1) => s0.toNat ≤ 64
def lp_tnum_pair_mul_L0 (x0 : TT) (ra0 : T) (ra1 : T) (s : (BitVec 64) × (T)) : (T) := lp (st_tnum_pair_mul_L0 x0 ra0 ra1) ((⟨0#64, 0#64⟩ : T)) (mu_tnum_pair_mul_L0 x0 ra0 ra1) s
noncomputable def bd_tnum_pair_mul_L0 : Code := codeOf Tryz.f153 [1, 1, 0, 1, 0, 0]
def fr_tnum_pair_mul_L0 (x0 : TT) (ra0 : T) (ra1 : T) : (BitVec 64) × (T) → List L1 → List Value
  | (s0, s1), [l0, l1, l2, l3, l4] => [ttv (x0), (ptrTo l0.n), (ptrTo l1.n), (ptrTo l2.n), (ptrTo l3.n), (l4.u 5), (l4.u 6), (ptrTo l0.n), (ptrTo l0.n), .int .u64 (nn (x0.a.v)), .pointer (some ⟨l0.n, 2, none⟩), .pointer (some ⟨l0.n, 2, none⟩), .int .u64 (nn (x0.b.v)), .int .u64 (nn ((x0.a.v * x0.b.v))), tv (ra0), tv (ra1), .int .i64 (ii (s0)), (l4.u 17), (l4.u 18), (l4.u 19), (l4.u 20), (l4.u 21), (l4.u 22), (l4.u 23), (l4.u 24), (l4.u 25), (l4.u 26), (l4.u 27), (l4.u 28), (l4.u 29), (l4.u 30), (l4.u 31), (l4.u 32), (l4.u 33), (l4.u 34), (l4.u 35), (l4.u 36), (l4.u 37), (l4.u 38), (l4.u 39), (l4.u 40), (l4.u 41), (l4.u 42), (l4.u 43), (l4.u 44), (l4.u 45), (l4.u 46), (l4.u 47), (l4.u 48), (l4.u 49), (l4.u 50), (l4.u 51), (l4.u 52), (l4.u 53), (l4.u 54), (l4.u 55), undef, undef, undef]
  | _, _ => []
def Hs_tnum_pair_mul_L0 (x0 : TT) (ra0 : T) (ra1 : T) : (BitVec 64) × (T) → List L1 → List Obj
  | (s0, s1), _ => [.cells #[.int .u64 (nn (x0.a.v)), .int .u64 (nn (x0.a.m)), .int .u64 (nn (x0.b.v)), .int .u64 (nn (x0.b.m))] 122, .cells #[.int .u64 ((0)), .int .u64 ((0))] 25, .cells #[.int .u64 (nn (ra0.v)), .int .u64 (nn (ra0.m))] 25, .cells #[.int .u64 (nn (s1.v)), .int .u64 (nn (s1.m))] 25, unb]
def vf0_tnum_pair_mul_L0 (x0 : TT) (ra0 : T) (ra1 : T) (r : (T)) : List L1 → List Value
  | [l0, l1, l2, l3, l4] => [ttv (x0), (ptrTo l0.n), (ptrTo l1.n), (ptrTo l2.n), (ptrTo l3.n), (l4.u 5), (l4.u 6), (ptrTo l0.n), (ptrTo l0.n), .int .u64 (nn (x0.a.v)), .pointer (some ⟨l0.n, 2, none⟩), .pointer (some ⟨l0.n, 2, none⟩), .int .u64 (nn (x0.b.v)), .int .u64 (nn ((x0.a.v * x0.b.v))), tv (ra0), tv (ra1), (l4.u 16), (l4.u 17), (l4.u 18), (l4.u 19), (l4.u 20), (l4.u 21), (l4.u 22), (l4.u 23), (l4.u 24), (l4.u 25), (l4.u 26), (l4.u 27), (l4.u 28), (l4.u 29), (l4.u 30), (l4.u 31), (l4.u 32), (l4.u 33), (l4.u 34), (l4.u 35), (l4.u 36), (l4.u 37), (l4.u 38), (l4.u 39), (l4.u 40), (l4.u 41), (l4.u 42), (l4.u 43), (l4.u 44), (l4.u 45), (l4.u 46), (l4.u 47), (l4.u 48), (l4.u 49), (l4.u 50), (l4.u 51), (l4.u 52), (l4.u 53), (l4.u 54), (l4.u 55), undef, undef, undef]
  | _ => []
def Hf_tnum_pair_mul_L0 (x0 : TT) (ra0 : T) (ra1 : T) (r : (T)) (_ : List L1) : List Obj := [.cells #[.int .u64 (nn (x0.a.v)), .int .u64 (nn (x0.a.m)), .int .u64 (nn (x0.b.v)), .int .u64 (nn (x0.b.m))] 122, .cells #[.int .u64 ((0)), .int .u64 ((0))] 25, .cells #[.int .u64 (nn (ra0.v)), .int .u64 (nn (ra0.m))] 25, .cells #[.int .u64 (nn ((r).v)), .int .u64 (nn ((r).m))] 25, unb]
def vf_tnum_pair_mul_L0 (x0 : TT) (ra0 : T) (ra1 : T) (r : (T)) : List L1 → List Value := vf0_tnum_pair_mul_L0 x0 ra0 ra1 r
def ex_tnum_pair_mul_L0 (r : (T)) : Ex := (.exit 0)
theorem w0_tnum_pair_mul_L0 (x0 : TT) (ra0 : T) (ra1 : T) (s0 : BitVec 64) (s1 : T) (hI : inv_tnum_pair_mul_L0 x0 ra0 ra1 (s0, s1)) (f0 : (BitVec.slt s0 0#64) = false) (h0 : (BitVec.slt s0 64#64) = true) (h1 : ((x0.a.v &&& (1#64 <<< (s0).toNat)) == 0#64) = true) (h2 : ((x0.a.m &&& (1#64 <<< (s0).toNat)) == 0#64) = true) : Goes1 Tryz.prog bd_tnum_pair_mul_L0 5 (fr_tnum_pair_mul_L0 x0 ra0 ra1 (s0, s1)) (Hs_tnum_pair_mul_L0 x0 ra0 ra1 (s0, s1)) Ex.normal 4 (fr_tnum_pair_mul_L0 x0 ra0 ra1 ((s0 + 1#64), s1)) (Hs_tnum_pair_mul_L0 x0 ra0 ra1 ((s0 + 1#64), s1)) 5 :=
  goes_runI [.t (i_lt s0 64#64) h0, .o, .o, .o, .ov (u64_shl Tryz.prog 22 (.const (.int .u64 ((1)))) (.tmp 19) (1#64) (s0).toNat .i64 (ii_pos f0)), .o, .o, .o, .a 0, .o, .v .u64 (u64_and x0.a.v (1#64 <<< (s0).toNat)), .tn (u_ne (x0.a.v &&& (1#64 <<< (s0).toNat)) 0#64) h1, .o, .o, .o, .a 0, .o, .v .u64 (u64_and x0.a.m (1#64 <<< (s0).toNat)), .tn (u_ne (x0.a.m &&& (1#64 <<< (s0).toNat)) 0#64) h2, .o, .v .i64 (i64_add s0 1#64), .o] [0, 1, 2, 3] (fun b => rfl) (by decide) rfl (fun b => by kernel_rfl)
theorem w1_tnum_pair_mul_L0 (x0 : TT) (ra0 : T) (ra1 : T) (s0 : BitVec 64) (s1 : T) (hI : inv_tnum_pair_mul_L0 x0 ra0 ra1 (s0, s1)) (f0 : (BitVec.slt s0 0#64) = false) (rb0 : T) (eb0 : m_tnum_Add s1 (⟨0#64, ((x0.b.v ||| x0.b.m) <<< (s0).toNat)⟩ : T) = rb0) (h0 : (BitVec.slt s0 64#64) = true) (h1 : ((x0.a.v &&& (1#64 <<< (s0).toNat)) == 0#64) = true) (h2 : ((x0.a.m &&& (1#64 <<< (s0).toNat)) == 0#64) = false) : Goes1 Tryz.prog bd_tnum_pair_mul_L0 5 (fr_tnum_pair_mul_L0 x0 ra0 ra1 (s0, s1)) (Hs_tnum_pair_mul_L0 x0 ra0 ra1 (s0, s1)) Ex.normal 4 (fr_tnum_pair_mul_L0 x0 ra0 ra1 ((s0 + 1#64), rb0)) (Hs_tnum_pair_mul_L0 x0 ra0 ra1 ((s0 + 1#64), rb0)) 5 :=
  goes_runI [.t (i_lt s0 64#64) h0, .o, .o, .o, .ov (u64_shl Tryz.prog 22 (.const (.int .u64 ((1)))) (.tmp 19) (1#64) (s0).toNat .i64 (ii_pos f0)), .o, .o, .o, .a 0, .o, .v .u64 (u64_and x0.a.v (1#64 <<< (s0).toNat)), .tn (u_ne (x0.a.v &&& (1#64 <<< (s0).toNat)) 0#64) h1, .o, .o, .o, .a 0, .o, .v .u64 (u64_and x0.a.m (1#64 <<< (s0).toNat)), .tn (u_ne (x0.a.m &&& (1#64 <<< (s0).toNat)) 0#64) h2, .o, .r [0, 1, 2, 3, 4, 5, 6, 7, 8, 9, 10, 11] [] [12], .a 3, .o, .o, .a 0, .o, .o, .a 0, .v .u64 (u64_or x0.b.v x0.b.m), .o, .ov (u64_shl Tryz.prog 22 (.tmp 50) (.tmp 51) ((x0.b.v ||| x0.b.m)) (s0).toNat .i64 (ii_pos f0)), .o, .cr tv (ok_tnum_Add (s1) ((⟨0#64, ((x0.b.v ||| x0.b.m) <<< (s0).toNat)⟩ : T))) eb0, .a 3, .v .i64 (i64_add s0 1#64), .o] [0, 1, 2, 3] (fun b => rfl) (by decide) rfl (fun b => by kernel_rfl)
theorem w2_tnum_pair_mul_L0 (x0 : TT) (ra0 : T) (ra1 : T) (s0 : BitVec 64) (s1 : T) (hI : inv_tnum_pair_mul_L0 x0 ra0 ra1 (s0, s1)) (f0 : (BitVec.slt s0 0#64) = false) (rb0 : T) (eb0 : m_tnum_Add s1 (⟨0#64, (x0.b.m <<< (s0).toNat)⟩ : T) = rb0) (h0 : (BitVec.slt s0 64#64) = true) (h1 : ((x0.a.v &&& (1#64 <<< (s0).toNat)) == 0#64) = false) : Goes1 Tryz.prog bd_tnum_pair_mul_L0 5 (fr_tnum_pair_mul_L0 x0 ra0 ra1 (s0, s1)) (Hs_tnum_pair_mul_L0 x0 ra0 ra1 (s0, s1)) Ex.normal 4 (fr_tnum_pair_mul_L0 x0 ra0 ra1 ((s0 + 1#64), rb0)) (Hs_tnum_pair_mul_L0 x0 ra0 ra1 ((s0 + 1#64), rb0)) 5 :=
  goes_runI [.t (i_lt s0 64#64) h0, .o, .o, .o, .ov (u64_shl Tryz.prog 22 (.const (.int .u64 ((1)))) (.tmp 19) (1#64) (s0).toNat .i64 (ii_pos f0)), .o, .o, .o, .a 0, .o, .v .u64 (u64_and x0.a.v (1#64 <<< (s0).toNat)), .tn (u_ne (x0.a.v &&& (1#64 <<< (s0).toNat)) 0#64) h1, .o, .r [0, 1, 2, 3, 4, 5, 6, 7] [] [8], .a 3, .o, .o, .a 0, .o, .ov (u64_shl Tryz.prog 22 (.tmp 31) (.tmp 32) (x0.b.m) (s0).toNat .i64 (ii_pos f0)), .o, .cr tv (ok_tnum_Add (s1) ((⟨0#64, (x0.b.m <<< (s0).toNat)⟩ : T))) eb0, .a 3, .v .i64 (i64_add s0 1#64), .o] [0, 1, 2, 3] (fun b => rfl) (by decide) rfl (fun b => by kernel_rfl)
theorem w3_tnum_pair_mul_L0 (x0 : TT) (ra0 : T) (ra1 : T) (s0 : BitVec 64) (s1 : T) (hI : inv_tnum_pair_mul_L0 x0 ra0 ra1 (s0, s1)) (f0 : (BitVec.slt s0 0#64) = false) (h0 : (BitVec.slt s0 64#64) = false) : Goes1 Tryz.prog bd_tnum_pair_mul_L0 5 (fr_tnum_pair_mul_L0 x0 ra0 ra1 (s0, s1)) (Hs_tnum_pair_mul_L0 x0 ra0 ra1 (s0, s1)) (.exit 0) 4 (vf_tnum_pair_mul_L0 x0 ra0 ra1 (s1) ) (Hf_tnum_pair_mul_L0 x0 ra0 ra1 (s1) ) 5 :=
  goes_runI [.t (i_lt s0 64#64) h0] [0, 1, 2, 3] (fun b => rfl) (by decide) rfl (fun b => by kernel_rfl)
theorem dec_tnum_pair_mul_L0 (x0 : TT) (ra0 : T) (ra1 : T) : Falls (st_tnum_pair_mul_L0 x0 ra0 ra1) (mu_tnum_pair_mul_L0 x0 ra0 ra1) (inv_tnum_pair_mul_L0 x0 ra0 ra1) := ⟨by
  rintro ⟨s0, s1⟩ s' hI e
  simp only [st_tnum_pair_mul_L0, Bool.cond_eq_ite] at e
  repeat' (split at e)
  all_goals first
    | (cases e; done)
    | (simp only [Sum.inl.injEq] at e; subst e; simp only [inv_tnum_pair_mul_L0, mu_tnum_pair_mul_L0] at hI ⊢; have := up1 (s := s0) (n := 64) hI (by decide) (by assumption); omega)⟩
theorem go_tnum_pair_mul_L0 (x0 : TT) (ra0 : T) (ra1 : T) : ∀ s, inv_tnum_pair_mul_L0 x0 ra0 ra1 s → Goes1 Tryz.prog (.loop bd_tnum_pair_mul_L0) 5 (fr_tnum_pair_mul_L0 x0 ra0 ra1 s) (Hs_tnum_pair_mul_L0 x0 ra0 ra1 s) (ex_tnum_pair_mul_L0 (lp_tnum_pair_mul_L0 x0 ra0 ra1 s)) 4 (vf_tnum_pair_mul_L0 x0 ra0 ra1 (lp_tnum_pair_mul_L0 x0 ra0 ra1 s)) (Hf_tnum_pair_mul_L0 x0 ra0 ra1 (lp_tnum_pair_mul_L0 x0 ra0 ra1 s)) 5 :=
  goes_lp (ex := ex_tnum_pair_mul_L0) (vf := fun r => vf_tnum_pair_mul_L0 x0 ra0 ra1 r) (Hf := fun r => Hf_tnum_pair_mul_L0 x0 ra0 ra1 r) _ (dec_tnum_pair_mul_L0 x0 ra0 ra1 ) fun s hI => by
  obtain ⟨s0, s1⟩ := s
  unfold st_tnum_pair_mul_L0
  dsimp only
  cases h0 : (BitVec.slt s0 64#64)
  · exact ⟨ne_exit 0, w3_tnum_pair_mul_L0 x0 ra0 ra1  s0 s1 hI (slt0_le hI) h0⟩
  · cases h1 : ((x0.a.v &&& (1#64 <<< (s0).toNat)) == 0#64)
    · generalize eb0 : m_tnum_Add s1 (⟨0#64, (x0.b.m <<< (s0).toNat)⟩ : T) = rb0
      exact w2_tnum_pair_mul_L0 x0 ra0 ra1  s0 s1 hI (slt0_le hI) rb0 eb0 h0 h1
    · cases h2 : ((x0.a.m &&& (1#64 <<< (s0).toNat)) == 0#64)
      · generalize eb0 : m_tnum_Add s1 (⟨0#64, ((x0.b.v ||| x0.b.m) <<< (s0).toNat)⟩ : T) = rb0
        exact w1_tnum_pair_mul_L0 x0 ra0 ra1  s0 s1 hI (slt0_le hI) rb0 eb0 h0 h1 h2
      · exact w0_tnum_pair_mul_L0 x0 ra0 ra1  s0 s1 hI (slt0_le hI) h0 h1 h2
def t0_tnum_pair_mul_L0 (x0 : TT) (ra0 : T) (ra1 : T) (s : (BitVec 64) × (T)) : List L1 → List Value
  | [l0, l1, l2, l3] => [ttv (x0), (ptrTo l0.n), (ptrTo l1.n), (ptrTo l2.n), (ptrTo l3.n), undef, undef, (ptrTo l0.n), (ptrTo l0.n), .int .u64 (nn (x0.a.v)), .pointer (some ⟨l0.n, 2, none⟩), .pointer (some ⟨l0.n, 2, none⟩), .int .u64 (nn (x0.b.v)), .int .u64 (nn ((x0.a.v * x0.b.v))), tv (ra0), tv (ra1), (.int .i64 (ii (s.1))), undef, undef, undef, undef, undef, undef, undef, undef, undef, undef, undef, undef, undef, undef, undef, undef, undef, undef, undef, undef, undef, undef, undef, undef, undef, undef, undef, undef, undef, undef, undef, undef, undef, undef, undef, undef, undef, undef, undef, undef, undef, undef]
  | _ => []
def pre_tnum_pair_mul_L0 (x0 : TT) (ra0 : T) (ra1 : T) (s : (BitVec 64) × (T)) : List Obj := [.cells #[.int .u64 (nn (x0.a.v)), .int .u64 (nn (x0.a.m)), .int .u64 (nn (x0.b.v)), .int .u64 (nn (x0.b.m))] 122, .cells #[.int .u64 ((0)), .int .u64 ((0))] 25, .cells #[.int .u64 (nn (ra0.v)), .int .u64 (nn (ra0.m))] 25, .cells #[.int .u64 (nn (s.2.v)), .int .u64 (nn (s.2.m))] 25]
noncomputable def sp_tnum_pair_mul_L0_0 (x0 : TT) (ra0 : T) (ra1 : T) (s : (BitVec 64) × (T)) : Spc := ⟨fun ls => .code (.loop bd_tnum_pair_mul_L0) (t0_tnum_pair_mul_L0 x0 ra0 ra1 s ls), fun _ => pre_tnum_pair_mul_L0 x0 ra0 ra1 s, 1, (.exit 0), fun ls => vf0_tnum_pair_mul_L0 x0 ra0 ra1 (lp_tnum_pair_mul_L0 x0 ra0 ra1 s) (ls.take 4 ++ ls.drop 4), fun ls => (Hf_tnum_pair_mul_L0 x0 ra0 ra1 (lp_tnum_pair_mul_L0 x0 ra0 ra1 s) (ls.take 4 ++ ls.drop 4)).take 4 ++ List.replicate 0 unb, fun ls => (Hf_tnum_pair_mul_L0 x0 ra0 ra1 (lp_tnum_pair_mul_L0 x0 ra0 ra1 s) (ls.take 4 ++ ls.drop 4)).drop 4⟩
theorem sp_tnum_pair_mul_L0_0_ok (x0 : TT) (ra0 : T) (ra1 : T) (s : (BitVec 64) × (T)) (hI : inv_tnum_pair_mul_L0 x0 ra0 ra1 s) : SpcOk Tryz.prog (fun _ => True) (sp_tnum_pair_mul_L0_0 x0 ra0 ra1 s) := by
  have h := go_tnum_pair_mul_L0 x0 ra0 ra1  s hI
  exact spc_of_goes (k0 := 4) h (t0_tnum_pair_mul_L0 x0 ra0 ra1 s) (fun _ => pre_tnum_pair_mul_L0 x0 ra0 ra1 s) (fun _ => rfl) (fun ls h => by match ls, h with | [l0, l1, l2, l3], _ => rfl) (fun ls h => rfl) (by decide) (by decide) (fun ls => rfl)
-- (barbican/tnum.pair).mul
def m_tnum_pair_mul (x0 : TT) : T :=
  ((m_tnum_Add (m_tnum_Const (x0.a.v * x0.b.v)) (lp_tnum_pair_mul_L0 x0 (m_tnum_Const (x0.a.v * x0.b.v)) (m_tnum_Const (0#64)) ((0#64, (m_tnum_Const (0#64)))))))
theorem p0_tnum_pair_mul (x0 : TT) (ra0 : T) (ea0 : m_tnum_Const (x0.a.v * x0.b.v) = ra0) (ra1 : T) (ea1 : m_tnum_Const (0#64) = ra1) (ra2 : T) (ea2 : m_tnum_Add ra0 (lp_tnum_pair_mul_L0 x0 ra0 ra1 ((0#64, ra1))) = ra2) : Con Tryz.prog 153 #[(ttv (x0))] (tv (ra2)) :=
  fn_conI (P := Tryz.prog) Tryz.func153 (fun xs w => by kernel_rfl) _ _
    [.o, .o, .o, .o, .a 0, .o, .o, .a 0, .v .u64 (u64_mul x0.a.v x0.b.v), .cr tv (ok_tnum_Const ((x0.a.v * x0.b.v))) ea0, .cr tv (ok_tnum_Const (0#64)) ea1, .o, .o, .a 2, .a 3, .o, .cp, .cx (sp_tnum_pair_mul_L0_0_ok x0 ra0 ra1 ((0#64, ra1))   (show (0#64).toNat ≤ 64 from by decide)  ) [0, 1, 2, 3], .a 2, .a 3, .cr tv (ok_tnum_Add (ra0) ((lp_tnum_pair_mul_L0 x0 ra0 ra1 ((0#64, ra1))))) ea2, .a 1]
    [1, 1] (fun b => by kernel_rfl)
theorem ok_tnum_pair_mul (x0 : TT) : Con Tryz.prog 153 #[(ttv (x0))] (tv (m_tnum_pair_mul x0)) := by
  unfold m_tnum_pair_mul
  exact p0_tnum_pair_mul x0 _ rfl _ rfl _ rfl
-- tuples
def vt2 (r : (S) × (Bool)) : Value := .tuple #[(sv (r.1)), (.bool (r.2))]

-- barbican/scalar.Is
def m_scalar_Is (x0 : S) : Bool :=
  (bif (m_Sync x0).2 then
    (decide ((m_Sync x0).1 = x0))
    else (false))
theorem p0_scalar_Is (x0 : S) (ra0 : (S) × (Bool)) (ea0 : m_Sync x0 = ra0) (h0 : (ra0.2) = true) : Con Tryz.prog 15 #[(sv (x0))] (.bool (decide (ra0.1 = x0))) :=
  fn_conI (P := Tryz.prog) Tryz.func15 (fun xs w => by kernel_rfl) _ _
    [.o, .o, .a 0, .cr vt2 (ok_Sync (x0)) ea0, .o, .o, .b h0, .o, .a 1, .o, .o, .o, .a 1, .a 0, .ov (fun w => (eq27 (ra0.1) (x0) _ rfl (.tmp 12) (.tmp 13) w).1), .o, .o]
    [] (fun b => by kernel_rfl)
theorem p1_scalar_Is (x0 : S) (ra0 : (S) × (Bool)) (ea0 : m_Sync x0 = ra0) (h0 : (ra0.2) = false) : Con Tryz.prog 15 #[(sv (x0))] (.bool (false)) :=
  fn_conI (P := Tryz.prog) Tryz.func15 (fun xs w => by kernel_rfl) _ _
    [.o, .o, .a 0, .cr vt2 (ok_Sync (x0)) ea0, .o, .o, .b h0, .o, .a 1, .o, .o, .o, .o, .o]
    [] (fun b => by kernel_rfl)
theorem ok_scalar_Is (x0 : S) : Con Tryz.prog 15 #[(sv (x0))] (.bool (m_scalar_Is x0)) := by
  unfold m_scalar_Is
  refine Con.cond (fun r => (Value.bool (r))) _ _ _ (fun h0 => ?_) (fun h0 => ?_)
  · exact p0_scalar_Is x0 _ rfl h0
  · exact p1_scalar_Is x0 _ rfl h0
-- barbican/scalar.ofBits
def m_scalar_ofBits (x0 : T) : S :=
  ((⟨x0, 0#64, 18446744073709551615#64, 9223372036854775808#64, 9223372036854775807#64⟩ : S))
theorem p0_scalar_ofBits (x0 : T) : Con Tryz.prog 30 #[(tv (x0))] (sv ((⟨x0, 0#64, 18446744073709551615#64, 9223372036854775808#64, 9223372036854775807#64⟩ : S))) :=
  fn_conI (P := Tryz.prog) Tryz.func30 (fun xs w => by kernel_rfl) _ _
    [.o, .o, .a 0, .o, .a 1]
    [1, 1, 1, 1, 1, 1] (fun b => by kernel_rfl)
theorem ok_scalar_ofBits (x0 : T) : Con Tryz.prog 30 #[(tv (x0))] (sv (m_scalar_ofBits x0)) := by
  unfold m_scalar_ofBits
  exact p0_scalar_ofBits x0 
-- barbican/scalar.Unknown
def m_scalar_Unknown  : S :=
  ((m_scalar_ofBits (m_tnum_Unknown )))
theorem p0_scalar_Unknown  (ra0 : T) (ea0 : m_tnum_Unknown  = ra0) (ra1 : S) (ea1 : m_scalar_ofBits ra0 = ra1) : Con Tryz.prog 13 #[] (sv (ra1)) :=
  fn_conI (P := Tryz.prog) Tryz.func13 (fun xs w => by kernel_rfl) _ _
    [.o, .cr tv (ok_tnum_Unknown ) ea0, .cr sv (ok_scalar_ofBits (ra0)) ea1, .a 0]
    [0, 0, 0, 0, 0, 0] (fun b => by kernel_rfl)
theorem ok_scalar_Unknown  : Con Tryz.prog 13 #[] (sv (m_scalar_Unknown )) := by
  unfold m_scalar_Unknown
  exact p0_scalar_Unknown  _ rfl _ rfl
-- barbican/scalar.known
def m_scalar_known (x0 : S) : S :=
  (bif m_scalar_Is x0 then
    (x0)
    else ((m_scalar_Unknown )))
theorem p0_scalar_known (x0 : S) (h0 : (m_scalar_Is x0) = true) : Con Tryz.prog 37 #[(sv (x0))] (sv (x0)) :=
  fn_conI (P := Tryz.prog) Tryz.func37 (fun xs w => by kernel_rfl) _ _
    [.o, .o, .a 0, .cb (ok_scalar_Is (x0)) h0, .o, .a 0, .a 1]
    [1, 1, 1, 1, 1, 1] (fun b => by kernel_rfl)
theorem p1_scalar_known (x0 : S) (ra0 : S) (ea0 : m_scalar_Unknown  = ra0) (h0 : (m_scalar_Is x0) = false) : Con Tryz.prog 37 #[(sv (x0))] (sv (ra0)) :=
  fn_conI (P := Tryz.prog) Tryz.func37 (fun xs w => by kernel_rfl) _ _
    [.o, .o, .a 0, .cb (ok_scalar_Is (x0)) h0, .o, .cr sv (ok_scalar_Unknown ) ea0, .a 1]
    [1, 1, 1, 1, 1, 1] (fun b => by kernel_rfl)
theorem ok_scalar_known (x0 : S) : Con Tryz.prog 37 #[(sv (x0))] (sv (m_scalar_known x0)) := by
  unfold m_scalar_known
  refine Con.cond sv _ _ _ (fun h0 => ?_) (fun h0 => ?_)
  · exact p0_scalar_known x0 h0
  · exact p1_scalar_known x0 _ rfl h0
-- barbican/scalar.hull
def m_scalar_hull (x0 : S) (x1 : S) : S :=
  ((⟨(m_tnum_Join x0.t x1.t), (uMin x0.umin x1.umin), (uMax x0.umax x1.umax), (sMin x0.smin x1.smin), (sMax x0.smax x1.smax)⟩ : S))
theorem p0_scalar_hull (x0 : S) (x1 : S) (ra0 : T) (ea0 : m_tnum_Join x0.t x1.t = ra0) : Con Tryz.prog 46 #[(sv (x0)), (sv (x1))] (sv ((⟨ra0, (uMin x0.umin x1.umin), (uMax x0.umax x1.umax), (sMin x0.smin x1.smin), (sMax x0.smax x1.smax)⟩ : S))) :=
  fn_conI (P := Tryz.prog) Tryz.func46 (fun xs w => by kernel_rfl) _ _
    [.o, .o, .o, .r [0, 1, 2, 3, 4, 5, 6, 7, 8, 9, 10, 11, 12, 13, 14, 15, 16, 17, 18, 19, 20, 21, 22, 23, 24, 25] [] [26], .o, .a 0, .o, .a 1, .cr tv (ok_tnum_Join (x0.t) (x1.t)) ea0, .o, .a 0, .o, .a 1, .v .u64 (u_min x0.umin x1.umin), .o, .a 0, .o, .a 1, .v .u64 (u_max x0.umax x1.umax), .o, .a 0, .o, .a 1, .v .i64 (i_min x0.smin x1.smin), .o, .a 0, .o, .a 1, .v .i64 (i_max x0.smax x1.smax), .o, .a 2]
    [2, 2, 2, 2, 2, 2] (fun b => by kernel_rfl)
theorem ok_scalar_hull (x0 : S) (x1 : S) : Con Tryz.prog 46 #[(sv (x0)), (sv (x1))] (sv (m_scalar_hull x0 x1)) := by
  unfold m_scalar_hull
  exact p0_scalar_hull x0 x1 _ rfl
-- barbican/scalar.settle
def m_scalar_settle (x0 : S) : S :=
  (bif (m_Sync x0).2 then
    ((m_Sync x0).1)
    else ((m_scalar_Unknown )))
theorem p0_scalar_settle (x0 : S) (ra0 : (S) × (Bool)) (ea0 : m_Sync x0 = ra0) (h0 : (ra0.2) = true) : Con Tryz.prog 32 #[(sv (x0))] (sv (ra0.1)) :=
  fn_conI (P := Tryz.prog) Tryz.func32 (fun xs w => by kernel_rfl) _ _
    [.o, .o, .a 0, .cr vt2 (ok_Sync (x0)) ea0, .o, .o, .b h0, .a 0, .o, .o, .o, .a 0, .a 1]
    [1, 1, 1, 1, 1, 1] (fun b => by kernel_rfl)
theorem p1_scalar_settle (x0 : S) (ra0 : (S) × (Bool)) (ea0 : m_Sync x0 = ra0) (ra1 : S) (ea1 : m_scalar_Unknown  = ra1) (h0 : (ra0.2) = false) : Con Tryz.prog 32 #[(sv (x0))] (sv (ra1)) :=
  fn_conI (P := Tryz.prog) Tryz.func32 (fun xs w => by kernel_rfl) _ _
    [.o, .o, .a 0, .cr vt2 (ok_Sync (x0)) ea0, .o, .o, .b h0, .a 0, .o, .o, .o, .cr sv (ok_scalar_Unknown ) ea1, .a 1]
    [1, 1, 1, 1, 1, 1] (fun b => by kernel_rfl)
theorem ok_scalar_settle (x0 : S) : Con Tryz.prog 32 #[(sv (x0))] (sv (m_scalar_settle x0)) := by
  unfold m_scalar_settle
  refine Con.cond sv _ _ _ (fun h0 => ?_) (fun h0 => ?_)
  · exact p0_scalar_settle x0 _ rfl h0
  · exact p1_scalar_settle x0 _ rfl _ rfl h0
-- barbican/scalar.Join
def m_scalar_Join (x0 : S) (x1 : S) : S :=
  ((m_scalar_settle (m_scalar_hull (m_scalar_known x0) (m_scalar_known x1))))
theorem p0_scalar_Join (x0 : S) (x1 : S) (ra0 : S) (ea0 : m_scalar_known x0 = ra0) (ra1 : S) (ea1 : m_scalar_known x1 = ra1) (ra2 : S) (ea2 : m_scalar_hull ra0 ra1 = ra2) (ra3 : S) (ea3 : m_scalar_settle ra2 = ra3) : Con Tryz.prog 24 #[(sv (x0)), (sv (x1))] (sv (ra3)) :=
  fn_conI (P := Tryz.prog) Tryz.func24 (fun xs w => by kernel_rfl) _ _
    [.o, .o, .o, .r [0, 1, 2, 3, 4, 5] [] [6], .a 0, .cr sv (ok_scalar_known (x0)) ea0, .a 1, .cr sv (ok_scalar_known (x1)) ea1, .cr sv (ok_scalar_hull (ra0) (ra1)) ea2, .cr sv (ok_scalar_settle (ra2)) ea3, .a 2]
    [2, 2, 2, 2, 2, 2] (fun b => by kernel_rfl)
theorem ok_scalar_Join (x0 : S) (x1 : S) : Con Tryz.prog 24 #[(sv (x0)), (sv (x1))] (sv (m_scalar_Join x0 x1)) := by
  unfold m_scalar_Join
  exact p0_scalar_Join x0 x1 _ rfl _ rfl _ rfl _ rfl
-- barbican/scalar.Has
def m_scalar_Has (x0 : S) (x1 : BitVec 64) : Bool :=
  (bif m_tnum_Has x0.t x1 then
    (bif BitVec.ult x1 x0.umin then
      (false)
      else (bif BitVec.ult x0.umax x1 then
        (false)
        else (bif BitVec.slt x1 x0.smin then
          (false)
          else ((!(BitVec.slt x0.smax x1))))))
    else (false))
theorem p0_scalar_Has (x0 : S) (x1 : BitVec 64) (h0 : (m_tnum_Has x0.t x1) = true) (h1 : (BitVec.ult x1 x0.umin) = true) : Con Tryz.prog 16 #[(sv (x0)), (.int .u64 (nn (x1)))] (.bool (false)) :=
  fn_conI (P := Tryz.prog) Tryz.func16 (fun xs w => by kernel_rfl) _ _
    [.o, .o, .o, .a 0, .o, .cb (ok_tnum_Has (x0.t) (x1)) h0, .o, .o, .o, .a 0, .tn (u_ge x1 x0.umin) h1, .o, .o, .o, .o, .o, .o, .o, .o]
    [] (fun b => by kernel_rfl)
theorem p1_scalar_Has (x0 : S) (x1 : BitVec 64) (h0 : (m_tnum_Has x0.t x1) = true) (h1 : (BitVec.ult x1 x0.umin) = false) (h2 : (BitVec.ult x0.umax x1) = true) : Con Tryz.prog 16 #[(sv (x0)), (.int .u64 (nn (x1)))] (.bool (false)) :=
  fn_conI (P := Tryz.prog) Tryz.func16 (fun xs w => by kernel_rfl) _ _
    [.o, .o, .o, .a 0, .o, .cb (ok_tnum_Has (x0.t) (x1)) h0, .o, .o, .o, .a 0, .tn (u_ge x1 x0.umin) h1, .o, .o, .o, .o, .a 0, .tn (u_le x1 x0.umax) h2, .o, .o, .o, .o, .o, .o]
    [] (fun b => by kernel_rfl)
theorem p2_scalar_Has (x0 : S) (x1 : BitVec 64) (h0 : (m_tnum_Has x0.t x1) = true) (h1 : (BitVec.ult x1 x0.umin) = false) (h2 : (BitVec.ult x0.umax x1) = false) (h3 : (BitVec.slt x1 x0.smin) = true) : Con Tryz.prog 16 #[(sv (x0)), (.int .u64 (nn (x1)))] (.bool (false)) :=
  fn_conI (P := Tryz.prog) Tryz.func16 (fun xs w => by kernel_rfl) _ _
    [.o, .o, .o, .a 0, .o, .cb (ok_tnum_Has (x0.t) (x1)) h0, .o, .o, .o, .a 0, .tn (u_ge x1 x0.umin) h1, .o, .o, .o, .o, .a 0, .tn (u_le x1 x0.umax) h2, .o, .o, .o, .v .i64 (i64_of_u64 (x1)), .o, .a 0, .tn (i_ge x1 x0.smin) h3, .o, .o, .o, .o]
    [] (fun b => by kernel_rfl)
theorem p3_scalar_Has (x0 : S) (x1 : BitVec 64) (h0 : (m_tnum_Has x0.t x1) = true) (h1 : (BitVec.ult x1 x0.umin) = false) (h2 : (BitVec.ult x0.umax x1) = false) (h3 : (BitVec.slt x1 x0.smin) = false) : Con Tryz.prog 16 #[(sv (x0)), (.int .u64 (nn (x1)))] (.bool ((!(BitVec.slt x0.smax x1)))) :=
  fn_conI (P := Tryz.prog) Tryz.func16 (fun xs w => by kernel_rfl) _ _
    [.o, .o, .o, .a 0, .o, .cb (ok_tnum_Has (x0.t) (x1)) h0, .o, .o, .o, .a 0, .tn (u_ge x1 x0.umin) h1, .o, .o, .o, .o, .a 0, .tn (u_le x1 x0.umax) h2, .o, .o, .o, .v .i64 (i64_of_u64 (x1)), .o, .a 0, .tn (i_ge x1 x0.smin) h3, .o, .o, .o, .v .i64 (i64_of_u64 (x1)), .o, .a 0, .tn (i_le x1 x0.smax) rfl, .o, .o]
    [] (fun b => by kernel_rfl)
theorem p4_scalar_Has (x0 : S) (x1 : BitVec 64) (h0 : (m_tnum_Has x0.t x1) = false) : Con Tryz.prog 16 #[(sv (x0)), (.int .u64 (nn (x1)))] (.bool (false)) :=
  fn_conI (P := Tryz.prog) Tryz.func16 (fun xs w => by kernel_rfl) _ _
    [.o, .o, .o, .a 0, .o, .cb (ok_tnum_Has (x0.t) (x1)) h0, .o, .o, .o, .o, .o, .o, .o, .o, .o]
    [] (fun b => by kernel_rfl)
theorem ok_scalar_Has (x0 : S) (x1 : BitVec 64) : Con Tryz.prog 16 #[(sv (x0)), (.int .u64 (nn (x1)))] (.bool (m_scalar_Has x0 x1)) := by
  unfold m_scalar_Has
  refine Con.cond (fun r => (Value.bool (r))) _ _ _ (fun h0 => ?_) (fun h0 => ?_)
  · refine Con.cond (fun r => (Value.bool (r))) _ _ _ (fun h1 => ?_) (fun h1 => ?_)
    · exact p0_scalar_Has x0 x1 h0 h1
    · refine Con.cond (fun r => (Value.bool (r))) _ _ _ (fun h2 => ?_) (fun h2 => ?_)
      · exact p1_scalar_Has x0 x1 h0 h1 h2
      · refine Con.cond (fun r => (Value.bool (r))) _ _ _ (fun h3 => ?_) (fun h3 => ?_)
        · exact p2_scalar_Has x0 x1 h0 h1 h2 h3
        · exact p3_scalar_Has x0 x1 h0 h1 h2 h3
  · exact p4_scalar_Has x0 x1 h0
-- barbican/scalar.In
def m_scalar_In (x0 : S) (x1 : S) : Bool :=
  (bif m_tnum_In (m_scalar_known x0).t (m_scalar_known x1).t then
    (bif BitVec.ult (m_scalar_known x0).umin (m_scalar_known x1).umin then
      (false)
      else (bif BitVec.ult (m_scalar_known x1).umax (m_scalar_known x0).umax then
        (false)
        else (bif BitVec.slt (m_scalar_known x0).smin (m_scalar_known x1).smin then
          (false)
          else ((!(BitVec.slt (m_scalar_known x1).smax (m_scalar_known x0).smax))))))
    else (false))
theorem p0_scalar_In (x0 : S) (x1 : S) (ra0 : S) (ea0 : m_scalar_known x0 = ra0) (ra1 : S) (ea1 : m_scalar_known x1 = ra1) (h0 : (m_tnum_In ra0.t ra1.t) = true) (h1 : (BitVec.ult ra0.umin ra1.umin) = true) : Con Tryz.prog 25 #[(sv (x0)), (sv (x1))] (.bool (false)) :=
  fn_conI (P := Tryz.prog) Tryz.func25 (fun xs w => by kernel_rfl) _ _
    [.o, .o, .o, .r [0, 1, 2, 3] [] [4, 5], .a 0, .cr sv (ok_scalar_known (x0)) ea0, .a 1, .cr sv (ok_scalar_known (x1)) ea1, .a 0, .a 1, .o, .a 0, .o, .a 1, .cb (ok_tnum_In (ra0.t) (ra1.t)) h0, .o, .o, .a 0, .o, .a 1, .tn (u_ge ra0.umin ra1.umin) h1, .o, .o, .o, .o, .o, .o, .o, .o]
    [] (fun b => by kernel_rfl)
theorem p1_scalar_In (x0 : S) (x1 : S) (ra0 : S) (ea0 : m_scalar_known x0 = ra0) (ra1 : S) (ea1 : m_scalar_known x1 = ra1) (h0 : (m_tnum_In ra0.t ra1.t) = true) (h1 : (BitVec.ult ra0.umin ra1.umin) = false) (h2 : (BitVec.ult ra1.umax ra0.umax) = true) : Con Tryz.prog 25 #[(sv (x0)), (sv (x1))] (.bool (false)) :=
  fn_conI (P := Tryz.prog) Tryz.func25 (fun xs w => by kernel_rfl) _ _
    [.o, .o, .o, .r [0, 1, 2, 3] [] [4, 5], .a 0, .cr sv (ok_scalar_known (x0)) ea0, .a 1, .cr sv (ok_scalar_known (x1)) ea1, .a 0, .a 1, .o, .a 0, .o, .a 1, .cb (ok_tnum_In (ra0.t) (ra1.t)) h0, .o, .o, .a 0, .o, .a 1, .tn (u_ge ra0.umin ra1.umin) h1, .o, .o, .o, .a 0, .o, .a 1, .tn (u_le ra0.umax ra1.umax) h2, .o, .o, .o, .o, .o, .o]
    [] (fun b => by kernel_rfl)
theorem p2_scalar_In (x0 : S) (x1 : S) (ra0 : S) (ea0 : m_scalar_known x0 = ra0) (ra1 : S) (ea1 : m_scalar_known x1 = ra1) (h0 : (m_tnum_In ra0.t ra1.t) = true) (h1 : (BitVec.ult ra0.umin ra1.umin) = false) (h2 : (BitVec.ult ra1.umax ra0.umax) = false) (h3 : (BitVec.slt ra0.smin ra1.smin) = true) : Con Tryz.prog 25 #[(sv (x0)), (sv (x1))] (.bool (false)) :=
  fn_conI (P := Tryz.prog) Tryz.func25 (fun xs w => by kernel_rfl) _ _
    [.o, .o, .o, .r [0, 1, 2, 3] [] [4, 5], .a 0, .cr sv (ok_scalar_known (x0)) ea0, .a 1, .cr sv (ok_scalar_known (x1)) ea1, .a 0, .a 1, .o, .a 0, .o, .a 1, .cb (ok_tnum_In (ra0.t) (ra1.t)) h0, .o, .o, .a 0, .o, .a 1, .tn (u_ge ra0.umin ra1.umin) h1, .o, .o, .o, .a 0, .o, .a 1, .tn (u_le ra0.umax ra1.umax) h2, .o, .o, .o, .a 0, .o, .a 1, .tn (i_ge ra0.smin ra1.smin) h3, .o, .o, .o, .o]
    [] (fun b => by kernel_rfl)
theorem p3_scalar_In (x0 : S) (x1 : S) (ra0 : S) (ea0 : m_scalar_known x0 = ra0) (ra1 : S) (ea1 : m_scalar_known x1 = ra1) (h0 : (m_tnum_In ra0.t ra1.t) = true) (h1 : (BitVec.ult ra0.umin ra1.umin) = false) (h2 : (BitVec.ult ra1.umax ra0.umax) = false) (h3 : (BitVec.slt ra0.smin ra1.smin) = false) : Con Tryz.prog 25 #[(sv (x0)), (sv (x1))] (.bool ((!(BitVec.slt ra1.smax ra0.smax)))) :=
  fn_conI (P := Tryz.prog) Tryz.func25 (fun xs w => by kernel_rfl) _ _
    [.o, .o, .o, .r [0, 1, 2, 3] [] [4, 5], .a 0, .cr sv (ok_scalar_known (x0)) ea0, .a 1, .cr sv (ok_scalar_known (x1)) ea1, .a 0, .a 1, .o, .a 0, .o, .a 1, .cb (ok_tnum_In (ra0.t) (ra1.t)) h0, .o, .o, .a 0, .o, .a 1, .tn (u_ge ra0.umin ra1.umin) h1, .o, .o, .o, .a 0, .o, .a 1, .tn (u_le ra0.umax ra1.umax) h2, .o, .o, .o, .a 0, .o, .a 1, .tn (i_ge ra0.smin ra1.smin) h3, .o, .o, .o, .a 0, .o, .a 1, .tn (i_le ra0.smax ra1.smax) rfl, .o, .o]
    [] (fun b => by kernel_rfl)
theorem p4_scalar_In (x0 : S) (x1 : S) (ra0 : S) (ea0 : m_scalar_known x0 = ra0) (ra1 : S) (ea1 : m_scalar_known x1 = ra1) (h0 : (m_tnum_In ra0.t ra1.t) = false) : Con Tryz.prog 25 #[(sv (x0)), (sv (x1))] (.bool (false)) :=
  fn_conI (P := Tryz.prog) Tryz.func25 (fun xs w => by kernel_rfl) _ _
    [.o, .o, .o, .r [0, 1, 2, 3] [] [4, 5], .a 0, .cr sv (ok_scalar_known (x0)) ea0, .a 1, .cr sv (ok_scalar_known (x1)) ea1, .a 0, .a 1, .o, .a 0, .o, .a 1, .cb (ok_tnum_In (ra0.t) (ra1.t)) h0, .o, .o, .o, .o, .o, .o, .o, .o, .o]
    [] (fun b => by kernel_rfl)
theorem ok_scalar_In (x0 : S) (x1 : S) : Con Tryz.prog 25 #[(sv (x0)), (sv (x1))] (.bool (m_scalar_In x0 x1)) := by
  unfold m_scalar_In
  refine Con.cond (fun r => (Value.bool (r))) _ _ _ (fun h0 => ?_) (fun h0 => ?_)
  · refine Con.cond (fun r => (Value.bool (r))) _ _ _ (fun h1 => ?_) (fun h1 => ?_)
    · exact p0_scalar_In x0 x1 _ rfl _ rfl h0 h1
    · refine Con.cond (fun r => (Value.bool (r))) _ _ _ (fun h2 => ?_) (fun h2 => ?_)
      · exact p1_scalar_In x0 x1 _ rfl _ rfl h0 h1 h2
      · refine Con.cond (fun r => (Value.bool (r))) _ _ _ (fun h3 => ?_) (fun h3 => ?_)
        · exact p2_scalar_In x0 x1 _ rfl _ rfl h0 h1 h2 h3
        · exact p3_scalar_In x0 x1 _ rfl _ rfl h0 h1 h2 h3
  · exact p4_scalar_In x0 x1 _ rfl _ rfl h0
-- barbican/scalar.Meet
def m_scalar_Meet (x0 : S) (x1 : S) : (S) × (Bool) :=
  (bif (m_tnum_Meet (m_scalar_known x0).t (m_scalar_known x1).t).2 then
    ((m_Sync (⟨(m_tnum_Meet (m_scalar_known x0).t (m_scalar_known x1).t).1, (uMax (m_scalar_known x0).umin (m_scalar_known x1).umin), (uMin (m_scalar_known x0).umax (m_scalar_known x1).umax), (sMax (m_scalar_known x0).smin (m_scalar_known x1).smin), (sMin (m_scalar_known x0).smax (m_scalar_known x1).smax)⟩ : S)))
    else ((zS, false)))
theorem p0_scalar_Meet (x0 : S) (x1 : S) (ra0 : S) (ea0 : m_scalar_known x0 = ra0) (ra1 : S) (ea1 : m_scalar_known x1 = ra1) (ra2 : (T) × (Bool)) (ea2 : m_tnum_Meet ra0.t ra1.t = ra2) (ra3 : (S) × (Bool)) (ea3 : m_Sync (⟨ra2.1, (uMax ra0.umin ra1.umin), (uMin ra0.umax ra1.umax), (sMax ra0.smin ra1.smin), (sMin ra0.smax ra1.smax)⟩ : S) = ra3) (h0 : (ra2.2) = true) : Con Tryz.prog 23 #[(sv (x0)), (sv (x1))] (vt2 (ra3)) :=
  fn_conI (P := Tryz.prog) Tryz.func23 (fun xs w => by kernel_rfl) _ _
    [.o, .o, .o, .o, .r [0, 1, 2, 3] [] [4, 5], .a 0, .cr sv (ok_scalar_known (x0)) ea0, .a 1, .cr sv (ok_scalar_known (x1)) ea1, .a 0, .a 1, .o, .a 0, .o, .a 1, .cr vt0 (ok_tnum_Meet (ra0.t) (ra1.t)) ea2, .o, .o, .b h0, .o, .a 3, .o, .o, .o, .a 3, .o, .a 0, .o, .a 1, .v .u64 (u_max ra0.umin ra1.umin), .o, .a 0, .o, .a 1, .v .u64 (u_min ra0.umax ra1.umax), .o, .a 0, .o, .a 1, .v .i64 (i_max ra0.smin ra1.smin), .o, .a 0, .o, .a 1, .v .i64 (i_min ra0.smax ra1.smax), .o, .cr vt2 (ok_Sync ((⟨ra2.1, (uMax ra0.umin ra1.umin), (uMin ra0.umax ra1.umax), (sMax ra0.smin ra1.smin), (sMin ra0.smax ra1.smax)⟩ : S))) ea3, .o, .o, .a 2, .o]
    [2, 2, 2, 2, 2, 2] (fun b => by kernel_rfl)
theorem p1_scalar_Meet (x0 : S) (x1 : S) (ra0 : S) (ea0 : m_scalar_known x0 = ra0) (ra1 : S) (ea1 : m_scalar_known x1 = ra1) (ra2 : (T) × (Bool)) (ea2 : m_tnum_Meet ra0.t ra1.t = ra2) (h0 : (ra2.2) = false) : Con Tryz.prog 23 #[(sv (x0)), (sv (x1))] (.tuple #[(sv (zS)), (.bool (false))]) :=
  fn_conI (P := Tryz.prog) Tryz.func23 (fun xs w => by kernel_rfl) _ _
    [.o, .o, .o, .o, .r [0, 1, 2, 3] [] [4, 5], .a 0, .cr sv (ok_scalar_known (x0)) ea0, .a 1, .cr sv (ok_scalar_known (x1)) ea1, .a 0, .a 1, .o, .a 0, .o, .a 1, .cr vt0 (ok_tnum_Meet (ra0.t) (ra1.t)) ea2, .o, .o, .b h0, .o, .a 3, .o, .o, .o, .o, .a 2, .o]
    [2, 2, 2, 2, 2, 2] (fun b => by kernel_rfl)
theorem ok_scalar_Meet (x0 : S) (x1 : S) : Con Tryz.prog 23 #[(sv (x0)), (sv (x1))] (vt2 (m_scalar_Meet x0 x1)) := by
  unfold m_scalar_Meet
  refine Con.cond vt2 _ _ _ (fun h0 => ?_) (fun h0 => ?_)
  · exact p0_scalar_Meet x0 x1 _ rfl _ rfl _ rfl _ rfl h0
  · exact p1_scalar_Meet x0 x1 _ rfl _ rfl _ rfl h0
-- barbican/scalar.Between
def m_scalar_Between (x0 : BitVec 64) (x1 : BitVec 64) : S :=
  ((m_scalar_settle (⟨(m_scalar_Unknown ).t, x0, x1, (m_scalar_Unknown ).smin, (m_scalar_Unknown ).smax⟩ : S)))
theorem p0_scalar_Between (x0 : BitVec 64) (x1 : BitVec 64) (ra0 : S) (ea0 : m_scalar_Unknown  = ra0) (ra1 : S) (ea1 : m_scalar_settle (⟨ra0.t, x0, x1, ra0.smin, ra0.smax⟩ : S) = ra1) : Con Tryz.prog 14 #[(.int .u64 (nn (x0))), (.int .u64 (nn (x1)))] (sv (ra1)) :=
  fn_conI (P := Tryz.prog) Tryz.func14 (fun xs w => by kernel_rfl) _ _
    [.o, .cr sv (ok_scalar_Unknown ) ea0, .o, .a 1, .o, .o, .o, .a 1, .o, .a 1, .a 1, .cr sv (ok_scalar_settle ((⟨ra0.t, x0, x1, ra0.smin, ra0.smax⟩ : S))) ea1, .a 0]
    [0, 0, 0, 0, 0, 0] (fun b => by kernel_rfl)
theorem ok_scalar_Between (x0 : BitVec 64) (x1 : BitVec 64) : Con Tryz.prog 14 #[(.int .u64 (nn (x0))), (.int .u64 (nn (x1)))] (sv (m_scalar_Between x0 x1)) := by
  unfold m_scalar_Between
  exact p0_scalar_Between x0 x1 _ rfl _ rfl
-- barbican/scalar.Const
def m_scalar_Const (x0 : BitVec 64) : S :=
  ((⟨(m_tnum_Const x0), x0, x0, x0, x0⟩ : S))
theorem p0_scalar_Const (x0 : BitVec 64) (ra0 : T) (ea0 : m_tnum_Const x0 = ra0) : Con Tryz.prog 12 #[(.int .u64 (nn (x0)))] (sv ((⟨ra0, x0, x0, x0, x0⟩ : S))) :=
  fn_conI (P := Tryz.prog) Tryz.func12 (fun xs w => by kernel_rfl) _ _
    [.o, .o, .cr tv (ok_tnum_Const (x0)) ea0, .o, .o, .o, .v .i64 (i64_of_u64 (x0)), .o, .v .i64 (i64_of_u64 (x0)), .o, .a 0]
    [0, 0, 0, 0, 0, 0] (fun b => by kernel_rfl)
theorem ok_scalar_Const (x0 : BitVec 64) : Con Tryz.prog 12 #[(.int .u64 (nn (x0)))] (sv (m_scalar_Const x0)) := by
  unfold m_scalar_Const
  exact p0_scalar_Const x0 _ rfl
-- math/bits.ReverseBytes16
def m_math_bits_ReverseBytes16 (x0 : BitVec 16) : BitVec 16 :=
  (((x0 >>> 8) ||| (x0 <<< 8)))
theorem p0_math_bits_ReverseBytes16 (x0 : BitVec 16) : Con Tryz.prog 41 #[(.int .u16 (nn (x0)))] (.int .u16 (nn (((x0 >>> 8) ||| (x0 <<< 8))))) :=
  fn_conI (P := Tryz.prog) Tryz.func41 (fun xs w => by kernel_rfl) _ _
    [.o, .o, .ov (u16_shr Tryz.prog 77 (.tmp 3) (.const (.int .u64 ((8)))) (x0) 8 .u64 rfl), .o, .ov (u16_shl Tryz.prog 77 (.tmp 5) (.const (.int .u64 ((8)))) (x0) 8 .u64 rfl), .v .u16 (u16_or (x0 >>> 8) (x0 <<< 8)), .o]
    [] (fun b => by kernel_rfl)
theorem ok_math_bits_ReverseBytes16 (x0 : BitVec 16) : Con Tryz.prog 41 #[(.int .u16 (nn (x0)))] (.int .u16 (nn (m_math_bits_ReverseBytes16 x0))) := by
  unfold m_math_bits_ReverseBytes16
  exact p0_math_bits_ReverseBytes16 x0 
-- math/bits.ReverseBytes32
def m_math_bits_ReverseBytes32 (x0 : BitVec 32) : BitVec 32 :=
  ((((((x0 >>> 8) &&& 16711935#32) ||| ((x0 &&& 16711935#32) <<< 8)) >>> 16) ||| ((((x0 >>> 8) &&& 16711935#32) ||| ((x0 &&& 16711935#32) <<< 8)) <<< 16)))
theorem p0_math_bits_ReverseBytes32 (x0 : BitVec 32) : Con Tryz.prog 42 #[(.int .u32 (nn (x0)))] (.int .u32 (nn ((((((x0 >>> 8) &&& 16711935#32) ||| ((x0 &&& 16711935#32) <<< 8)) >>> 16) ||| ((((x0 >>> 8) &&& 16711935#32) ||| ((x0 &&& 16711935#32) <<< 8)) <<< 16))))) :=
  fn_conI (P := Tryz.prog) Tryz.func42 (fun xs w => by kernel_rfl) _ _
    [.o, .o, .ov (u32_shr Tryz.prog 71 (.tmp 3) (.const (.int .u64 ((8)))) (x0) 8 .u64 rfl), .v .u32 (u32_and (x0 >>> 8) 16711935#32), .o, .v .u32 (u32_and x0 16711935#32), .ov (u32_shl Tryz.prog 71 (.tmp 7) (.const (.int .u64 ((8)))) ((x0 &&& 16711935#32)) 8 .u64 rfl), .v .u32 (u32_or ((x0 >>> 8) &&& 16711935#32) ((x0 &&& 16711935#32) <<< 8)), .o, .o, .ov (u32_shr Tryz.prog 71 (.tmp 10) (.const (.int .u64 ((16)))) ((((x0 >>> 8) &&& 16711935#32) ||| ((x0 &&& 16711935#32) <<< 8))) 16 .u64 rfl), .o, .ov (u32_shl Tryz.prog 71 (.tmp 12) (.const (.int .u64 ((16)))) ((((x0 >>> 8) &&& 16711935#32) ||| ((x0 &&& 16711935#32) <<< 8))) 16 .u64 rfl), .v .u32 (u32_or ((((x0 >>> 8) &&& 16711935#32) ||| ((x0 &&& 16711935#32) <<< 8)) >>> 16) ((((x0 >>> 8) &&& 16711935#32) ||| ((x0 &&& 16711935#32) <<< 8)) <<< 16)), .o]
    [] (fun b => by kernel_rfl)
theorem ok_math_bits_ReverseBytes32 (x0 : BitVec 32) : Con Tryz.prog 42 #[(.int .u32 (nn (x0)))] (.int .u32 (nn (m_math_bits_ReverseBytes32 x0))) := by
  unfold m_math_bits_ReverseBytes32
  exact p0_math_bits_ReverseBytes32 x0 
-- math/bits.ReverseBytes64
def m_math_bits_ReverseBytes64 (x0 : BitVec 64) : BitVec 64 :=
  (((((((((x0 >>> 8) &&& 71777214294589695#64) ||| ((x0 &&& 71777214294589695#64) <<< 8)) >>> 16) &&& 281470681808895#64) ||| (((((x0 >>> 8) &&& 71777214294589695#64) ||| ((x0 &&& 71777214294589695#64) <<< 8)) &&& 281470681808895#64) <<< 16)) >>> 32) ||| (((((((x0 >>> 8) &&& 71777214294589695#64) ||| ((x0 &&& 71777214294589695#64) <<< 8)) >>> 16) &&& 281470681808895#64) ||| (((((x0 >>> 8) &&& 71777214294589695#64) ||| ((x0 &&& 71777214294589695#64) <<< 8)) &&& 281470681808895#64) <<< 16)) <<< 32)))
theorem p0_math_bits_ReverseBytes64 (x0 : BitVec 64) : Con Tryz.prog 43 #[(.int .u64 (nn (x0)))] (.int .u64 (nn (((((((((x0 >>> 8) &&& 71777214294589695#64) ||| ((x0 &&& 71777214294589695#64) <<< 8)) >>> 16) &&& 281470681808895#64) ||| (((((x0 >>> 8) &&& 71777214294589695#64) ||| ((x0 &&& 71777214294589695#64) <<< 8)) &&& 281470681808895#64) <<< 16)) >>> 32) ||| (((((((x0 >>> 8) &&& 71777214294589695#64) ||| ((x0 &&& 71777214294589695#64) <<< 8)) >>> 16) &&& 281470681808895#64) ||| (((((x0 >>> 8) &&& 71777214294589695#64) ||| ((x0 &&& 71777214294589695#64) <<< 8)) &&& 281470681808895#64) <<< 16)) <<< 32))))) :=
  fn_conI (P := Tryz.prog) Tryz.func43 (fun xs w => by kernel_rfl) _ _
    [.o, .o, .ov (u64_shr Tryz.prog 22 (.tmp 3) (.const (.int .u64 ((8)))) (x0) 8 .u64 rfl), .v .u64 (u64_and (x0 >>> 8) 71777214294589695#64), .o, .v .u64 (u64_and x0 71777214294589695#64), .ov (u64_shl Tryz.prog 22 (.tmp 7) (.const (.int .u64 ((8)))) ((x0 &&& 71777214294589695#64)) 8 .u64 rfl), .v .u64 (u64_or ((x0 >>> 8) &&& 71777214294589695#64) ((x0 &&& 71777214294589695#64) <<< 8)), .o, .o, .ov (u64_shr Tryz.prog 22 (.tmp 10) (.const (.int .u64 ((16)))) ((((x0 >>> 8) &&& 71777214294589695#64) ||| ((x0 &&& 71777214294589695#64) <<< 8))) 16 .u64 rfl), .v .u64 (u64_and ((((x0 >>> 8) &&& 71777214294589695#64) ||| ((x0 &&& 71777214294589695#64) <<< 8)) >>> 16) 281470681808895#64), .o, .v .u64 (u64_and (((x0 >>> 8) &&& 71777214294589695#64) ||| ((x0 &&& 71777214294589695#64) <<< 8)) 281470681808895#64), .ov (u64_shl Tryz.prog 22 (.tmp 14) (.const (.int .u64 ((16)))) (((((x0 >>> 8) &&& 71777214294589695#64) ||| ((x0 &&& 71777214294589695#64) <<< 8)) &&& 281470681808895#64)) 16 .u64 rfl), .v .u64 (u64_or (((((x0 >>> 8) &&& 71777214294589695#64) ||| ((x0 &&& 71777214294589695#64) <<< 8)) >>> 16) &&& 281470681808895#64) (((((x0 >>> 8) &&& 71777214294589695#64) ||| ((x0 &&& 71777214294589695#64) <<< 8)) &&& 281470681808895#64) <<< 16)), .o, .o, .ov (u64_shr Tryz.prog 22 (.tmp 17) (.const (.int .u64 ((32)))) (((((((x0 >>> 8) &&& 71777214294589695#64) ||| ((x0 &&& 71777214294589695#64) <<< 8)) >>> 16) &&& 281470681808895#64) ||| (((((x0 >>> 8) &&& 71777214294589695#64) ||| ((x0 &&& 71777214294589695#64) <<< 8)) &&& 281470681808895#64) <<< 16))) 32 .u64 rfl), .o, .ov (u64_shl Tryz.prog 22 (.tmp 19) (.const (.int .u64 ((32)))) (((((((x0 >>> 8) &&& 71777214294589695#64) ||| ((x0 &&& 71777214294589695#64) <<< 8)) >>> 16) &&& 281470681808895#64) ||| (((((x0 >>> 8) &&& 71777214294589695#64) ||| ((x0 &&& 71777214294589695#64) <<< 8)) &&& 281470681808895#64) <<< 16))) 32 .u64 rfl), .v .u64 (u64_or (((((((x0 >>> 8) &&& 71777214294589695#64) ||| ((x0 &&& 71777214294589695#64) <<< 8)) >>> 16) &&& 281470681808895#64) ||| (((((x0 >>> 8) &&& 71777214294589695#64) ||| ((x0 &&& 71777214294589695#64) <<< 8)) &&& 281470681808895#64) <<< 16)) >>> 32) (((((((x0 >>> 8) &&& 71777214294589695#64) ||| ((x0 &&& 71777214294589695#64) <<< 8)) >>> 16) &&& 281470681808895#64) ||| (((((x0 >>> 8) &&& 71777214294589695#64) ||| ((x0 &&& 71777214294589695#64) <<< 8)) &&& 281470681808895#64) <<< 16)) <<< 32)), .o]
    [] (fun b => by kernel_rfl)
theorem ok_math_bits_ReverseBytes64 (x0 : BitVec 64) : Con Tryz.prog 43 #[(.int .u64 (nn (x0)))] (.int .u64 (nn (m_math_bits_ReverseBytes64 x0))) := by
  unfold m_math_bits_ReverseBytes64
  exact p0_math_bits_ReverseBytes64 x0 
-- barbican/alu.Turn
def m_alu_Turn (x0 : BitVec 64) (x1 : BitVec 64) : (BitVec 64) × (Bool) :=
  (bif x0 == 16#64 then
    ((((m_math_bits_ReverseBytes16 (x1.setWidth 16)).setWidth 64), true))
    else (bif x0 == 32#64 then
      ((((m_math_bits_ReverseBytes32 (x1.setWidth 32)).setWidth 64), true))
      else (bif x0 == 64#64 then
        (((m_math_bits_ReverseBytes64 x1), true))
        else ((0#64, false)))))
theorem p0_alu_Turn (x1 : BitVec 64) (ra0 : BitVec 16) (ea0 : m_math_bits_ReverseBytes16 (x1.setWidth 16) = ra0) : Con Tryz.prog 21 #[(.int .i64 (ii (16#64))), (.int .u64 (nn (x1)))] (.tuple #[(.int .u64 (nn ((ra0.setWidth 64)))), (.bool (true))]) :=
  fn_conI (P := Tryz.prog) Tryz.func21 (fun xs w => by kernel_rfl) _ _
    [.o, .o, .o, .o, .o, .o, .v .u16 (u16_of_u64 (x1)), .cr (fun r => (Value.int .u16 (nn (r)))) (ok_math_bits_ReverseBytes16 ((x1.setWidth 16))) ea0, .v .u64 (u64_of_u16 (ra0)), .o, .o]
    [] (fun b => by kernel_rfl)
theorem p1_alu_Turn (x1 : BitVec 64) (ra0 : BitVec 32) (ea0 : m_math_bits_ReverseBytes32 (x1.setWidth 32) = ra0) (h0 : (32#64 == 16#64) = false) : Con Tryz.prog 21 #[(.int .i64 (ii (32#64))), (.int .u64 (nn (x1)))] (.tuple #[(.int .u64 (nn ((ra0.setWidth 64)))), (.bool (true))]) :=
  fn_conI (P := Tryz.prog) Tryz.func21 (fun xs w => by kernel_rfl) _ _
    [.o, .o, .o, .o, .o, .o, .o, .o, .v .u32 (u32_of_u64 (x1)), .cr (fun r => (Value.int .u32 (nn (r)))) (ok_math_bits_ReverseBytes32 ((x1.setWidth 32))) ea0, .v .u64 (u64_of_u32 (ra0)), .o, .o]
    [] (fun b => by kernel_rfl)
theorem p2_alu_Turn (x1 : BitVec 64) (ra0 : BitVec 64) (ea0 : m_math_bits_ReverseBytes64 x1 = ra0) (h0 : (64#64 == 16#64) = false) (h1 : (64#64 == 32#64) = false) : Con Tryz.prog 21 #[(.int .i64 (ii (64#64))), (.int .u64 (nn (x1)))] (.tuple #[(.int .u64 (nn (ra0))), (.bool (true))]) :=
  fn_conI (P := Tryz.prog) Tryz.func21 (fun xs w => by kernel_rfl) _ _
    [.o, .o, .o, .o, .o, .o, .o, .o, .o, .o, .cr (fun r => (Value.int .u64 (nn (r)))) (ok_math_bits_ReverseBytes64 (x1)) ea0, .o, .o]
    [] (fun b => by kernel_rfl)
theorem p3_alu_Turn (x0 : BitVec 64) (x1 : BitVec 64) (h0 : (x0 == 16#64) = false) (h1 : (x0 == 32#64) = false) (h2 : (x0 == 64#64) = false) : Con Tryz.prog 21 #[(.int .i64 (ii (x0))), (.int .u64 (nn (x1)))] (.tuple #[(.int .u64 (nn (0#64))), (.bool (false))]) :=
  fn_conI (P := Tryz.prog) Tryz.func21 (fun xs w => by kernel_rfl) _ _
    [.o, .o, .o, .t (i_eq x0 16#64) h0, .o, .t (i_eq x0 32#64) h1, .o, .t (i_eq x0 64#64) h2, .o, .o, .o]
    [] (fun b => by kernel_rfl)
theorem ok_alu_Turn (x0 : BitVec 64) (x1 : BitVec 64) : Con Tryz.prog 21 #[(.int .i64 (ii (x0))), (.int .u64 (nn (x1)))] (vt1 (m_alu_Turn x0 x1)) := by
  unfold m_alu_Turn
  refine Con.cond vt1 _ _ _ (fun h0 => ?_) (fun h0 => ?_)
  · have e0 := eq_of_beq h0; subst e0
    exact p0_alu_Turn x1 _ rfl
  · refine Con.cond vt1 _ _ _ (fun h1 => ?_) (fun h1 => ?_)
    · have e1 := eq_of_beq h1; subst e1
      exact p1_alu_Turn x1 _ rfl h0
    · refine Con.cond vt1 _ _ _ (fun h2 => ?_) (fun h2 => ?_)
      · have e2 := eq_of_beq h2; subst e2
        exact p2_alu_Turn x1 _ rfl h0 h1
      · exact p3_alu_Turn x0 x1 h0 h1 h2
-- barbican/scalar.lowest
def m_scalar_lowest_16 (x0 : S) : S :=
  (bif BitVec.ult 65535#64 x0.umax then
    (bif (x0.umin >>> 16) == (x0.umax >>> 16) then
      ((m_scalar_settle (⟨(m_scalar_ofBits (m_tnum_And x0.t (m_tnum_Const (65535#64)))).t, (x0.umin &&& 65535#64), (x0.umax &&& 65535#64), (m_scalar_ofBits (m_tnum_And x0.t (m_tnum_Const (65535#64)))).smin, (m_scalar_ofBits (m_tnum_And x0.t (m_tnum_Const (65535#64)))).smax⟩ : S)))
      else ((m_scalar_settle (m_scalar_ofBits (m_tnum_And x0.t (m_tnum_Const (65535#64)))))))
    else (x0))
theorem p0_scalar_lowest_16 (x0 : S) (ra0 : T) (ea0 : m_tnum_Const (65535#64) = ra0) (ra1 : T) (ea1 : m_tnum_And x0.t ra0 = ra1) (ra2 : S) (ea2 : m_scalar_ofBits ra1 = ra2) (ra3 : S) (ea3 : m_scalar_settle (⟨ra2.t, (x0.umin &&& 65535#64), (x0.umax &&& 65535#64), ra2.smin, ra2.smax⟩ : S) = ra3) (h0 : (BitVec.ult 65535#64 x0.umax) = true) (h1 : ((x0.umin >>> 16) == (x0.umax >>> 16)) = true) : Con Tryz.prog 44 #[(sv (x0)), .int .i64 ((16))] (sv (ra3)) :=
  fn_conI (P := Tryz.prog) Tryz.func44 (fun xs w => by kernel_rfl) _ _
    [.o, .o, .o, .o, .o, .o, .o, .a 0, .o, .tn (u_le x0.umax 65535#64) h0, .r [0, 1, 2, 3, 4, 5] [6] [7], .o, .a 0, .o, .cr tv (ok_tnum_Const (65535#64)) ea0, .cr tv (ok_tnum_And (x0.t) (ra0)) ea1, .cr sv (ok_scalar_ofBits (ra1)) ea2, .a 2, .r [0, 1, 2, 3, 4, 5, 6, 7, 8] [] [], .o, .a 0, .o, .ov (u64_shr Tryz.prog 22 (.tmp 22) (.tmp 23) (x0.umin) 16 .i64 rfl), .o, .a 0, .o, .ov (u64_shr Tryz.prog 22 (.tmp 26) (.tmp 27) (x0.umax) 16 .i64 rfl), .t (u_eq (x0.umin >>> 16) (x0.umax >>> 16)) h1, .r [0, 1, 2, 3, 4, 5, 6, 7, 8] [] [9, 10, 11], .o, .a 0, .o, .v .u64 (u64_and x0.umin 65535#64), .o, .a 0, .o, .v .u64 (u64_and x0.umax 65535#64), .o, .a 2, .o, .a 2, .a 2, .cr sv (ok_scalar_settle ((⟨ra2.t, (x0.umin &&& 65535#64), (x0.umax &&& 65535#64), ra2.smin, ra2.smax⟩ : S))) ea3, .a 1]
    [1, 1, 1, 1, 1, 1] (fun b => by kernel_rfl)
theorem p1_scalar_lowest_16 (x0 : S) (ra0 : T) (ea0 : m_tnum_Const (65535#64) = ra0) (ra1 : T) (ea1 : m_tnum_And x0.t ra0 = ra1) (ra2 : S) (ea2 : m_scalar_ofBits ra1 = ra2) (ra3 : S) (ea3 : m_scalar_settle ra2 = ra3) (h0 : (BitVec.ult 65535#64 x0.umax) = true) (h1 : ((x0.umin >>> 16) == (x0.umax >>> 16)) = false) : Con Tryz.prog 44 #[(sv (x0)), .int .i64 ((16))] (sv (ra3)) :=
  fn_conI (P := Tryz.prog) Tryz.func44 (fun xs w => by kernel_rfl) _ _
    [.o, .o, .o, .o, .o, .o, .o, .a 0, .o, .tn (u_le x0.umax 65535#64) h0, .r [0, 1, 2, 3, 4, 5] [6] [7], .o, .a 0, .o, .cr tv (ok_tnum_Const (65535#64)) ea0, .cr tv (ok_tnum_And (x0.t) (ra0)) ea1, .cr sv (ok_scalar_ofBits (ra1)) ea2, .a 2, .r [0, 1, 2, 3, 4, 5, 6, 7, 8] [] [], .o, .a 0, .o, .ov (u64_shr Tryz.prog 22 (.tmp 22) (.tmp 23) (x0.umin) 16 .i64 rfl), .o, .a 0, .o, .ov (u64_shr Tryz.prog 22 (.tmp 26) (.tmp 27) (x0.umax) 16 .i64 rfl), .t (u_eq (x0.umin >>> 16) (x0.umax >>> 16)) h1, .a 2, .cr sv (ok_scalar_settle (ra2)) ea3, .a 1]
    [1, 1, 1, 1, 1, 1] (fun b => by kernel_rfl)
theorem p2_scalar_lowest_16 (x0 : S) (h0 : (BitVec.ult 65535#64 x0.umax) = false) : Con Tryz.prog 44 #[(sv (x0)), .int .i64 ((16))] (sv (x0)) :=
  fn_conI (P := Tryz.prog) Tryz.func44 (fun xs w => by kernel_rfl) _ _
    [.o, .o, .o, .o, .o, .o, .o, .a 0, .o, .tn (u_le x0.umax 65535#64) h0, .a 0, .a 1]
    [1, 1, 1, 1, 1, 1] (fun b => by kernel_rfl)
theorem ok_scalar_lowest_16 (x0 : S) : Con Tryz.prog 44 #[(sv (x0)), .int .i64 ((16))] (sv (m_scalar_lowest_16 x0)) := by
  unfold m_scalar_lowest_16
  refine Con.cond sv _ _ _ (fun h0 => ?_) (fun h0 => ?_)
  · refine Con.cond sv _ _ _ (fun h1 => ?_) (fun h1 => ?_)
    · exact p0_scalar_lowest_16 x0 _ rfl _ rfl _ rfl _ rfl h0 h1
    · exact p1_scalar_lowest_16 x0 _ rfl _ rfl _ rfl _ rfl h0 h1
  · exact p2_scalar_lowest_16 x0 h0
-- barbican/scalar.lowest
def m_scalar_lowest_32 (x0 : S) : S :=
  (bif BitVec.ult 4294967295#64 x0.umax then
    (bif (x0.umin >>> 32) == (x0.umax >>> 32) then
      ((m_scalar_settle (⟨(m_scalar_ofBits (m_tnum_And x0.t (m_tnum_Const (4294967295#64)))).t, (x0.umin &&& 4294967295#64), (x0.umax &&& 4294967295#64), (m_scalar_ofBits (m_tnum_And x0.t (m_tnum_Const (4294967295#64)))).smin, (m_scalar_ofBits (m_tnum_And x0.t (m_tnum_Const (4294967295#64)))).smax⟩ : S)))
      else ((m_scalar_settle (m_scalar_ofBits (m_tnum_And x0.t (m_tnum_Const (4294967295#64)))))))
    else (x0))
theorem p0_scalar_lowest_32 (x0 : S) (ra0 : T) (ea0 : m_tnum_Const (4294967295#64) = ra0) (ra1 : T) (ea1 : m_tnum_And x0.t ra0 = ra1) (ra2 : S) (ea2 : m_scalar_ofBits ra1 = ra2) (ra3 : S) (ea3 : m_scalar_settle (⟨ra2.t, (x0.umin &&& 4294967295#64), (x0.umax &&& 4294967295#64), ra2.smin, ra2.smax⟩ : S) = ra3) (h0 : (BitVec.ult 4294967295#64 x0.umax) = true) (h1 : ((x0.umin >>> 32) == (x0.umax >>> 32)) = true) : Con Tryz.prog 44 #[(sv (x0)), .int .i64 ((32))] (sv (ra3)) :=
  fn_conI (P := Tryz.prog) Tryz.func44 (fun xs w => by kernel_rfl) _ _
    [.o, .o, .o, .o, .o, .o, .o, .a 0, .o, .tn (u_le x0.umax 4294967295#64) h0, .r [0, 1, 2, 3, 4, 5] [6] [7], .o, .a 0, .o, .cr tv (ok_tnum_Const (4294967295#64)) ea0, .cr tv (ok_tnum_And (x0.t) (ra0)) ea1, .cr sv (ok_scalar_ofBits (ra1)) ea2, .a 2, .r [0, 1, 2, 3, 4, 5, 6, 7, 8] [] [], .o, .a 0, .o, .ov (u64_shr Tryz.prog 22 (.tmp 22) (.tmp 23) (x0.umin) 32 .i64 rfl), .o, .a 0, .o, .ov (u64_shr Tryz.prog 22 (.tmp 26) (.tmp 27) (x0.umax) 32 .i64 rfl), .t (u_eq (x0.umin >>> 32) (x0.umax >>> 32)) h1, .r [0, 1, 2, 3, 4, 5, 6, 7, 8] [] [9, 10, 11], .o, .a 0, .o, .v .u64 (u64_and x0.umin 4294967295#64), .o, .a 0, .o, .v .u64 (u64_and x0.umax 4294967295#64), .o, .a 2, .o, .a 2, .a 2, .cr sv (ok_scalar_settle ((⟨ra2.t, (x0.umin &&& 4294967295#64), (x0.umax &&& 4294967295#64), ra2.smin, ra2.smax⟩ : S))) ea3, .a 1]
    [1, 1, 1, 1, 1, 1] (fun b => by kernel_rfl)
theorem p1_scalar_lowest_32 (x0 : S) (ra0 : T) (ea0 : m_tnum_Const (4294967295#64) = ra0) (ra1 : T) (ea1 : m_tnum_And x0.t ra0 = ra1) (ra2 : S) (ea2 : m_scalar_ofBits ra1 = ra2) (ra3 : S) (ea3 : m_scalar_settle ra2 = ra3) (h0 : (BitVec.ult 4294967295#64 x0.umax) = true) (h1 : ((x0.umin >>> 32) == (x0.umax >>> 32)) = false) : Con Tryz.prog 44 #[(sv (x0)), .int .i64 ((32))] (sv (ra3)) :=
  fn_conI (P := Tryz.prog) Tryz.func44 (fun xs w => by kernel_rfl) _ _
    [.o, .o, .o, .o, .o, .o, .o, .a 0, .o, .tn (u_le x0.umax 4294967295#64) h0, .r [0, 1, 2, 3, 4, 5] [6] [7], .o, .a 0, .o, .cr tv (ok_tnum_Const (4294967295#64)) ea0, .cr tv (ok_tnum_And (x0.t) (ra0)) ea1, .cr sv (ok_scalar_ofBits (ra1)) ea2, .a 2, .r [0, 1, 2, 3, 4, 5, 6, 7, 8] [] [], .o, .a 0, .o, .ov (u64_shr Tryz.prog 22 (.tmp 22) (.tmp 23) (x0.umin) 32 .i64 rfl), .o, .a 0, .o, .ov (u64_shr Tryz.prog 22 (.tmp 26) (.tmp 27) (x0.umax) 32 .i64 rfl), .t (u_eq (x0.umin >>> 32) (x0.umax >>> 32)) h1, .a 2, .cr sv (ok_scalar_settle (ra2)) ea3, .a 1]
    [1, 1, 1, 1, 1, 1] (fun b => by kernel_rfl)
theorem p2_scalar_lowest_32 (x0 : S) (h0 : (BitVec.ult 4294967295#64 x0.umax) = false) : Con Tryz.prog 44 #[(sv (x0)), .int .i64 ((32))] (sv (x0)) :=
  fn_conI (P := Tryz.prog) Tryz.func44 (fun xs w => by kernel_rfl) _ _
    [.o, .o, .o, .o, .o, .o, .o, .a 0, .o, .tn (u_le x0.umax 4294967295#64) h0, .a 0, .a 1]
    [1, 1, 1, 1, 1, 1] (fun b => by kernel_rfl)
theorem ok_scalar_lowest_32 (x0 : S) : Con Tryz.prog 44 #[(sv (x0)), .int .i64 ((32))] (sv (m_scalar_lowest_32 x0)) := by
  unfold m_scalar_lowest_32
  refine Con.cond sv _ _ _ (fun h0 => ?_) (fun h0 => ?_)
  · refine Con.cond sv _ _ _ (fun h1 => ?_) (fun h1 => ?_)
    · exact p0_scalar_lowest_32 x0 _ rfl _ rfl _ rfl _ rfl h0 h1
    · exact p1_scalar_lowest_32 x0 _ rfl _ rfl _ rfl _ rfl h0 h1
  · exact p2_scalar_lowest_32 x0 h0
-- barbican/scalar.Swap
def m_scalar_Swap (x0 : BitVec 64) (x1 : Bool) (x2 : Bool) (x3 : S) : S :=
  (bif x1 then
    (bif x0 == 16#64 then
      ((m_scalar_settle (m_scalar_ofBits (⟨(m_alu_Turn (16#64) (m_scalar_known x3).t.v).1, (m_alu_Turn (16#64) (m_scalar_known x3).t.m).1⟩ : T))))
      else (bif x0 == 32#64 then
        ((m_scalar_settle (m_scalar_ofBits (⟨(m_alu_Turn (32#64) (m_scalar_known x3).t.v).1, (m_alu_Turn (32#64) (m_scalar_known x3).t.m).1⟩ : T))))
        else (bif x0 == 64#64 then
          ((m_scalar_settle (m_scalar_ofBits (⟨(m_alu_Turn (64#64) (m_scalar_known x3).t.v).1, (m_alu_Turn (64#64) (m_scalar_known x3).t.m).1⟩ : T))))
          else ((m_scalar_Unknown )))))
    else (bif x0 == 16#64 then
      (bif x2 then
        ((m_scalar_settle (m_scalar_ofBits (⟨(m_alu_Turn (16#64) (m_scalar_known x3).t.v).1, (m_alu_Turn (16#64) (m_scalar_known x3).t.m).1⟩ : T))))
        else ((m_scalar_lowest_16 (m_scalar_known x3))))
      else (bif x0 == 32#64 then
        (bif x2 then
          ((m_scalar_settle (m_scalar_ofBits (⟨(m_alu_Turn (32#64) (m_scalar_known x3).t.v).1, (m_alu_Turn (32#64) (m_scalar_known x3).t.m).1⟩ : T))))
          else ((m_scalar_lowest_32 (m_scalar_known x3))))
        else (bif x0 == 64#64 then
          (bif x2 then
            ((m_scalar_settle (m_scalar_ofBits (⟨(m_alu_Turn (64#64) (m_scalar_known x3).t.v).1, (m_alu_Turn (64#64) (m_scalar_known x3).t.m).1⟩ : T))))
            else ((m_scalar_known x3)))
          else ((m_scalar_Unknown ))))))
theorem p0_scalar_Swap (x2 : Bool) (x3 : S) (ra0 : S) (ea0 : m_scalar_known x3 = ra0) (ra1 : (BitVec 64) × (Bool)) (ea1 : m_alu_Turn (16#64) ra0.t.v = ra1) (ra2 : (BitVec 64) × (Bool)) (ea2 : m_alu_Turn (16#64) ra0.t.m = ra2) (ra3 : S) (ea3 : m_scalar_ofBits (⟨ra1.1, ra2.1⟩ : T) = ra3) (ra4 : S) (ea4 : m_scalar_settle ra3 = ra4) : Con Tryz.prog 22 #[(.int .i64 (ii (16#64))), (.bool (true)), (.bool (x2)), (sv (x3))] (sv (ra4)) :=
  fn_conI (P := Tryz.prog) Tryz.func22 (fun xs w => by kernel_rfl) _ _
    [.o, .o, .a 0, .cr sv (ok_scalar_known (x3)) ea0, .a 0, .o, .o, .o, .o, .o, .o, .o, .o, .o, .o, .o, .o, .o, .o, .o, .o, .a 0, .cr vt1 (ok_alu_Turn (16#64) (ra0.t.v)) ea1, .o, .o, .o, .o, .o, .o, .o, .o, .a 0, .cr vt1 (ok_alu_Turn (16#64) (ra0.t.m)) ea2, .o, .o, .o, .o, .o, .o, .o, .o, .cr sv (ok_scalar_ofBits ((⟨ra1.1, ra2.1⟩ : T))) ea3, .cr sv (ok_scalar_settle (ra3)) ea4, .a 1]
    [1, 1, 1, 1, 1, 1] (fun b => by kernel_rfl)
theorem p1_scalar_Swap (x2 : Bool) (x3 : S) (ra0 : S) (ea0 : m_scalar_known x3 = ra0) (ra1 : (BitVec 64) × (Bool)) (ea1 : m_alu_Turn (32#64) ra0.t.v = ra1) (ra2 : (BitVec 64) × (Bool)) (ea2 : m_alu_Turn (32#64) ra0.t.m = ra2) (ra3 : S) (ea3 : m_scalar_ofBits (⟨ra1.1, ra2.1⟩ : T) = ra3) (ra4 : S) (ea4 : m_scalar_settle ra3 = ra4) (h1 : (32#64 == 16#64) = false) : Con Tryz.prog 22 #[(.int .i64 (ii (32#64))), (.bool (true)), (.bool (x2)), (sv (x3))] (sv (ra4)) :=
  fn_conI (P := Tryz.prog) Tryz.func22 (fun xs w => by kernel_rfl) _ _
    [.o, .o, .a 0, .cr sv (ok_scalar_known (x3)) ea0, .a 0, .o, .o, .o, .o, .o, .o, .o, .o, .o, .o, .o, .o, .o, .o, .o, .o, .o, .o, .a 0, .cr vt1 (ok_alu_Turn (32#64) (ra0.t.v)) ea1, .o, .o, .o, .o, .o, .o, .o, .o, .a 0, .cr vt1 (ok_alu_Turn (32#64) (ra0.t.m)) ea2, .o, .o, .o, .o, .o, .o, .o, .o, .cr sv (ok_scalar_ofBits ((⟨ra1.1, ra2.1⟩ : T))) ea3, .cr sv (ok_scalar_settle (ra3)) ea4, .a 1]
    [1, 1, 1, 1, 1, 1] (fun b => by kernel_rfl)
theorem p2_scalar_Swap (x2 : Bool) (x3 : S) (ra0 : S) (ea0 : m_scalar_known x3 = ra0) (ra1 : (BitVec 64) × (Bool)) (ea1 : m_alu_Turn (64#64) ra0.t.v = ra1) (ra2 : (BitVec 64) × (Bool)) (ea2 : m_alu_Turn (64#64) ra0.t.m = ra2) (ra3 : S) (ea3 : m_scalar_ofBits (⟨ra1.1, ra2.1⟩ : T) = ra3) (ra4 : S) (ea4 : m_scalar_settle ra3 = ra4) (h1 : (64#64 == 16#64) = false) (h2 : (64#64 == 32#64) = false) : Con Tryz.prog 22 #[(.int .i64 (ii (64#64))), (.bool (true)), (.bool (x2)), (sv (x3))] (sv (ra4)) :=
  fn_conI (P := Tryz.prog) Tryz.func22 (fun xs w => by kernel_rfl) _ _
    [.o, .o, .a 0, .cr sv (ok_scalar_known (x3)) ea0, .a 0, .o, .o, .o, .o, .o, .o, .o, .o, .o, .o, .o, .o, .o, .o, .o, .o, .o, .o, .o, .o, .a 0, .cr vt1 (ok_alu_Turn (64#64) (ra0.t.v)) ea1, .o, .o, .o, .o, .o, .o, .o, .o, .a 0, .cr vt1 (ok_alu_Turn (64#64) (ra0.t.m)) ea2, .o, .o, .o, .o, .o, .o, .o, .o, .cr sv (ok_scalar_ofBits ((⟨ra1.1, ra2.1⟩ : T))) ea3, .cr sv (ok_scalar_settle (ra3)) ea4, .a 1]
    [1, 1, 1, 1, 1, 1] (fun b => by kernel_rfl)
theorem p3_scalar_Swap (x0 : BitVec 64) (x2 : Bool) (x3 : S) (ra0 : S) (ea0 : m_scalar_known x3 = ra0) (ra1 : S) (ea1 : m_scalar_Unknown  = ra1) (h1 : (x0 == 16#64) = false) (h2 : (x0 == 32#64) = false) (h3 : (x0 == 64#64) = false) : Con Tryz.prog 22 #[(.int .i64 (ii (x0))), (.bool (true)), (.bool (x2)), (sv (x3))] (sv (ra1)) :=
  fn_conI (P := Tryz.prog) Tryz.func22 (fun xs w => by kernel_rfl) _ _
    [.o, .o, .a 0, .cr sv (ok_scalar_known (x3)) ea0, .a 0, .o, .o, .o, .o, .o, .tn (i_ne x0 16#64) h1, .o, .o, .tn (i_ne x0 32#64) h2, .o, .o, .o, .tn (i_ne x0 64#64) h3, .o, .o, .cr sv (ok_scalar_Unknown ) ea1, .a 1]
    [1, 1, 1, 1, 1, 1] (fun b => by kernel_rfl)
theorem p4_scalar_Swap (x3 : S) (ra0 : S) (ea0 : m_scalar_known x3 = ra0) (ra1 : (BitVec 64) × (Bool)) (ea1 : m_alu_Turn (16#64) ra0.t.v = ra1) (ra2 : (BitVec 64) × (Bool)) (ea2 : m_alu_Turn (16#64) ra0.t.m = ra2) (ra3 : S) (ea3 : m_scalar_ofBits (⟨ra1.1, ra2.1⟩ : T) = ra3) (ra4 : S) (ea4 : m_scalar_settle ra3 = ra4) : Con Tryz.prog 22 #[(.int .i64 (ii (16#64))), (.bool (false)), (.bool (true)), (sv (x3))] (sv (ra4)) :=
  fn_conI (P := Tryz.prog) Tryz.func22 (fun xs w => by kernel_rfl) _ _
    [.o, .o, .a 0, .cr sv (ok_scalar_known (x3)) ea0, .a 0, .o, .o, .o, .o, .o, .o, .o, .o, .o, .o, .o, .o, .o, .o, .o, .o, .o, .a 0, .cr vt1 (ok_alu_Turn (16#64) (ra0.t.v)) ea1, .o, .o, .o, .o, .o, .o, .o, .o, .a 0, .cr vt1 (ok_alu_Turn (16#64) (ra0.t.m)) ea2, .o, .o, .o, .o, .o, .o, .o, .o, .cr sv (ok_scalar_ofBits ((⟨ra1.1, ra2.1⟩ : T))) ea3, .cr sv (ok_scalar_settle (ra3)) ea4, .a 1]
    [1, 1, 1, 1, 1, 1] (fun b => by kernel_rfl)
theorem p5_scalar_Swap (x3 : S) (ra0 : S) (ea0 : m_scalar_known x3 = ra0) (ra1 : S) (ea1 : m_scalar_lowest_16 ra0 = ra1) : Con Tryz.prog 22 #[(.int .i64 (ii (16#64))), (.bool (false)), (.bool (false)), (sv (x3))] (sv (ra1)) :=
  fn_conI (P := Tryz.prog) Tryz.func22 (fun xs w => by kernel_rfl) _ _
    [.o, .o, .a 0, .cr sv (ok_scalar_known (x3)) ea0, .a 0, .o, .o, .o, .o, .o, .o, .o, .o, .o, .o, .o, .o, .o, .o, .o, .o, .o, .a 0, .o, .cr sv (ok_scalar_lowest_16 (ra0)) ea1, .a 1]
    [1, 1, 1, 1, 1, 1] (fun b => by kernel_rfl)
theorem p6_scalar_Swap (x3 : S) (ra0 : S) (ea0 : m_scalar_known x3 = ra0) (ra1 : (BitVec 64) × (Bool)) (ea1 : m_alu_Turn (32#64) ra0.t.v = ra1) (ra2 : (BitVec 64) × (Bool)) (ea2 : m_alu_Turn (32#64) ra0.t.m = ra2) (ra3 : S) (ea3 : m_scalar_ofBits (⟨ra1.1, ra2.1⟩ : T) = ra3) (ra4 : S) (ea4 : m_scalar_settle ra3 = ra4) (h1 : (32#64 == 16#64) = false) : Con Tryz.prog 22 #[(.int .i64 (ii (32#64))), (.bool (false)), (.bool (true)), (sv (x3))] (sv (ra4)) :=
  fn_conI (P := Tryz.prog) Tryz.func22 (fun xs w => by kernel_rfl) _ _
    [.o, .o, .a 0, .cr sv (ok_scalar_known (x3)) ea0, .a 0, .o, .o, .o, .o, .o, .o, .o, .o, .o, .o, .o, .o, .o, .o, .o, .o, .o, .o, .o, .a 0, .cr vt1 (ok_alu_Turn (32#64) (ra0.t.v)) ea1, .o, .o, .o, .o, .o, .o, .o, .o, .a 0, .cr vt1 (ok_alu_Turn (32#64) (ra0.t.m)) ea2, .o, .o, .o, .o, .o, .o, .o, .o, .cr sv (ok_scalar_ofBits ((⟨ra1.1, ra2.1⟩ : T))) ea3, .cr sv (ok_scalar_settle (ra3)) ea4, .a 1]
    [1, 1, 1, 1, 1, 1] (fun b => by kernel_rfl)
theorem p7_scalar_Swap (x3 : S) (ra0 : S) (ea0 : m_scalar_known x3 = ra0) (ra1 : S) (ea1 : m_scalar_lowest_32 ra0 = ra1) (h1 : (32#64 == 16#64) = false) : Con Tryz.prog 22 #[(.int .i64 (ii (32#64))), (.bool (false)), (.bool (false)), (sv (x3))] (sv (ra1)) :=
  fn_conI (P := Tryz.prog) Tryz.func22 (fun xs w => by kernel_rfl) _ _
    [.o, .o, .a 0, .cr sv (ok_scalar_known (x3)) ea0, .a 0, .o, .o, .o, .o, .o, .o, .o, .o, .o, .o, .o, .o, .o, .o, .o, .o, .o, .o, .o, .a 0, .o, .cr sv (ok_scalar_lowest_32 (ra0)) ea1, .a 1]
    [1, 1, 1, 1, 1, 1] (fun b => by kernel_rfl)
theorem p8_scalar_Swap (x3 : S) (ra0 : S) (ea0 : m_scalar_known x3 = ra0) (ra1 : (BitVec 64) × (Bool)) (ea1 : m_alu_Turn (64#64) ra0.t.v = ra1) (ra2 : (BitVec 64) × (Bool)) (ea2 : m_alu_Turn (64#64) ra0.t.m = ra2) (ra3 : S) (ea3 : m_scalar_ofBits (⟨ra1.1, ra2.1⟩ : T) = ra3) (ra4 : S) (ea4 : m_scalar_settle ra3 = ra4) (h1 : (64#64 == 16#64) = false) (h2 : (64#64 == 32#64) = false) : Con Tryz.prog 22 #[(.int .i64 (ii (64#64))), (.bool (false)), (.bool (true)), (sv (x3))] (sv (ra4)) :=
  fn_conI (P := Tryz.prog) Tryz.func22 (fun xs w => by kernel_rfl) _ _
    [.o, .o, .a 0, .cr sv (ok_scalar_known (x3)) ea0, .a 0, .o, .o, .o, .o, .o, .o, .o, .o, .o, .o, .o, .o, .o, .o, .o, .o, .o, .o, .o, .o, .o, .a 0, .cr vt1 (ok_alu_Turn (64#64) (ra0.t.v)) ea1, .o, .o, .o, .o, .o, .o, .o, .o, .a 0, .cr vt1 (ok_alu_Turn (64#64) (ra0.t.m)) ea2, .o, .o, .o, .o, .o, .o, .o, .o, .cr sv (ok_scalar_ofBits ((⟨ra1.1, ra2.1⟩ : T))) ea3, .cr sv (ok_scalar_settle (ra3)) ea4, .a 1]
    [1, 1, 1, 1, 1, 1] (fun b => by kernel_rfl)
theorem p9_scalar_Swap (x3 : S) (ra0 : S) (ea0 : m_scalar_known x3 = ra0) (h1 : (64#64 == 16#64) = false) (h2 : (64#64 == 32#64) = false) : Con Tryz.prog 22 #[(.int .i64 (ii (64#64))), (.bool (false)), (.bool (false)), (sv (x3))] (sv (ra0)) :=
  fn_conI (P := Tryz.prog) Tryz.func22 (fun xs w => by kernel_rfl) _ _
    [.o, .o, .a 0, .cr sv (ok_scalar_known (x3)) ea0, .a 0, .o, .o, .o, .o, .o, .o, .o, .o, .o, .o, .o, .o, .o, .o, .o, .o, .o, .o, .o, .o, .o, .a 0, .a 1]
    [1, 1, 1, 1, 1, 1] (fun b => by kernel_rfl)
theorem p10_scalar_Swap (x0 : BitVec 64) (x2 : Bool) (x3 : S) (ra0 : S) (ea0 : m_scalar_known x3 = ra0) (ra1 : S) (ea1 : m_scalar_Unknown  = ra1) (h1 : (x0 == 16#64) = false) (h2 : (x0 == 32#64) = false) (h3 : (x0 == 64#64) = false) : Con Tryz.prog 22 #[(.int .i64 (ii (x0))), (.bool (false)), (.bool (x2)), (sv (x3))] (sv (ra1)) :=
  fn_conI (P := Tryz.prog) Tryz.func22 (fun xs w => by kernel_rfl) _ _
    [.o, .o, .a 0, .cr sv (ok_scalar_known (x3)) ea0, .a 0, .o, .o, .o, .o, .o, .o, .tn (i_ne x0 16#64) h1, .o, .o, .tn (i_ne x0 32#64) h2, .o, .o, .o, .tn (i_ne x0 64#64) h3, .o, .o, .cr sv (ok_scalar_Unknown ) ea1, .a 1]
    [1, 1, 1, 1, 1, 1] (fun b => by kernel_rfl)
theorem ok_scalar_Swap (x0 : BitVec 64) (x1 : Bool) (x2 : Bool) (x3 : S) : Con Tryz.prog 22 #[(.int .i64 (ii (x0))), (.bool (x1)), (.bool (x2)), (sv (x3))] (sv (m_scalar_Swap x0 x1 x2 x3)) := by
  unfold m_scalar_Swap
  refine Con.cond sv _ _ _ (fun h0 => ?_) (fun h0 => ?_)
  · subst h0
    refine Con.cond sv _ _ _ (fun h1 => ?_) (fun h1 => ?_)
    · have e1 := eq_of_beq h1; subst e1
      exact p0_scalar_Swap x2 x3 _ rfl _ rfl _ rfl _ rfl _ rfl
    · refine Con.cond sv _ _ _ (fun h2 => ?_) (fun h2 => ?_)
      · have e2 := eq_of_beq h2; subst e2
        exact p1_scalar_Swap x2 x3 _ rfl _ rfl _ rfl _ rfl _ rfl h1
      · refine Con.cond sv _ _ _ (fun h3 => ?_) (fun h3 => ?_)
        · have e3 := eq_of_beq h3; subst e3
          exact p2_scalar_Swap x2 x3 _ rfl _ rfl _ rfl _ rfl _ rfl h1 h2
        · exact p3_scalar_Swap x0 x2 x3 _ rfl _ rfl h1 h2 h3
  · subst h0
    refine Con.cond sv _ _ _ (fun h1 => ?_) (fun h1 => ?_)
    · have e1 := eq_of_beq h1; subst e1
      refine Con.cond sv _ _ _ (fun h2 => ?_) (fun h2 => ?_)
      · subst h2
        exact p4_scalar_Swap x3 _ rfl _ rfl _ rfl _ rfl _ rfl
      · subst h2
        exact p5_scalar_Swap x3 _ rfl _ rfl
    · refine Con.cond sv _ _ _ (fun h2 => ?_) (fun h2 => ?_)
      · have e2 := eq_of_beq h2; subst e2
        refine Con.cond sv _ _ _ (fun h3 => ?_) (fun h3 => ?_)
        · subst h3
          exact p6_scalar_Swap x3 _ rfl _ rfl _ rfl _ rfl _ rfl h1
        · subst h3
          exact p7_scalar_Swap x3 _ rfl _ rfl h1
      · refine Con.cond sv _ _ _ (fun h3 => ?_) (fun h3 => ?_)
        · have e3 := eq_of_beq h3; subst e3
          refine Con.cond sv _ _ _ (fun h4 => ?_) (fun h4 => ?_)
          · subst h4
            exact p8_scalar_Swap x3 _ rfl _ rfl _ rfl _ rfl _ rfl h1 h2
          · subst h4
            exact p9_scalar_Swap x3 _ rfl h1 h2
        · exact p10_scalar_Swap x0 x2 x3 _ rfl _ rfl h1 h2 h3
-- barbican/alu.Swap
def m_alu_Swap (x0 : BitVec 64) (x1 : Bool) (x2 : BitVec 64) : (BitVec 64) × (Bool) :=
  (bif x1 then
    ((m_alu_Turn x0 x2))
    else (bif x0 == 16#64 then
      ((((x2.setWidth 16).setWidth 64), true))
      else (bif x0 == 32#64 then
        ((((x2.setWidth 32).setWidth 64), true))
        else (bif x0 == 64#64 then
          ((x2, true))
          else ((0#64, false))))))
theorem p0_alu_Swap (x0 : BitVec 64) (x2 : BitVec 64) (ra0 : (BitVec 64) × (Bool)) (ea0 : m_alu_Turn x0 x2 = ra0) : Con Tryz.prog 20 #[(.int .i64 (ii (x0))), (.bool (true)), (.int .u64 (nn (x2)))] (vt1 (ra0)) :=
  fn_conI (P := Tryz.prog) Tryz.func20 (fun xs w => by kernel_rfl) _ _
    [.o, .o, .o, .o, .o, .cr vt1 (ok_alu_Turn (x0) (x2)) ea0, .o, .o, .o, .o]
    [] (fun b => by kernel_rfl)
theorem p1_alu_Swap (x2 : BitVec 64) : Con Tryz.prog 20 #[(.int .i64 (ii (16#64))), (.bool (false)), (.int .u64 (nn (x2)))] (.tuple #[(.int .u64 (nn (((x2.setWidth 16).setWidth 64)))), (.bool (true))]) :=
  fn_conI (P := Tryz.prog) Tryz.func20 (fun xs w => by kernel_rfl) _ _
    [.o, .o, .o, .o, .o, .o, .o, .v .u16 (u16_of_u64 (x2)), .v .u64 (u64_of_u16 ((x2.setWidth 16))), .o, .o]
    [] (fun b => by kernel_rfl)
theorem p2_alu_Swap (x2 : BitVec 64) (h1 : (32#64 == 16#64) = false) : Con Tryz.prog 20 #[(.int .i64 (ii (32#64))), (.bool (false)), (.int .u64 (nn (x2)))] (.tuple #[(.int .u64 (nn (((x2.setWidth 32).setWidth 64)))), (.bool (true))]) :=
  fn_conI (P := Tryz.prog) Tryz.func20 (fun xs w => by kernel_rfl) _ _
    [.o, .o, .o, .o, .o, .o, .o, .o, .o, .v .u32 (u32_of_u64 (x2)), .v .u64 (u64_of_u32 ((x2.setWidth 32))), .o, .o]
    [] (fun b => by kernel_rfl)
theorem p3_alu_Swap (x2 : BitVec 64) (h1 : (64#64 == 16#64) = false) (h2 : (64#64 == 32#64) = false) : Con Tryz.prog 20 #[(.int .i64 (ii (64#64))), (.bool (false)), (.int .u64 (nn (x2)))] (.tuple #[(.int .u64 (nn (x2))), (.bool (true))]) :=
  fn_conI (P := Tryz.prog) Tryz.func20 (fun xs w => by kernel_rfl) _ _
    [.o, .o, .o, .o, .o, .o, .o, .o, .o, .o, .o, .o, .o]
    [] (fun b => by kernel_rfl)
theorem p4_alu_Swap (x0 : BitVec 64) (x2 : BitVec 64) (h1 : (x0 == 16#64) = false) (h2 : (x0 == 32#64) = false) (h3 : (x0 == 64#64) = false) : Con Tryz.prog 20 #[(.int .i64 (ii (x0))), (.bool (false)), (.int .u64 (nn (x2)))] (.tuple #[(.int .u64 (nn (0#64))), (.bool (false))]) :=
  fn_conI (P := Tryz.prog) Tryz.func20 (fun xs w => by kernel_rfl) _ _
    [.o, .o, .o, .o, .t (i_eq x0 16#64) h1, .o, .t (i_eq x0 32#64) h2, .o, .t (i_eq x0 64#64) h3, .o, .o, .o]
    [] (fun b => by kernel_rfl)
theorem ok_alu_Swap (x0 : BitVec 64) (x1 : Bool) (x2 : BitVec 64) : Con Tryz.prog 20 #[(.int .i64 (ii (x0))), (.bool (x1)), (.int .u64 (nn (x2)))] (vt1 (m_alu_Swap x0 x1 x2)) := by
  unfold m_alu_Swap
  refine Con.cond vt1 _ _ _ (fun h0 => ?_) (fun h0 => ?_)
  · subst h0
    exact p0_alu_Swap x0 x2 _ rfl
  · subst h0
    refine Con.cond vt1 _ _ _ (fun h1 => ?_) (fun h1 => ?_)
    · have e1 := eq_of_beq h1; subst e1
      exact p1_alu_Swap x2 
    · refine Con.cond vt1 _ _ _ (fun h2 => ?_) (fun h2 => ?_)
      · have e2 := eq_of_beq h2; subst e2
        exact p2_alu_Swap x2 h1
      · refine Con.cond vt1 _ _ _ (fun h3 => ?_) (fun h3 => ?_)
        · have e3 := eq_of_beq h3; subst e3
          exact p3_alu_Swap x2 h1 h2
        · exact p4_alu_Swap x0 x2 h1 h2 h3
-- barbican/alu.operations
def m_alu_operations  : Unit :=
  (())
def K_alu_operations : Value := .agg #[.func (.func 55) #[] #[], .func (.func 56) #[] #[], .func (.func 57) #[] #[], .func (.func 58) #[] #[], .func (.func 59) #[] #[], .func (.func 60) #[] #[], .func (.func 61) #[] #[], .func (.func 62) #[] #[], .func (.func 63) #[] #[], .func (.func 64) #[] #[], .func (.func 65) #[] #[], .func (.func 66) #[] #[], .func (.func 67) #[] #[], .func (.func 68) #[] #[], .func (.func 69) #[] #[], .func (.func 70) #[] #[], .func (.func 71) #[] #[], .func (.func 72) #[] #[], .func (.func 73) #[] #[], .func (.func 74) #[] #[], .func (.func 75) #[] #[], .func (.func 76) #[] #[], .func (.func 77) #[] #[], .func (.func 78) #[] #[], .func (.func 79) #[] #[], .func (.func 80) #[] #[]]
theorem p0_alu_operations  : Con Tryz.prog 35 #[] (.agg #[.func (.func 55) #[] #[], .func (.func 56) #[] #[], .func (.func 57) #[] #[], .func (.func 58) #[] #[], .func (.func 59) #[] #[], .func (.func 60) #[] #[], .func (.func 61) #[] #[], .func (.func 62) #[] #[], .func (.func 63) #[] #[], .func (.func 64) #[] #[], .func (.func 65) #[] #[], .func (.func 66) #[] #[], .func (.func 67) #[] #[], .func (.func 68) #[] #[], .func (.func 69) #[] #[], .func (.func 70) #[] #[], .func (.func 71) #[] #[], .func (.func 72) #[] #[], .func (.func 73) #[] #[], .func (.func 74) #[] #[], .func (.func 75) #[] #[], .func (.func 76) #[] #[], .func (.func 77) #[] #[], .func (.func 78) #[] #[], .func (.func 79) #[] #[], .func (.func 80) #[] #[]]) :=
  fn_conI (P := Tryz.prog) Tryz.func35 (fun xs w => by kernel_rfl) _ _
    [.o, .o, .o, .o, .o, .o, .o, .o, .o, .o, .o, .o, .o, .o, .o, .a 0]
    [0, 0, 0, 0, 0, 0, 0, 0, 0, 0, 0, 0, 0, 0, 0, 0, 0, 0, 0, 0, 0, 0, 0, 0, 0, 0] (fun b => by kernel_rfl)
theorem ok_alu_operations  : Con Tryz.prog 35 #[] K_alu_operations := by
  exact p0_alu_operations  
-- barbican/alu.operations$1
def m_alu_operations_1 (x0 : BitVec 64) (x1 : BitVec 64) : BitVec 64 :=
  ((x0 + x1))
theorem p0_alu_operations_1 (x0 : BitVec 64) (x1 : BitVec 64) : Con Tryz.prog 55 #[(.int .u64 (nn (x0))), (.int .u64 (nn (x1)))] (.int .u64 (nn ((x0 + x1)))) :=
  fn_conI (P := Tryz.prog) Tryz.func55 (fun xs w => by kernel_rfl) _ _
    [.o, .o, .o, .v .u64 (u64_add x0 x1), .o]
    [] (fun b => by kernel_rfl)
theorem ok_alu_operations_1 (x0 : BitVec 64) (x1 : BitVec 64) : Con Tryz.prog 55 #[(.int .u64 (nn (x0))), (.int .u64 (nn (x1)))] (.int .u64 (nn (m_alu_operations_1 x0 x1))) := by
  unfold m_alu_operations_1
  exact p0_alu_operations_1 x0 x1 
-- barbican/alu.operations$3
def m_alu_operations_3 (x0 : BitVec 64) (x1 : BitVec 64) : BitVec 64 :=
  ((x0 - x1))
theorem p0_alu_operations_3 (x0 : BitVec 64) (x1 : BitVec 64) : Con Tryz.prog 57 #[(.int .u64 (nn (x0))), (.int .u64 (nn (x1)))] (.int .u64 (nn ((x0 - x1)))) :=
  fn_conI (P := Tryz.prog) Tryz.func57 (fun xs w => by kernel_rfl) _ _
    [.o, .o, .o, .v .u64 (u64_sub x0 x1), .o]
    [] (fun b => by kernel_rfl)
theorem ok_alu_operations_3 (x0 : BitVec 64) (x1 : BitVec 64) : Con Tryz.prog 57 #[(.int .u64 (nn (x0))), (.int .u64 (nn (x1)))] (.int .u64 (nn (m_alu_operations_3 x0 x1))) := by
  unfold m_alu_operations_3
  exact p0_alu_operations_3 x0 x1 
-- barbican/alu.operations$5
def m_alu_operations_5 (x0 : BitVec 64) (x1 : BitVec 64) : BitVec 64 :=
  ((x0 * x1))
theorem p0_alu_operations_5 (x0 : BitVec 64) (x1 : BitVec 64) : Con Tryz.prog 59 #[(.int .u64 (nn (x0))), (.int .u64 (nn (x1)))] (.int .u64 (nn ((x0 * x1)))) :=
  fn_conI (P := Tryz.prog) Tryz.func59 (fun xs w => by kernel_rfl) _ _
    [.o, .o, .o, .v .u64 (u64_mul x0 x1), .o]
    [] (fun b => by kernel_rfl)
theorem ok_alu_operations_5 (x0 : BitVec 64) (x1 : BitVec 64) : Con Tryz.prog 59 #[(.int .u64 (nn (x0))), (.int .u64 (nn (x1)))] (.int .u64 (nn (m_alu_operations_5 x0 x1))) := by
  unfold m_alu_operations_5
  exact p0_alu_operations_5 x0 x1 
-- barbican/alu.div[uint64]
def m_alu_div_uint64 (x0 : BitVec 64) (x1 : BitVec 64) : BitVec 64 :=
  (bif x1 == 0#64 then
    (0#64)
    else ((x0 / x1)))
theorem p0_alu_div_uint64 (x0 : BitVec 64) : Con Tryz.prog 61 #[(.int .u64 (nn (x0))), (.int .u64 (nn (0#64)))] (.int .u64 (nn (0#64))) :=
  fn_conI (P := Tryz.prog) Tryz.func61 (fun xs w => by kernel_rfl) _ _
    [.o, .o, .o, .o]
    [] (fun b => by kernel_rfl)
theorem p1_alu_div_uint64 (x0 : BitVec 64) (x1 : BitVec 64) (h0 : (x1 == 0#64) = false) : Con Tryz.prog 61 #[(.int .u64 (nn (x0))), (.int .u64 (nn (x1)))] (.int .u64 (nn ((x0 / x1)))) :=
  fn_conI (P := Tryz.prog) Tryz.func61 (fun xs w => by kernel_rfl) _ _
    [.o, .o, .t (u_eq x1 0#64) h0, .o, .o, .ov (u64_quo Tryz.prog 22 (.tmp 7) (.tmp 8) x0 x1 (u_nz h0)), .o]
    [] (fun b => by kernel_rfl)
theorem ok_alu_div_uint64 (x0 : BitVec 64) (x1 : BitVec 64) : Con Tryz.prog 61 #[(.int .u64 (nn (x0))), (.int .u64 (nn (x1)))] (.int .u64 (nn (m_alu_div_uint64 x0 x1))) := by
  unfold m_alu_div_uint64
  refine Con.cond (fun r => (Value.int .u64 (nn (r)))) _ _ _ (fun h0 => ?_) (fun h0 => ?_)
  · have e0 := eq_of_beq h0; subst e0
    exact p0_alu_div_uint64 x0 
  · exact p1_alu_div_uint64 x0 x1 h0
-- barbican/alu.operations$7
def m_alu_operations_7 (x0 : BitVec 64) (x1 : BitVec 64) : BitVec 64 :=
  ((x0 ||| x1))
theorem p0_alu_operations_7 (x0 : BitVec 64) (x1 : BitVec 64) : Con Tryz.prog 63 #[(.int .u64 (nn (x0))), (.int .u64 (nn (x1)))] (.int .u64 (nn ((x0 ||| x1)))) :=
  fn_conI (P := Tryz.prog) Tryz.func63 (fun xs w => by kernel_rfl) _ _
    [.o, .o, .o, .v .u64 (u64_or x0 x1), .o]
    [] (fun b => by kernel_rfl)
theorem ok_alu_operations_7 (x0 : BitVec 64) (x1 : BitVec 64) : Con Tryz.prog 63 #[(.int .u64 (nn (x0))), (.int .u64 (nn (x1)))] (.int .u64 (nn (m_alu_operations_7 x0 x1))) := by
  unfold m_alu_operations_7
  exact p0_alu_operations_7 x0 x1 
-- barbican/alu.operations$9
def m_alu_operations_9 (x0 : BitVec 64) (x1 : BitVec 64) : BitVec 64 :=
  ((x0 &&& x1))
theorem p0_alu_operations_9 (x0 : BitVec 64) (x1 : BitVec 64) : Con Tryz.prog 65 #[(.int .u64 (nn (x0))), (.int .u64 (nn (x1)))] (.int .u64 (nn ((x0 &&& x1)))) :=
  fn_conI (P := Tryz.prog) Tryz.func65 (fun xs w => by kernel_rfl) _ _
    [.o, .o, .o, .v .u64 (u64_and x0 x1), .o]
    [] (fun b => by kernel_rfl)
theorem ok_alu_operations_9 (x0 : BitVec 64) (x1 : BitVec 64) : Con Tryz.prog 65 #[(.int .u64 (nn (x0))), (.int .u64 (nn (x1)))] (.int .u64 (nn (m_alu_operations_9 x0 x1))) := by
  unfold m_alu_operations_9
  exact p0_alu_operations_9 x0 x1 
-- barbican/alu.operations$11
def m_alu_operations_11 (x0 : BitVec 64) (x1 : BitVec 64) : BitVec 64 :=
  ((x0 <<< ((x1 % 64#64)).toNat))
theorem p0_alu_operations_11 (x0 : BitVec 64) (x1 : BitVec 64) : Con Tryz.prog 67 #[(.int .u64 (nn (x0))), (.int .u64 (nn (x1)))] (.int .u64 (nn ((x0 <<< ((x1 % 64#64)).toNat)))) :=
  fn_conI (P := Tryz.prog) Tryz.func67 (fun xs w => by kernel_rfl) _ _
    [.o, .o, .o, .ov (u64_rem Tryz.prog 22 (.tmp 6) (.const (.int .u64 ((64)))) x1 64#64 (by decide)), .ov (u64_shl Tryz.prog 22 (.tmp 5) (.tmp 7) (x0) ((x1 % 64#64)).toNat .u64 rfl), .o]
    [] (fun b => by kernel_rfl)
theorem ok_alu_operations_11 (x0 : BitVec 64) (x1 : BitVec 64) : Con Tryz.prog 67 #[(.int .u64 (nn (x0))), (.int .u64 (nn (x1)))] (.int .u64 (nn (m_alu_operations_11 x0 x1))) := by
  unfold m_alu_operations_11
  exact p0_alu_operations_11 x0 x1 
-- barbican/alu.operations$13
def m_alu_operations_13 (x0 : BitVec 64) (x1 : BitVec 64) : BitVec 64 :=
  ((x0 >>> ((x1 % 64#64)).toNat))
theorem p0_alu_operations_13 (x0 : BitVec 64) (x1 : BitVec 64) : Con Tryz.prog 69 #[(.int .u64 (nn (x0))), (.int .u64 (nn (x1)))] (.int .u64 (nn ((x0 >>> ((x1 % 64#64)).toNat)))) :=
  fn_conI (P := Tryz.prog) Tryz.func69 (fun xs w => by kernel_rfl) _ _
    [.o, .o, .o, .ov (u64_rem Tryz.prog 22 (.tmp 6) (.const (.int .u64 ((64)))) x1 64#64 (by decide)), .ov (u64_shr Tryz.prog 22 (.tmp 5) (.tmp 7) (x0) ((x1 % 64#64)).toNat .u64 rfl), .o]
    [] (fun b => by kernel_rfl)
theorem ok_alu_operations_13 (x0 : BitVec 64) (x1 : BitVec 64) : Con Tryz.prog 69 #[(.int .u64 (nn (x0))), (.int .u64 (nn (x1)))] (.int .u64 (nn (m_alu_operations_13 x0 x1))) := by
  unfold m_alu_operations_13
  exact p0_alu_operations_13 x0 x1 
-- barbican/alu.operations$15
def m_alu_operations_15 (x0 : BitVec 64) (x1 : BitVec 64) : BitVec 64 :=
  ((-x0))
theorem p0_alu_operations_15 (x0 : BitVec 64) (x1 : BitVec 64) : Con Tryz.prog 71 #[(.int .u64 (nn (x0))), (.int .u64 (nn (x1)))] (.int .u64 (nn ((-x0)))) :=
  fn_conI (P := Tryz.prog) Tryz.func71 (fun xs w => by kernel_rfl) _ _
    [.o, .o, .v .u64 (u64_neg (x0)), .o]
    [] (fun b => by kernel_rfl)
theorem ok_alu_operations_15 (x0 : BitVec 64) (x1 : BitVec 64) : Con Tryz.prog 71 #[(.int .u64 (nn (x0))), (.int .u64 (nn (x1)))] (.int .u64 (nn (m_alu_operations_15 x0 x1))) := by
  unfold m_alu_operations_15
  exact p0_alu_operations_15 x0 x1 
-- barbican/alu.mod[uint64]
def m_alu_mod_uint64 (x0 : BitVec 64) (x1 : BitVec 64) : BitVec 64 :=
  (bif x1 == 0#64 then
    (x0)
    else ((x0 % x1)))
theorem p0_alu_mod_uint64 (x0 : BitVec 64) : Con Tryz.prog 73 #[(.int .u64 (nn (x0))), (.int .u64 (nn (0#64)))] (.int .u64 (nn (x0))) :=
  fn_conI (P := Tryz.prog) Tryz.func73 (fun xs w => by kernel_rfl) _ _
    [.o, .o, .o, .o, .o]
    [] (fun b => by kernel_rfl)
theorem p1_alu_mod_uint64 (x0 : BitVec 64) (x1 : BitVec 64) (h0 : (x1 == 0#64) = false) : Con Tryz.prog 73 #[(.int .u64 (nn (x0))), (.int .u64 (nn (x1)))] (.int .u64 (nn ((x0 % x1)))) :=
  fn_conI (P := Tryz.prog) Tryz.func73 (fun xs w => by kernel_rfl) _ _
    [.o, .o, .t (u_eq x1 0#64) h0, .o, .o, .ov (u64_rem Tryz.prog 22 (.tmp 8) (.tmp 9) x0 x1 (u_nz h0)), .o]
    [] (fun b => by kernel_rfl)
theorem ok_alu_mod_uint64 (x0 : BitVec 64) (x1 : BitVec 64) : Con Tryz.prog 73 #[(.int .u64 (nn (x0))), (.int .u64 (nn (x1)))] (.int .u64 (nn (m_alu_mod_uint64 x0 x1))) := by
  unfold m_alu_mod_uint64
  refine Con.cond (fun r => (Value.int .u64 (nn (r)))) _ _ _ (fun h0 => ?_) (fun h0 => ?_)
  · have e0 := eq_of_beq h0; subst e0
    exact p0_alu_mod_uint64 x0 
  · exact p1_alu_mod_uint64 x0 x1 h0
-- barbican/alu.operations$17
def m_alu_operations_17 (x0 : BitVec 64) (x1 : BitVec 64) : BitVec 64 :=
  ((x0 ^^^ x1))
theorem p0_alu_operations_17 (x0 : BitVec 64) (x1 : BitVec 64) : Con Tryz.prog 75 #[(.int .u64 (nn (x0))), (.int .u64 (nn (x1)))] (.int .u64 (nn ((x0 ^^^ x1)))) :=
  fn_conI (P := Tryz.prog) Tryz.func75 (fun xs w => by kernel_rfl) _ _
    [.o, .o, .o, .v .u64 (u64_xor x0 x1), .o]
    [] (fun b => by kernel_rfl)
theorem ok_alu_operations_17 (x0 : BitVec 64) (x1 : BitVec 64) : Con Tryz.prog 75 #[(.int .u64 (nn (x0))), (.int .u64 (nn (x1)))] (.int .u64 (nn (m_alu_operations_17 x0 x1))) := by
  unfold m_alu_operations_17
  exact p0_alu_operations_17 x0 x1 
-- barbican/alu.operations$19
def m_alu_operations_19 (x0 : BitVec 64) (x1 : BitVec 64) : BitVec 64 :=
  (x1)
theorem p0_alu_operations_19 (x0 : BitVec 64) (x1 : BitVec 64) : Con Tryz.prog 77 #[(.int .u64 (nn (x0))), (.int .u64 (nn (x1)))] (.int .u64 (nn (x1))) :=
  fn_conI (P := Tryz.prog) Tryz.func77 (fun xs w => by kernel_rfl) _ _
    [.o, .o, .o]
    [] (fun b => by kernel_rfl)
theorem ok_alu_operations_19 (x0 : BitVec 64) (x1 : BitVec 64) : Con Tryz.prog 77 #[(.int .u64 (nn (x0))), (.int .u64 (nn (x1)))] (.int .u64 (nn (m_alu_operations_19 x0 x1))) := by
  unfold m_alu_operations_19
  exact p0_alu_operations_19 x0 x1 
-- barbican/alu.operations$21
def m_alu_operations_21 (x0 : BitVec 64) (x1 : BitVec 64) : BitVec 64 :=
  ((x0.sshiftRight ((x1 % 64#64)).toNat))
theorem p0_alu_operations_21 (x0 : BitVec 64) (x1 : BitVec 64) : Con Tryz.prog 79 #[(.int .u64 (nn (x0))), (.int .u64 (nn (x1)))] (.int .u64 (nn ((x0.sshiftRight ((x1 % 64#64)).toNat)))) :=
  fn_conI (P := Tryz.prog) Tryz.func79 (fun xs w => by kernel_rfl) _ _
    [.o, .o, .v .i64 (i64_of_u64 (x0)), .o, .ov (u64_rem Tryz.prog 22 (.tmp 7) (.const (.int .u64 ((64)))) x1 64#64 (by decide)), .ov (i64_shr Tryz.prog 2 (.tmp 6) (.tmp 8) (x0) ((x1 % 64#64)).toNat .u64 (mod_lt (x1) 64#64 (by decide) (by decide)) rfl), .v .u64 (u64_of_i64 ((x0.sshiftRight ((x1 % 64#64)).toNat))), .o]
    [] (fun b => by kernel_rfl)
theorem ok_alu_operations_21 (x0 : BitVec 64) (x1 : BitVec 64) : Con Tryz.prog 79 #[(.int .u64 (nn (x0))), (.int .u64 (nn (x1)))] (.int .u64 (nn (m_alu_operations_21 x0 x1))) := by
  unfold m_alu_operations_21
  exact p0_alu_operations_21 x0 x1 
-- barbican/alu.operations$2
def m_alu_operations_2 (x0 : BitVec 32) (x1 : BitVec 32) : BitVec 32 :=
  ((x0 + x1))
theorem p0_alu_operations_2 (x0 : BitVec 32) (x1 : BitVec 32) : Con Tryz.prog 56 #[(.int .u32 (nn (x0))), (.int .u32 (nn (x1)))] (.int .u32 (nn ((x0 + x1)))) :=
  fn_conI (P := Tryz.prog) Tryz.func56 (fun xs w => by kernel_rfl) _ _
    [.o, .o, .o, .v .u32 (u32_add x0 x1), .o]
    [] (fun b => by kernel_rfl)
theorem ok_alu_operations_2 (x0 : BitVec 32) (x1 : BitVec 32) : Con Tryz.prog 56 #[(.int .u32 (nn (x0))), (.int .u32 (nn (x1)))] (.int .u32 (nn (m_alu_operations_2 x0 x1))) := by
  unfold m_alu_operations_2
  exact p0_alu_operations_2 x0 x1 
-- barbican/alu.operations$4
def m_alu_operations_4 (x0 : BitVec 32) (x1 : BitVec 32) : BitVec 32 :=
  ((x0 - x1))
theorem p0_alu_operations_4 (x0 : BitVec 32) (x1 : BitVec 32) : Con Tryz.prog 58 #[(.int .u32 (nn (x0))), (.int .u32 (nn (x1)))] (.int .u32 (nn ((x0 - x1)))) :=
  fn_conI (P := Tryz.prog) Tryz.func58 (fun xs w => by kernel_rfl) _ _
    [.o, .o, .o, .v .u32 (u32_sub x0 x1), .o]
    [] (fun b => by kernel_rfl)
theorem ok_alu_operations_4 (x0 : BitVec 32) (x1 : BitVec 32) : Con Tryz.prog 58 #[(.int .u32 (nn (x0))), (.int .u32 (nn (x1)))] (.int .u32 (nn (m_alu_operations_4 x0 x1))) := by
  unfold m_alu_operations_4
  exact p0_alu_operations_4 x0 x1 
-- barbican/alu.operations$6
def m_alu_operations_6 (x0 : BitVec 32) (x1 : BitVec 32) : BitVec 32 :=
  ((x0 * x1))
theorem p0_alu_operations_6 (x0 : BitVec 32) (x1 : BitVec 32) : Con Tryz.prog 60 #[(.int .u32 (nn (x0))), (.int .u32 (nn (x1)))] (.int .u32 (nn ((x0 * x1)))) :=
  fn_conI (P := Tryz.prog) Tryz.func60 (fun xs w => by kernel_rfl) _ _
    [.o, .o, .o, .v .u32 (u32_mul x0 x1), .o]
    [] (fun b => by kernel_rfl)
theorem ok_alu_operations_6 (x0 : BitVec 32) (x1 : BitVec 32) : Con Tryz.prog 60 #[(.int .u32 (nn (x0))), (.int .u32 (nn (x1)))] (.int .u32 (nn (m_alu_operations_6 x0 x1))) := by
  unfold m_alu_operations_6
  exact p0_alu_operations_6 x0 x1 
-- barbican/alu.div[uint32]
def m_alu_div_uint32 (x0 : BitVec 32) (x1 : BitVec 32) : BitVec 32 :=
  (bif x1 == 0#32 then
    (0#32)
    else ((x0 / x1)))
theorem p0_alu_div_uint32 (x0 : BitVec 32) : Con Tryz.prog 62 #[(.int .u32 (nn (x0))), (.int .u32 (nn (0#32)))] (.int .u32 (nn (0#32))) :=
  fn_conI (P := Tryz.prog) Tryz.func62 (fun xs w => by kernel_rfl) _ _
    [.o, .o, .o, .o]
    [] (fun b => by kernel_rfl)
theorem p1_alu_div_uint32 (x0 : BitVec 32) (x1 : BitVec 32) (h0 : (x1 == 0#32) = false) : Con Tryz.prog 62 #[(.int .u32 (nn (x0))), (.int .u32 (nn (x1)))] (.int .u32 (nn ((x0 / x1)))) :=
  fn_conI (P := Tryz.prog) Tryz.func62 (fun xs w => by kernel_rfl) _ _
    [.o, .o, .t (u_eq x1 0#32) h0, .o, .o, .ov (u32_quo Tryz.prog 71 (.tmp 7) (.tmp 8) x0 x1 (u_nz h0)), .o]
    [] (fun b => by kernel_rfl)
theorem ok_alu_div_uint32 (x0 : BitVec 32) (x1 : BitVec 32) : Con Tryz.prog 62 #[(.int .u32 (nn (x0))), (.int .u32 (nn (x1)))] (.int .u32 (nn (m_alu_div_uint32 x0 x1))) := by
  unfold m_alu_div_uint32
  refine Con.cond (fun r => (Value.int .u32 (nn (r)))) _ _ _ (fun h0 => ?_) (fun h0 => ?_)
  · have e0 := eq_of_beq h0; subst e0
    exact p0_alu_div_uint32 x0 
  · exact p1_alu_div_uint32 x0 x1 h0
-- barbican/alu.operations$8
def m_alu_operations_8 (x0 : BitVec 32) (x1 : BitVec 32) : BitVec 32 :=
  ((x0 ||| x1))
theorem p0_alu_operations_8 (x0 : BitVec 32) (x1 : BitVec 32) : Con Tryz.prog 64 #[(.int .u32 (nn (x0))), (.int .u32 (nn (x1)))] (.int .u32 (nn ((x0 ||| x1)))) :=
  fn_conI (P := Tryz.prog) Tryz.func64 (fun xs w => by kernel_rfl) _ _
    [.o, .o, .o, .v .u32 (u32_or x0 x1), .o]
    [] (fun b => by kernel_rfl)
theorem ok_alu_operations_8 (x0 : BitVec 32) (x1 : BitVec 32) : Con Tryz.prog 64 #[(.int .u32 (nn (x0))), (.int .u32 (nn (x1)))] (.int .u32 (nn (m_alu_operations_8 x0 x1))) := by
  unfold m_alu_operations_8
  exact p0_alu_operations_8 x0 x1 
-- barbican/alu.operations$10
def m_alu_operations_10 (x0 : BitVec 32) (x1 : BitVec 32) : BitVec 32 :=
  ((x0 &&& x1))
theorem p0_alu_operations_10 (x0 : BitVec 32) (x1 : BitVec 32) : Con Tryz.prog 66 #[(.int .u32 (nn (x0))), (.int .u32 (nn (x1)))] (.int .u32 (nn ((x0 &&& x1)))) :=
  fn_conI (P := Tryz.prog) Tryz.func66 (fun xs w => by kernel_rfl) _ _
    [.o, .o, .o, .v .u32 (u32_and x0 x1), .o]
    [] (fun b => by kernel_rfl)
theorem ok_alu_operations_10 (x0 : BitVec 32) (x1 : BitVec 32) : Con Tryz.prog 66 #[(.int .u32 (nn (x0))), (.int .u32 (nn (x1)))] (.int .u32 (nn (m_alu_operations_10 x0 x1))) := by
  unfold m_alu_operations_10
  exact p0_alu_operations_10 x0 x1 
-- barbican/alu.operations$12
def m_alu_operations_12 (x0 : BitVec 32) (x1 : BitVec 32) : BitVec 32 :=
  ((x0 <<< ((x1 % 32#32)).toNat))
theorem p0_alu_operations_12 (x0 : BitVec 32) (x1 : BitVec 32) : Con Tryz.prog 68 #[(.int .u32 (nn (x0))), (.int .u32 (nn (x1)))] (.int .u32 (nn ((x0 <<< ((x1 % 32#32)).toNat)))) :=
  fn_conI (P := Tryz.prog) Tryz.func68 (fun xs w => by kernel_rfl) _ _
    [.o, .o, .o, .ov (u32_rem Tryz.prog 71 (.tmp 6) (.const (.int .u32 ((32)))) x1 32#32 (by decide)), .ov (u32_shl Tryz.prog 71 (.tmp 5) (.tmp 7) (x0) ((x1 % 32#32)).toNat .u32 rfl), .o]
    [] (fun b => by kernel_rfl)
theorem ok_alu_operations_12 (x0 : BitVec 32) (x1 : BitVec 32) : Con Tryz.prog 68 #[(.int .u32 (nn (x0))), (.int .u32 (nn (x1)))] (.int .u32 (nn (m_alu_operations_12 x0 x1))) := by
  unfold m_alu_operations_12
  exact p0_alu_operations_12 x0 x1 
-- barbican/alu.operations$14
def m_alu_operations_14 (x0 : BitVec 32) (x1 : BitVec 32) : BitVec 32 :=
  ((x0 >>> ((x1 % 32#32)).toNat))
theorem p0_alu_operations_14 (x0 : BitVec 32) (x1 : BitVec 32) : Con Tryz.prog 70 #[(.int .u32 (nn (x0))), (.int .u32 (nn (x1)))] (.int .u32 (nn ((x0 >>> ((x1 % 32#32)).toNat)))) :=
  fn_conI (P := Tryz.prog) Tryz.func70 (fun xs w => by kernel_rfl) _ _
    [.o, .o, .o, .ov (u32_rem Tryz.prog 71 (.tmp 6) (.const (.int .u32 ((32)))) x1 32#32 (by decide)), .ov (u32_shr Tryz.prog 71 (.tmp 5) (.tmp 7) (x0) ((x1 % 32#32)).toNat .u32 rfl), .o]
    [] (fun b => by kernel_rfl)
theorem ok_alu_operations_14 (x0 : BitVec 32) (x1 : BitVec 32) : Con Tryz.prog 70 #[(.int .u32 (nn (x0))), (.int .u32 (nn (x1)))] (.int .u32 (nn (m_alu_operations_14 x0 x1))) := by
  unfold m_alu_operations_14
  exact p0_alu_operations_14 x0 x1 
-- barbican/alu.operations$16
def m_alu_operations_16 (x0 : BitVec 32) (x1 : BitVec 32) : BitVec 32 :=
  ((-x0))
theorem p0_alu_operations_16 (x0 : BitVec 32) (x1 : BitVec 32) : Con Tryz.prog 72 #[(.int .u32 (nn (x0))), (.int .u32 (nn (x1)))] (.int .u32 (nn ((-x0)))) :=
  fn_conI (P := Tryz.prog) Tryz.func72 (fun xs w => by kernel_rfl) _ _
    [.o, .o, .v .u32 (u32_neg (x0)), .o]
    [] (fun b => by kernel_rfl)
theorem ok_alu_operations_16 (x0 : BitVec 32) (x1 : BitVec 32) : Con Tryz.prog 72 #[(.int .u32 (nn (x0))), (.int .u32 (nn (x1)))] (.int .u32 (nn (m_alu_operations_16 x0 x1))) := by
  unfold m_alu_operations_16
  exact p0_alu_operations_16 x0 x1 
-- barbican/alu.mod[uint32]
def m_alu_mod_uint32 (x0 : BitVec 32) (x1 : BitVec 32) : BitVec 32 :=
  (bif x1 == 0#32 then
    (x0)
    else ((x0 % x1)))
theorem p0_alu_mod_uint32 (x0 : BitVec 32) : Con Tryz.prog 74 #[(.int .u32 (nn (x0))), (.int .u32 (nn (0#32)))] (.int .u32 (nn (x0))) :=
  fn_conI (P := Tryz.prog) Tryz.func74 (fun xs w => by kernel_rfl) _ _
    [.o, .o, .o, .o, .o]
    [] (fun b => by kernel_rfl)
theorem p1_alu_mod_uint32 (x0 : BitVec 32) (x1 : BitVec 32) (h0 : (x1 == 0#32) = false) : Con Tryz.prog 74 #[(.int .u32 (nn (x0))), (.int .u32 (nn (x1)))] (.int .u32 (nn ((x0 % x1)))) :=
  fn_conI (P := Tryz.prog) Tryz.func74 (fun xs w => by kernel_rfl) _ _
    [.o, .o, .t (u_eq x1 0#32) h0, .o, .o, .ov (u32_rem Tryz.prog 71 (.tmp 8) (.tmp 9) x0 x1 (u_nz h0)), .o]
    [] (fun b => by kernel_rfl)
theorem ok_alu_mod_uint32 (x0 : BitVec 32) (x1 : BitVec 32) : Con Tryz.prog 74 #[(.int .u32 (nn (x0))), (.int .u32 (nn (x1)))] (.int .u32 (nn (m_alu_mod_uint32 x0 x1))) := by
  unfold m_alu_mod_uint32
  refine Con.cond (fun r => (Value.int .u32 (nn (r)))) _ _ _ (fun h0 => ?_) (fun h0 => ?_)
  · have e0 := eq_of_beq h0; subst e0
    exact p0_alu_mod_uint32 x0 
  · exact p1_alu_mod_uint32 x0 x1 h0
-- barbican/alu.operations$18
def m_alu_operations_18 (x0 : BitVec 32) (x1 : BitVec 32) : BitVec 32 :=
  ((x0 ^^^ x1))
theorem p0_alu_operations_18 (x0 : BitVec 32) (x1 : BitVec 32) : Con Tryz.prog 76 #[(.int .u32 (nn (x0))), (.int .u32 (nn (x1)))] (.int .u32 (nn ((x0 ^^^ x1)))) :=
  fn_conI (P := Tryz.prog) Tryz.func76 (fun xs w => by kernel_rfl) _ _
    [.o, .o, .o, .v .u32 (u32_xor x0 x1), .o]
    [] (fun b => by kernel_rfl)
theorem ok_alu_operations_18 (x0 : BitVec 32) (x1 : BitVec 32) : Con Tryz.prog 76 #[(.int .u32 (nn (x0))), (.int .u32 (nn (x1)))] (.int .u32 (nn (m_alu_operations_18 x0 x1))) := by
  unfold m_alu_operations_18
  exact p0_alu_operations_18 x0 x1 
-- barbican/alu.operations$20
def m_alu_operations_20 (x0 : BitVec 32) (x1 : BitVec 32) : BitVec 32 :=
  (x1)
theorem p0_alu_operations_20 (x0 : BitVec 32) (x1 : BitVec 32) : Con Tryz.prog 78 #[(.int .u32 (nn (x0))), (.int .u32 (nn (x1)))] (.int .u32 (nn (x1))) :=
  fn_conI (P := Tryz.prog) Tryz.func78 (fun xs w => by kernel_rfl) _ _
    [.o, .o, .o]
    [] (fun b => by kernel_rfl)
theorem ok_alu_operations_20 (x0 : BitVec 32) (x1 : BitVec 32) : Con Tryz.prog 78 #[(.int .u32 (nn (x0))), (.int .u32 (nn (x1)))] (.int .u32 (nn (m_alu_operations_20 x0 x1))) := by
  unfold m_alu_operations_20
  exact p0_alu_operations_20 x0 x1 
-- barbican/alu.operations$22
def m_alu_operations_22 (x0 : BitVec 32) (x1 : BitVec 32) : BitVec 32 :=
  ((x0.sshiftRight ((x1 % 32#32)).toNat))
theorem p0_alu_operations_22 (x0 : BitVec 32) (x1 : BitVec 32) : Con Tryz.prog 80 #[(.int .u32 (nn (x0))), (.int .u32 (nn (x1)))] (.int .u32 (nn ((x0.sshiftRight ((x1 % 32#32)).toNat)))) :=
  fn_conI (P := Tryz.prog) Tryz.func80 (fun xs w => by kernel_rfl) _ _
    [.o, .o, .v .i32 (i32_of_u32 (x0)), .o, .ov (u32_rem Tryz.prog 71 (.tmp 7) (.const (.int .u32 ((32)))) x1 32#32 (by decide)), .ov (i32_shr Tryz.prog 21 (.tmp 6) (.tmp 8) (x0) ((x1 % 32#32)).toNat .u32 (mod_lt (x1) 32#32 (by decide) (by decide)) rfl), .v .u32 (u32_of_i32 ((x0.sshiftRight ((x1 % 32#32)).toNat))), .o]
    [] (fun b => by kernel_rfl)
theorem ok_alu_operations_22 (x0 : BitVec 32) (x1 : BitVec 32) : Con Tryz.prog 80 #[(.int .u32 (nn (x0))), (.int .u32 (nn (x1)))] (.int .u32 (nn (m_alu_operations_22 x0 x1))) := by
  unfold m_alu_operations_22
  exact p0_alu_operations_22 x0 x1 
-- barbican/alu.Do
def m_alu_Do (x0 : BitVec 64) (x1 : Bool) (x2 : BitVec 64) (x3 : BitVec 64) : (BitVec 64) × (Bool) :=
  (bif BitVec.slt x0 0#64 then
    ((0#64, false))
    else (bif BitVec.slt x0 13#64 then
      (bif x1 then
        (bif x0 == 0#64 then
          (((m_alu_operations_1 x2 x3), true))
          else (bif x0 == 1#64 then
            (((m_alu_operations_3 x2 x3), true))
            else (bif x0 == 2#64 then
              (((m_alu_operations_5 x2 x3), true))
              else (bif x0 == 3#64 then
                (((m_alu_div_uint64 x2 x3), true))
                else (bif x0 == 4#64 then
                  (((m_alu_operations_7 x2 x3), true))
                  else (bif x0 == 5#64 then
                    (((m_alu_operations_9 x2 x3), true))
                    else (bif x0 == 6#64 then
                      (((m_alu_operations_11 x2 x3), true))
                      else (bif x0 == 7#64 then
                        (((m_alu_operations_13 x2 x3), true))
                        else (bif x0 == 8#64 then
                          (((m_alu_operations_15 x2 x3), true))
                          else (bif x0 == 9#64 then
                            (((m_alu_mod_uint64 x2 x3), true))
                            else (bif x0 == 10#64 then
                              (((m_alu_operations_17 x2 x3), true))
                              else (bif x0 == 11#64 then
                                (((m_alu_operations_19 x2 x3), true))
                                else (bif x0 == 12#64 then
                                  (((m_alu_operations_21 x2 x3), true))
                                  else ((0#64, false)))))))))))))))
        else (bif x0 == 0#64 then
          ((((m_alu_operations_2 (x2.setWidth 32) (x3.setWidth 32)).setWidth 64), true))
          else (bif x0 == 1#64 then
            ((((m_alu_operations_4 (x2.setWidth 32) (x3.setWidth 32)).setWidth 64), true))
            else (bif x0 == 2#64 then
              ((((m_alu_operations_6 (x2.setWidth 32) (x3.setWidth 32)).setWidth 64), true))
              else (bif x0 == 3#64 then
                ((((m_alu_div_uint32 (x2.setWidth 32) (x3.setWidth 32)).setWidth 64), true))
                else (bif x0 == 4#64 then
                  ((((m_alu_operations_8 (x2.setWidth 32) (x3.setWidth 32)).setWidth 64), true))
                  else (bif x0 == 5#64 then
                    ((((m_alu_operations_10 (x2.setWidth 32) (x3.setWidth 32)).setWidth 64), true))
                    else (bif x0 == 6#64 then
                      ((((m_alu_operations_12 (x2.setWidth 32) (x3.setWidth 32)).setWidth 64), true))
                      else (bif x0 == 7#64 then
                        ((((m_alu_operations_14 (x2.setWidth 32) (x3.setWidth 32)).setWidth 64), true))
                        else (bif x0 == 8#64 then
                          ((((m_alu_operations_16 (x2.setWidth 32) (x3.setWidth 32)).setWidth 64), true))
                          else (bif x0 == 9#64 then
                            ((((m_alu_mod_uint32 (x2.setWidth 32) (x3.setWidth 32)).setWidth 64), true))
                            else (bif x0 == 10#64 then
                              ((((m_alu_operations_18 (x2.setWidth 32) (x3.setWidth 32)).setWidth 64), true))
                              else (bif x0 == 11#64 then
                                ((((m_alu_operations_20 (x2.setWidth 32) (x3.setWidth 32)).setWidth 64), true))
                                else (bif x0 == 12#64 then
                                  ((((m_alu_operations_22 (x2.setWidth 32) (x3.setWidth 32)).setWidth 64), true))
                                  else ((0#64, false))))))))))))))))
      else ((0#64, false))))
theorem p0_alu_Do (x0 : BitVec 64) (x1 : Bool) (x2 : BitVec 64) (x3 : BitVec 64) (h0 : (BitVec.slt x0 0#64) = true) : Con Tryz.prog 18 #[(.int .i64 (ii (x0))), (.bool (x1)), (.int .u64 (nn (x2))), (.int .u64 (nn (x3)))] (.tuple #[(.int .u64 (nn (0#64))), (.bool (false))]) :=
  fn_conI (P := Tryz.prog) Tryz.func18 (fun xs w => by kernel_rfl) _ _
    [.o, .o, .cl ok_alu_operations  rfl, .o, .a 0, .o, .t (i_lt x0 0#64) h0, .o, .o, .o, .o]
    [] (fun b => by kernel_rfl)
theorem p1_alu_Do (x2 : BitVec 64) (x3 : BitVec 64) (ra0 : BitVec 64) (ea0 : m_alu_operations_1 x2 x3 = ra0) (h0 : (BitVec.slt 0#64 0#64) = false) (h1 : (BitVec.slt 0#64 13#64) = true) : Con Tryz.prog 18 #[(.int .i64 (ii (0#64))), (.bool (true)), (.int .u64 (nn (x2))), (.int .u64 (nn (x3)))] (.tuple #[(.int .u64 (nn (ra0))), (.bool (true))]) :=
  fn_conI (P := Tryz.prog) Tryz.func18 (fun xs w => by kernel_rfl) _ _
    [.o, .o, .cl ok_alu_operations  rfl, .o, .a 0, .o, .o, .o, .o, .o, .o, .o, .o, .o, .o, .a 0, .o, .o, .cr (fun r => (Value.int .u64 (nn (r)))) (ok_alu_operations_1 (x2) (x3)) ea0, .o, .o]
    [] (fun b => by kernel_rfl)
theorem p2_alu_Do (x2 : BitVec 64) (x3 : BitVec 64) (ra0 : BitVec 64) (ea0 : m_alu_operations_3 x2 x3 = ra0) (h0 : (BitVec.slt 1#64 0#64) = false) (h1 : (BitVec.slt 1#64 13#64) = true) (h3 : (1#64 == 0#64) = false) : Con Tryz.prog 18 #[(.int .i64 (ii (1#64))), (.bool (true)), (.int .u64 (nn (x2))), (.int .u64 (nn (x3)))] (.tuple #[(.int .u64 (nn (ra0))), (.bool (true))]) :=
  fn_conI (P := Tryz.prog) Tryz.func18 (fun xs w => by kernel_rfl) _ _
    [.o, .o, .cl ok_alu_operations  rfl, .o, .a 0, .o, .o, .o, .o, .o, .o, .o, .o, .o, .o, .a 0, .o, .o, .cr (fun r => (Value.int .u64 (nn (r)))) (ok_alu_operations_3 (x2) (x3)) ea0, .o, .o]
    [] (fun b => by kernel_rfl)
theorem p3_alu_Do (x2 : BitVec 64) (x3 : BitVec 64) (ra0 : BitVec 64) (ea0 : m_alu_operations_5 x2 x3 = ra0) (h0 : (BitVec.slt 2#64 0#64) = false) (h1 : (BitVec.slt 2#64 13#64) = true) (h3 : (2#64 == 0#64) = false) (h4 : (2#64 == 1#64) = false) : Con Tryz.prog 18 #[(.int .i64 (ii (2#64))), (.bool (true)), (.int .u64 (nn (x2))), (.int .u64 (nn (x3)))] (.tuple #[(.int .u64 (nn (ra0))), (.bool (true))]) :=
  fn_conI (P := Tryz.prog) Tryz.func18 (fun xs w => by kernel_rfl) _ _
    [.o, .o, .cl ok_alu_operations  rfl, .o, .a 0, .o, .o, .o, .o, .o, .o, .o, .o, .o, .o, .a 0, .o, .o, .cr (fun r => (Value.int .u64 (nn (r)))) (ok_alu_operations_5 (x2) (x3)) ea0, .o, .o]
    [] (fun b => by kernel_rfl)
theorem p4_alu_Do (x2 : BitVec 64) (x3 : BitVec 64) (ra0 : BitVec 64) (ea0 : m_alu_div_uint64 x2 x3 = ra0) (h0 : (BitVec.slt 3#64 0#64) = false) (h1 : (BitVec.slt 3#64 13#64) = true) (h3 : (3#64 == 0#64) = false) (h4 : (3#64 == 1#64) = false) (h5 : (3#64 == 2#64) = false) : Con Tryz.prog 18 #[(.int .i64 (ii (3#64))), (.bool (true)), (.int .u64 (nn (x2))), (.int .u64 (nn (x3)))] (.tuple #[(.int .u64 (nn (ra0))), (.bool (true))]) :=
  fn_conI (P := Tryz.prog) Tryz.func18 (fun xs w => by kernel_rfl) _ _
    [.o, .o, .cl ok_alu_operations  rfl, .o, .a 0, .o, .o, .o, .o, .o, .o, .o, .o, .o, .o, .a 0, .o, .o, .cr (fun r => (Value.int .u64 (nn (r)))) (ok_alu_div_uint64 (x2) (x3)) ea0, .o, .o]
    [] (fun b => by kernel_rfl)
theorem p5_alu_Do (x2 : BitVec 64) (x3 : BitVec 64) (ra0 : BitVec 64) (ea0 : m_alu_operations_7 x2 x3 = ra0) (h0 : (BitVec.slt 4#64 0#64) = false) (h1 : (BitVec.slt 4#64 13#64) = true) (h3 : (4#64 == 0#64) = false) (h4 : (4#64 == 1#64) = false) (h5 : (4#64 == 2#64) = false) (h6 : (4#64 == 3#64) = false) : Con Tryz.prog 18 #[(.int .i64 (ii (4#64))), (.bool (true)), (.int .u64 (nn (x2))), (.int .u64 (nn (x3)))] (.tuple #[(.int .u64 (nn (ra0))), (.bool (true))]) :=
  fn_conI (P := Tryz.prog) Tryz.func18 (fun xs w => by kernel_rfl) _ _
    [.o, .o, .cl ok_alu_operations  rfl, .o, .a 0, .o, .o, .o, .o, .o, .o, .o, .o, .o, .o, .a 0, .o, .o, .cr (fun r => (Value.int .u64 (nn (r)))) (ok_alu_operations_7 (x2) (x3)) ea0, .o, .o]
    [] (fun b => by kernel_rfl)
theorem p6_alu_Do (x2 : BitVec 64) (x3 : BitVec 64) (ra0 : BitVec 64) (ea0 : m_alu_operations_9 x2 x3 = ra0) (h0 : (BitVec.slt 5#64 0#64) = false) (h1 : (BitVec.slt 5#64 13#64) = true) (h3 : (5#64 == 0#64) = false) (h4 : (5#64 == 1#64) = false) (h5 : (5#64 == 2#64) = false) (h6 : (5#64 == 3#64) = false) (h7 : (5#64 == 4#64) = false) : Con Tryz.prog 18 #[(.int .i64 (ii (5#64))), (.bool (true)), (.int .u64 (nn (x2))), (.int .u64 (nn (x3)))] (.tuple #[(.int .u64 (nn (ra0))), (.bool (true))]) :=
  fn_conI (P := Tryz.prog) Tryz.func18 (fun xs w => by kernel_rfl) _ _
    [.o, .o, .cl ok_alu_operations  rfl, .o, .a 0, .o, .o, .o, .o, .o, .o, .o, .o, .o, .o, .a 0, .o, .o, .cr (fun r => (Value.int .u64 (nn (r)))) (ok_alu_operations_9 (x2) (x3)) ea0, .o, .o]
    [] (fun b => by kernel_rfl)
theorem p7_alu_Do (x2 : BitVec 64) (x3 : BitVec 64) (ra0 : BitVec 64) (ea0 : m_alu_operations_11 x2 x3 = ra0) (h0 : (BitVec.slt 6#64 0#64) = false) (h1 : (BitVec.slt 6#64 13#64) = true) (h3 : (6#64 == 0#64) = false) (h4 : (6#64 == 1#64) = false) (h5 : (6#64 == 2#64) = false) (h6 : (6#64 == 3#64) = false) (h7 : (6#64 == 4#64) = false) (h8 : (6#64 == 5#64) = false) : Con Tryz.prog 18 #[(.int .i64 (ii (6#64))), (.bool (true)), (.int .u64 (nn (x2))), (.int .u64 (nn (x3)))] (.tuple #[(.int .u64 (nn (ra0))), (.bool (true))]) :=
  fn_conI (P := Tryz.prog) Tryz.func18 (fun xs w => by kernel_rfl) _ _
    [.o, .o, .cl ok_alu_operations  rfl, .o, .a 0, .o, .o, .o, .o, .o, .o, .o, .o, .o, .o, .a 0, .o, .o, .cr (fun r => (Value.int .u64 (nn (r)))) (ok_alu_operations_11 (x2) (x3)) ea0, .o, .o]
    [] (fun b => by kernel_rfl)
theorem p8_alu_Do (x2 : BitVec 64) (x3 : BitVec 64) (ra0 : BitVec 64) (ea0 : m_alu_operations_13 x2 x3 = ra0) (h0 : (BitVec.slt 7#64 0#64) = false) (h1 : (BitVec.slt 7#64 13#64) = true) (h3 : (7#64 == 0#64) = false) (h4 : (7#64 == 1#64) = false) (h5 : (7#64 == 2#64) = false) (h6 : (7#64 == 3#64) = false) (h7 : (7#64 == 4#64) = false) (h8 : (7#64 == 5#64) = false) (h9 : (7#64 == 6#64) = false) : Con Tryz.prog 18 #[(.int .i64 (ii (7#64))), (.bool (true)), (.int .u64 (nn (x2))), (.int .u64 (nn (x3)))] (.tuple #[(.int .u64 (nn (ra0))), (.bool (true))]) :=
  fn_conI (P := Tryz.prog) Tryz.func18 (fun xs w => by kernel_rfl) _ _
    [.o, .o, .cl ok_alu_operations  rfl, .o, .a 0, .o, .o, .o, .o, .o, .o, .o, .o, .o, .o, .a 0, .o, .o, .cr (fun r => (Value.int .u64 (nn (r)))) (ok_alu_operations_13 (x2) (x3)) ea0, .o, .o]
    [] (fun b => by kernel_rfl)
theorem p9_alu_Do (x2 : BitVec 64) (x3 : BitVec 64) (ra0 : BitVec 64) (ea0 : m_alu_operations_15 x2 x3 = ra0) (h0 : (BitVec.slt 8#64 0#64) = false) (h1 : (BitVec.slt 8#64 13#64) = true) (h3 : (8#64 == 0#64) = false) (h4 : (8#64 == 1#64) = false) (h5 : (8#64 == 2#64) = false) (h6 : (8#64 == 3#64) = false) (h7 : (8#64 == 4#64) = false) (h8 : (8#64 == 5#64) = false) (h9 : (8#64 == 6#64) = false) (h10 : (8#64 == 7#64) = false) : Con Tryz.prog 18 #[(.int .i64 (ii (8#64))), (.bool (true)), (.int .u64 (nn (x2))), (.int .u64 (nn (x3)))] (.tuple #[(.int .u64 (nn (ra0))), (.bool (true))]) :=
  fn_conI (P := Tryz.prog) Tryz.func18 (fun xs w => by kernel_rfl) _ _
    [.o, .o, .cl ok_alu_operations  rfl, .o, .a 0, .o, .o, .o, .o, .o, .o, .o, .o, .o, .o, .a 0, .o, .o, .cr (fun r => (Value.int .u64 (nn (r)))) (ok_alu_operations_15 (x2) (x3)) ea0, .o, .o]
    [] (fun b => by kernel_rfl)
theorem p10_alu_Do (x2 : BitVec 64) (x3 : BitVec 64) (ra0 : BitVec 64) (ea0 : m_alu_mod_uint64 x2 x3 = ra0) (h0 : (BitVec.slt 9#64 0#64) = false) (h1 : (BitVec.slt 9#64 13#64) = true) (h3 : (9#64 == 0#64) = false) (h4 : (9#64 == 1#64) = false) (h5 : (9#64 == 2#64) = false) (h6 : (9#64 == 3#64) = false) (h7 : (9#64 == 4#64) = false) (h8 : (9#64 == 5#64) = false) (h9 : (9#64 == 6#64) = false) (h10 : (9#64 == 7#64) = false) (h11 : (9#64 == 8#64) = false) : Con Tryz.prog 18 #[(.int .i64 (ii (9#64))), (.bool (true)), (.int .u64 (nn (x2))), (.int .u64 (nn (x3)))] (.tuple #[(.int .u64 (nn (ra0))), (.bool (true))]) :=
  fn_conI (P := Tryz.prog) Tryz.func18 (fun xs w => by kernel_rfl) _ _
    [.o, .o, .cl ok_alu_operations  rfl, .o, .a 0, .o, .o, .o, .o, .o, .o, .o, .o, .o, .o, .a 0, .o, .o, .cr (fun r => (Value.int .u64 (nn (r)))) (ok_alu_mod_uint64 (x2) (x3)) ea0, .o, .o]
    [] (fun b => by kernel_rfl)
theorem p11_alu_Do (x2 : BitVec 64) (x3 : BitVec 64) (ra0 : BitVec 64) (ea0 : m_alu_operations_17 x2 x3 = ra0) (h0 : (BitVec.slt 10#64 0#64) = false) (h1 : (BitVec.slt 10#64 13#64) = true) (h3 : (10#64 == 0#64) = false) (h4 : (10#64 == 1#64) = false) (h5 : (10#64 == 2#64) = false) (h6 : (10#64 == 3#64) = false) (h7 : (10#64 == 4#64) = false) (h8 : (10#64 == 5#64) = false) (h9 : (10#64 == 6#64) = false) (h10 : (10#64 == 7#64) = false) (h11 : (10#64 == 8#64) = false) (h12 : (10#64 == 9#64) = false) : Con Tryz.prog 18 #[(.int .i64 (ii (10#64))), (.bool (true)), (.int .u64 (nn (x2))), (.int .u64 (nn (x3)))] (.tuple #[(.int .u64 (nn (ra0))), (.bool (true))]) :=
  fn_conI (P := Tryz.prog) Tryz.func18 (fun xs w => by kernel_rfl) _ _
    [.o, .o, .cl ok_alu_operations  rfl, .o, .a 0, .o, .o, .o, .o, .o, .o, .o, .o, .o, .o, .a 0, .o, .o, .cr (fun r => (Value.int .u64 (nn (r)))) (ok_alu_operations_17 (x2) (x3)) ea0, .o, .o]
    [] (fun b => by kernel_rfl)
theorem p12_alu_Do (x2 : BitVec 64) (x3 : BitVec 64) (ra0 : BitVec 64) (ea0 : m_alu_operations_19 x2 x3 = ra0) (h0 : (BitVec.slt 11#64 0#64) = false) (h1 : (BitVec.slt 11#64 13#64) = true) (h3 : (11#64 == 0#64) = false) (h4 : (11#64 == 1#64) = false) (h5 : (11#64 == 2#64) = false) (h6 : (11#64 == 3#64) = false) (h7 : (11#64 == 4#64) = false) (h8 : (11#64 == 5#64) = false) (h9 : (11#64 == 6#64) = false) (h10 : (11#64 == 7#64) = false) (h11 : (11#64 == 8#64) = false) (h12 : (11#64 == 9#64) = false) (h13 : (11#64 == 10#64) = false) : Con Tryz.prog 18 #[(.int .i64 (ii (11#64))), (.bool (true)), (.int .u64 (nn (x2))), (.int .u64 (nn (x3)))] (.tuple #[(.int .u64 (nn (ra0))), (.bool (true))]) :=
  fn_conI (P := Tryz.prog) Tryz.func18 (fun xs w => by kernel_rfl) _ _
    [.o, .o, .cl ok_alu_operations  rfl, .o, .a 0, .o, .o, .o, .o, .o, .o, .o, .o, .o, .o, .a 0, .o, .o, .cr (fun r => (Value.int .u64 (nn (r)))) (ok_alu_operations_19 (x2) (x3)) ea0, .o, .o]
    [] (fun b => by kernel_rfl)
theorem p13_alu_Do (x2 : BitVec 64) (x3 : BitVec 64) (ra0 : BitVec 64) (ea0 : m_alu_operations_21 x2 x3 = ra0) (h0 : (BitVec.slt 12#64 0#64) = false) (h1 : (BitVec.slt 12#64 13#64) = true) (h3 : (12#64 == 0#64) = false) (h4 : (12#64 == 1#64) = false) (h5 : (12#64 == 2#64) = false) (h6 : (12#64 == 3#64) = false) (h7 : (12#64 == 4#64) = false) (h8 : (12#64 == 5#64) = false) (h9 : (12#64 == 6#64) = false) (h10 : (12#64 == 7#64) = false) (h11 : (12#64 == 8#64) = false) (h12 : (12#64 == 9#64) = false) (h13 : (12#64 == 10#64) = false) (h14 : (12#64 == 11#64) = false) : Con Tryz.prog 18 #[(.int .i64 (ii (12#64))), (.bool (true)), (.int .u64 (nn (x2))), (.int .u64 (nn (x3)))] (.tuple #[(.int .u64 (nn (ra0))), (.bool (true))]) :=
  fn_conI (P := Tryz.prog) Tryz.func18 (fun xs w => by kernel_rfl) _ _
    [.o, .o, .cl ok_alu_operations  rfl, .o, .a 0, .o, .o, .o, .o, .o, .o, .o, .o, .o, .o, .a 0, .o, .o, .cr (fun r => (Value.int .u64 (nn (r)))) (ok_alu_operations_21 (x2) (x3)) ea0, .o, .o]
    [] (fun b => by kernel_rfl)
theorem p15_alu_Do (x2 : BitVec 64) (x3 : BitVec 64) (ra0 : BitVec 32) (ea0 : m_alu_operations_2 (x2.setWidth 32) (x3.setWidth 32) = ra0) (h0 : (BitVec.slt 0#64 0#64) = false) (h1 : (BitVec.slt 0#64 13#64) = true) : Con Tryz.prog 18 #[(.int .i64 (ii (0#64))), (.bool (false)), (.int .u64 (nn (x2))), (.int .u64 (nn (x3)))] (.tuple #[(.int .u64 (nn ((ra0.setWidth 64)))), (.bool (true))]) :=
  fn_conI (P := Tryz.prog) Tryz.func18 (fun xs w => by kernel_rfl) _ _
    [.o, .o, .cl ok_alu_operations  rfl, .o, .a 0, .o, .o, .o, .o, .o, .o, .o, .o, .o, .o, .a 0, .o, .v .u32 (u32_of_u64 (x2)), .o, .v .u32 (u32_of_u64 (x3)), .cr (fun r => (Value.int .u32 (nn (r)))) (ok_alu_operations_2 ((x2.setWidth 32)) ((x3.setWidth 32))) ea0, .v .u64 (u64_of_u32 (ra0)), .o, .o]
    [] (fun b => by kernel_rfl)
theorem p16_alu_Do (x2 : BitVec 64) (x3 : BitVec 64) (ra0 : BitVec 32) (ea0 : m_alu_operations_4 (x2.setWidth 32) (x3.setWidth 32) = ra0) (h0 : (BitVec.slt 1#64 0#64) = false) (h1 : (BitVec.slt 1#64 13#64) = true) (h3 : (1#64 == 0#64) = false) : Con Tryz.prog 18 #[(.int .i64 (ii (1#64))), (.bool (false)), (.int .u64 (nn (x2))), (.int .u64 (nn (x3)))] (.tuple #[(.int .u64 (nn ((ra0.setWidth 64)))), (.bool (true))]) :=
  fn_conI (P := Tryz.prog) Tryz.func18 (fun xs w => by kernel_rfl) _ _
    [.o, .o, .cl ok_alu_operations  rfl, .o, .a 0, .o, .o, .o, .o, .o, .o, .o, .o, .o, .o, .a 0, .o, .v .u32 (u32_of_u64 (x2)), .o, .v .u32 (u32_of_u64 (x3)), .cr (fun r => (Value.int .u32 (nn (r)))) (ok_alu_operations_4 ((x2.setWidth 32)) ((x3.setWidth 32))) ea0, .v .u64 (u64_of_u32 (ra0)), .o, .o]
    [] (fun b => by kernel_rfl)
theorem p17_alu_Do (x2 : BitVec 64) (x3 : BitVec 64) (ra0 : BitVec 32) (ea0 : m_alu_operations_6 (x2.setWidth 32) (x3.setWidth 32) = ra0) (h0 : (BitVec.slt 2#64 0#64) = false) (h1 : (BitVec.slt 2#64 13#64) = true) (h3 : (2#64 == 0#64) = false) (h4 : (2#64 == 1#64) = false) : Con Tryz.prog 18 #[(.int .i64 (ii (2#64))), (.bool (false)), (.int .u64 (nn (x2))), (.int .u64 (nn (x3)))] (.tuple #[(.int .u64 (nn ((ra0.setWidth 64)))), (.bool (true))]) :=
  fn_conI (P := Tryz.prog) Tryz.func18 (fun xs w => by kernel_rfl) _ _
    [.o, .o, .cl ok_alu_operations  rfl, .o, .a 0, .o, .o, .o, .o, .o, .o, .o, .o, .o, .o, .a 0, .o, .v .u32 (u32_of_u64 (x2)), .o, .v .u32 (u32_of_u64 (x3)), .cr (fun r => (Value.int .u32 (nn (r)))) (ok_alu_operations_6 ((x2.setWidth 32)) ((x3.setWidth 32))) ea0, .v .u64 (u64_of_u32 (ra0)), .o, .o]
    [] (fun b => by kernel_rfl)
theorem p18_alu_Do (x2 : BitVec 64) (x3 : BitVec 64) (ra0 : BitVec 32) (ea0 : m_alu_div_uint32 (x2.setWidth 32) (x3.setWidth 32) = ra0) (h0 : (BitVec.slt 3#64 0#64) = false) (h1 : (BitVec.slt 3#64 13#64) = true) (h3 : (3#64 == 0#64) = false) (h4 : (3#64 == 1#64) = false) (h5 : (3#64 == 2#64) = false) : Con Tryz.prog 18 #[(.int .i64 (ii (3#64))), (.bool (false)), (.int .u64 (nn (x2))), (.int .u64 (nn (x3)))] (.tuple #[(.int .u64 (nn ((ra0.setWidth 64)))), (.bool (true))]) :=
  fn_conI (P := Tryz.prog) Tryz.func18 (fun xs w => by kernel_rfl) _ _
    [.o, .o, .cl ok_alu_operations  rfl, .o, .a 0, .o, .o, .o, .o, .o, .o, .o, .o, .o, .o, .a 0, .o, .v .u32 (u32_of_u64 (x2)), .o, .v .u32 (u32_of_u64 (x3)), .cr (fun r => (Value.int .u32 (nn (r)))) (ok_alu_div_uint32 ((x2.setWidth 32)) ((x3.setWidth 32))) ea0, .v .u64 (u64_of_u32 (ra0)), .o, .o]
    [] (fun b => by kernel_rfl)
theorem p19_alu_Do (x2 : BitVec 64) (x3 : BitVec 64) (ra0 : BitVec 32) (ea0 : m_alu_operations_8 (x2.setWidth 32) (x3.setWidth 32) = ra0) (h0 : (BitVec.slt 4#64 0#64) = false) (h1 : (BitVec.slt 4#64 13#64) = true) (h3 : (4#64 == 0#64) = false) (h4 : (4#64 == 1#64) = false) (h5 : (4#64 == 2#64) = false) (h6 : (4#64 == 3#64) = false) : Con Tryz.prog 18 #[(.int .i64 (ii (4#64))), (.bool (false)), (.int .u64 (nn (x2))), (.int .u64 (nn (x3)))] (.tuple #[(.int .u64 (nn ((ra0.setWidth 64)))), (.bool (true))]) :=
  fn_conI (P := Tryz.prog) Tryz.func18 (fun xs w => by kernel_rfl) _ _
    [.o, .o, .cl ok_alu_operations  rfl, .o, .a 0, .o, .o, .o, .o, .o, .o, .o, .o, .o, .o, .a 0, .o, .v .u32 (u32_of_u64 (x2)), .o, .v .u32 (u32_of_u64 (x3)), .cr (fun r => (Value.int .u32 (nn (r)))) (ok_alu_operations_8 ((x2.setWidth 32)) ((x3.setWidth 32))) ea0, .v .u64 (u64_of_u32 (ra0)), .o, .o]
    [] (fun b => by kernel_rfl)
theorem p20_alu_Do (x2 : BitVec 64) (x3 : BitVec 64) (ra0 : BitVec 32) (ea0 : m_alu_operations_10 (x2.setWidth 32) (x3.setWidth 32) = ra0) (h0 : (BitVec.slt 5#64 0#64) = false) (h1 : (BitVec.slt 5#64 13#64) = true) (h3 : (5#64 == 0#64) = false) (h4 : (5#64 == 1#64) = false) (h5 : (5#64 == 2#64) = false) (h6 : (5#64 == 3#64) = false) (h7 : (5#64 == 4#64) = false) : Con Tryz.prog 18 #[(.int .i64 (ii (5#64))), (.bool (false)), (.int .u64 (nn (x2))), (.int .u64 (nn (x3)))] (.tuple #[(.int .u64 (nn ((ra0.setWidth 64)))), (.bool (true))]) :=
  fn_conI (P := Tryz.prog) Tryz.func18 (fun xs w => by kernel_rfl) _ _
    [.o, .o, .cl ok_alu_operations  rfl, .o, .a 0, .o, .o, .o, .o, .o, .o, .o, .o, .o, .o, .a 0, .o, .v .u32 (u32_of_u64 (x2)), .o, .v .u32 (u32_of_u64 (x3)), .cr (fun r => (Value.int .u32 (nn (r)))) (ok_alu_operations_10 ((x2.setWidth 32)) ((x3.setWidth 32))) ea0, .v .u64 (u64_of_u32 (ra0)), .o, .o]
    [] (fun b => by kernel_rfl)
theorem p21_alu_Do (x2 : BitVec 64) (x3 : BitVec 64) (ra0 : BitVec 32) (ea0 : m_alu_operations_12 (x2.setWidth 32) (x3.setWidth 32) = ra0) (h0 : (BitVec.slt 6#64 0#64) = false) (h1 : (BitVec.slt 6#64 13#64) = true) (h3 : (6#64 == 0#64) = false) (h4 : (6#64 == 1#64) = false) (h5 : (6#64 == 2#64) = false) (h6 : (6#64 == 3#64) = false) (h7 : (6#64 == 4#64) = false) (h8 : (6#64 == 5#64) = false) : Con Tryz.prog 18 #[(.int .i64 (ii (6#64))), (.bool (false)), (.int .u64 (nn (x2))), (.int .u64 (nn (x3)))] (.tuple #[(.int .u64 (nn ((ra0.setWidth 64)))), (.bool (true))]) :=
  fn_conI (P := Tryz.prog) Tryz.func18 (fun xs w => by kernel_rfl) _ _
    [.o, .o, .cl ok_alu_operations  rfl, .o, .a 0, .o, .o, .o, .o, .o, .o, .o, .o, .o, .o, .a 0, .o, .v .u32 (u32_of_u64 (x2)), .o, .v .u32 (u32_of_u64 (x3)), .cr (fun r => (Value.int .u32 (nn (r)))) (ok_alu_operations_12 ((x2.setWidth 32)) ((x3.setWidth 32))) ea0, .v .u64 (u64_of_u32 (ra0)), .o, .o]
    [] (fun b => by kernel_rfl)
theorem p22_alu_Do (x2 : BitVec 64) (x3 : BitVec 64) (ra0 : BitVec 32) (ea0 : m_alu_operations_14 (x2.setWidth 32) (x3.setWidth 32) = ra0) (h0 : (BitVec.slt 7#64 0#64) = false) (h1 : (BitVec.slt 7#64 13#64) = true) (h3 : (7#64 == 0#64) = false) (h4 : (7#64 == 1#64) = false) (h5 : (7#64 == 2#64) = false) (h6 : (7#64 == 3#64) = false) (h7 : (7#64 == 4#64) = false) (h8 : (7#64 == 5#64) = false) (h9 : (7#64 == 6#64) = false) : Con Tryz.prog 18 #[(.int .i64 (ii (7#64))), (.bool (false)), (.int .u64 (nn (x2))), (.int .u64 (nn (x3)))] (.tuple #[(.int .u64 (nn ((ra0.setWidth 64)))), (.bool (true))]) :=
  fn_conI (P := Tryz.prog) Tryz.func18 (fun xs w => by kernel_rfl) _ _
    [.o, .o, .cl ok_alu_operations  rfl, .o, .a 0, .o, .o, .o, .o, .o, .o, .o, .o, .o, .o, .a 0, .o, .v .u32 (u32_of_u64 (x2)), .o, .v .u32 (u32_of_u64 (x3)), .cr (fun r => (Value.int .u32 (nn (r)))) (ok_alu_operations_14 ((x2.setWidth 32)) ((x3.setWidth 32))) ea0, .v .u64 (u64_of_u32 (ra0)), .o, .o]
    [] (fun b => by kernel_rfl)
theorem p23_alu_Do (x2 : BitVec 64) (x3 : BitVec 64) (ra0 : BitVec 32) (ea0 : m_alu_operations_16 (x2.setWidth 32) (x3.setWidth 32) = ra0) (h0 : (BitVec.slt 8#64 0#64) = false) (h1 : (BitVec.slt 8#64 13#64) = true) (h3 : (8#64 == 0#64) = false) (h4 : (8#64 == 1#64) = false) (h5 : (8#64 == 2#64) = false) (h6 : (8#64 == 3#64) = false) (h7 : (8#64 == 4#64) = false) (h8 : (8#64 == 5#64) = false) (h9 : (8#64 == 6#64) = false) (h10 : (8#64 == 7#64) = false) : Con Tryz.prog 18 #[(.int .i64 (ii (8#64))), (.bool (false)), (.int .u64 (nn (x2))), (.int .u64 (nn (x3)))] (.tuple #[(.int .u64 (nn ((ra0.setWidth 64)))), (.bool (true))]) :=
  fn_conI (P := Tryz.prog) Tryz.func18 (fun xs w => by kernel_rfl) _ _
    [.o, .o, .cl ok_alu_operations  rfl, .o, .a 0, .o, .o, .o, .o, .o, .o, .o, .o, .o, .o, .a 0, .o, .v .u32 (u32_of_u64 (x2)), .o, .v .u32 (u32_of_u64 (x3)), .cr (fun r => (Value.int .u32 (nn (r)))) (ok_alu_operations_16 ((x2.setWidth 32)) ((x3.setWidth 32))) ea0, .v .u64 (u64_of_u32 (ra0)), .o, .o]
    [] (fun b => by kernel_rfl)
theorem p24_alu_Do (x2 : BitVec 64) (x3 : BitVec 64) (ra0 : BitVec 32) (ea0 : m_alu_mod_uint32 (x2.setWidth 32) (x3.setWidth 32) = ra0) (h0 : (BitVec.slt 9#64 0#64) = false) (h1 : (BitVec.slt 9#64 13#64) = true) (h3 : (9#64 == 0#64) = false) (h4 : (9#64 == 1#64) = false) (h5 : (9#64 == 2#64) = false) (h6 : (9#64 == 3#64) = false) (h7 : (9#64 == 4#64) = false) (h8 : (9#64 == 5#64) = false) (h9 : (9#64 == 6#64) = false) (h10 : (9#64 == 7#64) = false) (h11 : (9#64 == 8#64) = false) : Con Tryz.prog 18 #[(.int .i64 (ii (9#64))), (.bool (false)), (.int .u64 (nn (x2))), (.int .u64 (nn (x3)))] (.tuple #[(.int .u64 (nn ((ra0.setWidth 64)))), (.bool (true))]) :=
  fn_conI (P := Tryz.prog) Tryz.func18 (fun xs w => by kernel_rfl) _ _
    [.o, .o, .cl ok_alu_operations  rfl, .o, .a 0, .o, .o, .o, .o, .o, .o, .o, .o, .o, .o, .a 0, .o, .v .u32 (u32_of_u64 (x2)), .o, .v .u32 (u32_of_u64 (x3)), .cr (fun r => (Value.int .u32 (nn (r)))) (ok_alu_mod_uint32 ((x2.setWidth 32)) ((x3.setWidth 32))) ea0, .v .u64 (u64_of_u32 (ra0)), .o, .o]
    [] (fun b => by kernel_rfl)
theorem p25_alu_Do (x2 : BitVec 64) (x3 : BitVec 64) (ra0 : BitVec 32) (ea0 : m_alu_operations_18 (x2.setWidth 32) (x3.setWidth 32) = ra0) (h0 : (BitVec.slt 10#64 0#64) = false) (h1 : (BitVec.slt 10#64 13#64) = true) (h3 : (10#64 == 0#64) = false) (h4 : (10#64 == 1#64) = false) (h5 : (10#64 == 2#64) = false) (h6 : (10#64 == 3#64) = false) (h7 : (10#64 == 4#64) = false) (h8 : (10#64 == 5#64) = false) (h9 : (10#64 == 6#64) = false) (h10 : (10#64 == 7#64) = false) (h11 : (10#64 == 8#64) = false) (h12 : (10#64 == 9#64) = false) : Con Tryz.prog 18 #[(.int .i64 (ii (10#64))), (.bool (false)), (.int .u64 (nn (x2))), (.int .u64 (nn (x3)))] (.tuple #[(.int .u64 (nn ((ra0.setWidth 64)))), (.bool (true))]) :=
  fn_conI (P := Tryz.prog) Tryz.func18 (fun xs w => by kernel_rfl) _ _
    [.o, .o, .cl ok_alu_operations  rfl, .o, .a 0, .o, .o, .o, .o, .o, .o, .o, .o, .o, .o, .a 0, .o, .v .u32 (u32_of_u64 (x2)), .o, .v .u32 (u32_of_u64 (x3)), .cr (fun r => (Value.int .u32 (nn (r)))) (ok_alu_operations_18 ((x2.setWidth 32)) ((x3.setWidth 32))) ea0, .v .u64 (u64_of_u32 (ra0)), .o, .o]
    [] (fun b => by kernel_rfl)
theorem p26_alu_Do (x2 : BitVec 64) (x3 : BitVec 64) (ra0 : BitVec 32) (ea0 : m_alu_operations_20 (x2.setWidth 32) (x3.setWidth 32) = ra0) (h0 : (BitVec.slt 11#64 0#64) = false) (h1 : (BitVec.slt 11#64 13#64) = true) (h3 : (11#64 == 0#64) = false) (h4 : (11#64 == 1#64) = false) (h5 : (11#64 == 2#64) = false) (h6 : (11#64 == 3#64) = false) (h7 : (11#64 == 4#64) = false) (h8 : (11#64 == 5#64) = false) (h9 : (11#64 == 6#64) = false) (h10 : (11#64 == 7#64) = false) (h11 : (11#64 == 8#64) = false) (h12 : (11#64 == 9#64) = false) (h13 : (11#64 == 10#64) = false) : Con Tryz.prog 18 #[(.int .i64 (ii (11#64))), (.bool (false)), (.int .u64 (nn (x2))), (.int .u64 (nn (x3)))] (.tuple #[(.int .u64 (nn ((ra0.setWidth 64)))), (.bool (true))]) :=
  fn_conI (P := Tryz.prog) Tryz.func18 (fun xs w => by kernel_rfl) _ _
    [.o, .o, .cl ok_alu_operations  rfl, .o, .a 0, .o, .o, .o, .o, .o, .o, .o, .o, .o, .o, .a 0, .o, .v .u32 (u32_of_u64 (x2)), .o, .v .u32 (u32_of_u64 (x3)), .cr (fun r => (Value.int .u32 (nn (r)))) (ok_alu_operations_20 ((x2.setWidth 32)) ((x3.setWidth 32))) ea0, .v .u64 (u64_of_u32 (ra0)), .o, .o]
    [] (fun b => by kernel_rfl)
theorem p27_alu_Do (x2 : BitVec 64) (x3 : BitVec 64) (ra0 : BitVec 32) (ea0 : m_alu_operations_22 (x2.setWidth 32) (x3.setWidth 32) = ra0) (h0 : (BitVec.slt 12#64 0#64) = false) (h1 : (BitVec.slt 12#64 13#64) = true) (h3 : (12#64 == 0#64) = false) (h4 : (12#64 == 1#64) = false) (h5 : (12#64 == 2#64) = false) (h6 : (12#64 == 3#64) = false) (h7 : (12#64 == 4#64) = false) (h8 : (12#64 == 5#64) = false) (h9 : (12#64 == 6#64) = false) (h10 : (12#64 == 7#64) = false) (h11 : (12#64 == 8#64) = false) (h12 : (12#64 == 9#64) = false) (h13 : (12#64 == 10#64) = false) (h14 : (12#64 == 11#64) = false) : Con Tryz.prog 18 #[(.int .i64 (ii (12#64))), (.bool (false)), (.int .u64 (nn (x2))), (.int .u64 (nn (x3)))] (.tuple #[(.int .u64 (nn ((ra0.setWidth 64)))), (.bool (true))]) :=
  fn_conI (P := Tryz.prog) Tryz.func18 (fun xs w => by kernel_rfl) _ _
    [.o, .o, .cl ok_alu_operations  rfl, .o, .a 0, .o, .o, .o, .o, .o, .o, .o, .o, .o, .o, .a 0, .o, .v .u32 (u32_of_u64 (x2)), .o, .v .u32 (u32_of_u64 (x3)), .cr (fun r => (Value.int .u32 (nn (r)))) (ok_alu_operations_22 ((x2.setWidth 32)) ((x3.setWidth 32))) ea0, .v .u64 (u64_of_u32 (ra0)), .o, .o]
    [] (fun b => by kernel_rfl)
theorem p29_alu_Do (x0 : BitVec 64) (x1 : Bool) (x2 : BitVec 64) (x3 : BitVec 64) (h0 : (BitVec.slt x0 0#64) = false) (h1 : (BitVec.slt x0 13#64) = false) : Con Tryz.prog 18 #[(.int .i64 (ii (x0))), (.bool (x1)), (.int .u64 (nn (x2))), (.int .u64 (nn (x3)))] (.tuple #[(.int .u64 (nn (0#64))), (.bool (false))]) :=
  fn_conI (P := Tryz.prog) Tryz.func18 (fun xs w => by kernel_rfl) _ _
    [.o, .o, .cl ok_alu_operations  rfl, .o, .a 0, .o, .t (i_lt x0 0#64) h0, .o, .o, .tn (i_ge x0 13#64) h1, .o, .o, .o]
    [] (fun b => by kernel_rfl)
theorem ok_alu_Do (x0 : BitVec 64) (x1 : Bool) (x2 : BitVec 64) (x3 : BitVec 64) : Con Tryz.prog 18 #[(.int .i64 (ii (x0))), (.bool (x1)), (.int .u64 (nn (x2))), (.int .u64 (nn (x3)))] (vt1 (m_alu_Do x0 x1 x2 x3)) := by
  unfold m_alu_Do
  refine Con.cond vt1 _ _ _ (fun h0 => ?_) (fun h0 => ?_)
  · exact p0_alu_Do x0 x1 x2 x3 h0
  · refine Con.cond vt1 _ _ _ (fun h1 => ?_) (fun h1 => ?_)
    · refine Con.cond vt1 _ _ _ (fun h2 => ?_) (fun h2 => ?_)
      · subst h2
        refine Con.cond vt1 _ _ _ (fun h3 => ?_) (fun h3 => ?_)
        · have e3 := eq_of_beq h3; subst e3
          exact p1_alu_Do x2 x3 _ rfl h0 h1
        · refine Con.cond vt1 _ _ _ (fun h4 => ?_) (fun h4 => ?_)
          · have e4 := eq_of_beq h4; subst e4
            exact p2_alu_Do x2 x3 _ rfl h0 h1 h3
          · refine Con.cond vt1 _ _ _ (fun h5 => ?_) (fun h5 => ?_)
            · have e5 := eq_of_beq h5; subst e5
              exact p3_alu_Do x2 x3 _ rfl h0 h1 h3 h4
            · refine Con.cond vt1 _ _ _ (fun h6 => ?_) (fun h6 => ?_)
              · have e6 := eq_of_beq h6; subst e6
                exact p4_alu_Do x2 x3 _ rfl h0 h1 h3 h4 h5
              · refine Con.cond vt1 _ _ _ (fun h7 => ?_) (fun h7 => ?_)
                · have e7 := eq_of_beq h7; subst e7
                  exact p5_alu_Do x2 x3 _ rfl h0 h1 h3 h4 h5 h6
                · refine Con.cond vt1 _ _ _ (fun h8 => ?_) (fun h8 => ?_)
                  · have e8 := eq_of_beq h8; subst e8
                    exact p6_alu_Do x2 x3 _ rfl h0 h1 h3 h4 h5 h6 h7
                  · refine Con.cond vt1 _ _ _ (fun h9 => ?_) (fun h9 => ?_)
                    · have e9 := eq_of_beq h9; subst e9
                      exact p7_alu_Do x2 x3 _ rfl h0 h1 h3 h4 h5 h6 h7 h8
                    · refine Con.cond vt1 _ _ _ (fun h10 => ?_) (fun h10 => ?_)
                      · have e10 := eq_of_beq h10; subst e10
                        exact p8_alu_Do x2 x3 _ rfl h0 h1 h3 h4 h5 h6 h7 h8 h9
                      · refine Con.cond vt1 _ _ _ (fun h11 => ?_) (fun h11 => ?_)
                        · have e11 := eq_of_beq h11; subst e11
                          exact p9_alu_Do x2 x3 _ rfl h0 h1 h3 h4 h5 h6 h7 h8 h9 h10
                        · refine Con.cond vt1 _ _ _ (fun h12 => ?_) (fun h12 => ?_)
                          · have e12 := eq_of_beq h12; subst e12
                            exact p10_alu_Do x2 x3 _ rfl h0 h1 h3 h4 h5 h6 h7 h8 h9 h10 h11
                          · refine Con.cond vt1 _ _ _ (fun h13 => ?_) (fun h13 => ?_)
                            · have e13 := eq_of_beq h13; subst e13
                              exact p11_alu_Do x2 x3 _ rfl h0 h1 h3 h4 h5 h6 h7 h8 h9 h10 h11 h12
                            · refine Con.cond vt1 _ _ _ (fun h14 => ?_) (fun h14 => ?_)
                              · have e14 := eq_of_beq h14; subst e14
                                exact p12_alu_Do x2 x3 _ rfl h0 h1 h3 h4 h5 h6 h7 h8 h9 h10 h11 h12 h13
                              · refine Con.cond vt1 _ _ _ (fun h15 => ?_) (fun h15 => ?_)
                                · have e15 := eq_of_beq h15; subst e15
                                  exact p13_alu_Do x2 x3 _ rfl h0 h1 h3 h4 h5 h6 h7 h8 h9 h10 h11 h12 h13 h14
                                · exact (out_of 13 (by decide) x0 h0 h1 (fun k hk => match k, hk with | 0, _ => h3 | 1, _ => h4 | 2, _ => h5 | 3, _ => h6 | 4, _ => h7 | 5, _ => h8 | 6, _ => h9 | 7, _ => h10 | 8, _ => h11 | 9, _ => h12 | 10, _ => h13 | 11, _ => h14 | 12, _ => h15 | k + 13, hk => absurd hk (by omega))).elim
      · subst h2
        refine Con.cond vt1 _ _ _ (fun h3 => ?_) (fun h3 => ?_)
        · have e3 := eq_of_beq h3; subst e3
          exact p15_alu_Do x2 x3 _ rfl h0 h1
        · refine Con.cond vt1 _ _ _ (fun h4 => ?_) (fun h4 => ?_)
          · have e4 := eq_of_beq h4; subst e4
            exact p16_alu_Do x2 x3 _ rfl h0 h1 h3
          · refine Con.cond vt1 _ _ _ (fun h5 => ?_) (fun h5 => ?_)
            · have e5 := eq_of_beq h5; subst e5
              exact p17_alu_Do x2 x3 _ rfl h0 h1 h3 h4
            · refine Con.cond vt1 _ _ _ (fun h6 => ?_) (fun h6 => ?_)
              · have e6 := eq_of_beq h6; subst e6
                exact p18_alu_Do x2 x3 _ rfl h0 h1 h3 h4 h5
              · refine Con.cond vt1 _ _ _ (fun h7 => ?_) (fun h7 => ?_)
                · have e7 := eq_of_beq h7; subst e7
                  exact p19_alu_Do x2 x3 _ rfl h0 h1 h3 h4 h5 h6
                · refine Con.cond vt1 _ _ _ (fun h8 => ?_) (fun h8 => ?_)
                  · have e8 := eq_of_beq h8; subst e8
                    exact p20_alu_Do x2 x3 _ rfl h0 h1 h3 h4 h5 h6 h7
                  · refine Con.cond vt1 _ _ _ (fun h9 => ?_) (fun h9 => ?_)
                    · have e9 := eq_of_beq h9; subst e9
                      exact p21_alu_Do x2 x3 _ rfl h0 h1 h3 h4 h5 h6 h7 h8
                    · refine Con.cond vt1 _ _ _ (fun h10 => ?_) (fun h10 => ?_)
                      · have e10 := eq_of_beq h10; subst e10
                        exact p22_alu_Do x2 x3 _ rfl h0 h1 h3 h4 h5 h6 h7 h8 h9
                      · refine Con.cond vt1 _ _ _ (fun h11 => ?_) (fun h11 => ?_)
                        · have e11 := eq_of_beq h11; subst e11
                          exact p23_alu_Do x2 x3 _ rfl h0 h1 h3 h4 h5 h6 h7 h8 h9 h10
                        · refine Con.cond vt1 _ _ _ (fun h12 => ?_) (fun h12 => ?_)
                          · have e12 := eq_of_beq h12; subst e12
                            exact p24_alu_Do x2 x3 _ rfl h0 h1 h3 h4 h5 h6 h7 h8 h9 h10 h11
                          · refine Con.cond vt1 _ _ _ (fun h13 => ?_) (fun h13 => ?_)
                            · have e13 := eq_of_beq h13; subst e13
                              exact p25_alu_Do x2 x3 _ rfl h0 h1 h3 h4 h5 h6 h7 h8 h9 h10 h11 h12
                            · refine Con.cond vt1 _ _ _ (fun h14 => ?_) (fun h14 => ?_)
                              · have e14 := eq_of_beq h14; subst e14
                                exact p26_alu_Do x2 x3 _ rfl h0 h1 h3 h4 h5 h6 h7 h8 h9 h10 h11 h12 h13
                              · refine Con.cond vt1 _ _ _ (fun h15 => ?_) (fun h15 => ?_)
                                · have e15 := eq_of_beq h15; subst e15
                                  exact p27_alu_Do x2 x3 _ rfl h0 h1 h3 h4 h5 h6 h7 h8 h9 h10 h11 h12 h13 h14
                                · exact (out_of 13 (by decide) x0 h0 h1 (fun k hk => match k, hk with | 0, _ => h3 | 1, _ => h4 | 2, _ => h5 | 3, _ => h6 | 4, _ => h7 | 5, _ => h8 | 6, _ => h9 | 7, _ => h10 | 8, _ => h11 | 9, _ => h12 | 10, _ => h13 | 11, _ => h14 | 12, _ => h15 | k + 13, hk => absurd hk (by omega))).elim
    · exact p29_alu_Do x0 x1 x2 x3 h0 h1
-- barbican/alu.comparisons
def m_alu_comparisons  : Unit :=
  (())
def K_alu_comparisons : Value := .agg #[.nilFunc, .nilFunc, .func (.func 98) #[] #[], .nilFunc, .func (.func 100) #[] #[], .nilFunc, .func (.func 101) #[] #[], .nilFunc, .func (.func 104) #[] #[], .nilFunc, .func (.func 99) #[] #[], .nilFunc, .nilFunc, .func (.func 105) #[] #[], .nilFunc, .func (.func 106) #[] #[], .nilFunc, .nilFunc, .nilFunc, .nilFunc, .func (.func 102) #[] #[], .nilFunc, .func (.func 103) #[] #[], .nilFunc, .nilFunc, .func (.func 107) #[] #[], .nilFunc, .func (.func 108) #[] #[]]
theorem p0_alu_comparisons  : Con Tryz.prog 48 #[] (.agg #[.nilFunc, .nilFunc, .func (.func 98) #[] #[], .nilFunc, .func (.func 100) #[] #[], .nilFunc, .func (.func 101) #[] #[], .nilFunc, .func (.func 104) #[] #[], .nilFunc, .func (.func 99) #[] #[], .nilFunc, .nilFunc, .func (.func 105) #[] #[], .nilFunc, .func (.func 106) #[] #[], .nilFunc, .nilFunc, .nilFunc, .nilFunc, .func (.func 102) #[] #[], .nilFunc, .func (.func 103) #[] #[], .nilFunc, .nilFunc, .func (.func 107) #[] #[], .nilFunc, .func (.func 108) #[] #[]]) :=
  fn_conI (P := Tryz.prog) Tryz.func48 (fun xs w => by kernel_rfl) _ _
    [.o, .o, .o, .o, .o, .o, .o, .o, .o, .o, .o, .o, .o, .a 0]
    [0, 0, 0, 0, 0, 0, 0, 0, 0, 0, 0, 0, 0, 0, 0, 0, 0, 0, 0, 0, 0, 0, 0, 0, 0, 0, 0, 0] (fun b => by kernel_rfl)
theorem ok_alu_comparisons  : Con Tryz.prog 48 #[] K_alu_comparisons := by
  exact p0_alu_comparisons  
-- barbican/alu.comparisons$1
def m_alu_comparisons_1 (x0 : BitVec 64) (x1 : BitVec 64) : Bool :=
  (x0 == x1)
theorem p0_alu_comparisons_1 (x0 : BitVec 64) (x1 : BitVec 64) : Con Tryz.prog 98 #[(.int .u64 (nn (x0))), (.int .u64 (nn (x1)))] (.bool (x0 == x1)) :=
  fn_conI (P := Tryz.prog) Tryz.func98 (fun xs w => by kernel_rfl) _ _
    [.o, .o, .o, .t (u_eq x0 x1) rfl, .o]
    [] (fun b => by kernel_rfl)
theorem ok_alu_comparisons_1 (x0 : BitVec 64) (x1 : BitVec 64) : Con Tryz.prog 98 #[(.int .u64 (nn (x0))), (.int .u64 (nn (x1)))] (.bool (m_alu_comparisons_1 x0 x1)) := by
  unfold m_alu_comparisons_1
  exact p0_alu_comparisons_1 x0 x1 
-- barbican/alu.comparisons$3
def m_alu_comparisons_3 (x0 : BitVec 64) (x1 : BitVec 64) : Bool :=
  (BitVec.ult x1 x0)
theorem p0_alu_comparisons_3 (x0 : BitVec 64) (x1 : BitVec 64) : Con Tryz.prog 100 #[(.int .u64 (nn (x0))), (.int .u64 (nn (x1)))] (.bool (BitVec.ult x1 x0)) :=
  fn_conI (P := Tryz.prog) Tryz.func100 (fun xs w => by kernel_rfl) _ _
    [.o, .o, .o, .t (u_gt x0 x1) rfl, .o]
    [] (fun b => by kernel_rfl)
theorem ok_alu_comparisons_3 (x0 : BitVec 64) (x1 : BitVec 64) : Con Tryz.prog 100 #[(.int .u64 (nn (x0))), (.int .u64 (nn (x1)))] (.bool (m_alu_comparisons_3 x0 x1)) := by
  unfold m_alu_comparisons_3
  exact p0_alu_comparisons_3 x0 x1 
-- barbican/alu.comparisons$4
def m_alu_comparisons_4 (x0 : BitVec 64) (x1 : BitVec 64) : Bool :=
  ((!(BitVec.ult x0 x1)))
theorem p0_alu_comparisons_4 (x0 : BitVec 64) (x1 : BitVec 64) : Con Tryz.prog 101 #[(.int .u64 (nn (x0))), (.int .u64 (nn (x1)))] (.bool ((!(BitVec.ult x0 x1)))) :=
  fn_conI (P := Tryz.prog) Tryz.func101 (fun xs w => by kernel_rfl) _ _
    [.o, .o, .o, .tn (u_ge x0 x1) rfl, .o]
    [] (fun b => by kernel_rfl)
theorem ok_alu_comparisons_4 (x0 : BitVec 64) (x1 : BitVec 64) : Con Tryz.prog 101 #[(.int .u64 (nn (x0))), (.int .u64 (nn (x1)))] (.bool (m_alu_comparisons_4 x0 x1)) := by
  unfold m_alu_comparisons_4
  exact p0_alu_comparisons_4 x0 x1 
-- barbican/alu.comparisons$7
def m_alu_comparisons_7 (x0 : BitVec 64) (x1 : BitVec 64) : Bool :=
  ((!((x0 &&& x1) == 0#64)))
theorem p0_alu_comparisons_7 (x0 : BitVec 64) (x1 : BitVec 64) : Con Tryz.prog 104 #[(.int .u64 (nn (x0))), (.int .u64 (nn (x1)))] (.bool ((!((x0 &&& x1) == 0#64)))) :=
  fn_conI (P := Tryz.prog) Tryz.func104 (fun xs w => by kernel_rfl) _ _
    [.o, .o, .o, .v .u64 (u64_and x0 x1), .tn (u_ne (x0 &&& x1) 0#64) rfl, .o]
    [] (fun b => by kernel_rfl)
theorem ok_alu_comparisons_7 (x0 : BitVec 64) (x1 : BitVec 64) : Con Tryz.prog 104 #[(.int .u64 (nn (x0))), (.int .u64 (nn (x1)))] (.bool (m_alu_comparisons_7 x0 x1)) := by
  unfold m_alu_comparisons_7
  exact p0_alu_comparisons_7 x0 x1 
-- barbican/alu.comparisons$2
def m_alu_comparisons_2 (x0 : BitVec 64) (x1 : BitVec 64) : Bool :=
  ((!(x0 == x1)))
theorem p0_alu_comparisons_2 (x0 : BitVec 64) (x1 : BitVec 64) : Con Tryz.prog 99 #[(.int .u64 (nn (x0))), (.int .u64 (nn (x1)))] (.bool ((!(x0 == x1)))) :=
  fn_conI (P := Tryz.prog) Tryz.func99 (fun xs w => by kernel_rfl) _ _
    [.o, .o, .o, .tn (u_ne x0 x1) rfl, .o]
    [] (fun b => by kernel_rfl)
theorem ok_alu_comparisons_2 (x0 : BitVec 64) (x1 : BitVec 64) : Con Tryz.prog 99 #[(.int .u64 (nn (x0))), (.int .u64 (nn (x1)))] (.bool (m_alu_comparisons_2 x0 x1)) := by
  unfold m_alu_comparisons_2
  exact p0_alu_comparisons_2 x0 x1 
-- barbican/alu.comparisons$8
def m_alu_comparisons_8 (x0 : BitVec 64) (x1 : BitVec 64) : Bool :=
  (BitVec.slt x1 x0)
theorem p0_alu_comparisons_8 (x0 : BitVec 64) (x1 : BitVec 64) : Con Tryz.prog 105 #[(.int .i64 (ii (x0))), (.int .i64 (ii (x1)))] (.bool (BitVec.slt x1 x0)) :=
  fn_conI (P := Tryz.prog) Tryz.func105 (fun xs w => by kernel_rfl) _ _
    [.o, .o, .o, .t (i_gt x0 x1) rfl, .o]
    [] (fun b => by kernel_rfl)
theorem ok_alu_comparisons_8 (x0 : BitVec 64) (x1 : BitVec 64) : Con Tryz.prog 105 #[(.int .i64 (ii (x0))), (.int .i64 (ii (x1)))] (.bool (m_alu_comparisons_8 x0 x1)) := by
  unfold m_alu_comparisons_8
  exact p0_alu_comparisons_8 x0 x1 
-- barbican/alu.comparisons$9
def m_alu_comparisons_9 (x0 : BitVec 64) (x1 : BitVec 64) : Bool :=
  ((!(BitVec.slt x0 x1)))
theorem p0_alu_comparisons_9 (x0 : BitVec 64) (x1 : BitVec 64) : Con Tryz.prog 106 #[(.int .i64 (ii (x0))), (.int .i64 (ii (x1)))] (.bool ((!(BitVec.slt x0 x1)))) :=
  fn_conI (P := Tryz.prog) Tryz.func106 (fun xs w => by kernel_rfl) _ _
    [.o, .o, .o, .tn (i_ge x0 x1) rfl, .o]
    [] (fun b => by kernel_rfl)
theorem ok_alu_comparisons_9 (x0 : BitVec 64) (x1 : BitVec 64) : Con Tryz.prog 106 #[(.int .i64 (ii (x0))), (.int .i64 (ii (x1)))] (.bool (m_alu_comparisons_9 x0 x1)) := by
  unfold m_alu_comparisons_9
  exact p0_alu_comparisons_9 x0 x1 
-- barbican/alu.comparisons$5
def m_alu_comparisons_5 (x0 : BitVec 64) (x1 : BitVec 64) : Bool :=
  (BitVec.ult x0 x1)
theorem p0_alu_comparisons_5 (x0 : BitVec 64) (x1 : BitVec 64) : Con Tryz.prog 102 #[(.int .u64 (nn (x0))), (.int .u64 (nn (x1)))] (.bool (BitVec.ult x0 x1)) :=
  fn_conI (P := Tryz.prog) Tryz.func102 (fun xs w => by kernel_rfl) _ _
    [.o, .o, .o, .t (u_lt x0 x1) rfl, .o]
    [] (fun b => by kernel_rfl)
theorem ok_alu_comparisons_5 (x0 : BitVec 64) (x1 : BitVec 64) : Con Tryz.prog 102 #[(.int .u64 (nn (x0))), (.int .u64 (nn (x1)))] (.bool (m_alu_comparisons_5 x0 x1)) := by
  unfold m_alu_comparisons_5
  exact p0_alu_comparisons_5 x0 x1 
-- barbican/alu.comparisons$6
def m_alu_comparisons_6 (x0 : BitVec 64) (x1 : BitVec 64) : Bool :=
  ((!(BitVec.ult x1 x0)))
theorem p0_alu_comparisons_6 (x0 : BitVec 64) (x1 : BitVec 64) : Con Tryz.prog 103 #[(.int .u64 (nn (x0))), (.int .u64 (nn (x1)))] (.bool ((!(BitVec.ult x1 x0)))) :=
  fn_conI (P := Tryz.prog) Tryz.func103 (fun xs w => by kernel_rfl) _ _
    [.o, .o, .o, .tn (u_le x0 x1) rfl, .o]
    [] (fun b => by kernel_rfl)
theorem ok_alu_comparisons_6 (x0 : BitVec 64) (x1 : BitVec 64) : Con Tryz.prog 103 #[(.int .u64 (nn (x0))), (.int .u64 (nn (x1)))] (.bool (m_alu_comparisons_6 x0 x1)) := by
  unfold m_alu_comparisons_6
  exact p0_alu_comparisons_6 x0 x1 
-- barbican/alu.comparisons$10
def m_alu_comparisons_10 (x0 : BitVec 64) (x1 : BitVec 64) : Bool :=
  (BitVec.slt x0 x1)
theorem p0_alu_comparisons_10 (x0 : BitVec 64) (x1 : BitVec 64) : Con Tryz.prog 107 #[(.int .i64 (ii (x0))), (.int .i64 (ii (x1)))] (.bool (BitVec.slt x0 x1)) :=
  fn_conI (P := Tryz.prog) Tryz.func107 (fun xs w => by kernel_rfl) _ _
    [.o, .o, .o, .t (i_lt x0 x1) rfl, .o]
    [] (fun b => by kernel_rfl)
theorem ok_alu_comparisons_10 (x0 : BitVec 64) (x1 : BitVec 64) : Con Tryz.prog 107 #[(.int .i64 (ii (x0))), (.int .i64 (ii (x1)))] (.bool (m_alu_comparisons_10 x0 x1)) := by
  unfold m_alu_comparisons_10
  exact p0_alu_comparisons_10 x0 x1 
-- barbican/alu.comparisons$11
def m_alu_comparisons_11 (x0 : BitVec 64) (x1 : BitVec 64) : Bool :=
  ((!(BitVec.slt x1 x0)))
theorem p0_alu_comparisons_11 (x0 : BitVec 64) (x1 : BitVec 64) : Con Tryz.prog 108 #[(.int .i64 (ii (x0))), (.int .i64 (ii (x1)))] (.bool ((!(BitVec.slt x1 x0)))) :=
  fn_conI (P := Tryz.prog) Tryz.func108 (fun xs w => by kernel_rfl) _ _
    [.o, .o, .o, .tn (i_le x0 x1) rfl, .o]
    [] (fun b => by kernel_rfl)
theorem ok_alu_comparisons_11 (x0 : BitVec 64) (x1 : BitVec 64) : Con Tryz.prog 108 #[(.int .i64 (ii (x0))), (.int .i64 (ii (x1)))] (.bool (m_alu_comparisons_11 x0 x1)) := by
  unfold m_alu_comparisons_11
  exact p0_alu_comparisons_11 x0 x1 
-- tuples
def vt3 (r : (Bool) × (Bool)) : Value := .tuple #[(.bool (r.1)), (.bool (r.2))]

-- barbican/alu.Cmp
def m_alu_Cmp (x0 : BitVec 64) (x1 : Bool) (x2 : BitVec 64) (x3 : BitVec 64) : (Bool) × (Bool) :=
  (bif BitVec.slt x0 0#64 then
    ((false, false))
    else (bif BitVec.slt x0 14#64 then
      (bif x0 == 0#64 then
        ((false, false))
        else (bif x0 == 1#64 then
          (bif x1 then
            ((m_alu_comparisons_1 x2 x3, true))
            else ((m_alu_comparisons_1 ((x2.setWidth 32).setWidth 64) ((x3.setWidth 32).setWidth 64), true)))
          else (bif x0 == 2#64 then
            (bif x1 then
              ((m_alu_comparisons_3 x2 x3, true))
              else ((m_alu_comparisons_3 ((x2.setWidth 32).setWidth 64) ((x3.setWidth 32).setWidth 64), true)))
            else (bif x0 == 3#64 then
              (bif x1 then
                ((m_alu_comparisons_4 x2 x3, true))
                else ((m_alu_comparisons_4 ((x2.setWidth 32).setWidth 64) ((x3.setWidth 32).setWidth 64), true)))
              else (bif x0 == 4#64 then
                (bif x1 then
                  ((m_alu_comparisons_7 x2 x3, true))
                  else ((m_alu_comparisons_7 ((x2.setWidth 32).setWidth 64) ((x3.setWidth 32).setWidth 64), true)))
                else (bif x0 == 5#64 then
                  (bif x1 then
                    ((m_alu_comparisons_2 x2 x3, true))
                    else ((m_alu_comparisons_2 ((x2.setWidth 32).setWidth 64) ((x3.setWidth 32).setWidth 64), true)))
                  else (bif x0 == 6#64 then
                    (bif x1 then
                      ((m_alu_comparisons_8 x2 x3, true))
                      else ((m_alu_comparisons_8 ((x2.setWidth 32).signExtend 64) ((x3.setWidth 32).signExtend 64), true)))
                    else (bif x0 == 7#64 then
                      (bif x1 then
                        ((m_alu_comparisons_9 x2 x3, true))
                        else ((m_alu_comparisons_9 ((x2.setWidth 32).signExtend 64) ((x3.setWidth 32).signExtend 64), true)))
                      else (bif x0 == 8#64 then
                        ((false, false))
                        else (bif x0 == 9#64 then
                          ((false, false))
                          else (bif x0 == 10#64 then
                            (bif x1 then
                              ((m_alu_comparisons_5 x2 x3, true))
                              else ((m_alu_comparisons_5 ((x2.setWidth 32).setWidth 64) ((x3.setWidth 32).setWidth 64), true)))
                            else (bif x0 == 11#64 then
                              (bif x1 then
                                ((m_alu_comparisons_6 x2 x3, true))
                                else ((m_alu_comparisons_6 ((x2.setWidth 32).setWidth 64) ((x3.setWidth 32).setWidth 64), true)))
                              else (bif x0 == 12#64 then
                                (bif x1 then
                                  ((m_alu_comparisons_10 x2 x3, true))
                                  else ((m_alu_comparisons_10 ((x2.setWidth 32).signExtend 64) ((x3.setWidth 32).signExtend 64), true)))
                                else (bif x0 == 13#64 then
                                  (bif x1 then
                                    ((m_alu_comparisons_11 x2 x3, true))
                                    else ((m_alu_comparisons_11 ((x2.setWidth 32).signExtend 64) ((x3.setWidth 32).signExtend 64), true)))
                                  else ((false, false))))))))))))))))
      else ((false, false))))
theorem p0_alu_Cmp (x0 : BitVec 64) (x1 : Bool) (x2 : BitVec 64) (x3 : BitVec 64) (h0 : (BitVec.slt x0 0#64) = true) : Con Tryz.prog 26 #[(.int .i64 (ii (x0))), (.bool (x1)), (.int .u64 (nn (x2))), (.int .u64 (nn (x3)))] (.tuple #[(.bool (false)), (.bool (false))]) :=
  fn_conI (P := Tryz.prog) Tryz.func26 (fun xs w => by kernel_rfl) _ _
    [.o, .o, .cl ok_alu_comparisons  rfl, .o, .a 0, .o, .t (i_lt x0 0#64) h0, .o, .o, .o, .o]
    [] (fun b => by kernel_rfl)
theorem p1_alu_Cmp (x1 : Bool) (x2 : BitVec 64) (x3 : BitVec 64) (h0 : (BitVec.slt 0#64 0#64) = false) (h1 : (BitVec.slt 0#64 14#64) = true) : Con Tryz.prog 26 #[(.int .i64 (ii (0#64))), (.bool (x1)), (.int .u64 (nn (x2))), (.int .u64 (nn (x3)))] (.tuple #[(.bool (false)), (.bool (false))]) :=
  fn_conI (P := Tryz.prog) Tryz.func26 (fun xs w => by kernel_rfl) _ _
    [.o, .o, .cl ok_alu_comparisons  rfl, .o, .a 0, .o, .o, .o, .o, .o, .o, .o, .o, .a 0, .o, .a 1, .o, .a 1, .o, .o, .o, .o, .o, .a 1, .o, .o, .o, .a 1, .o, .o, .o, .o, .o, .a 1, .o, .o, .o, .o]
    [] (fun b => by kernel_rfl)
theorem p2_alu_Cmp (x2 : BitVec 64) (x3 : BitVec 64) (h0 : (BitVec.slt 1#64 0#64) = false) (h1 : (BitVec.slt 1#64 14#64) = true) (h2 : (1#64 == 0#64) = false) : Con Tryz.prog 26 #[(.int .i64 (ii (1#64))), (.bool (true)), (.int .u64 (nn (x2))), (.int .u64 (nn (x3)))] (.tuple #[(.bool (m_alu_comparisons_1 x2 x3)), (.bool (true))]) :=
  fn_conI (P := Tryz.prog) Tryz.func26 (fun xs w => by kernel_rfl) _ _
    [.o, .o, .cl ok_alu_comparisons  rfl, .o, .a 0, .o, .o, .o, .o, .o, .o, .o, .o, .a 0, .o, .a 1, .o, .a 1, .o, .o, .o, .o, .o, .o, .a 1, .o, .o, .cb (ok_alu_comparisons_1 (x2) (x3)) rfl, .o, .o]
    [] (fun b => by kernel_rfl)
theorem p3_alu_Cmp (x2 : BitVec 64) (x3 : BitVec 64) (h0 : (BitVec.slt 1#64 0#64) = false) (h1 : (BitVec.slt 1#64 14#64) = true) (h2 : (1#64 == 0#64) = false) : Con Tryz.prog 26 #[(.int .i64 (ii (1#64))), (.bool (false)), (.int .u64 (nn (x2))), (.int .u64 (nn (x3)))] (.tuple #[(.bool (m_alu_comparisons_1 ((x2.setWidth 32).setWidth 64) ((x3.setWidth 32).setWidth 64))), (.bool (true))]) :=
  fn_conI (P := Tryz.prog) Tryz.func26 (fun xs w => by kernel_rfl) _ _
    [.o, .o, .cl ok_alu_comparisons  rfl, .o, .a 0, .o, .o, .o, .o, .o, .o, .o, .o, .a 0, .o, .a 1, .o, .a 1, .o, .o, .o, .o, .o, .o, .a 1, .o, .o, .o, .a 1, .o, .v .u32 (u32_of_u64 (x2)), .v .u64 (u64_of_u32 ((x2.setWidth 32))), .o, .v .u32 (u32_of_u64 (x3)), .v .u64 (u64_of_u32 ((x3.setWidth 32))), .cb (ok_alu_comparisons_1 (((x2.setWidth 32).setWidth 64)) (((x3.setWidth 32).setWidth 64))) rfl, .o, .o]
    [] (fun b => by kernel_rfl)
theorem p4_alu_Cmp (x2 : BitVec 64) (x3 : BitVec 64) (h0 : (BitVec.slt 2#64 0#64) = false) (h1 : (BitVec.slt 2#64 14#64) = true) (h2 : (2#64 == 0#64) = false) (h3 : (2#64 == 1#64) = false) : Con Tryz.prog 26 #[(.int .i64 (ii (2#64))), (.bool (true)), (.int .u64 (nn (x2))), (.int .u64 (nn (x3)))] (.tuple #[(.bool (m_alu_comparisons_3 x2 x3)), (.bool (true))]) :=
  fn_conI (P := Tryz.prog) Tryz.func26 (fun xs w => by kernel_rfl) _ _
    [.o, .o, .cl ok_alu_comparisons  rfl, .o, .a 0, .o, .o, .o, .o, .o, .o, .o, .o, .a 0, .o, .a 1, .o, .a 1, .o, .o, .o, .o, .o, .o, .a 1, .o, .o, .cb (ok_alu_comparisons_3 (x2) (x3)) rfl, .o, .o]
    [] (fun b => by kernel_rfl)
theorem p5_alu_Cmp (x2 : BitVec 64) (x3 : BitVec 64) (h0 : (BitVec.slt 2#64 0#64) = false) (h1 : (BitVec.slt 2#64 14#64) = true) (h2 : (2#64 == 0#64) = false) (h3 : (2#64 == 1#64) = false) : Con Tryz.prog 26 #[(.int .i64 (ii (2#64))), (.bool (false)), (.int .u64 (nn (x2))), (.int .u64 (nn (x3)))] (.tuple #[(.bool (m_alu_comparisons_3 ((x2.setWidth 32).setWidth 64) ((x3.setWidth 32).setWidth 64))), (.bool (true))]) :=
  fn_conI (P := Tryz.prog) Tryz.func26 (fun xs w => by kernel_rfl) _ _
    [.o, .o, .cl ok_alu_comparisons  rfl, .o, .a 0, .o, .o, .o, .o, .o, .o, .o, .o, .a 0, .o, .a 1, .o, .a 1, .o, .o, .o, .o, .o, .o, .a 1, .o, .o, .o, .a 1, .o, .v .u32 (u32_of_u64 (x2)), .v .u64 (u64_of_u32 ((x2.setWidth 32))), .o, .v .u32 (u32_of_u64 (x3)), .v .u64 (u64_of_u32 ((x3.setWidth 32))), .cb (ok_alu_comparisons_3 (((x2.setWidth 32).setWidth 64)) (((x3.setWidth 32).setWidth 64))) rfl, .o, .o]
    [] (fun b => by kernel_rfl)
theorem p6_alu_Cmp (x2 : BitVec 64) (x3 : BitVec 64) (h0 : (BitVec.slt 3#64 0#64) = false) (h1 : (BitVec.slt 3#64 14#64) = true) (h2 : (3#64 == 0#64) = false) (h3 : (3#64 == 1#64) = false) (h4 : (3#64 == 2#64) = false) : Con Tryz.prog 26 #[(.int .i64 (ii (3#64))), (.bool (true)), (.int .u64 (nn (x2))), (.int .u64 (nn (x3)))] (.tuple #[(.bool (m_alu_comparisons_4 x2 x3)), (.bool (true))]) :=
  fn_conI (P := Tryz.prog) Tryz.func26 (fun xs w => by kernel_rfl) _ _
    [.o, .o, .cl ok_alu_comparisons  rfl, .o, .a 0, .o, .o, .o, .o, .o, .o, .o, .o, .a 0, .o, .a 1, .o, .a 1, .o, .o, .o, .o, .o, .o, .a 1, .o, .o, .cb (ok_alu_comparisons_4 (x2) (x3)) rfl, .o, .o]
    [] (fun b => by kernel_rfl)
theorem p7_alu_Cmp (x2 : BitVec 64) (x3 : BitVec 64) (h0 : (BitVec.slt 3#64 0#64) = false) (h1 : (BitVec.slt 3#64 14#64) = true) (h2 : (3#64 == 0#64) = false) (h3 : (3#64 == 1#64) = false) (h4 : (3#64 == 2#64) = false) : Con Tryz.prog 26 #[(.int .i64 (ii (3#64))), (.bool (false)), (.int .u64 (nn (x2))), (.int .u64 (nn (x3)))] (.tuple #[(.bool (m_alu_comparisons_4 ((x2.setWidth 32).setWidth 64) ((x3.setWidth 32).setWidth 64))), (.bool (true))]) :=
  fn_conI (P := Tryz.prog) Tryz.func26 (fun xs w => by kernel_rfl) _ _
    [.o, .o, .cl ok_alu_comparisons  rfl, .o, .a 0, .o, .o, .o, .o, .o, .o, .o, .o, .a 0, .o, .a 1, .o, .a 1, .o, .o, .o, .o, .o, .o, .a 1, .o, .o, .o, .a 1, .o, .v .u32 (u32_of_u64 (x2)), .v .u64 (u64_of_u32 ((x2.setWidth 32))), .o, .v .u32 (u32_of_u64 (x3)), .v .u64 (u64_of_u32 ((x3.setWidth 32))), .cb (ok_alu_comparisons_4 (((x2.setWidth 32).setWidth 64)) (((x3.setWidth 32).setWidth 64))) rfl, .o, .o]
    [] (fun b => by kernel_rfl)
theorem p8_alu_Cmp (x2 : BitVec 64) (x3 : BitVec 64) (h0 : (BitVec.slt 4#64 0#64) = false) (h1 : (BitVec.slt 4#64 14#64) = true) (h2 : (4#64 == 0#64) = false) (h3 : (4#64 == 1#64) = false) (h4 : (4#64 == 2#64) = false) (h5 : (4#64 == 3#64) = false) : Con Tryz.prog 26 #[(.int .i64 (ii (4#64))), (.bool (true)), (.int .u64 (nn (x2))), (.int .u64 (nn (x3)))] (.tuple #[(.bool (m_alu_comparisons_7 x2 x3)), (.bool (true))]) :=
  fn_conI (P := Tryz.prog) Tryz.func26 (fun xs w => by kernel_rfl) _ _
    [.o, .o, .cl ok_alu_comparisons  rfl, .o, .a 0, .o, .o, .o, .o, .o, .o, .o, .o, .a 0, .o, .a 1, .o, .a 1, .o, .o, .o, .o, .o, .o, .a 1, .o, .o, .cb (ok_alu_comparisons_7 (x2) (x3)) rfl, .o, .o]
    [] (fun b => by kernel_rfl)
theorem p9_alu_Cmp (x2 : BitVec 64) (x3 : BitVec 64) (h0 : (BitVec.slt 4#64 0#64) = false) (h1 : (BitVec.slt 4#64 14#64) = true) (h2 : (4#64 == 0#64) = false) (h3 : (4#64 == 1#64) = false) (h4 : (4#64 == 2#64) = false) (h5 : (4#64 == 3#64) = false) : Con Tryz.prog 26 #[(.int .i64 (ii (4#64))), (.bool (false)), (.int .u64 (nn (x2))), (.int .u64 (nn (x3)))] (.tuple #[(.bool (m_alu_comparisons_7 ((x2.setWidth 32).setWidth 64) ((x3.setWidth 32).setWidth 64))), (.bool (true))]) :=
  fn_conI (P := Tryz.prog) Tryz.func26 (fun xs w => by kernel_rfl) _ _
    [.o, .o, .cl ok_alu_comparisons  rfl, .o, .a 0, .o, .o, .o, .o, .o, .o, .o, .o, .a 0, .o, .a 1, .o, .a 1, .o, .o, .o, .o, .o, .o, .a 1, .o, .o, .o, .a 1, .o, .v .u32 (u32_of_u64 (x2)), .v .u64 (u64_of_u32 ((x2.setWidth 32))), .o, .v .u32 (u32_of_u64 (x3)), .v .u64 (u64_of_u32 ((x3.setWidth 32))), .cb (ok_alu_comparisons_7 (((x2.setWidth 32).setWidth 64)) (((x3.setWidth 32).setWidth 64))) rfl, .o, .o]
    [] (fun b => by kernel_rfl)
theorem p10_alu_Cmp (x2 : BitVec 64) (x3 : BitVec 64) (h0 : (BitVec.slt 5#64 0#64) = false) (h1 : (BitVec.slt 5#64 14#64) = true) (h2 : (5#64 == 0#64) = false) (h3 : (5#64 == 1#64) = false) (h4 : (5#64 == 2#64) = false) (h5 : (5#64 == 3#64) = false) (h6 : (5#64 == 4#64) = false) : Con Tryz.prog 26 #[(.int .i64 (ii (5#64))), (.bool (true)), (.int .u64 (nn (x2))), (.int .u64 (nn (x3)))] (.tuple #[(.bool (m_alu_comparisons_2 x2 x3)), (.bool (true))]) :=
  fn_conI (P := Tryz.prog) Tryz.func26 (fun xs w => by kernel_rfl) _ _
    [.o, .o, .cl ok_alu_comparisons  rfl, .o, .a 0, .o, .o, .o, .o, .o, .o, .o, .o, .a 0, .o, .a 1, .o, .a 1, .o, .o, .o, .o, .o, .o, .a 1, .o, .o, .cb (ok_alu_comparisons_2 (x2) (x3)) rfl, .o, .o]
    [] (fun b => by kernel_rfl)
theorem p11_alu_Cmp (x2 : BitVec 64) (x3 : BitVec 64) (h0 : (BitVec.slt 5#64 0#64) = false) (h1 : (BitVec.slt 5#64 14#64) = true) (h2 : (5#64 == 0#64) = false) (h3 : (5#64 == 1#64) = false) (h4 : (5#64 == 2#64) = false) (h5 : (5#64 == 3#64) = false) (h6 : (5#64 == 4#64) = false) : Con Tryz.prog 26 #[(.int .i64 (ii (5#64))), (.bool (false)), (.int .u64 (nn (x2))), (.int .u64 (nn (x3)))] (.tuple #[(.bool (m_alu_comparisons_2 ((x2.setWidth 32).setWidth 64) ((x3.setWidth 32).setWidth 64))), (.bool (true))]) :=
  fn_conI (P := Tryz.prog) Tryz.func26 (fun xs w => by kernel_rfl) _ _
    [.o, .o, .cl ok_alu_comparisons  rfl, .o, .a 0, .o, .o, .o, .o, .o, .o, .o, .o, .a 0, .o, .a 1, .o, .a 1, .o, .o, .o, .o, .o, .o, .a 1, .o, .o, .o, .a 1, .o, .v .u32 (u32_of_u64 (x2)), .v .u64 (u64_of_u32 ((x2.setWidth 32))), .o, .v .u32 (u32_of_u64 (x3)), .v .u64 (u64_of_u32 ((x3.setWidth 32))), .cb (ok_alu_comparisons_2 (((x2.setWidth 32).setWidth 64)) (((x3.setWidth 32).setWidth 64))) rfl, .o, .o]
    [] (fun b => by kernel_rfl)
theorem p12_alu_Cmp (x2 : BitVec 64) (x3 : BitVec 64) (h0 : (BitVec.slt 6#64 0#64) = false) (h1 : (BitVec.slt 6#64 14#64) = true) (h2 : (6#64 == 0#64) = false) (h3 : (6#64 == 1#64) = false) (h4 : (6#64 == 2#64) = false) (h5 : (6#64 == 3#64) = false) (h6 : (6#64 == 4#64) = false) (h7 : (6#64 == 5#64) = false) : Con Tryz.prog 26 #[(.int .i64 (ii (6#64))), (.bool (true)), (.int .u64 (nn (x2))), (.int .u64 (nn (x3)))] (.tuple #[(.bool (m_alu_comparisons_8 x2 x3)), (.bool (true))]) :=
  fn_conI (P := Tryz.prog) Tryz.func26 (fun xs w => by kernel_rfl) _ _
    [.o, .o, .cl ok_alu_comparisons  rfl, .o, .a 0, .o, .o, .o, .o, .o, .o, .o, .o, .a 0, .o, .a 1, .o, .a 1, .o, .o, .o, .o, .o, .a 1, .o, .o, .o, .a 1, .o, .o, .o, .o, .o, .o, .a 1, .o, .v .i64 (i64_of_u64 (x2)), .o, .v .i64 (i64_of_u64 (x3)), .cb (ok_alu_comparisons_8 (x2) (x3)) rfl, .o, .o]
    [] (fun b => by kernel_rfl)
theorem p13_alu_Cmp (x2 : BitVec 64) (x3 : BitVec 64) (h0 : (BitVec.slt 6#64 0#64) = false) (h1 : (BitVec.slt 6#64 14#64) = true) (h2 : (6#64 == 0#64) = false) (h3 : (6#64 == 1#64) = false) (h4 : (6#64 == 2#64) = false) (h5 : (6#64 == 3#64) = false) (h6 : (6#64 == 4#64) = false) (h7 : (6#64 == 5#64) = false) : Con Tryz.prog 26 #[(.int .i64 (ii (6#64))), (.bool (false)), (.int .u64 (nn (x2))), (.int .u64 (nn (x3)))] (.tuple #[(.bool (m_alu_comparisons_8 ((x2.setWidth 32).signExtend 64) ((x3.setWidth 32).signExtend 64))), (.bool (true))]) :=
  fn_conI (P := Tryz.prog) Tryz.func26 (fun xs w => by kernel_rfl) _ _
    [.o, .o, .cl ok_alu_comparisons  rfl, .o, .a 0, .o, .o, .o, .o, .o, .o, .o, .o, .a 0, .o, .a 1, .o, .a 1, .o, .o, .o, .o, .o, .a 1, .o, .o, .o, .a 1, .o, .o, .o, .o, .o, .o, .a 1, .o, .o, .o, .a 1, .o, .v .i32 (i32_of_u64 (x2)), .v .i64 (i64_of_i32 ((x2.setWidth 32))), .o, .v .i32 (i32_of_u64 (x3)), .v .i64 (i64_of_i32 ((x3.setWidth 32))), .cb (ok_alu_comparisons_8 (((x2.setWidth 32).signExtend 64)) (((x3.setWidth 32).signExtend 64))) rfl, .o, .o]
    [] (fun b => by kernel_rfl)
theorem p14_alu_Cmp (x2 : BitVec 64) (x3 : BitVec 64) (h0 : (BitVec.slt 7#64 0#64) = false) (h1 : (BitVec.slt 7#64 14#64) = true) (h2 : (7#64 == 0#64) = false) (h3 : (7#64 == 1#64) = false) (h4 : (7#64 == 2#64) = false) (h5 : (7#64 == 3#64) = false) (h6 : (7#64 == 4#64) = false) (h7 : (7#64 == 5#64) = false) (h8 : (7#64 == 6#64) = false) : Con Tryz.prog 26 #[(.int .i64 (ii (7#64))), (.bool (true)), (.int .u64 (nn (x2))), (.int .u64 (nn (x3)))] (.tuple #[(.bool (m_alu_comparisons_9 x2 x3)), (.bool (true))]) :=
  fn_conI (P := Tryz.prog) Tryz.func26 (fun xs w => by kernel_rfl) _ _
    [.o, .o, .cl ok_alu_comparisons  rfl, .o, .a 0, .o, .o, .o, .o, .o, .o, .o, .o, .a 0, .o, .a 1, .o, .a 1, .o, .o, .o, .o, .o, .a 1, .o, .o, .o, .a 1, .o, .o, .o, .o, .o, .o, .a 1, .o, .v .i64 (i64_of_u64 (x2)), .o, .v .i64 (i64_of_u64 (x3)), .cb (ok_alu_comparisons_9 (x2) (x3)) rfl, .o, .o]
    [] (fun b => by kernel_rfl)
theorem p15_alu_Cmp (x2 : BitVec 64) (x3 : BitVec 64) (h0 : (BitVec.slt 7#64 0#64) = false) (h1 : (BitVec.slt 7#64 14#64) = true) (h2 : (7#64 == 0#64) = false) (h3 : (7#64 == 1#64) = false) (h4 : (7#64 == 2#64) = false) (h5 : (7#64 == 3#64) = false) (h6 : (7#64 == 4#64) = false) (h7 : (7#64 == 5#64) = false) (h8 : (7#64 == 6#64) = false) : Con Tryz.prog 26 #[(.int .i64 (ii (7#64))), (.bool (false)), (.int .u64 (nn (x2))), (.int .u64 (nn (x3)))] (.tuple #[(.bool (m_alu_comparisons_9 ((x2.setWidth 32).signExtend 64) ((x3.setWidth 32).signExtend 64))), (.bool (true))]) :=
  fn_conI (P := Tryz.prog) Tryz.func26 (fun xs w => by kernel_rfl) _ _
    [.o, .o, .cl ok_alu_comparisons  rfl, .o, .a 0, .o, .o, .o, .o, .o, .o, .o, .o, .a 0, .o, .a 1, .o, .a 1, .o, .o, .o, .o, .o, .a 1, .o, .o, .o, .a 1, .o, .o, .o, .o, .o, .o, .a 1, .o, .o, .o, .a 1, .o, .v .i32 (i32_of_u64 (x2)), .v .i64 (i64_of_i32 ((x2.setWidth 32))), .o, .v .i32 (i32_of_u64 (x3)), .v .i64 (i64_of_i32 ((x3.setWidth 32))), .cb (ok_alu_comparisons_9 (((x2.setWidth 32).signExtend 64)) (((x3.setWidth 32).signExtend 64))) rfl, .o, .o]
    [] (fun b => by kernel_rfl)
theorem p16_alu_Cmp (x1 : Bool) (x2 : BitVec 64) (x3 : BitVec 64) (h0 : (BitVec.slt 8#64 0#64) = false) (h1 : (BitVec.slt 8#64 14#64) = true) (h2 : (8#64 == 0#64) = false) (h3 : (8#64 == 1#64) = false) (h4 : (8#64 == 2#64) = false) (h5 : (8#64 == 3#64) = false) (h6 : (8#64 == 4#64) = false) (h7 : (8#64 == 5#64) = false) (h8 : (8#64 == 6#64) = false) (h9 : (8#64 == 7#64) = false) : Con Tryz.prog 26 #[(.int .i64 (ii (8#64))), (.bool (x1)), (.int .u64 (nn (x2))), (.int .u64 (nn (x3)))] (.tuple #[(.bool (false)), (.bool (false))]) :=
  fn_conI (P := Tryz.prog) Tryz.func26 (fun xs w => by kernel_rfl) _ _
    [.o, .o, .cl ok_alu_comparisons  rfl, .o, .a 0, .o, .o, .o, .o, .o, .o, .o, .o, .a 0, .o, .a 1, .o, .a 1, .o, .o, .o, .o, .o, .a 1, .o, .o, .o, .a 1, .o, .o, .o, .o, .o, .a 1, .o, .o, .o, .o]
    [] (fun b => by kernel_rfl)
theorem p17_alu_Cmp (x1 : Bool) (x2 : BitVec 64) (x3 : BitVec 64) (h0 : (BitVec.slt 9#64 0#64) = false) (h1 : (BitVec.slt 9#64 14#64) = true) (h2 : (9#64 == 0#64) = false) (h3 : (9#64 == 1#64) = false) (h4 : (9#64 == 2#64) = false) (h5 : (9#64 == 3#64) = false) (h6 : (9#64 == 4#64) = false) (h7 : (9#64 == 5#64) = false) (h8 : (9#64 == 6#64) = false) (h9 : (9#64 == 7#64) = false) (h10 : (9#64 == 8#64) = false) : Con Tryz.prog 26 #[(.int .i64 (ii (9#64))), (.bool (x1)), (.int .u64 (nn (x2))), (.int .u64 (nn (x3)))] (.tuple #[(.bool (false)), (.bool (false))]) :=
  fn_conI (P := Tryz.prog) Tryz.func26 (fun xs w => by kernel_rfl) _ _
    [.o, .o, .cl ok_alu_comparisons  rfl, .o, .a 0, .o, .o, .o, .o, .o, .o, .o, .o, .a 0, .o, .a 1, .o, .a 1, .o, .o, .o, .o, .o, .a 1, .o, .o, .o, .a 1, .o, .o, .o, .o, .o, .a 1, .o, .o, .o, .o]
    [] (fun b => by kernel_rfl)
theorem p18_alu_Cmp (x2 : BitVec 64) (x3 : BitVec 64) (h0 : (BitVec.slt 10#64 0#64) = false) (h1 : (BitVec.slt 10#64 14#64) = true) (h2 : (10#64 == 0#64) = false) (h3 : (10#64 == 1#64) = false) (h4 : (10#64 == 2#64) = false) (h5 : (10#64 == 3#64) = false) (h6 : (10#64 == 4#64) = false) (h7 : (10#64 == 5#64) = false) (h8 : (10#64 == 6#64) = false) (h9 : (10#64 == 7#64) = false) (h10 : (10#64 == 8#64) = false) (h11 : (10#64 == 9#64) = false) : Con Tryz.prog 26 #[(.int .i64 (ii (10#64))), (.bool (true)), (.int .u64 (nn (x2))), (.int .u64 (nn (x3)))] (.tuple #[(.bool (m_alu_comparisons_5 x2 x3)), (.bool (true))]) :=
  fn_conI (P := Tryz.prog) Tryz.func26 (fun xs w => by kernel_rfl) _ _
    [.o, .o, .cl ok_alu_comparisons  rfl, .o, .a 0, .o, .o, .o, .o, .o, .o, .o, .o, .a 0, .o, .a 1, .o, .a 1, .o, .o, .o, .o, .o, .o, .a 1, .o, .o, .cb (ok_alu_comparisons_5 (x2) (x3)) rfl, .o, .o]
    [] (fun b => by kernel_rfl)
theorem p19_alu_Cmp (x2 : BitVec 64) (x3 : BitVec 64) (h0 : (BitVec.slt 10#64 0#64) = false) (h1 : (BitVec.slt 10#64 14#64) = true) (h2 : (10#64 == 0#64) = false) (h3 : (10#64 == 1#64) = false) (h4 : (10#64 == 2#64) = false) (h5 : (10#64 == 3#64) = false) (h6 : (10#64 == 4#64) = false) (h7 : (10#64 == 5#64) = false) (h8 : (10#64 == 6#64) = false) (h9 : (10#64 == 7#64) = false) (h10 : (10#64 == 8#64) = false) (h11 : (10#64 == 9#64) = false) : Con Tryz.prog 26 #[(.int .i64 (ii (10#64))), (.bool (false)), (.int .u64 (nn (x2))), (.int .u64 (nn (x3)))] (.tuple #[(.bool (m_alu_comparisons_5 ((x2.setWidth 32).setWidth 64) ((x3.setWidth 32).setWidth 64))), (.bool (true))]) :=
  fn_conI (P := Tryz.prog) Tryz.func26 (fun xs w => by kernel_rfl) _ _
    [.o, .o, .cl ok_alu_comparisons  rfl, .o, .a 0, .o, .o, .o, .o, .o, .o, .o, .o, .a 0, .o, .a 1, .o, .a 1, .o, .o, .o, .o, .o, .o, .a 1, .o, .o, .o, .a 1, .o, .v .u32 (u32_of_u64 (x2)), .v .u64 (u64_of_u32 ((x2.setWidth 32))), .o, .v .u32 (u32_of_u64 (x3)), .v .u64 (u64_of_u32 ((x3.setWidth 32))), .cb (ok_alu_comparisons_5 (((x2.setWidth 32).setWidth 64)) (((x3.setWidth 32).setWidth 64))) rfl, .o, .o]
    [] (fun b => by kernel_rfl)
theorem p20_alu_Cmp (x2 : BitVec 64) (x3 : BitVec 64) (h0 : (BitVec.slt 11#64 0#64) = false) (h1 : (BitVec.slt 11#64 14#64) = true) (h2 : (11#64 == 0#64) = false) (h3 : (11#64 == 1#64) = false) (h4 : (11#64 == 2#64) = false) (h5 : (11#64 == 3#64) = false) (h6 : (11#64 == 4#64) = false) (h7 : (11#64 == 5#64) = false) (h8 : (11#64 == 6#64) = false) (h9 : (11#64 == 7#64) = false) (h10 : (11#64 == 8#64) = false) (h11 : (11#64 == 9#64) = false) (h12 : (11#64 == 10#64) = false) : Con Tryz.prog 26 #[(.int .i64 (ii (11#64))), (.bool (true)), (.int .u64 (nn (x2))), (.int .u64 (nn (x3)))] (.tuple #[(.bool (m_alu_comparisons_6 x2 x3)), (.bool (true))]) :=
  fn_conI (P := Tryz.prog) Tryz.func26 (fun xs w => by kernel_rfl) _ _
    [.o, .o, .cl ok_alu_comparisons  rfl, .o, .a 0, .o, .o, .o, .o, .o, .o, .o, .o, .a 0, .o, .a 1, .o, .a 1, .o, .o, .o, .o, .o, .o, .a 1, .o, .o, .cb (ok_alu_comparisons_6 (x2) (x3)) rfl, .o, .o]
    [] (fun b => by kernel_rfl)
theorem p21_alu_Cmp (x2 : BitVec 64) (x3 : BitVec 64) (h0 : (BitVec.slt 11#64 0#64) = false) (h1 : (BitVec.slt 11#64 14#64) = true) (h2 : (11#64 == 0#64) = false) (h3 : (11#64 == 1#64) = false) (h4 : (11#64 == 2#64) = false) (h5 : (11#64 == 3#64) = false) (h6 : (11#64 == 4#64) = false) (h7 : (11#64 == 5#64) = false) (h8 : (11#64 == 6#64) = false) (h9 : (11#64 == 7#64) = false) (h10 : (11#64 == 8#64) = false) (h11 : (11#64 == 9#64) = false) (h12 : (11#64 == 10#64) = false) : Con Tryz.prog 26 #[(.int .i64 (ii (11#64))), (.bool (false)), (.int .u64 (nn (x2))), (.int .u64 (nn (x3)))] (.tuple #[(.bool (m_alu_comparisons_6 ((x2.setWidth 32).setWidth 64) ((x3.setWidth 32).setWidth 64))), (.bool (true))]) :=
  fn_conI (P := Tryz.prog) Tryz.func26 (fun xs w => by kernel_rfl) _ _
    [.o, .o, .cl ok_alu_comparisons  rfl, .o, .a 0, .o, .o, .o, .o, .o, .o, .o, .o, .a 0, .o, .a 1, .o, .a 1, .o, .o, .o, .o, .o, .o, .a 1, .o, .o, .o, .a 1, .o, .v .u32 (u32_of_u64 (x2)), .v .u64 (u64_of_u32 ((x2.setWidth 32))), .o, .v .u32 (u32_of_u64 (x3)), .v .u64 (u64_of_u32 ((x3.setWidth 32))), .cb (ok_alu_comparisons_6 (((x2.setWidth 32).setWidth 64)) (((x3.setWidth 32).setWidth 64))) rfl, .o, .o]
    [] (fun b => by kernel_rfl)
theorem p22_alu_Cmp (x2 : BitVec 64) (x3 : BitVec 64) (h0 : (BitVec.slt 12#64 0#64) = false) (h1 : (BitVec.slt 12#64 14#64) = true) (h2 : (12#64 == 0#64) = false) (h3 : (12#64 == 1#64) = false) (h4 : (12#64 == 2#64) = false) (h5 : (12#64 == 3#64) = false) (h6 : (12#64 == 4#64) = false) (h7 : (12#64 == 5#64) = false) (h8 : (12#64 == 6#64) = false) (h9 : (12#64 == 7#64) = false) (h10 : (12#64 == 8#64) = false) (h11 : (12#64 == 9#64) = false) (h12 : (12#64 == 10#64) = false) (h13 : (12#64 == 11#64) = false) : Con Tryz.prog 26 #[(.int .i64 (ii (12#64))), (.bool (true)), (.int .u64 (nn (x2))), (.int .u64 (nn (x3)))] (.tuple #[(.bool (m_alu_comparisons_10 x2 x3)), (.bool (true))]) :=
  fn_conI (P := Tryz.prog) Tryz.func26 (fun xs w => by kernel_rfl) _ _
    [.o, .o, .cl ok_alu_comparisons  rfl, .o, .a 0, .o, .o, .o, .o, .o, .o, .o, .o, .a 0, .o, .a 1, .o, .a 1, .o, .o, .o, .o, .o, .a 1, .o, .o, .o, .a 1, .o, .o, .o, .o, .o, .o, .a 1, .o, .v .i64 (i64_of_u64 (x2)), .o, .v .i64 (i64_of_u64 (x3)), .cb (ok_alu_comparisons_10 (x2) (x3)) rfl, .o, .o]
    [] (fun b => by kernel_rfl)
theorem p23_alu_Cmp (x2 : BitVec 64) (x3 : BitVec 64) (h0 : (BitVec.slt 12#64 0#64) = false) (h1 : (BitVec.slt 12#64 14#64) = true) (h2 : (12#64 == 0#64) = false) (h3 : (12#64 == 1#64) = false) (h4 : (12#64 == 2#64) = false) (h5 : (12#64 == 3#64) = false) (h6 : (12#64 == 4#64) = false) (h7 : (12#64 == 5#64) = false) (h8 : (12#64 == 6#64) = false) (h9 : (12#64 == 7#64) = false) (h10 : (12#64 == 8#64) = false) (h11 : (12#64 == 9#64) = false) (h12 : (12#64 == 10#64) = false) (h13 : (12#64 == 11#64) = false) : Con Tryz.prog 26 #[(.int .i64 (ii (12#64))), (.bool (false)), (.int .u64 (nn (x2))), (.int .u64 (nn (x3)))] (.tuple #[(.bool (m_alu_comparisons_10 ((x2.setWidth 32).signExtend 64) ((x3.setWidth 32).signExtend 64))), (.bool (true))]) :=
  fn_conI (P := Tryz.prog) Tryz.func26 (fun xs w => by kernel_rfl) _ _
    [.o, .o, .cl ok_alu_comparisons  rfl, .o, .a 0, .o, .o, .o, .o, .o, .o, .o, .o, .a 0, .o, .a 1, .o, .a 1, .o, .o, .o, .o, .o, .a 1, .o, .o, .o, .a 1, .o, .o, .o, .o, .o, .o, .a 1, .o, .o, .o, .a 1, .o, .v .i32 (i32_of_u64 (x2)), .v .i64 (i64_of_i32 ((x2.setWidth 32))), .o, .v .i32 (i32_of_u64 (x3)), .v .i64 (i64_of_i32 ((x3.setWidth 32))), .cb (ok_alu_comparisons_10 (((x2.setWidth 32).signExtend 64)) (((x3.setWidth 32).signExtend 64))) rfl, .o, .o]
    [] (fun b => by kernel_rfl)
theorem p24_alu_Cmp (x2 : BitVec 64) (x3 : BitVec 64) (h0 : (BitVec.slt 13#64 0#64) = false) (h1 : (BitVec.slt 13#64 14#64) = true) (h2 : (13#64 == 0#64) = false) (h3 : (13#64 == 1#64) = false) (h4 : (13#64 == 2#64) = false) (h5 : (13#64 == 3#64) = false) (h6 : (13#64 == 4#64) = false) (h7 : (13#64 == 5#64) = false) (h8 : (13#64 == 6#64) = false) (h9 : (13#64 == 7#64) = false) (h10 : (13#64 == 8#64) = false) (h11 : (13#64 == 9#64) = false) (h12 : (13#64 == 10#64) = false) (h13 : (13#64 == 11#64) = false) (h14 : (13#64 == 12#64) = false) : Con Tryz.prog 26 #[(.int .i64 (ii (13#64))), (.bool (true)), (.int .u64 (nn (x2))), (.int .u64 (nn (x3)))] (.tuple #[(.bool (m_alu_comparisons_11 x2 x3)), (.bool (true))]) :=
  fn_conI (P := Tryz.prog) Tryz.func26 (fun xs w => by kernel_rfl) _ _
    [.o, .o, .cl ok_alu_comparisons  rfl, .o, .a 0, .o, .o, .o, .o, .o, .o, .o, .o, .a 0, .o, .a 1, .o, .a 1, .o, .o, .o, .o, .o, .a 1, .o, .o, .o, .a 1, .o, .o, .o, .o, .o, .o, .a 1, .o, .v .i64 (i64_of_u64 (x2)), .o, .v .i64 (i64_of_u64 (x3)), .cb (ok_alu_comparisons_11 (x2) (x3)) rfl, .o, .o]
    [] (fun b => by kernel_rfl)
theorem p25_alu_Cmp (x2 : BitVec 64) (x3 : BitVec 64) (h0 : (BitVec.slt 13#64 0#64) = false) (h1 : (BitVec.slt 13#64 14#64) = true) (h2 : (13#64 == 0#64) = false) (h3 : (13#64 == 1#64) = false) (h4 : (13#64 == 2#64) = false) (h5 : (13#64 == 3#64) = false) (h6 : (13#64 == 4#64) = false) (h7 : (13#64 == 5#64) = false) (h8 : (13#64 == 6#64) = false) (h9 : (13#64 == 7#64) = false) (h10 : (13#64 == 8#64) = false) (h11 : (13#64 == 9#64) = false) (h12 : (13#64 == 10#64) = false) (h13 : (13#64 == 11#64) = false) (h14 : (13#64 == 12#64) = false) : Con Tryz.prog 26 #[(.int .i64 (ii (13#64))), (.bool (false)), (.int .u64 (nn (x2))), (.int .u64 (nn (x3)))] (.tuple #[(.bool (m_alu_comparisons_11 ((x2.setWidth 32).signExtend 64) ((x3.setWidth 32).signExtend 64))), (.bool (true))]) :=
  fn_conI (P := Tryz.prog) Tryz.func26 (fun xs w => by kernel_rfl) _ _
    [.o, .o, .cl ok_alu_comparisons  rfl, .o, .a 0, .o, .o, .o, .o, .o, .o, .o, .o, .a 0, .o, .a 1, .o, .a 1, .o, .o, .o, .o, .o, .a 1, .o, .o, .o, .a 1, .o, .o, .o, .o, .o, .o, .a 1, .o, .o, .o, .a 1, .o, .v .i32 (i32_of_u64 (x2)), .v .i64 (i64_of_i32 ((x2.setWidth 32))), .o, .v .i32 (i32_of_u64 (x3)), .v .i64 (i64_of_i32 ((x3.setWidth 32))), .cb (ok_alu_comparisons_11 (((x2.setWidth 32).signExtend 64)) (((x3.setWidth 32).signExtend 64))) rfl, .o, .o]
    [] (fun b => by kernel_rfl)
theorem p27_alu_Cmp (x0 : BitVec 64) (x1 : Bool) (x2 : BitVec 64) (x3 : BitVec 64) (h0 : (BitVec.slt x0 0#64) = false) (h1 : (BitVec.slt x0 14#64) = false) : Con Tryz.prog 26 #[(.int .i64 (ii (x0))), (.bool (x1)), (.int .u64 (nn (x2))), (.int .u64 (nn (x3)))] (.tuple #[(.bool (false)), (.bool (false))]) :=
  fn_conI (P := Tryz.prog) Tryz.func26 (fun xs w => by kernel_rfl) _ _
    [.o, .o, .cl ok_alu_comparisons  rfl, .o, .a 0, .o, .t (i_lt x0 0#64) h0, .o, .o, .tn (i_ge x0 14#64) h1, .o, .o, .o]
    [] (fun b => by kernel_rfl)
theorem ok_alu_Cmp (x0 : BitVec 64) (x1 : Bool) (x2 : BitVec 64) (x3 : BitVec 64) : Con Tryz.prog 26 #[(.int .i64 (ii (x0))), (.bool (x1)), (.int .u64 (nn (x2))), (.int .u64 (nn (x3)))] (vt3 (m_alu_Cmp x0 x1 x2 x3)) := by
  unfold m_alu_Cmp
  refine Con.cond vt3 _ _ _ (fun h0 => ?_) (fun h0 => ?_)
  · exact p0_alu_Cmp x0 x1 x2 x3 h0
  · refine Con.cond vt3 _ _ _ (fun h1 => ?_) (fun h1 => ?_)
    · refine Con.cond vt3 _ _ _ (fun h2 => ?_) (fun h2 => ?_)
      · have e2 := eq_of_beq h2; subst e2
        exact p1_alu_Cmp x1 x2 x3 h0 h1
      · refine Con.cond vt3 _ _ _ (fun h3 => ?_) (fun h3 => ?_)
        · have e3 := eq_of_beq h3; subst e3
          refine Con.cond vt3 _ _ _ (fun h4 => ?_) (fun h4 => ?_)
          · subst h4
            exact p2_alu_Cmp x2 x3 h0 h1 h2
          · subst h4
            exact p3_alu_Cmp x2 x3 h0 h1 h2
        · refine Con.cond vt3 _ _ _ (fun h4 => ?_) (fun h4 => ?_)
          · have e4 := eq_of_beq h4; subst e4
            refine Con.cond vt3 _ _ _ (fun h5 => ?_) (fun h5 => ?_)
            · subst h5
              exact p4_alu_Cmp x2 x3 h0 h1 h2 h3
            · subst h5
              exact p5_alu_Cmp x2 x3 h0 h1 h2 h3
          · refine Con.cond vt3 _ _ _ (fun h5 => ?_) (fun h5 => ?_)
            · have e5 := eq_of_beq h5; subst e5
              refine Con.cond vt3 _ _ _ (fun h6 => ?_) (fun h6 => ?_)
              · subst h6
                exact p6_alu_Cmp x2 x3 h0 h1 h2 h3 h4
              · subst h6
                exact p7_alu_Cmp x2 x3 h0 h1 h2 h3 h4
            · refine Con.cond vt3 _ _ _ (fun h6 => ?_) (fun h6 => ?_)
              · have e6 := eq_of_beq h6; subst e6
                refine Con.cond vt3 _ _ _ (fun h7 => ?_) (fun h7 => ?_)
                · subst h7
                  exact p8_alu_Cmp x2 x3 h0 h1 h2 h3 h4 h5
                · subst h7
                  exact p9_alu_Cmp x2 x3 h0 h1 h2 h3 h4 h5
              · refine Con.cond vt3 _ _ _ (fun h7 => ?_) (fun h7 => ?_)
                · have e7 := eq_of_beq h7; subst e7
                  refine Con.cond vt3 _ _ _ (fun h8 => ?_) (fun h8 => ?_)
                  · subst h8
                    exact p10_alu_Cmp x2 x3 h0 h1 h2 h3 h4 h5 h6
                  · subst h8
                    exact p11_alu_Cmp x2 x3 h0 h1 h2 h3 h4 h5 h6
                · refine Con.cond vt3 _ _ _ (fun h8 => ?_) (fun h8 => ?_)
                  · have e8 := eq_of_beq h8; subst e8
                    refine Con.cond vt3 _ _ _ (fun h9 => ?_) (fun h9 => ?_)
                    · subst h9
                      exact p12_alu_Cmp x2 x3 h0 h1 h2 h3 h4 h5 h6 h7
                    · subst h9
                      exact p13_alu_Cmp x2 x3 h0 h1 h2 h3 h4 h5 h6 h7
                  · refine Con.cond vt3 _ _ _ (fun h9 => ?_) (fun h9 => ?_)
                    · have e9 := eq_of_beq h9; subst e9
                      refine Con.cond vt3 _ _ _ (fun h10 => ?_) (fun h10 => ?_)
                      · subst h10
                        exact p14_alu_Cmp x2 x3 h0 h1 h2 h3 h4 h5 h6 h7 h8
                      · subst h10
                        exact p15_alu_Cmp x2 x3 h0 h1 h2 h3 h4 h5 h6 h7 h8
                    · refine Con.cond vt3 _ _ _ (fun h10 => ?_) (fun h10 => ?_)
                      · have e10 := eq_of_beq h10; subst e10
                        exact p16_alu_Cmp x1 x2 x3 h0 h1 h2 h3 h4 h5 h6 h7 h8 h9
                      · refine Con.cond vt3 _ _ _ (fun h11 => ?_) (fun h11 => ?_)
                        · have e11 := eq_of_beq h11; subst e11
                          exact p17_alu_Cmp x1 x2 x3 h0 h1 h2 h3 h4 h5 h6 h7 h8 h9 h10
                        · refine Con.cond vt3 _ _ _ (fun h12 => ?_) (fun h12 => ?_)
                          · have e12 := eq_of_beq h12; subst e12
                            refine Con.cond vt3 _ _ _ (fun h13 => ?_) (fun h13 => ?_)
                            · subst h13
                              exact p18_alu_Cmp x2 x3 h0 h1 h2 h3 h4 h5 h6 h7 h8 h9 h10 h11
                            · subst h13
                              exact p19_alu_Cmp x2 x3 h0 h1 h2 h3 h4 h5 h6 h7 h8 h9 h10 h11
                          · refine Con.cond vt3 _ _ _ (fun h13 => ?_) (fun h13 => ?_)
                            · have e13 := eq_of_beq h13; subst e13
                              refine Con.cond vt3 _ _ _ (fun h14 => ?_) (fun h14 => ?_)
                              · subst h14
                                exact p20_alu_Cmp x2 x3 h0 h1 h2 h3 h4 h5 h6 h7 h8 h9 h10 h11 h12
                              · subst h14
                                exact p21_alu_Cmp x2 x3 h0 h1 h2 h3 h4 h5 h6 h7 h8 h9 h10 h11 h12
                            · refine Con.cond vt3 _ _ _ (fun h14 => ?_) (fun h14 => ?_)
                              · have e14 := eq_of_beq h14; subst e14
                                refine Con.cond vt3 _ _ _ (fun h15 => ?_) (fun h15 => ?_)
                                · subst h15
                                  exact p22_alu_Cmp x2 x3 h0 h1 h2 h3 h4 h5 h6 h7 h8 h9 h10 h11 h12 h13
                                · subst h15
                                  exact p23_alu_Cmp x2 x3 h0 h1 h2 h3 h4 h5 h6 h7 h8 h9 h10 h11 h12 h13
                              · refine Con.cond vt3 _ _ _ (fun h15 => ?_) (fun h15 => ?_)
                                · have e15 := eq_of_beq h15; subst e15
                                  refine Con.cond vt3 _ _ _ (fun h16 => ?_) (fun h16 => ?_)
                                  · subst h16
                                    exact p24_alu_Cmp x2 x3 h0 h1 h2 h3 h4 h5 h6 h7 h8 h9 h10 h11 h12 h13 h14
                                  · subst h16
                                    exact p25_alu_Cmp x2 x3 h0 h1 h2 h3 h4 h5 h6 h7 h8 h9 h10 h11 h12 h13 h14
                                · exact (out_of 14 (by decide) x0 h0 h1 (fun k hk => match k, hk with | 0, _ => h2 | 1, _ => h3 | 2, _ => h4 | 3, _ => h5 | 4, _ => h6 | 5, _ => h7 | 6, _ => h8 | 7, _ => h9 | 8, _ => h10 | 9, _ => h11 | 10, _ => h12 | 11, _ => h13 | 12, _ => h14 | 13, _ => h15 | k + 14, hk => absurd hk (by omega))).elim
    · exact p27_alu_Cmp x0 x1 x2 x3 h0 h1
end Go.Proofs.YtmhiiahfjoijgaaGreat
