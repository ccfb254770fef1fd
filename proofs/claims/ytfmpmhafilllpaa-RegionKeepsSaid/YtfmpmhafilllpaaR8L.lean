/-
  The law on bytes, by the program's text.
-/
import Derived.Test.YtfmpmhafilllpaaR8E
namespace Go.Proofs.Ytfmpmhafilllpaa
open Go.RowKit
set_option linter.unusedVariables false
set_option linter.unusedSimpArgs false
set_option linter.unusedSectionVars false
set_option maxRecDepth 100000
set_option maxHeartbeats 4000000
theorem eqi28 (d : Nat) (a0 b0 : Int) (a1 b1 : BitVec 64) (a2 b2 : Int) (a3 b3 : Int) (w : World) : (Op.equalIn (d + 2) 28 (.agg #[.int .i64 (a0), .int .u64 (nn a1), .int .i64 (a2), .int .i64 (a3)]) (.agg #[.int .i64 (b0), .int .u64 (nn b1), .int .i64 (b2), .int .i64 (b3)])).run Try.prog w = .ok ((a0 == b0) && ((a1 == b1) && ((a2 == b2) && (a3 == b3)))) w :=
  eqi_of (d := d + 1) (l := [fl Try.prog 28 0, fl Try.prog 28 1, fl Try.prog 28 2, fl Try.prog 28 3]) (by kernel_rfl) (by kernel_rfl) (by kernel_rfl) (eqf_cons (f := fl Try.prog 28 0) (a := .int .i64 (a0)) (b := .int .i64 (b0)) (by kernel_rfl) (by kernel_rfl) (by kernel_rfl) (eq_z (d := d + 0) (k' := .i64) a0 b0 (by kernel_rfl)) (eqf_cons (f := fl Try.prog 28 1) (a := .int .u64 (nn a1)) (b := .int .u64 (nn b1)) (by kernel_rfl) (by kernel_rfl) (by kernel_rfl) (eq_u (d := d + 0) (k' := .u64) a1 b1 (by kernel_rfl)) (eqf_cons (f := fl Try.prog 28 2) (a := .int .i64 (a2)) (b := .int .i64 (b2)) (by kernel_rfl) (by kernel_rfl) (by kernel_rfl) (eq_z (d := d + 0) (k' := .i64) a2 b2 (by kernel_rfl)) (eqf_last (f := fl Try.prog 28 3) (a := .int .i64 (a3)) (b := .int .i64 (b3)) (by kernel_rfl) (by kernel_rfl) (by kernel_rfl) (eq_z (d := d + 0) (k' := .i64) a3 b3 (by kernel_rfl)) ))))
inductive R_slices_Clone_byte_byte_v1 where
  | e0 (c0_0 : Nat → BitVec 8)
noncomputable def m_slices_Clone_byte_byte_v1  : Option R_slices_Clone_byte_byte_v1 :=
  bindT (appL (fun _ => 0#8) 0 [0#8, 0#8, 0#8, 0#8, 0#8, 0#8, 0#8, 0#8, 0#8, 0#8, 0#8, 0#8, 0#8, 0#8, 0#8, 0#8, 0#8, 0#8, 0#8, 0#8, 0#8, 0#8, 0#8, 0#8, 0#8, 0#8, 0#8, 0#8]) fun r0 =>
  some (.e0 r0)
def sq0_slices_Clone_byte_byte_v1  (c0_0 : Nat → BitVec 8) : Spc := ⟨fun ls => .call 50 #[.slice (some ⟨(lget ls 0).n, 0, none⟩) 28 28], fun ls => [.cells #[.int .u8 (0), .int .u8 (0), .int .u8 (0), .int .u8 (0), .int .u8 (0), .int .u8 (0), .int .u8 (0), .int .u8 (0), .int .u8 (0), .int .u8 (0), .int .u8 (0), .int .u8 (0), .int .u8 (0), .int .u8 (0), .int .u8 (0), .int .u8 (0), .int .u8 (0), .int .u8 (0), .int .u8 (0), .int .u8 (0), .int .u8 (0), .int .u8 (0), .int .u8 (0), .int .u8 (0), .int .u8 (0), .int .u8 (0), .int .u8 (0), .int .u8 (0)] 5], 1, .normal, fun ls => [(rowV (lget ls 1) 28 1)], fun ls => [.cells #[.int .u8 (0), .int .u8 (0), .int .u8 (0), .int .u8 (0), .int .u8 (0), .int .u8 (0), .int .u8 (0), .int .u8 (0), .int .u8 (0), .int .u8 (0), .int .u8 (0), .int .u8 (0), .int .u8 (0), .int .u8 (0), .int .u8 (0), .int .u8 (0), .int .u8 (0), .int .u8 (0), .int .u8 (0), .int .u8 (0), .int .u8 (0), .int .u8 (0), .int .u8 (0), .int .u8 (0), .int .u8 (0), .int .u8 (0), .int .u8 (0), .int .u8 (0)] 5], fun ls => [rowO (lget ls 1) (esG cu8 28 c0_0) 5 28 1]⟩
section
variable {M : Nat → Prop} {B0 : Nat} {S : World → Prop} (hU : Up M B0 S)
include hU
theorem ok0_slices_Clone_byte_byte_v1 (c0_0 : Nat → BitVec 8) (e : m_slices_Clone_byte_byte_v1  = some (.e0 c0_0)) : SpcG Try.prog M B0 S (sq0_slices_Clone_byte_byte_v1  c0_0) := by
  unfold m_slices_Clone_byte_byte_v1 at e
  replace e := bindT_eq e
  obtain ⟨r0, e_r0, e⟩ := e
  try dsimp only at e
  injection e with e; injection e with i0; subst i0; exact fn_specG hU (P := Try.prog) Try.func50 (fun xs w => by kernel_rfl) 1 _ _ (fun _ => rfl) _ _ _ [2] [.o, .o, .o, .o, .o, .x (sqAppLr_ok (ty := 34) rt34 #[false, false] (f := cu8) (N := 0) (A := (fun _ => 0#8)) (c := 28) [0#8, 0#8, 0#8, 0#8, 0#8, 0#8, 0#8, 0#8, 0#8, 0#8, 0#8, 0#8, 0#8, 0#8, 0#8, 0#8, 0#8, 0#8, 0#8, 0#8, 0#8, 0#8, 0#8, 0#8, 0#8, 0#8, 0#8, 0#8] (T' := 5) .plain cu8_len cu8_one (by decide) rfl (by decide) e_r0) [1, 0], .o] [] (fun b => by kernel_rfl)
inductive R_region_Mem_Add_v1 where
  | e0 (c0_0 : Nat → BitVec 8) (c0_1 : Int)
noncomputable def m_region_Mem_Add_v1 (y2 : Bool) (y3 : Int) : Option R_region_Mem_Add_v1 :=
  (m_slices_Clone_byte_byte_v1).bind fun g0 => match g0 with
  | .e0 g0_0 =>
  some (.e0 g0_0 (if 28 < (if y3 < 0 then 0 else y3) then 28 else (if y3 < 0 then 0 else y3)))
def sq0_region_Mem_Add_v1 (y2 : Bool) (y3 : Int) (c0_0 : Nat → BitVec 8) (c0_1 : Int) : Spc := ⟨fun ls => .call 20 #[.pointer (some ⟨(lget ls 0).n, 0, none⟩), .slice (some ⟨(lget ls 2).n, 0, none⟩) 28 28, .bool (y2), .int .i64 (y3)], fun ls => [.cells #[.map (some (lget ls 1).n), .int .i64 (0)] 91, .map #[] 0, .cells #[.int .u8 (0), .int .u8 (0), .int .u8 (0), .int .u8 (0), .int .u8 (0), .int .u8 (0), .int .u8 (0), .int .u8 (0), .int .u8 (0), .int .u8 (0), .int .u8 (0), .int .u8 (0), .int .u8 (0), .int .u8 (0), .int .u8 (0), .int .u8 (0), .int .u8 (0), .int .u8 (0), .int .u8 (0), .int .u8 (0), .int .u8 (0), .int .u8 (0), .int .u8 (0), .int .u8 (0), .int .u8 (0), .int .u8 (0), .int .u8 (0), .int .u8 (0)] 5], 2, .normal, fun ls => [.int .i64 (1)], fun ls => [.cells #[.map (some (lget ls 1).n), .int .i64 (1)] 91, .map #[⟨.int .i64 (1), .iface 107 (.pointer (some ⟨(lget ls 3).n, 0, none⟩)), 0⟩] 1, .cells #[.int .u8 (0), .int .u8 (0), .int .u8 (0), .int .u8 (0), .int .u8 (0), .int .u8 (0), .int .u8 (0), .int .u8 (0), .int .u8 (0), .int .u8 (0), .int .u8 (0), .int .u8 (0), .int .u8 (0), .int .u8 (0), .int .u8 (0), .int .u8 (0), .int .u8 (0), .int .u8 (0), .int .u8 (0), .int .u8 (0), .int .u8 (0), .int .u8 (0), .int .u8 (0), .int .u8 (0), .int .u8 (0), .int .u8 (0), .int .u8 (0), .int .u8 (0)] 5], fun ls => [.cells #[(rowV (lget ls 4) 28 1), .bool (y2), .int .i64 (c0_1), .bool false] 110, rowO (lget ls 4) (esG cu8 28 c0_0) 5 28 1]⟩
theorem ok0_region_Mem_Add_v1 (y2 : Bool) (y3 : Int) (c0_0 : Nat → BitVec 8) (c0_1 : Int) (e : m_region_Mem_Add_v1 y2 y3 = some (.e0 c0_0 c0_1)) : SpcG Try.prog M B0 S (sq0_region_Mem_Add_v1 y2 y3 c0_0 c0_1) := by
  unfold m_region_Mem_Add_v1 at e
  replace e := bindO_eq e
  obtain ⟨g0, e_g0, e⟩ := e
  obtain ⟨g0_0⟩ := g0
  try dsimp only at e
  injection e with e; injection e with i0 i1; subst i0 i1; exact fn_specG hU (P := Try.prog) Try.func20 (fun xs w => by kernel_rfl) 3 _ _ (fun _ => rfl) _ _ _ [4, 3] [.o, .o, .o, .o, .o, .o, .o, .o, .o, .xg (ok0_slices_Clone_byte_byte_v1 hU  g0_0 e_g0) [2], .o, .o, .o, .o, .o, .xg (p0_region_Mem_add_v1 hU 28 y2 (if 28 < (if y3 < 0 then 0 else y3) then 28 else (if y3 < 0 then 0 else y3)) false g0_0 ) [0, 1, 4, 3], .o] [] (fun b => by kernel_rfl)
inductive Sh_barbicanlaw8_RegionLittle_L0_L1v2 where
  | c0 (sb0_0 : Bool) (sb0_1 : Int)
inductive Ex_barbicanlaw8_RegionLittle_L0_L1v2 where
  | e0 (c0_0 : Bool) (c0_1 : Int) (c0_2 : Int) (c0_3 : Int)
  | e1 (c1_0 : Bool)
noncomputable def st_barbicanlaw8_RegionLittle_L0_L1v2 (y0 : BitVec 64) (y1 : Int) (g0_1 : Int) (g1_0 : Nat → BitVec 8) (g1_1 : Bool) (s0_1 : Int) : Sh_barbicanlaw8_RegionLittle_L0_L1v2 → Option (Sh_barbicanlaw8_RegionLittle_L0_L1v2 ⊕ Ex_barbicanlaw8_RegionLittle_L0_L1v2)
  | .c0 sb0_0 sb0_1 =>
    bif decide ((IntKind.i64.wrap (sb0_1 + s0_1)) ≤ 8) then
      ((m_region_Mem_Load_v2 s0_1 (IntKind.i64.wrap (y1 + sb0_1)) 28 g1_1 g0_1 sb0_0 g1_0).bind fun gc0 => match gc0 with
      | .e0 gc0_0 gc0_1 gc0_2 gc0_3 gc0_4 gc0_5 =>
      bif decide (0 ≤ (IntKind.i64.wrap (8 * sb0_1))) then
        (bif decide (s0_1 < 8) then
          (bif decide (0 ≤ (IntKind.i64.wrap (8 * s0_1))) then
            (bif (1#64 <<< ((IntKind.i64.wrap (8 * s0_1))).toNat) == 0#64 then
              (none)
            else (bif gc0_5 == 0 then
              (bif ((gc0_1 == 1) && ((gc0_2 == ((y0 >>> ((IntKind.i64.wrap (8 * sb0_1))).toNat) % (1#64 <<< ((IntKind.i64.wrap (8 * s0_1))).toNat))) && ((gc0_3 == 0) && (gc0_4 == 0)))) then
                (some (.inl (.c0 gc0_0 (IntKind.i64.wrap (sb0_1 + s0_1)))))
              else (some (.inr (.e1 gc0_0))))
            else (some (.inr (.e1 gc0_0)))))
          else (none))
        else (bif gc0_5 == 0 then
          (bif ((gc0_1 == 1) && ((gc0_2 == (y0 >>> ((IntKind.i64.wrap (8 * sb0_1))).toNat)) && ((gc0_3 == 0) && (gc0_4 == 0)))) then
            (some (.inl (.c0 gc0_0 (IntKind.i64.wrap (sb0_1 + s0_1)))))
          else (some (.inr (.e1 gc0_0))))
        else (some (.inr (.e1 gc0_0)))))
      else (none))
    else (some (.inr (.e0 sb0_0 sb0_1 sb0_1 (IntKind.i64.wrap (sb0_1 + s0_1)))))
noncomputable def bd_barbicanlaw8_RegionLittle_L0_L1v2 : Code := codeOf Try.f5 [1, 1, 1, 1, 1, 1, 1, 0, 1, 0, 0, 1, 0, 0, 1, 0, 0]
def fl_barbicanlaw8_RegionLittle_L0_L1v2 (y0 : BitVec 64) (y1 : Int) (g0_0 : Nat → BitVec 8) (g0_1 : Int) (g1_0 : Nat → BitVec 8) (g1_1 : Bool) (g1_2 : Bool) (g1_3 : Int) (s0_0 : Bool) (s0_1 : Int) : Sh_barbicanlaw8_RegionLittle_L0_L1v2 → List L1 → List Value
  | .c0 sb0_0 sb0_1, ls => [.int .u64 (nn y0), .int .i64 (y1), .bool false, .pointer (some ⟨(lget ls 0).n, 0, none⟩), .int .i64 (1), .int .i64 (s0_1), .int .i64 (sb0_1), .int .i64 (s0_1), .bool true, ((lget ls 6).u 36), ((lget ls 6).u 37)]
def mf_barbicanlaw8_RegionLittle_L0_L1v2 : Sh_barbicanlaw8_RegionLittle_L0_L1v2 → List (Nat × Nat)
  | .c0 _ _ => [(2, 2), (3, 1), (2, 24), (4, 37)]
noncomputable def fr_barbicanlaw8_RegionLittle_L0_L1v2 (y0 : BitVec 64) (y1 : Int) (g0_0 : Nat → BitVec 8) (g0_1 : Int) (g1_0 : Nat → BitVec 8) (g1_1 : Bool) (g1_2 : Bool) (g1_3 : Int) (s0_0 : Bool) (s0_1 : Int) (s : Sh_barbicanlaw8_RegionLittle_L0_L1v2) : List L1 → List Value := mrgF (mf_barbicanlaw8_RegionLittle_L0_L1v2 s) (fl_barbicanlaw8_RegionLittle_L0_L1v2 y0 y1 g0_0 g0_1 g1_0 g1_1 g1_2 g1_3 s0_0 s0_1 s) 7
def Hs_barbicanlaw8_RegionLittle_L0_L1v2 (y0 : BitVec 64) (y1 : Int) (g0_0 : Nat → BitVec 8) (g0_1 : Int) (g1_0 : Nat → BitVec 8) (g1_1 : Bool) (g1_2 : Bool) (g1_3 : Int) (s0_0 : Bool) (s0_1 : Int) : Sh_barbicanlaw8_RegionLittle_L0_L1v2 → List L1 → List Obj
  | .c0 sb0_0 sb0_1, ls => [.cells #[.map (some (lget ls 1).n), .int .i64 (1)] 91, .map #[⟨.int .i64 (1), .iface 107 (.pointer (some ⟨(lget ls 3).n, 0, none⟩)), 0⟩] 1, .cells #[.int .u8 (0), .int .u8 (0), .int .u8 (0), .int .u8 (0), .int .u8 (0), .int .u8 (0), .int .u8 (0), .int .u8 (0), .int .u8 (0), .int .u8 (0), .int .u8 (0), .int .u8 (0), .int .u8 (0), .int .u8 (0), .int .u8 (0), .int .u8 (0), .int .u8 (0), .int .u8 (0), .int .u8 (0), .int .u8 (0), .int .u8 (0), .int .u8 (0), .int .u8 (0), .int .u8 (0), .int .u8 (0), .int .u8 (0), .int .u8 (0), .int .u8 (0)] 5, .cells #[(rowV (lget ls 4) 28 1), .bool (g1_1), .int .i64 (g0_1), .bool (sb0_0)] 110, rowO (lget ls 4) (esG cu8 28 g1_0) 5 28 1, .cells #[.int .i64 (5), .int .u64 (0), .int .i64 (1), .int .i64 (y1)] 28, unb, unb]
def vl_barbicanlaw8_RegionLittle_L0_L1v2 (y0 : BitVec 64) (y1 : Int) (g0_0 : Nat → BitVec 8) (g0_1 : Int) (g1_0 : Nat → BitVec 8) (g1_1 : Bool) (g1_2 : Bool) (g1_3 : Int) (s0_0 : Bool) (s0_1 : Int) : Ex_barbicanlaw8_RegionLittle_L0_L1v2 → List L1 → List Value
  | .e0 c0_0 c0_1 c0_2 c0_3, ls => [.int .u64 (nn y0), .int .i64 (y1), .bool false, .pointer (some ⟨(lget ls 0).n, 0, none⟩), .int .i64 (1), .int .i64 (s0_1), .int .i64 (c0_1), .int .i64 (s0_1), .bool true, ((lget ls 6).u 36), ((lget ls 6).u 37), .int .i64 (c0_2), .int .i64 (s0_1), .int .i64 (c0_3), .bool false]
  | .e1 c1_0, ls => [.int .u64 (nn y0), .int .i64 (y1), .bool false, .pointer (some ⟨(lget ls 0).n, 0, none⟩), .int .i64 (1), .int .i64 (s0_1), .int .i64 (s0_1), .bool true, ((lget ls 6).u 36), ((lget ls 6).u 37)]
def mk_barbicanlaw8_RegionLittle_L0_L1v2 : Ex_barbicanlaw8_RegionLittle_L0_L1v2 → List (Nat × Nat)
  | .e0 _ _ _ _ => [(2, 2), (3, 1), (2, 24), (8, 33)]
  | .e1 _ => [(2, 2), (3, 1), (1, 25), (4, 37)]
noncomputable def vf_barbicanlaw8_RegionLittle_L0_L1v2 (y0 : BitVec 64) (y1 : Int) (g0_0 : Nat → BitVec 8) (g0_1 : Int) (g1_0 : Nat → BitVec 8) (g1_1 : Bool) (g1_2 : Bool) (g1_3 : Int) (s0_0 : Bool) (s0_1 : Int) (r : Ex_barbicanlaw8_RegionLittle_L0_L1v2) : List L1 → List Value := mrgF (mk_barbicanlaw8_RegionLittle_L0_L1v2 r) (vl_barbicanlaw8_RegionLittle_L0_L1v2 y0 y1 g0_0 g0_1 g1_0 g1_1 g1_2 g1_3 s0_0 s0_1 r) 7
def Hf_barbicanlaw8_RegionLittle_L0_L1v2 (y0 : BitVec 64) (y1 : Int) (g0_0 : Nat → BitVec 8) (g0_1 : Int) (g1_0 : Nat → BitVec 8) (g1_1 : Bool) (g1_2 : Bool) (g1_3 : Int) (s0_0 : Bool) (s0_1 : Int) : Ex_barbicanlaw8_RegionLittle_L0_L1v2 → List L1 → List Obj
  | .e0 c0_0 c0_1 c0_2 c0_3, ls => [.cells #[.map (some (lget ls 1).n), .int .i64 (1)] 91, .map #[⟨.int .i64 (1), .iface 107 (.pointer (some ⟨(lget ls 3).n, 0, none⟩)), 0⟩] 1, .cells #[.int .u8 (0), .int .u8 (0), .int .u8 (0), .int .u8 (0), .int .u8 (0), .int .u8 (0), .int .u8 (0), .int .u8 (0), .int .u8 (0), .int .u8 (0), .int .u8 (0), .int .u8 (0), .int .u8 (0), .int .u8 (0), .int .u8 (0), .int .u8 (0), .int .u8 (0), .int .u8 (0), .int .u8 (0), .int .u8 (0), .int .u8 (0), .int .u8 (0), .int .u8 (0), .int .u8 (0), .int .u8 (0), .int .u8 (0), .int .u8 (0), .int .u8 (0)] 5, .cells #[(rowV (lget ls 4) 28 1), .bool (g1_1), .int .i64 (g0_1), .bool (c0_0)] 110, rowO (lget ls 4) (esG cu8 28 g1_0) 5 28 1, .cells #[.int .i64 (5), .int .u64 (0), .int .i64 (1), .int .i64 (y1)] 28, unb, unb]
  | .e1 c1_0, ls => [.cells #[.map (some (lget ls 1).n), .int .i64 (1)] 91, .map #[⟨.int .i64 (1), .iface 107 (.pointer (some ⟨(lget ls 3).n, 0, none⟩)), 0⟩] 1, .cells #[.int .u8 (0), .int .u8 (0), .int .u8 (0), .int .u8 (0), .int .u8 (0), .int .u8 (0), .int .u8 (0), .int .u8 (0), .int .u8 (0), .int .u8 (0), .int .u8 (0), .int .u8 (0), .int .u8 (0), .int .u8 (0), .int .u8 (0), .int .u8 (0), .int .u8 (0), .int .u8 (0), .int .u8 (0), .int .u8 (0), .int .u8 (0), .int .u8 (0), .int .u8 (0), .int .u8 (0), .int .u8 (0), .int .u8 (0), .int .u8 (0), .int .u8 (0)] 5, .cells #[(rowV (lget ls 4) 28 1), .bool (g1_1), .int .i64 (g0_1), .bool (c1_0)] 110, rowO (lget ls 4) (esG cu8 28 g1_0) 5 28 1, .cells #[.int .i64 (5), .int .u64 (0), .int .i64 (1), .int .i64 (y1)] 28, unb, unb]
def ex_barbicanlaw8_RegionLittle_L0_L1v2 : Ex_barbicanlaw8_RegionLittle_L0_L1v2 → Ex
  | .e0 _ _ _ _ => (.exit 2)
  | .e1 _ => .ret
end
section
variable {M : Nat → Prop} {B0 : Nat} {S : World → Prop} (hU : Up M B0 S) (y0 : BitVec 64) (y1 : Int) (g0_0 : Nat → BitVec 8) (g0_1 : Int) (g1_0 : Nat → BitVec 8) (g1_1 : Bool) (g1_2 : Bool) (g1_3 : Int) (s0_0 : Bool) (s0_1 : Int)
include hU y0 y1 g0_0 g0_1 g1_0 g1_1 g1_2 g1_3 s0_0 s0_1
theorem go_barbicanlaw8_RegionLittle_L0_L1v2 (s : Sh_barbicanlaw8_RegionLittle_L0_L1v2) (r : Ex_barbicanlaw8_RegionLittle_L0_L1v2) (h : lpO (st_barbicanlaw8_RegionLittle_L0_L1v2 y0 y1 g0_1 g1_0 g1_1 s0_1) s = some r) : GoesG Try.prog M B0 S (.loop bd_barbicanlaw8_RegionLittle_L0_L1v2) 8 (fr_barbicanlaw8_RegionLittle_L0_L1v2 y0 y1 g0_0 g0_1 g1_0 g1_1 g1_2 g1_3 s0_0 s0_1 s) (Hs_barbicanlaw8_RegionLittle_L0_L1v2 y0 y1 g0_0 g0_1 g1_0 g1_1 g1_2 g1_3 s0_0 s0_1 s) (ex_barbicanlaw8_RegionLittle_L0_L1v2 r) 7 (vf_barbicanlaw8_RegionLittle_L0_L1v2 y0 y1 g0_0 g0_1 g1_0 g1_1 g1_2 g1_3 s0_0 s0_1 r) (Hf_barbicanlaw8_RegionLittle_L0_L1v2 y0 y1 g0_0 g0_1 g1_0 g1_1 g1_2 g1_3 s0_0 s0_1 r) 8 :=
  goes_lpO (fun s q e => by
    cases s with
    | c0 sb0_0 sb0_1 =>
      unfold st_barbicanlaw8_RegionLittle_L0_L1v2 at e
      dsimp only at e
      replace e := cond_eq_or e
      rcases e with ⟨hq0, e⟩ | ⟨hq0, e⟩
      · replace e := bindO_eq e
        obtain ⟨gc0, e_gc0, e⟩ := e
        obtain ⟨gc0_0, gc0_1, gc0_2, gc0_3, gc0_4, gc0_5⟩ := gc0
        try dsimp only at e
        replace e := cond_eq_or e
        rcases e with ⟨hq1, e⟩ | ⟨hq1, e⟩
        · replace e := cond_eq_or e
          rcases e with ⟨hq2, e⟩ | ⟨hq2, e⟩
          · replace e := cond_eq_or e
            rcases e with ⟨hq3, e⟩ | ⟨hq3, e⟩
            · replace e := cond_eq_or e
              rcases e with ⟨hq4, e⟩ | ⟨hq4, e⟩
              · exact none_some e
              · replace e := cond_eq_or e
                rcases e with ⟨hq5, e⟩ | ⟨hq5, e⟩
                · replace e := cond_eq_or e
                  rcases e with ⟨hq6, e⟩ | ⟨hq6, e⟩
                  · cases e; exact goes_runM hU [.o, .o, .o, .b (z_leqT hq0), .o, .o, .o, .o, .o, .o, .o, .xg (ok0_region_Mem_Load_v2 hU s0_1 (IntKind.i64.wrap (y1 + sb0_1)) 28 g1_1 g0_1 sb0_0 g1_0 gc0_0 gc0_1 gc0_2 gc0_3 gc0_4 gc0_5 e_gc0) [0, 1, 3, 4], .o, .o, .o, .o, .a 8, .o, .o, .o, .o, .ov (u64_shr Try.prog 22 (.tmp 56) (.tmp 58) y0 ((IntKind.i64.wrap (8 * sb0_1))).toNat .i64 (z_pos hq1)), .o, .o, .b (z_lssT hq2), .o, .o, .o, .ov (u64_shl Try.prog 22 (.const (.int .u64 (1))) (.tmp 64) (1#64) ((IntKind.i64.wrap (8 * s0_1))).toNat .i64 (z_pos hq3)), .ov (u64_rem Try.prog 22 (.tmp 62) (.tmp 65) (y0 >>> ((IntKind.i64.wrap (8 * sb0_1))).toNat) (1#64 <<< ((IntKind.i64.wrap (8 * s0_1))).toNat) (u_nz hq4)), .o, .o, .b (z_neqT hq5), .o, .a 8, .o, .o, .ov (fun w => (run_aggeq 28 #[.int .i64 (gc0_1), .int .u64 (nn gc0_2), .int .i64 (gc0_3), .int .i64 (gc0_4)] #[.int .i64 (1), .int .u64 (nn ((y0 >>> ((IntKind.i64.wrap (8 * sb0_1))).toNat) % (1#64 <<< ((IntKind.i64.wrap (8 * s0_1))).toNat))), .int .i64 (0), .int .i64 (0)] true (by kernel_rfl) (fun w => (eqi28 9998 gc0_1 1 gc0_2 ((y0 >>> ((IntKind.i64.wrap (8 * sb0_1))).toNat) % (1#64 <<< ((IntKind.i64.wrap (8 * s0_1))).toNat)) gc0_3 0 gc0_4 0 w).trans (congrArg (fun b => Result.ok b w) hq6)) (.tmp 70) (.tmp 72) w).2), .o, .o, .o, .o, .o] [0, 1, 2, 3, 4, 5, 6] (fun b => rfl) (by decide) rfl rfl (fun b => by kernel_rfl)
                  · cases e; exact ⟨ne_ret, goes_runM hU [.o, .o, .o, .b (z_leqT hq0), .o, .o, .o, .o, .o, .o, .o, .xg (ok0_region_Mem_Load_v2 hU s0_1 (IntKind.i64.wrap (y1 + sb0_1)) 28 g1_1 g0_1 sb0_0 g1_0 gc0_0 gc0_1 gc0_2 gc0_3 gc0_4 gc0_5 e_gc0) [0, 1, 3, 4], .o, .o, .o, .o, .a 8, .o, .o, .o, .o, .ov (u64_shr Try.prog 22 (.tmp 56) (.tmp 58) y0 ((IntKind.i64.wrap (8 * sb0_1))).toNat .i64 (z_pos hq1)), .o, .o, .b (z_lssT hq2), .o, .o, .o, .ov (u64_shl Try.prog 22 (.const (.int .u64 (1))) (.tmp 64) (1#64) ((IntKind.i64.wrap (8 * s0_1))).toNat .i64 (z_pos hq3)), .ov (u64_rem Try.prog 22 (.tmp 62) (.tmp 65) (y0 >>> ((IntKind.i64.wrap (8 * sb0_1))).toNat) (1#64 <<< ((IntKind.i64.wrap (8 * s0_1))).toNat) (u_nz hq4)), .o, .o, .b (z_neqT hq5), .o, .a 8, .o, .o, .ov (fun w => (run_aggeq 28 #[.int .i64 (gc0_1), .int .u64 (nn gc0_2), .int .i64 (gc0_3), .int .i64 (gc0_4)] #[.int .i64 (1), .int .u64 (nn ((y0 >>> ((IntKind.i64.wrap (8 * sb0_1))).toNat) % (1#64 <<< ((IntKind.i64.wrap (8 * s0_1))).toNat))), .int .i64 (0), .int .i64 (0)] false (by kernel_rfl) (fun w => (eqi28 9998 gc0_1 1 gc0_2 ((y0 >>> ((IntKind.i64.wrap (8 * sb0_1))).toNat) % (1#64 <<< ((IntKind.i64.wrap (8 * s0_1))).toNat)) gc0_3 0 gc0_4 0 w).trans (congrArg (fun b => Result.ok b w) hq6)) (.tmp 70) (.tmp 72) w).2), .o, .o] [0, 1, 2, 3, 4, 5, 6] (fun b => rfl) (by decide) rfl rfl (fun b => by kernel_rfl)⟩
                · cases e; exact ⟨ne_ret, goes_runM hU [.o, .o, .o, .b (z_leqT hq0), .o, .o, .o, .o, .o, .o, .o, .xg (ok0_region_Mem_Load_v2 hU s0_1 (IntKind.i64.wrap (y1 + sb0_1)) 28 g1_1 g0_1 sb0_0 g1_0 gc0_0 gc0_1 gc0_2 gc0_3 gc0_4 gc0_5 e_gc0) [0, 1, 3, 4], .o, .o, .o, .o, .a 8, .o, .o, .o, .o, .ov (u64_shr Try.prog 22 (.tmp 56) (.tmp 58) y0 ((IntKind.i64.wrap (8 * sb0_1))).toNat .i64 (z_pos hq1)), .o, .o, .b (z_lssT hq2), .o, .o, .o, .ov (u64_shl Try.prog 22 (.const (.int .u64 (1))) (.tmp 64) (1#64) ((IntKind.i64.wrap (8 * s0_1))).toNat .i64 (z_pos hq3)), .ov (u64_rem Try.prog 22 (.tmp 62) (.tmp 65) (y0 >>> ((IntKind.i64.wrap (8 * sb0_1))).toNat) (1#64 <<< ((IntKind.i64.wrap (8 * s0_1))).toNat) (u_nz hq4)), .o, .o, .b (z_neqF hq5), .o, .o, .o] [0, 1, 2, 3, 4, 5, 6] (fun b => rfl) (by decide) rfl rfl (fun b => by kernel_rfl)⟩
            · exact none_some e
          · replace e := cond_eq_or e
            rcases e with ⟨hq3, e⟩ | ⟨hq3, e⟩
            · replace e := cond_eq_or e
              rcases e with ⟨hq4, e⟩ | ⟨hq4, e⟩
              · cases e; exact goes_runM hU [.o, .o, .o, .b (z_leqT hq0), .o, .o, .o, .o, .o, .o, .o, .xg (ok0_region_Mem_Load_v2 hU s0_1 (IntKind.i64.wrap (y1 + sb0_1)) 28 g1_1 g0_1 sb0_0 g1_0 gc0_0 gc0_1 gc0_2 gc0_3 gc0_4 gc0_5 e_gc0) [0, 1, 3, 4], .o, .o, .o, .o, .a 8, .o, .o, .o, .o, .ov (u64_shr Try.prog 22 (.tmp 56) (.tmp 58) y0 ((IntKind.i64.wrap (8 * sb0_1))).toNat .i64 (z_pos hq1)), .o, .o, .b (z_lssF hq2), .o, .b (z_neqT hq3), .o, .a 8, .o, .o, .ov (fun w => (run_aggeq 28 #[.int .i64 (gc0_1), .int .u64 (nn gc0_2), .int .i64 (gc0_3), .int .i64 (gc0_4)] #[.int .i64 (1), .int .u64 (nn (y0 >>> ((IntKind.i64.wrap (8 * sb0_1))).toNat)), .int .i64 (0), .int .i64 (0)] true (by kernel_rfl) (fun w => (eqi28 9998 gc0_1 1 gc0_2 (y0 >>> ((IntKind.i64.wrap (8 * sb0_1))).toNat) gc0_3 0 gc0_4 0 w).trans (congrArg (fun b => Result.ok b w) hq4)) (.tmp 70) (.tmp 72) w).2), .o, .o, .o, .o, .o] [0, 1, 2, 3, 4, 5, 6] (fun b => rfl) (by decide) rfl rfl (fun b => by kernel_rfl)
              · cases e; exact ⟨ne_ret, goes_runM hU [.o, .o, .o, .b (z_leqT hq0), .o, .o, .o, .o, .o, .o, .o, .xg (ok0_region_Mem_Load_v2 hU s0_1 (IntKind.i64.wrap (y1 + sb0_1)) 28 g1_1 g0_1 sb0_0 g1_0 gc0_0 gc0_1 gc0_2 gc0_3 gc0_4 gc0_5 e_gc0) [0, 1, 3, 4], .o, .o, .o, .o, .a 8, .o, .o, .o, .o, .ov (u64_shr Try.prog 22 (.tmp 56) (.tmp 58) y0 ((IntKind.i64.wrap (8 * sb0_1))).toNat .i64 (z_pos hq1)), .o, .o, .b (z_lssF hq2), .o, .b (z_neqT hq3), .o, .a 8, .o, .o, .ov (fun w => (run_aggeq 28 #[.int .i64 (gc0_1), .int .u64 (nn gc0_2), .int .i64 (gc0_3), .int .i64 (gc0_4)] #[.int .i64 (1), .int .u64 (nn (y0 >>> ((IntKind.i64.wrap (8 * sb0_1))).toNat)), .int .i64 (0), .int .i64 (0)] false (by kernel_rfl) (fun w => (eqi28 9998 gc0_1 1 gc0_2 (y0 >>> ((IntKind.i64.wrap (8 * sb0_1))).toNat) gc0_3 0 gc0_4 0 w).trans (congrArg (fun b => Result.ok b w) hq4)) (.tmp 70) (.tmp 72) w).2), .o, .o] [0, 1, 2, 3, 4, 5, 6] (fun b => rfl) (by decide) rfl rfl (fun b => by kernel_rfl)⟩
            · cases e; exact ⟨ne_ret, goes_runM hU [.o, .o, .o, .b (z_leqT hq0), .o, .o, .o, .o, .o, .o, .o, .xg (ok0_region_Mem_Load_v2 hU s0_1 (IntKind.i64.wrap (y1 + sb0_1)) 28 g1_1 g0_1 sb0_0 g1_0 gc0_0 gc0_1 gc0_2 gc0_3 gc0_4 gc0_5 e_gc0) [0, 1, 3, 4], .o, .o, .o, .o, .a 8, .o, .o, .o, .o, .ov (u64_shr Try.prog 22 (.tmp 56) (.tmp 58) y0 ((IntKind.i64.wrap (8 * sb0_1))).toNat .i64 (z_pos hq1)), .o, .o, .b (z_lssF hq2), .o, .b (z_neqF hq3), .o, .o, .o] [0, 1, 2, 3, 4, 5, 6] (fun b => rfl) (by decide) rfl rfl (fun b => by kernel_rfl)⟩
        · exact none_some e
      · cases e; exact ⟨ne_exit 2, goes_runM hU [.o, .o, .o, .b (z_leqF hq0)] [0, 1, 2, 3, 4, 5, 6] (fun b => rfl) (by decide) rfl rfl (fun b => by kernel_rfl)⟩) s r h
noncomputable def t0_barbicanlaw8_RegionLittle_L0_L1v2_0 (y0 : BitVec 64) (y1 : Int) (g0_0 : Nat → BitVec 8) (g0_1 : Int) (g1_0 : Nat → BitVec 8) (g1_1 : Bool) (g1_2 : Bool) (g1_3 : Int) (s0_0 : Bool) (s0_1 : Int) (sb0_0 : Bool) (sb0_1 : Int) (ls : List L1) : List Value := List.append [.int .u64 (nn y0), .int .i64 (y1), ((lget ls 6).u 2), ((lget ls 6).u 3), .bool false, .pointer (some ⟨(lget ls 0).n, 0, none⟩), .int .i64 (1), ((lget ls 6).u 7), .int .i64 (s0_1), .int .i64 (sb0_1)] (List.append (jks (lget ls 6).u 10 24) (List.append [.int .i64 (s0_1), .bool true] (jks (lget ls 6).u 36 39)))
def pre_barbicanlaw8_RegionLittle_L0_L1v2_0 (y0 : BitVec 64) (y1 : Int) (g0_0 : Nat → BitVec 8) (g0_1 : Int) (g1_0 : Nat → BitVec 8) (g1_1 : Bool) (g1_2 : Bool) (g1_3 : Int) (s0_0 : Bool) (s0_1 : Int) (sb0_0 : Bool) (sb0_1 : Int) (ls : List L1) : List Obj := [.cells #[.map (some (lget ls 1).n), .int .i64 (1)] 91, .map #[⟨.int .i64 (1), .iface 107 (.pointer (some ⟨(lget ls 3).n, 0, none⟩)), 0⟩] 1, .cells #[.int .u8 (0), .int .u8 (0), .int .u8 (0), .int .u8 (0), .int .u8 (0), .int .u8 (0), .int .u8 (0), .int .u8 (0), .int .u8 (0), .int .u8 (0), .int .u8 (0), .int .u8 (0), .int .u8 (0), .int .u8 (0), .int .u8 (0), .int .u8 (0), .int .u8 (0), .int .u8 (0), .int .u8 (0), .int .u8 (0), .int .u8 (0), .int .u8 (0), .int .u8 (0), .int .u8 (0), .int .u8 (0), .int .u8 (0), .int .u8 (0), .int .u8 (0)] 5, .cells #[(rowV (lget ls 4) 28 1), .bool (g1_1), .int .i64 (g0_1), .bool (sb0_0)] 110, rowO (lget ls 4) (esG cu8 28 g1_0) 5 28 1, .cells #[.int .i64 (5), .int .u64 (0), .int .i64 (1), .int .i64 (y1)] 28, unb]
theorem sp0_barbicanlaw8_RegionLittle_L0_L1v2_0_ok (sb0_0 : Bool) (sb0_1 : Int) (c0_0 : Bool) (c0_1 : Int) (c0_2 : Int) (c0_3 : Int) (h : lpO (st_barbicanlaw8_RegionLittle_L0_L1v2 y0 y1 g0_1 g1_0 g1_1 s0_1) (.c0 sb0_0 sb0_1) = some (.e0 c0_0 c0_1 c0_2 c0_3)) : SpcG Try.prog M B0 S ⟨fun ls => .code (.loop bd_barbicanlaw8_RegionLittle_L0_L1v2) (t0_barbicanlaw8_RegionLittle_L0_L1v2_0 y0 y1 g0_0 g0_1 g1_0 g1_1 g1_2 g1_3 s0_0 s0_1 sb0_0 sb0_1 ls), pre_barbicanlaw8_RegionLittle_L0_L1v2_0 y0 y1 g0_0 g0_1 g1_0 g1_1 g1_2 g1_3 s0_0 s0_1 sb0_0 sb0_1, 1, (.exit 2), fun ls => vf_barbicanlaw8_RegionLittle_L0_L1v2 y0 y1 g0_0 g0_1 g1_0 g1_1 g1_2 g1_3 s0_0 s0_1 (.e0 c0_0 c0_1 c0_2 c0_3) (ls.take 7 ++ ls.drop 7), fun ls => (Hf_barbicanlaw8_RegionLittle_L0_L1v2 y0 y1 g0_0 g0_1 g1_0 g1_1 g1_2 g1_3 s0_0 s0_1 (.e0 c0_0 c0_1 c0_2 c0_3) (ls.take 7 ++ ls.drop 7)).take 7 ++ List.replicate 0 unb, fun ls => (Hf_barbicanlaw8_RegionLittle_L0_L1v2 y0 y1 g0_0 g0_1 g1_0 g1_1 g1_2 g1_3 s0_0 s0_1 (.e0 c0_0 c0_1 c0_2 c0_3) (ls.take 7 ++ ls.drop 7)).drop 7⟩ :=
  spc_of_goesM hU 0 (k0 := 7) (go_barbicanlaw8_RegionLittle_L0_L1v2 hU y0 y1 g0_0 g0_1 g1_0 g1_1 g1_2 g1_3 s0_0 s0_1 _ _ h) (t0_barbicanlaw8_RegionLittle_L0_L1v2_0 y0 y1 g0_0 g0_1 g1_0 g1_1 g1_2 g1_3 s0_0 s0_1 sb0_0 sb0_1) (pre_barbicanlaw8_RegionLittle_L0_L1v2_0 y0 y1 g0_0 g0_1 g1_0 g1_1 g1_2 g1_3 s0_0 s0_1 sb0_0 sb0_1) (fun _ => rfl) (fun ls h => by match ls, h with | [l0, l1, l2, l3, l4, l5, l6], _ => exact ⟨by kernel_rfl, by kernel_rfl⟩) (fun ls h => by match ls, h with | [l0, l1, l2, l3, l4, l5, l6], _ => rfl) (by decide) (by decide) (fun ls => rfl)
theorem sp1_barbicanlaw8_RegionLittle_L0_L1v2_0_ok (sb0_0 : Bool) (sb0_1 : Int) (c1_0 : Bool) (h : lpO (st_barbicanlaw8_RegionLittle_L0_L1v2 y0 y1 g0_1 g1_0 g1_1 s0_1) (.c0 sb0_0 sb0_1) = some (.e1 c1_0)) : SpcG Try.prog M B0 S ⟨fun ls => .code (.loop bd_barbicanlaw8_RegionLittle_L0_L1v2) (t0_barbicanlaw8_RegionLittle_L0_L1v2_0 y0 y1 g0_0 g0_1 g1_0 g1_1 g1_2 g1_3 s0_0 s0_1 sb0_0 sb0_1 ls), pre_barbicanlaw8_RegionLittle_L0_L1v2_0 y0 y1 g0_0 g0_1 g1_0 g1_1 g1_2 g1_3 s0_0 s0_1 sb0_0 sb0_1, 1, .ret, fun ls => vf_barbicanlaw8_RegionLittle_L0_L1v2 y0 y1 g0_0 g0_1 g1_0 g1_1 g1_2 g1_3 s0_0 s0_1 (.e1 c1_0) (ls.take 7 ++ ls.drop 7), fun ls => (Hf_barbicanlaw8_RegionLittle_L0_L1v2 y0 y1 g0_0 g0_1 g1_0 g1_1 g1_2 g1_3 s0_0 s0_1 (.e1 c1_0) (ls.take 7 ++ ls.drop 7)).take 7 ++ List.replicate 0 unb, fun ls => (Hf_barbicanlaw8_RegionLittle_L0_L1v2 y0 y1 g0_0 g0_1 g1_0 g1_1 g1_2 g1_3 s0_0 s0_1 (.e1 c1_0) (ls.take 7 ++ ls.drop 7)).drop 7⟩ :=
  spc_of_goesM hU 0 (k0 := 7) (go_barbicanlaw8_RegionLittle_L0_L1v2 hU y0 y1 g0_0 g0_1 g1_0 g1_1 g1_2 g1_3 s0_0 s0_1 _ _ h) (t0_barbicanlaw8_RegionLittle_L0_L1v2_0 y0 y1 g0_0 g0_1 g1_0 g1_1 g1_2 g1_3 s0_0 s0_1 sb0_0 sb0_1) (pre_barbicanlaw8_RegionLittle_L0_L1v2_0 y0 y1 g0_0 g0_1 g1_0 g1_1 g1_2 g1_3 s0_0 s0_1 sb0_0 sb0_1) (fun _ => rfl) (fun ls h => by match ls, h with | [l0, l1, l2, l3, l4, l5, l6], _ => exact ⟨by kernel_rfl, by kernel_rfl⟩) (fun ls h => by match ls, h with | [l0, l1, l2, l3, l4, l5, l6], _ => rfl) (by decide) (by decide) (fun ls => rfl)
inductive Sh_barbicanlaw8_RegionLittle_L0 where
  | c0 (s0_0 : Bool) (s0_1 : Int)
inductive Ex_barbicanlaw8_RegionLittle_L0 where
  | e0 (c0_0 : Bool)
  | e1 (c1_0 : Bool)
noncomputable def st_barbicanlaw8_RegionLittle_L0 (y0 : BitVec 64) (y1 : Int) (g0_1 : Int) (g1_0 : Nat → BitVec 8) (g1_1 : Bool) : Sh_barbicanlaw8_RegionLittle_L0 → Option (Sh_barbicanlaw8_RegionLittle_L0 ⊕ Ex_barbicanlaw8_RegionLittle_L0)
  | .c0 s0_0 s0_1 =>
    bif decide (s0_1 ≤ 8) then
      ((lpO (st_barbicanlaw8_RegionLittle_L0_L1v2 y0 y1 g0_1 g1_0 g1_1 s0_1) (.c0 s0_0 0)).bind fun gb0 => match gb0 with
      | .e0 gb0_0 gb0_1 gb0_2 gb0_3 => (some (.inl (.c0 gb0_0 (IntKind.i64.wrap (s0_1 * 2)))))
      | .e1 gb0_0 => (some (.inr (.e1 gb0_0))))
    else (some (.inr (.e0 s0_0)))
noncomputable def bd_barbicanlaw8_RegionLittle_L0 : Code := codeOf Try.f5 [1, 1, 1, 1, 1, 1, 1, 0, 1, 0, 0]
def fl_barbicanlaw8_RegionLittle_L0 (y0 : BitVec 64) (y1 : Int) (g0_0 : Nat → BitVec 8) (g0_1 : Int) (g1_0 : Nat → BitVec 8) (g1_1 : Bool) (g1_2 : Bool) (g1_3 : Int) : Sh_barbicanlaw8_RegionLittle_L0 → List L1 → List Value
  | .c0 s0_0 s0_1, ls => [.int .u64 (nn y0), .int .i64 (y1), .bool false, .pointer (some ⟨(lget ls 0).n, 0, none⟩), .int .i64 (1), .int .i64 (s0_1)]
def mf_barbicanlaw8_RegionLittle_L0 : Sh_barbicanlaw8_RegionLittle_L0 → List (Nat × Nat)
  | .c0 _ _ => [(2, 2), (3, 1), (1, 66)]
noncomputable def fr_barbicanlaw8_RegionLittle_L0 (y0 : BitVec 64) (y1 : Int) (g0_0 : Nat → BitVec 8) (g0_1 : Int) (g1_0 : Nat → BitVec 8) (g1_1 : Bool) (g1_2 : Bool) (g1_3 : Int) (s : Sh_barbicanlaw8_RegionLittle_L0) : List L1 → List Value := mrgF (mf_barbicanlaw8_RegionLittle_L0 s) (fl_barbicanlaw8_RegionLittle_L0 y0 y1 g0_0 g0_1 g1_0 g1_1 g1_2 g1_3 s) 6
def Hs_barbicanlaw8_RegionLittle_L0 (y0 : BitVec 64) (y1 : Int) (g0_0 : Nat → BitVec 8) (g0_1 : Int) (g1_0 : Nat → BitVec 8) (g1_1 : Bool) (g1_2 : Bool) (g1_3 : Int) : Sh_barbicanlaw8_RegionLittle_L0 → List L1 → List Obj
  | .c0 s0_0 s0_1, ls => [.cells #[.map (some (lget ls 1).n), .int .i64 (1)] 91, .map #[⟨.int .i64 (1), .iface 107 (.pointer (some ⟨(lget ls 3).n, 0, none⟩)), 0⟩] 1, .cells #[.int .u8 (0), .int .u8 (0), .int .u8 (0), .int .u8 (0), .int .u8 (0), .int .u8 (0), .int .u8 (0), .int .u8 (0), .int .u8 (0), .int .u8 (0), .int .u8 (0), .int .u8 (0), .int .u8 (0), .int .u8 (0), .int .u8 (0), .int .u8 (0), .int .u8 (0), .int .u8 (0), .int .u8 (0), .int .u8 (0), .int .u8 (0), .int .u8 (0), .int .u8 (0), .int .u8 (0), .int .u8 (0), .int .u8 (0), .int .u8 (0), .int .u8 (0)] 5, .cells #[(rowV (lget ls 4) 28 1), .bool (g1_1), .int .i64 (g0_1), .bool (s0_0)] 110, rowO (lget ls 4) (esG cu8 28 g1_0) 5 28 1, .cells #[.int .i64 (5), .int .u64 (0), .int .i64 (1), .int .i64 (y1)] 28, unb]
def vl_barbicanlaw8_RegionLittle_L0 (y0 : BitVec 64) (y1 : Int) (g0_0 : Nat → BitVec 8) (g0_1 : Int) (g1_0 : Nat → BitVec 8) (g1_1 : Bool) (g1_2 : Bool) (g1_3 : Int) : Ex_barbicanlaw8_RegionLittle_L0 → List L1 → List Value
  | .e0 c0_0, ls => [.int .u64 (nn y0), .int .i64 (y1), .bool false, .pointer (some ⟨(lget ls 0).n, 0, none⟩), .int .i64 (1)]
  | .e1 c1_0, ls => [.int .u64 (nn y0), .int .i64 (y1), .bool false, .pointer (some ⟨(lget ls 0).n, 0, none⟩), .int .i64 (1)]
def mk_barbicanlaw8_RegionLittle_L0 : Ex_barbicanlaw8_RegionLittle_L0 → List (Nat × Nat)
  | .e0 _ => [(2, 2), (3, 68)]
  | .e1 _ => [(2, 2), (3, 68)]
noncomputable def vf_barbicanlaw8_RegionLittle_L0 (y0 : BitVec 64) (y1 : Int) (g0_0 : Nat → BitVec 8) (g0_1 : Int) (g1_0 : Nat → BitVec 8) (g1_1 : Bool) (g1_2 : Bool) (g1_3 : Int) (r : Ex_barbicanlaw8_RegionLittle_L0) : List L1 → List Value := mrgF (mk_barbicanlaw8_RegionLittle_L0 r) (vl_barbicanlaw8_RegionLittle_L0 y0 y1 g0_0 g0_1 g1_0 g1_1 g1_2 g1_3 r) 6
def Hf_barbicanlaw8_RegionLittle_L0 (y0 : BitVec 64) (y1 : Int) (g0_0 : Nat → BitVec 8) (g0_1 : Int) (g1_0 : Nat → BitVec 8) (g1_1 : Bool) (g1_2 : Bool) (g1_3 : Int) : Ex_barbicanlaw8_RegionLittle_L0 → List L1 → List Obj
  | .e0 c0_0, ls => [.cells #[.map (some (lget ls 1).n), .int .i64 (1)] 91, .map #[⟨.int .i64 (1), .iface 107 (.pointer (some ⟨(lget ls 3).n, 0, none⟩)), 0⟩] 1, .cells #[.int .u8 (0), .int .u8 (0), .int .u8 (0), .int .u8 (0), .int .u8 (0), .int .u8 (0), .int .u8 (0), .int .u8 (0), .int .u8 (0), .int .u8 (0), .int .u8 (0), .int .u8 (0), .int .u8 (0), .int .u8 (0), .int .u8 (0), .int .u8 (0), .int .u8 (0), .int .u8 (0), .int .u8 (0), .int .u8 (0), .int .u8 (0), .int .u8 (0), .int .u8 (0), .int .u8 (0), .int .u8 (0), .int .u8 (0), .int .u8 (0), .int .u8 (0)] 5, .cells #[(rowV (lget ls 4) 28 1), .bool (g1_1), .int .i64 (g0_1), .bool (c0_0)] 110, rowO (lget ls 4) (esG cu8 28 g1_0) 5 28 1, .cells #[.int .i64 (5), .int .u64 (0), .int .i64 (1), .int .i64 (y1)] 28, unb]
  | .e1 c1_0, ls => [.cells #[.map (some (lget ls 1).n), .int .i64 (1)] 91, .map #[⟨.int .i64 (1), .iface 107 (.pointer (some ⟨(lget ls 3).n, 0, none⟩)), 0⟩] 1, .cells #[.int .u8 (0), .int .u8 (0), .int .u8 (0), .int .u8 (0), .int .u8 (0), .int .u8 (0), .int .u8 (0), .int .u8 (0), .int .u8 (0), .int .u8 (0), .int .u8 (0), .int .u8 (0), .int .u8 (0), .int .u8 (0), .int .u8 (0), .int .u8 (0), .int .u8 (0), .int .u8 (0), .int .u8 (0), .int .u8 (0), .int .u8 (0), .int .u8 (0), .int .u8 (0), .int .u8 (0), .int .u8 (0), .int .u8 (0), .int .u8 (0), .int .u8 (0)] 5, .cells #[(rowV (lget ls 4) 28 1), .bool (g1_1), .int .i64 (g0_1), .bool (c1_0)] 110, rowO (lget ls 4) (esG cu8 28 g1_0) 5 28 1, .cells #[.int .i64 (5), .int .u64 (0), .int .i64 (1), .int .i64 (y1)] 28, unb]
def ex_barbicanlaw8_RegionLittle_L0 : Ex_barbicanlaw8_RegionLittle_L0 → Ex
  | .e0 _ => (.exit 0)
  | .e1 _ => .ret
end
section
variable {M : Nat → Prop} {B0 : Nat} {S : World → Prop} (hU : Up M B0 S) (y0 : BitVec 64) (y1 : Int) (g0_0 : Nat → BitVec 8) (g0_1 : Int) (g1_0 : Nat → BitVec 8) (g1_1 : Bool) (g1_2 : Bool) (g1_3 : Int)
include hU y0 y1 g0_0 g0_1 g1_0 g1_1 g1_2 g1_3
theorem go_barbicanlaw8_RegionLittle_L0 (s : Sh_barbicanlaw8_RegionLittle_L0) (r : Ex_barbicanlaw8_RegionLittle_L0) (h : lpO (st_barbicanlaw8_RegionLittle_L0 y0 y1 g0_1 g1_0 g1_1) s = some r) : GoesG Try.prog M B0 S (.loop bd_barbicanlaw8_RegionLittle_L0) 7 (fr_barbicanlaw8_RegionLittle_L0 y0 y1 g0_0 g0_1 g1_0 g1_1 g1_2 g1_3 s) (Hs_barbicanlaw8_RegionLittle_L0 y0 y1 g0_0 g0_1 g1_0 g1_1 g1_2 g1_3 s) (ex_barbicanlaw8_RegionLittle_L0 r) 6 (vf_barbicanlaw8_RegionLittle_L0 y0 y1 g0_0 g0_1 g1_0 g1_1 g1_2 g1_3 r) (Hf_barbicanlaw8_RegionLittle_L0 y0 y1 g0_0 g0_1 g1_0 g1_1 g1_2 g1_3 r) 7 :=
  goes_lpO (fun s q e => by
    cases s with
    | c0 s0_0 s0_1 =>
      unfold st_barbicanlaw8_RegionLittle_L0 at e
      dsimp only at e
      replace e := cond_eq_or e
      rcases e with ⟨hq0, e⟩ | ⟨hq0, e⟩
      · replace e := bindO_eq e
        obtain ⟨gb0, e_gb0, e⟩ := e
        rcases gb0 with ⟨gb0_0, gb0_1, gb0_2, gb0_3⟩ | ⟨gb0_0⟩
        · try dsimp only at e
          cases e; exact goes_runM hU [.o, .b (z_leqT hq0), .o, .cp, .cx (sp0_barbicanlaw8_RegionLittle_L0_L1v2_0_ok hU y0 y1 g0_0 g0_1 g1_0 g1_1 g1_2 g1_3 s0_0 s0_1 s0_0 0 gb0_0 gb0_1 gb0_2 gb0_3 e_gb0) [0, 1, 2, 3, 4, 5, 6], .o, .o, .o] [0, 1, 2, 3, 4, 5] (fun b => rfl) (by decide) rfl rfl (fun b => by kernel_rfl)
        · try dsimp only at e
          cases e; exact ⟨ne_ret, goes_runM hU [.o, .b (z_leqT hq0), .o, .cp, .cx (sp1_barbicanlaw8_RegionLittle_L0_L1v2_0_ok hU y0 y1 g0_0 g0_1 g1_0 g1_1 g1_2 g1_3 s0_0 s0_1 s0_0 0 gb0_0 e_gb0) [0, 1, 2, 3, 4, 5, 6]] [0, 1, 2, 3, 4, 5] (fun b => rfl) (by decide) rfl rfl (fun b => by kernel_rfl)⟩
      · cases e; exact ⟨ne_exit 0, goes_runM hU [.o, .b (z_leqF hq0)] [0, 1, 2, 3, 4, 5] (fun b => rfl) (by decide) rfl rfl (fun b => by kernel_rfl)⟩) s r h
noncomputable def t0_barbicanlaw8_RegionLittle_L0_0 (y0 : BitVec 64) (y1 : Int) (g0_0 : Nat → BitVec 8) (g0_1 : Int) (g1_0 : Nat → BitVec 8) (g1_1 : Bool) (g1_2 : Bool) (g1_3 : Int) (s0_0 : Bool) (s0_1 : Int) (ls : List L1) : List Value := List.append [.int .u64 (nn y0), .int .i64 (y1), undef, undef, .bool false, .pointer (some ⟨(lget ls 0).n, 0, none⟩), .int .i64 (1), .pointer (some ⟨(lget ls 5).n, 0, none⟩), .int .i64 (s0_1)] (List.append (und 4) (List.append [.bool true, .bool false, .int .i64 (y1), .bool false, .bool false, .int .i64 (y1), .bool false, .bool false, .pointer (some ⟨(lget ls 0).n, 0, none⟩), .pointer (some ⟨(lget ls 0).n, 0, none⟩), .slice (some ⟨(lget ls 2).n, 0, none⟩) 28 28, .int .i64 (1), .int .i64 (1), .int .i64 (y1), .agg #[.int .i64 (5), .int .u64 (0), .int .i64 (1), .int .i64 (y1)], .pointer (some ⟨(lget ls 0).n, 0, none⟩), .agg #[.int .i64 (5), .int .u64 (0), .int .i64 (1), .int .i64 (y1)], .int .u64 (nn y0), .agg #[.int .i64 (1), .int .u64 (nn y0), .int .i64 (0), .int .i64 (0)], .int .i64 (g1_3), .bool false] (und 41)))
def pre_barbicanlaw8_RegionLittle_L0_0 (y0 : BitVec 64) (y1 : Int) (g0_0 : Nat → BitVec 8) (g0_1 : Int) (g1_0 : Nat → BitVec 8) (g1_1 : Bool) (g1_2 : Bool) (g1_3 : Int) (s0_0 : Bool) (s0_1 : Int) (ls : List L1) : List Obj := [.cells #[.map (some (lget ls 1).n), .int .i64 (1)] 91, .map #[⟨.int .i64 (1), .iface 107 (.pointer (some ⟨(lget ls 3).n, 0, none⟩)), 0⟩] 1, .cells #[.int .u8 (0), .int .u8 (0), .int .u8 (0), .int .u8 (0), .int .u8 (0), .int .u8 (0), .int .u8 (0), .int .u8 (0), .int .u8 (0), .int .u8 (0), .int .u8 (0), .int .u8 (0), .int .u8 (0), .int .u8 (0), .int .u8 (0), .int .u8 (0), .int .u8 (0), .int .u8 (0), .int .u8 (0), .int .u8 (0), .int .u8 (0), .int .u8 (0), .int .u8 (0), .int .u8 (0), .int .u8 (0), .int .u8 (0), .int .u8 (0), .int .u8 (0)] 5, .cells #[(rowV (lget ls 4) 28 1), .bool (g1_1), .int .i64 (g0_1), .bool (s0_0)] 110, rowO (lget ls 4) (esG cu8 28 g1_0) 5 28 1, .cells #[.int .i64 (5), .int .u64 (0), .int .i64 (1), .int .i64 (y1)] 28]
theorem sp0_barbicanlaw8_RegionLittle_L0_0_ok (s0_0 : Bool) (s0_1 : Int) (c0_0 : Bool) (h : lpO (st_barbicanlaw8_RegionLittle_L0 y0 y1 g0_1 g1_0 g1_1) (.c0 s0_0 s0_1) = some (.e0 c0_0)) : SpcG Try.prog M B0 S ⟨fun ls => .code (.loop bd_barbicanlaw8_RegionLittle_L0) (t0_barbicanlaw8_RegionLittle_L0_0 y0 y1 g0_0 g0_1 g1_0 g1_1 g1_2 g1_3 s0_0 s0_1 ls), pre_barbicanlaw8_RegionLittle_L0_0 y0 y1 g0_0 g0_1 g1_0 g1_1 g1_2 g1_3 s0_0 s0_1, 1, (.exit 0), fun ls => vf_barbicanlaw8_RegionLittle_L0 y0 y1 g0_0 g0_1 g1_0 g1_1 g1_2 g1_3 (.e0 c0_0) (ls.take 6 ++ ls.drop 6), fun ls => (Hf_barbicanlaw8_RegionLittle_L0 y0 y1 g0_0 g0_1 g1_0 g1_1 g1_2 g1_3 (.e0 c0_0) (ls.take 6 ++ ls.drop 6)).take 6 ++ List.replicate 0 unb, fun ls => (Hf_barbicanlaw8_RegionLittle_L0 y0 y1 g0_0 g0_1 g1_0 g1_1 g1_2 g1_3 (.e0 c0_0) (ls.take 6 ++ ls.drop 6)).drop 6⟩ :=
  spc_of_goesM hU 0 (k0 := 6) (go_barbicanlaw8_RegionLittle_L0 hU y0 y1 g0_0 g0_1 g1_0 g1_1 g1_2 g1_3 _ _ h) (t0_barbicanlaw8_RegionLittle_L0_0 y0 y1 g0_0 g0_1 g1_0 g1_1 g1_2 g1_3 s0_0 s0_1) (pre_barbicanlaw8_RegionLittle_L0_0 y0 y1 g0_0 g0_1 g1_0 g1_1 g1_2 g1_3 s0_0 s0_1) (fun _ => rfl) (fun ls h => by match ls, h with | [l0, l1, l2, l3, l4, l5], _ => exact ⟨by kernel_rfl, by kernel_rfl⟩) (fun ls h => by match ls, h with | [l0, l1, l2, l3, l4, l5], _ => rfl) (by decide) (by decide) (fun ls => rfl)
theorem sp1_barbicanlaw8_RegionLittle_L0_0_ok (s0_0 : Bool) (s0_1 : Int) (c1_0 : Bool) (h : lpO (st_barbicanlaw8_RegionLittle_L0 y0 y1 g0_1 g1_0 g1_1) (.c0 s0_0 s0_1) = some (.e1 c1_0)) : SpcG Try.prog M B0 S ⟨fun ls => .code (.loop bd_barbicanlaw8_RegionLittle_L0) (t0_barbicanlaw8_RegionLittle_L0_0 y0 y1 g0_0 g0_1 g1_0 g1_1 g1_2 g1_3 s0_0 s0_1 ls), pre_barbicanlaw8_RegionLittle_L0_0 y0 y1 g0_0 g0_1 g1_0 g1_1 g1_2 g1_3 s0_0 s0_1, 1, .ret, fun ls => vf_barbicanlaw8_RegionLittle_L0 y0 y1 g0_0 g0_1 g1_0 g1_1 g1_2 g1_3 (.e1 c1_0) (ls.take 6 ++ ls.drop 6), fun ls => (Hf_barbicanlaw8_RegionLittle_L0 y0 y1 g0_0 g0_1 g1_0 g1_1 g1_2 g1_3 (.e1 c1_0) (ls.take 6 ++ ls.drop 6)).take 6 ++ List.replicate 0 unb, fun ls => (Hf_barbicanlaw8_RegionLittle_L0 y0 y1 g0_0 g0_1 g1_0 g1_1 g1_2 g1_3 (.e1 c1_0) (ls.take 6 ++ ls.drop 6)).drop 6⟩ :=
  spc_of_goesM hU 0 (k0 := 6) (go_barbicanlaw8_RegionLittle_L0 hU y0 y1 g0_0 g0_1 g1_0 g1_1 g1_2 g1_3 _ _ h) (t0_barbicanlaw8_RegionLittle_L0_0 y0 y1 g0_0 g0_1 g1_0 g1_1 g1_2 g1_3 s0_0 s0_1) (pre_barbicanlaw8_RegionLittle_L0_0 y0 y1 g0_0 g0_1 g1_0 g1_1 g1_2 g1_3 s0_0 s0_1) (fun _ => rfl) (fun ls h => by match ls, h with | [l0, l1, l2, l3, l4, l5], _ => exact ⟨by kernel_rfl, by kernel_rfl⟩) (fun ls h => by match ls, h with | [l0, l1, l2, l3, l4, l5], _ => rfl) (by decide) (by decide) (fun ls => rfl)
noncomputable def m_barbicanlaw8_RegionLittle (y0 : BitVec 64) (y1 : Int) : Option (Bool) :=
  bif decide (y1 < 0) then
    (some true)
  else (bif decide (20 < y1) then
    (some true)
  else ((m_region_Mem_Add_v1 true 0).bind fun g0 => match g0 with
  | .e0 g0_0 g0_1 =>
  (m_region_Mem_Store_v1 8 (⟨1, y0, 0, 0⟩ : Val) y1 28 true g0_1 false g0_0).bind fun g1 => match g1 with
  | .e0 g1_0 g1_1 g1_2 g1_3 =>
  bif g1_3 == 0 then
    ((lpO (st_barbicanlaw8_RegionLittle_L0 y0 y1 g0_1 g1_0 g1_1) (.c0 g1_2 1)).bind fun g2 => match g2 with
    | .e0 g2_0 => (some true)
    | .e1 g2_0 => (some false))
  else (some false)))
end
section
variable {M : Nat → Prop} {B0 : Nat} {S : World → Prop} (hU : Up M B0 S)
include hU
theorem ok_barbicanlaw8_RegionLittle (y0 : BitVec 64) (y1 : Int) (r : Bool) (e : m_barbicanlaw8_RegionLittle y0 y1 = some r) : ConG Try.prog S 5 #[.int .u64 (nn y0), .int .i64 (y1)] (.bool (r)) := by
  unfold m_barbicanlaw8_RegionLittle at e
  replace e := cond_eq_or e
  rcases e with ⟨hq0, e⟩ | ⟨hq0, e⟩
  · injection e with e; subst e; exact fn_conG hU (P := Try.prog) Try.func5 (fun xs w => by kernel_rfl) _ _ [.o, .cg (ok_barbicanlaw8_known_v1 hU  ), .o, .o, .b (z_lssT hq0), .o, .o, .o] [] (fun b => by kernel_rfl)
  · replace e := cond_eq_or e
    rcases e with ⟨hq1, e⟩ | ⟨hq1, e⟩
    · injection e with e; subst e; exact fn_conG hU (P := Try.prog) Try.func5 (fun xs w => by kernel_rfl) _ _ [.o, .cg (ok_barbicanlaw8_known_v1 hU  ), .o, .o, .b (z_lssF hq0), .o, .o, .b (z_gtrT hq1), .o, .o] [] (fun b => by kernel_rfl)
    · replace e := bindO_eq e
      obtain ⟨g0, e_g0, e⟩ := e
      obtain ⟨g0_0, g0_1⟩ := g0
      try dsimp only at e
      replace e := bindO_eq e
      obtain ⟨g1, e_g1, e⟩ := e
      obtain ⟨g1_0, g1_1, g1_2, g1_3⟩ := g1
      try dsimp only at e
      replace e := cond_eq_or e
      rcases e with ⟨hq2, e⟩ | ⟨hq2, e⟩
      · replace e := bindO_eq e
        obtain ⟨g2, e_g2, e⟩ := e
        rcases g2 with ⟨g2_0⟩ | ⟨g2_0⟩
        · try dsimp only at e
          injection e with e; subst e; exact fn_conG hU (P := Try.prog) Try.func5 (fun xs w => by kernel_rfl) _ _ [.o, .cg (ok_barbicanlaw8_known_v1 hU  ), .o, .o, .b (z_lssF hq0), .o, .o, .b (z_gtrF hq1), .o, .xg (p0_region_New hU  ) [], .o, .o, .o, .xg (ok0_region_Mem_Add_v1 hU true 0 g0_0 g0_1 e_g0) [0, 1, 2], .o, .o, .o, .o, .o, .a 5, .o, .a 5, .o, .o, .xg (ok0_region_Mem_Store_v1 hU 8 (⟨1, y0, 0, 0⟩ : Val) y1 28 true g0_1 false g0_0 g1_0 g1_1 g1_2 g1_3 e_g1) [0, 1, 3, 4], .b (z_neqT hq2), .o, .cp, .cx (sp0_barbicanlaw8_RegionLittle_L0_0_ok hU y0 y1 g0_0 g0_1 g1_0 g1_1 g1_2 g1_3 g1_2 1 g2_0 e_g2) [0, 1, 2, 3, 4, 5], .o] [] (fun b => by kernel_rfl)
        · try dsimp only at e
          injection e with e; subst e; exact fn_conG hU (P := Try.prog) Try.func5 (fun xs w => by kernel_rfl) _ _ [.o, .cg (ok_barbicanlaw8_known_v1 hU  ), .o, .o, .b (z_lssF hq0), .o, .o, .b (z_gtrF hq1), .o, .xg (p0_region_New hU  ) [], .o, .o, .o, .xg (ok0_region_Mem_Add_v1 hU true 0 g0_0 g0_1 e_g0) [0, 1, 2], .o, .o, .o, .o, .o, .a 5, .o, .a 5, .o, .o, .xg (ok0_region_Mem_Store_v1 hU 8 (⟨1, y0, 0, 0⟩ : Val) y1 28 true g0_1 false g0_0 g1_0 g1_1 g1_2 g1_3 e_g1) [0, 1, 3, 4], .b (z_neqT hq2), .o, .cp, .cx (sp1_barbicanlaw8_RegionLittle_L0_0_ok hU y0 y1 g0_0 g0_1 g1_0 g1_1 g1_2 g1_3 g1_2 1 g2_0 e_g2) [0, 1, 2, 3, 4, 5]] [] (fun b => by kernel_rfl)
      · injection e with e; subst e; exact fn_conG hU (P := Try.prog) Try.func5 (fun xs w => by kernel_rfl) _ _ [.o, .cg (ok_barbicanlaw8_known_v1 hU  ), .o, .o, .b (z_lssF hq0), .o, .o, .b (z_gtrF hq1), .o, .xg (p0_region_New hU  ) [], .o, .o, .o, .xg (ok0_region_Mem_Add_v1 hU true 0 g0_0 g0_1 e_g0) [0, 1, 2], .o, .o, .o, .o, .o, .a 5, .o, .a 5, .o, .o, .xg (ok0_region_Mem_Store_v1 hU 8 (⟨1, y0, 0, 0⟩ : Val) y1 28 true g0_1 false g0_0 g1_0 g1_1 g1_2 g1_3 e_g1) [0, 1, 3, 4], .b (z_neqF hq2), .o] [] (fun b => by kernel_rfl)
end

end Go.Proofs.Ytfmpmhafilllpaa
