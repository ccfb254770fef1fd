/-
  The law on counts, by the program's text.
-/
import Derived.Test.YtmopkmjddaaknaaT11K
import Derived.Test.YtmopkmjddaaknaaRxO
namespace Go.Proofs.Ytmopkmjddaaknaa
open Go.RowKit
set_option linter.unusedVariables false
set_option linter.unusedSimpArgs false
set_option linter.unusedSectionVars false
set_option maxRecDepth 100000
set_option maxHeartbeats 4000000
abbrev cu8 (x : BitVec 8) : List Value := [.int .u8 (nn x)]
theorem cu8_len (x : BitVec 8) : (cu8 x).length = 1 := rfl
theorem cu8_one (x : BitVec 8) : ((cu8 x).all fun u => u.oneCell') = true := rfl
noncomputable def zr22 : Value := (Try.prog.info? 25).bind TypeInfo.zero |>.getD undef
theorem rt22 : RowT Try.prog 22 25 ((Try.prog.info? 25).getD default) zr22 1 24 := ⟨by kernel_rfl, by kernel_rfl, by kernel_rfl, by kernel_rfl, by kernel_rfl, by kernel_rfl, by decide⟩
section
variable {M : Nat → Prop} {B0 : Nat} {S : World → Prop} (hU : Up M B0 S)
include hU
theorem ok_barbicanlaw11_known_v1 : ConG Try.prog S 7 #[] (.bool true) :=
  fn_conG hU (P := Try.prog) Try.func7 (fun xs w => by kernel_rfl) [] (.bool true)
    [.o, .xg (p0_sock_NewLedger hU  ) [], .o, .o, .o, .xg (p0_sock_NewTable hU  ) [2, 1], .o, .o, .o, .o, .o, .o, .o, .o, .o, .o, .o, .o, .o, .o, .o, .o, .xg (p0_sock_Ledger_Acquire hU  ) [0], .o, .o, .o, .o, .o, .o, .xg (p0_sock_Ledger_Release hU  ) [0, 6, 7, 8], .o, .o, .o, .o, .o, .o, .xg (p0_sock_Ledger_Release_v1 hU  ) [0, 6, 7, 9], .o, .o, .o, .o, .o, .o, .o, .o, .o, .o, .o, .o, .o, .o, .o, .o, .o, .o, .o, .o, .o, .o, .o, .o, .xg (p0_sock_Table_Take hU  ) [3, 4, 5], .o, .o, .o, .o, .xg (p0_sock_Table_Drop hU  ) [3, 4, 5], .o, .o, .o, .o, .xg (p0_sock_Table_Drop_v1 hU  ) [3, 4, 5], .o, .o, .o]
    [] (fun b => by kernel_rfl)
def sq0_sock_counting_begin_v2 (w0 : Nat) (w1 : Nat → Arr73)  : Spc := ⟨fun ls => .call 33 #[.pointer (some ⟨(lget ls 0).n, 0, none⟩)], fun ls => [.cells #[.slice none 0 0, (rowV (lget ls 1) w0 20)] 72, rowO (lget ls 1) (esG c_Arr73 w0 w1) 73 w0 20], 1, .normal, fun ls => [.int .i64 (0)], fun ls => [.cells #[(rowV (lget ls 2) 1 1), (rowV (lget ls 1) w0 20)] 72, rowO (lget ls 1) (esG c_Arr73 w0 w1) 73 w0 20], fun ls => [rowO (lget ls 2) (esG cZ 1 (fun _ => 1)) 3 1 1]⟩
theorem p0_sock_counting_begin_v2 (w0 : Nat) (w1 : Nat → Arr73) : SpcG Try.prog M B0 S (sq0_sock_counting_begin_v2 w0 w1 ) :=
  fn_specG hU (P := Try.prog) Try.func33 (fun xs w => by kernel_rfl) 2 _ _ (fun _ => rfl) _ _ _ [3]
    [.o, .o, .o, .o, .o, .a 0, .o, .x (sqAppL1_ok (ty := 56) rt56 #[false, false] (f := cZ) (c := 1) 1 (T' := 3) cZ_len cZ_one (by decide)) [2], .o, .o, .a 0, .o, .o, .o, .a 0, .o, .o, .o]
    [] (fun b => by kernel_rfl)
inductive R_sock_counting_begin_v3 where
  | e0 (c0_0 : Nat → Int) (c0_1 : Int)
noncomputable def m_sock_counting_begin_v3 (w0 : Nat) (w1 : Nat) (w2 : Nat → Int) (w3 : Nat → Arr73) : Option R_sock_counting_begin_v3 :=
  bif decide (w0 ≤ 1000000) then
    (some (.e0 (updF w2 w0 1) (IntKind.i64.wrap (((w0 + 1) : Int) - 1))))
  else (none)
def sq0_sock_counting_begin_v3 (w0 : Nat) (w1 : Nat) (w2 : Nat → Int) (w3 : Nat → Arr73) (c0_0 : Nat → Int) (c0_1 : Int) : Spc := ⟨fun ls => .call 33 #[.pointer (some ⟨(lget ls 0).n, 0, none⟩)], fun ls => [.cells #[(rowV (lget ls 1) w0 1), (rowV (lget ls 2) w1 20)] 72, rowO (lget ls 1) (esG cZ w0 w2) 3 w0 1, rowO (lget ls 2) (esG c_Arr73 w1 w3) 73 w1 20], 1, .normal, fun ls => [.int .i64 (c0_1)], fun ls => [.cells #[(rowV (lget ls 3) (w0 + 1) 1), (rowV (lget ls 2) w1 20)] 72, unb, rowO (lget ls 2) (esG c_Arr73 w1 w3) 73 w1 20], fun ls => [rowO (lget ls 3) (esG cZ (w0 + 1) c0_0) 3 (w0 + 1) 1]⟩
theorem ok0_sock_counting_begin_v3 (w0 : Nat) (w1 : Nat) (w2 : Nat → Int) (w3 : Nat → Arr73) (c0_0 : Nat → Int) (c0_1 : Int) (e : m_sock_counting_begin_v3 w0 w1 w2 w3 = some (.e0 c0_0 c0_1)) : SpcG Try.prog M B0 S (sq0_sock_counting_begin_v3 w0 w1 w2 w3 c0_0 c0_1) := by
  unfold m_sock_counting_begin_v3 at e
  replace e := cond_eq_or e
  rcases e with ⟨hq0, e⟩ | ⟨hq0, e⟩
  · injection e with e; injection e with i0 i1; subst i0 i1; exact fn_specG hU (P := Try.prog) Try.func33 (fun xs w => by kernel_rfl) 3 _ _ (fun _ => rfl) _ _ _ [4] [.o, .o, .o, .o, .o, .a 0, .o, .x (sqAppL_ok (ty := 56) rt56 #[false, false] (f := cZ) (N := w0) (A := w2) (c := 1) [1] (T' := 3) .row cZ_len cZ_one hq0 rfl (by decide)) [1, 3], .o, .o, .a 0, .o, .o, .o, .a 0, .o, .o, .o] [] (fun b => by kernel_rfl)
  · exact none_some e
inductive Sh_sock_NewTable_v1_L0 where
  | c0 
  | c1 (s0_0 : Nat) (s0_1 : Nat → Int) (s0_2 : Nat) (s0_3 : Nat → Arr73) (s0_4 : Int)
inductive Ex_sock_NewTable_v1_L0 where
  | e0 
  | e1 (c1_0 : Nat) (c1_1 : Nat → Int) (c1_2 : Nat) (c1_3 : Nat → Arr73)
  | e2 
  | e3 (c3_0 : Nat) (c3_1 : Nat → Int) (c3_2 : Nat) (c3_3 : Nat → Arr73)
noncomputable def st_sock_NewTable_v1_L0 (n0 : Nat) (A0 : Nat → (Nat × (Nat → BitVec 8))) : Sh_sock_NewTable_v1_L0 → Option (Sh_sock_NewTable_v1_L0 ⊕ Ex_sock_NewTable_v1_L0)
  | .c0  =>
    bif decide (0 < (n0 : Int)) then
      (bif inR 0 n0 then
        (bif ((A0 0).1 : Int) == 20 then
          (bif decide (20 ≤ (A0 0).1) then
            (some (.inl (.c1 1 (fun _ => 1) 1 (fun _ => (⟨((A0 0).2 0), ((A0 0).2 1), ((A0 0).2 2), ((A0 0).2 3), ((A0 0).2 4), ((A0 0).2 5), ((A0 0).2 6), ((A0 0).2 7), ((A0 0).2 8), ((A0 0).2 9), ((A0 0).2 10), ((A0 0).2 11), ((A0 0).2 12), ((A0 0).2 13), ((A0 0).2 14), ((A0 0).2 15), ((A0 0).2 16), ((A0 0).2 17), ((A0 0).2 18), ((A0 0).2 19)⟩ : Arr73)) 1)))
          else (none))
        else (some (.inr (.e2 ))))
      else (none))
    else (some (.inr (.e0 )))
  | .c1 s0_0 s0_1 s0_2 s0_3 s0_4 =>
    bif decide (s0_4 < (n0 : Int)) then
      (bif inR s0_4 n0 then
        (bif ((A0 (s0_4).toNat).1 : Int) == 20 then
          (bif decide (20 ≤ (A0 (s0_4).toNat).1) then
            (bif decide (s0_2 ≤ 1000000) then
              (bindT (updF s0_3 s0_2 (⟨((A0 (s0_4).toNat).2 0), ((A0 (s0_4).toNat).2 1), ((A0 (s0_4).toNat).2 2), ((A0 (s0_4).toNat).2 3), ((A0 (s0_4).toNat).2 4), ((A0 (s0_4).toNat).2 5), ((A0 (s0_4).toNat).2 6), ((A0 (s0_4).toNat).2 7), ((A0 (s0_4).toNat).2 8), ((A0 (s0_4).toNat).2 9), ((A0 (s0_4).toNat).2 10), ((A0 (s0_4).toNat).2 11), ((A0 (s0_4).toNat).2 12), ((A0 (s0_4).toNat).2 13), ((A0 (s0_4).toNat).2 14), ((A0 (s0_4).toNat).2 15), ((A0 (s0_4).toNat).2 16), ((A0 (s0_4).toNat).2 17), ((A0 (s0_4).toNat).2 18), ((A0 (s0_4).toNat).2 19)⟩ : Arr73)) fun rb0 =>
              (m_sock_counting_begin_v3 s0_0 (s0_2 + 1) s0_1 rb0).bind fun gb1 => match gb1 with
              | .e0 gb1_0 gb1_1 =>
              some (.inl (.c1 (s0_0 + 1) gb1_0 (s0_2 + 1) rb0 (IntKind.i64.wrap (s0_4 + 1)))))
            else (none))
          else (none))
        else (some (.inr (.e3 s0_0 s0_1 s0_2 s0_3))))
      else (none))
    else (some (.inr (.e1 s0_0 s0_1 s0_2 s0_3)))
noncomputable def bd_sock_NewTable_v1_L0 : Code := codeOf Try.f8 [1, 1, 1, 0, 1, 0, 0]
def fl_sock_NewTable_v1_L0 (a0 : Option Addr) (p0 : Nat) (q0 : Nat) (n0 : Nat) (k0 : Nat) (X0 : Nat → RoX) (A0 : Nat → (Nat × (Nat → BitVec 8))) : Sh_sock_NewTable_v1_L0 → List L1 → List Value
  | .c0 , ls => [.pointer none, .int .i64 (0), .pointer (some ⟨(lget ls 0).n, 0, none⟩), .slice a0 n0 (n0 + k0), .int .i64 ((n0 : Int)), .int .i64 (0)]
  | .c1 s0_0 s0_1 s0_2 s0_3 s0_4, ls => [.pointer none, .int .i64 (0), .pointer (some ⟨(lget ls 0).n, 0, none⟩), .slice a0 n0 (n0 + k0), .int .i64 ((n0 : Int)), .int .i64 (s0_4)]
def mf_sock_NewTable_v1_L0 : Sh_sock_NewTable_v1_L0 → List (Nat × Nat)
  | .c0  => [(0, 2), (3, 7), (3, 24)]
  | .c1 _ _ _ _ _ => [(0, 2), (3, 7), (3, 24)]
noncomputable def fr_sock_NewTable_v1_L0 (a0 : Option Addr) (p0 : Nat) (q0 : Nat) (n0 : Nat) (k0 : Nat) (X0 : Nat → RoX) (A0 : Nat → (Nat × (Nat → BitVec 8))) (s : Sh_sock_NewTable_v1_L0) : List L1 → List Value := mrgF (mf_sock_NewTable_v1_L0 s) (fl_sock_NewTable_v1_L0 a0 p0 q0 n0 k0 X0 A0 s) 3
def Hs_sock_NewTable_v1_L0 (a0 : Option Addr) (p0 : Nat) (q0 : Nat) (n0 : Nat) (k0 : Nat) (X0 : Nat → RoX) (A0 : Nat → (Nat × (Nat → BitVec 8))) : Sh_sock_NewTable_v1_L0 → List L1 → List Obj
  | .c0 , ls => [.cells #[.slice none 0 0, .slice none 0 0] 72, unb, unb, unb]
  | .c1 s0_0 s0_1 s0_2 s0_3 s0_4, ls => [.cells #[(rowV (lget ls 1) s0_0 1), (rowV (lget ls 2) s0_2 20)] 72, rowO (lget ls 1) (esG cZ s0_0 s0_1) 3 s0_0 1, rowO (lget ls 2) (esG c_Arr73 s0_2 s0_3) 73 s0_2 20, unb]
def vl_sock_NewTable_v1_L0 (a0 : Option Addr) (p0 : Nat) (q0 : Nat) (n0 : Nat) (k0 : Nat) (X0 : Nat → RoX) (A0 : Nat → (Nat × (Nat → BitVec 8))) : Ex_sock_NewTable_v1_L0 → List L1 → List Value
  | .e0 , ls => [.pointer none, .int .i64 (0), .pointer (some ⟨(lget ls 0).n, 0, none⟩), .slice a0 n0 (n0 + k0), .int .i64 ((n0 : Int))]
  | .e1 c1_0 c1_1 c1_2 c1_3, ls => [.pointer none, .int .i64 (0), .pointer (some ⟨(lget ls 0).n, 0, none⟩), .slice a0 n0 (n0 + k0), .int .i64 ((n0 : Int))]
  | .e2 , ls => [.pointer none, .int .i64 (112), .pointer (some ⟨(lget ls 0).n, 0, none⟩), .slice a0 n0 (n0 + k0), .int .i64 ((n0 : Int))]
  | .e3 c3_0 c3_1 c3_2 c3_3, ls => [.pointer none, .int .i64 (112), .pointer (some ⟨(lget ls 0).n, 0, none⟩), .slice a0 n0 (n0 + k0), .int .i64 ((n0 : Int))]
def mk_sock_NewTable_v1_L0 : Ex_sock_NewTable_v1_L0 → List (Nat × Nat)
  | .e0  => [(0, 2), (3, 7), (2, 25)]
  | .e1 _ _ _ _ => [(0, 2), (3, 7), (2, 25)]
  | .e2  => [(0, 2), (3, 7), (2, 25)]
  | .e3 _ _ _ _ => [(0, 2), (3, 7), (2, 25)]
noncomputable def vf_sock_NewTable_v1_L0 (a0 : Option Addr) (p0 : Nat) (q0 : Nat) (n0 : Nat) (k0 : Nat) (X0 : Nat → RoX) (A0 : Nat → (Nat × (Nat → BitVec 8))) (r : Ex_sock_NewTable_v1_L0) : List L1 → List Value := mrgF (mk_sock_NewTable_v1_L0 r) (vl_sock_NewTable_v1_L0 a0 p0 q0 n0 k0 X0 A0 r) 3
def Hf_sock_NewTable_v1_L0 (a0 : Option Addr) (p0 : Nat) (q0 : Nat) (n0 : Nat) (k0 : Nat) (X0 : Nat → RoX) (A0 : Nat → (Nat × (Nat → BitVec 8))) : Ex_sock_NewTable_v1_L0 → List L1 → List Obj
  | .e0 , ls => [.cells #[.slice none 0 0, .slice none 0 0] 72, unb, unb, unb]
  | .e1 c1_0 c1_1 c1_2 c1_3, ls => [.cells #[(rowV (lget ls 1) c1_0 1), (rowV (lget ls 2) c1_2 20)] 72, rowO (lget ls 1) (esG cZ c1_0 c1_1) 3 c1_0 1, rowO (lget ls 2) (esG c_Arr73 c1_2 c1_3) 73 c1_2 20, unb]
  | .e2 , ls => [.cells #[.slice none 0 0, .slice none 0 0] 72, unb, unb, unb]
  | .e3 c3_0 c3_1 c3_2 c3_3, ls => [.cells #[(rowV (lget ls 1) c3_0 1), (rowV (lget ls 2) c3_2 20)] 72, rowO (lget ls 1) (esG cZ c3_0 c3_1) 3 c3_0 1, rowO (lget ls 2) (esG c_Arr73 c3_2 c3_3) 73 c3_2 20, unb]
def ex_sock_NewTable_v1_L0 : Ex_sock_NewTable_v1_L0 → Ex
  | .e0  => (.exit 0)
  | .e1 _ _ _ _ => (.exit 0)
  | .e2  => .ret
  | .e3 _ _ _ _ => .ret
end
section
variable {M : Nat → Prop} {B0 : Nat} {S : World → Prop} (hU : Up M B0 S) (a0 : Option Addr) (p0 : Nat) (q0 : Nat) (n0 : Nat) (k0 : Nat) (X0 : Nat → RoX) (A0 : Nat → (Nat × (Nat → BitVec 8))) (hR0 : RoR S cu8 1 a0 p0 q0 n0 X0 A0)
include hU a0 p0 q0 n0 k0 X0 A0 hR0
theorem go_sock_NewTable_v1_L0 (s : Sh_sock_NewTable_v1_L0) (r : Ex_sock_NewTable_v1_L0) (h : lpO (st_sock_NewTable_v1_L0 n0 A0) s = some r) : GoesG Try.prog M B0 S (.loop bd_sock_NewTable_v1_L0) 4 (fr_sock_NewTable_v1_L0 a0 p0 q0 n0 k0 X0 A0 s) (Hs_sock_NewTable_v1_L0 a0 p0 q0 n0 k0 X0 A0 s) (ex_sock_NewTable_v1_L0 r) 1 (vf_sock_NewTable_v1_L0 a0 p0 q0 n0 k0 X0 A0 r) (Hf_sock_NewTable_v1_L0 a0 p0 q0 n0 k0 X0 A0 r) 4 :=
  goes_lpO (fun s q e => by
    cases s with
    | c0  =>
      unfold st_sock_NewTable_v1_L0 at e
      dsimp only at e
      replace e := cond_eq_or e
      rcases e with ⟨hq0, e⟩ | ⟨hq0, e⟩
      · replace e := cond_eq_or e
        rcases e with ⟨hq1, e⟩ | ⟨hq1, e⟩
        · replace e := cond_eq_or e
          rcases e with ⟨hq2, e⟩ | ⟨hq2, e⟩
          · replace e := cond_eq_or e
            rcases e with ⟨hq3, e⟩ | ⟨hq3, e⟩
            · cases e; exact goes_runM hU [.b (z_lssT hq0), .q (ixRo_ok (kd := .i64) (T := 22) (x := 0) (sz := 1) rfl (fun w => by kernel_rfl) (RoR.row hR0) hq1), .l (accRo (RoR.row hR0) (rxC_len X0 A0) (inR_nat hq1) 0 [.slice (X0 0).a (A0 0).1 ((A0 0).1 + (X0 0).c)] rfl), .o, .o, .o, .b (z_neqT hq2), .r [0, 1, 2, 3, 4, 5, 6, 7] [] [8, 9, 10, 11, 12], .o, .o, .o, .o, .a 0, .o, .ov (s2aRo_ok (T := 73) (e := 5) (m := 20) (c := (A0 0).1 + (X0 0).c) (RoR.els hR0 0 (inR_nat hq1)) (by kernel_rfl) (by decide) hq3), .l (accRoN (RoR.els hR0 0 (inR_nat hq1)) cu8_len 20 hq3 [.int .u8 (nn ((A0 0).2 0)), .int .u8 (nn ((A0 0).2 1)), .int .u8 (nn ((A0 0).2 2)), .int .u8 (nn ((A0 0).2 3)), .int .u8 (nn ((A0 0).2 4)), .int .u8 (nn ((A0 0).2 5)), .int .u8 (nn ((A0 0).2 6)), .int .u8 (nn ((A0 0).2 7)), .int .u8 (nn ((A0 0).2 8)), .int .u8 (nn ((A0 0).2 9)), .int .u8 (nn ((A0 0).2 10)), .int .u8 (nn ((A0 0).2 11)), .int .u8 (nn ((A0 0).2 12)), .int .u8 (nn ((A0 0).2 13)), .int .u8 (nn ((A0 0).2 14)), .int .u8 (nn ((A0 0).2 15)), .int .u8 (nn ((A0 0).2 16)), .int .u8 (nn ((A0 0).2 17)), .int .u8 (nn ((A0 0).2 18)), .int .u8 (nn ((A0 0).2 19))] (by kernel_rfl)), .o, .x (sqAppL1_ok (ty := 70) rt70 #[false, false] (f := c_Arr73) (c := 1) (⟨((A0 0).2 0), ((A0 0).2 1), ((A0 0).2 2), ((A0 0).2 3), ((A0 0).2 4), ((A0 0).2 5), ((A0 0).2 6), ((A0 0).2 7), ((A0 0).2 8), ((A0 0).2 9), ((A0 0).2 10), ((A0 0).2 11), ((A0 0).2 12), ((A0 0).2 13), ((A0 0).2 14), ((A0 0).2 15), ((A0 0).2 16), ((A0 0).2 17), ((A0 0).2 18), ((A0 0).2 19)⟩ : Arr73) (T' := 73) c_Arr73_len c_Arr73_one (by decide)) [4], .o, .o, .a 0, .o, .o, .o, .xg (p0_sock_counting_begin_v2 hU 1 (fun _ => (⟨((A0 0).2 0), ((A0 0).2 1), ((A0 0).2 2), ((A0 0).2 3), ((A0 0).2 4), ((A0 0).2 5), ((A0 0).2 6), ((A0 0).2 7), ((A0 0).2 8), ((A0 0).2 9), ((A0 0).2 10), ((A0 0).2 11), ((A0 0).2 12), ((A0 0).2 13), ((A0 0).2 14), ((A0 0).2 15), ((A0 0).2 16), ((A0 0).2 17), ((A0 0).2 18), ((A0 0).2 19)⟩ : Arr73)) ) [0, 5], .o, .o] [0, 6, 5] (fun b => rfl) (by decide) rfl rfl (fun b => by kernel_rfl)
            · exact none_some e
          · cases e; exact ⟨ne_ret, goes_runM hU [.b (z_lssT hq0), .q (ixRo_ok (kd := .i64) (T := 22) (x := 0) (sz := 1) rfl (fun w => by kernel_rfl) (RoR.row hR0) hq1), .l (accRo (RoR.row hR0) (rxC_len X0 A0) (inR_nat hq1) 0 [.slice (X0 0).a (A0 0).1 ((A0 0).1 + (X0 0).c)] rfl), .o, .o, .o, .b (z_neqF hq2), .o, .o] [0, 1, 2] (fun b => rfl) (by decide) rfl rfl (fun b => by kernel_rfl)⟩
        · exact none_some e
      · cases e; exact ⟨ne_exit 0, goes_runM hU [.b (z_lssF hq0)] [0, 1, 2] (fun b => rfl) (by decide) rfl rfl (fun b => by kernel_rfl)⟩
    | c1 s0_0 s0_1 s0_2 s0_3 s0_4 =>
      unfold st_sock_NewTable_v1_L0 at e
      dsimp only at e
      replace e := cond_eq_or e
      rcases e with ⟨hq0, e⟩ | ⟨hq0, e⟩
      · replace e := cond_eq_or e
        rcases e with ⟨hq1, e⟩ | ⟨hq1, e⟩
        · replace e := cond_eq_or e
          rcases e with ⟨hq2, e⟩ | ⟨hq2, e⟩
          · replace e := cond_eq_or e
            rcases e with ⟨hq3, e⟩ | ⟨hq3, e⟩
            · replace e := cond_eq_or e
              rcases e with ⟨hq4, e⟩ | ⟨hq4, e⟩
              · replace e := bindT_eq e
                obtain ⟨rb0, e_rb0, e⟩ := e
                try dsimp only at e
                replace e := bindO_eq e
                obtain ⟨gb1, e_gb1, e⟩ := e
                obtain ⟨gb1_0, gb1_1⟩ := gb1
                try dsimp only at e
                cases e; exact goes_runM hU [.b (z_lssT hq0), .q (ixRo_ok (kd := .i64) (T := 22) (x := s0_4) (sz := 1) rfl (fun w => by kernel_rfl) (RoR.row hR0) hq1), .l (accRo (RoR.row hR0) (rxC_len X0 A0) (inR_nat hq1) 0 [.slice (X0 (s0_4).toNat).a (A0 (s0_4).toNat).1 ((A0 (s0_4).toNat).1 + (X0 (s0_4).toNat).c)] rfl), .o, .o, .o, .b (z_neqT hq2), .r [0, 1, 2, 3, 4, 5, 6, 7] [] [8, 9, 10, 11, 12], .o, .o, .o, .o, .a 0, .o, .ov (s2aRo_ok (T := 73) (e := 5) (m := 20) (c := (A0 (s0_4).toNat).1 + (X0 (s0_4).toNat).c) (RoR.els hR0 (s0_4).toNat (inR_nat hq1)) (by kernel_rfl) (by decide) hq3), .l (accRoN (RoR.els hR0 (s0_4).toNat (inR_nat hq1)) cu8_len 20 hq3 [.int .u8 (nn ((A0 (s0_4).toNat).2 0)), .int .u8 (nn ((A0 (s0_4).toNat).2 1)), .int .u8 (nn ((A0 (s0_4).toNat).2 2)), .int .u8 (nn ((A0 (s0_4).toNat).2 3)), .int .u8 (nn ((A0 (s0_4).toNat).2 4)), .int .u8 (nn ((A0 (s0_4).toNat).2 5)), .int .u8 (nn ((A0 (s0_4).toNat).2 6)), .int .u8 (nn ((A0 (s0_4).toNat).2 7)), .int .u8 (nn ((A0 (s0_4).toNat).2 8)), .int .u8 (nn ((A0 (s0_4).toNat).2 9)), .int .u8 (nn ((A0 (s0_4).toNat).2 10)), .int .u8 (nn ((A0 (s0_4).toNat).2 11)), .int .u8 (nn ((A0 (s0_4).toNat).2 12)), .int .u8 (nn ((A0 (s0_4).toNat).2 13)), .int .u8 (nn ((A0 (s0_4).toNat).2 14)), .int .u8 (nn ((A0 (s0_4).toNat).2 15)), .int .u8 (nn ((A0 (s0_4).toNat).2 16)), .int .u8 (nn ((A0 (s0_4).toNat).2 17)), .int .u8 (nn ((A0 (s0_4).toNat).2 18)), .int .u8 (nn ((A0 (s0_4).toNat).2 19))] (by kernel_rfl)), .o, .x (sqAppLr_ok (ty := 70) rt70 #[false, false] (f := c_Arr73) (N := s0_2) (A := s0_3) (c := 1) [(⟨((A0 (s0_4).toNat).2 0), ((A0 (s0_4).toNat).2 1), ((A0 (s0_4).toNat).2 2), ((A0 (s0_4).toNat).2 3), ((A0 (s0_4).toNat).2 4), ((A0 (s0_4).toNat).2 5), ((A0 (s0_4).toNat).2 6), ((A0 (s0_4).toNat).2 7), ((A0 (s0_4).toNat).2 8), ((A0 (s0_4).toNat).2 9), ((A0 (s0_4).toNat).2 10), ((A0 (s0_4).toNat).2 11), ((A0 (s0_4).toNat).2 12), ((A0 (s0_4).toNat).2 13), ((A0 (s0_4).toNat).2 14), ((A0 (s0_4).toNat).2 15), ((A0 (s0_4).toNat).2 16), ((A0 (s0_4).toNat).2 17), ((A0 (s0_4).toNat).2 18), ((A0 (s0_4).toNat).2 19)⟩ : Arr73)] (T' := 73) .row c_Arr73_len c_Arr73_one hq4 rfl (by decide) e_rb0) [2, 4], .o, .o, .a 0, .o, .o, .o, .xg (ok0_sock_counting_begin_v3 hU s0_0 (s0_2 + 1) s0_1 rb0 gb1_0 gb1_1 e_gb1) [0, 1, 5], .o, .o] [0, 6, 5] (fun b => rfl) (by decide) rfl rfl (fun b => by kernel_rfl)
              · exact none_some e
            · exact none_some e
          · cases e; exact ⟨ne_ret, goes_runM hU [.b (z_lssT hq0), .q (ixRo_ok (kd := .i64) (T := 22) (x := s0_4) (sz := 1) rfl (fun w => by kernel_rfl) (RoR.row hR0) hq1), .l (accRo (RoR.row hR0) (rxC_len X0 A0) (inR_nat hq1) 0 [.slice (X0 (s0_4).toNat).a (A0 (s0_4).toNat).1 ((A0 (s0_4).toNat).1 + (X0 (s0_4).toNat).c)] rfl), .o, .o, .o, .b (z_neqF hq2), .o, .o] [0, 1, 2] (fun b => rfl) (by decide) rfl rfl (fun b => by kernel_rfl)⟩
        · exact none_some e
      · cases e; exact ⟨ne_exit 0, goes_runM hU [.b (z_lssF hq0)] [0, 1, 2] (fun b => rfl) (by decide) rfl rfl (fun b => by kernel_rfl)⟩) s r h
noncomputable def t0_sock_NewTable_v1_L0_0 (a0 : Option Addr) (p0 : Nat) (q0 : Nat) (n0 : Nat) (k0 : Nat) (X0 : Nat → RoX) (A0 : Nat → (Nat × (Nat → BitVec 8)))  (ls : List L1) : List Value := List.append [.slice a0 n0 (n0 + k0), undef, .pointer none, .int .i64 (0), .pointer (some ⟨(lget ls 0).n, 0, none⟩), undef, undef, .slice a0 n0 (n0 + k0), .int .i64 ((n0 : Int)), .bool false, .agg #[.slice none 0 0, .slice none 0 0], .pointer (some ⟨(lget ls 0).n, 0, none⟩), .slice a0 n0 (n0 + k0), .int .i64 ((n0 : Int)), .int .i64 (0)] (und 24)
def pre_sock_NewTable_v1_L0_0 (a0 : Option Addr) (p0 : Nat) (q0 : Nat) (n0 : Nat) (k0 : Nat) (X0 : Nat → RoX) (A0 : Nat → (Nat × (Nat → BitVec 8)))  (ls : List L1) : List Obj := [.cells #[.slice none 0 0, .slice none 0 0] 72]
theorem sp0_sock_NewTable_v1_L0_0_ok (h : lpO (st_sock_NewTable_v1_L0 n0 A0) (.c0) = some (.e0 )) : SpcG Try.prog M B0 S ⟨fun ls => .code (.loop bd_sock_NewTable_v1_L0) (t0_sock_NewTable_v1_L0_0 a0 p0 q0 n0 k0 X0 A0  ls), pre_sock_NewTable_v1_L0_0 a0 p0 q0 n0 k0 X0 A0 , 3, (.exit 0), fun ls => vf_sock_NewTable_v1_L0 a0 p0 q0 n0 k0 X0 A0 (.e0 ) (ls.take 1 ++ ls.drop 1), fun ls => (Hf_sock_NewTable_v1_L0 a0 p0 q0 n0 k0 X0 A0 (.e0 ) (ls.take 1 ++ ls.drop 1)).take 1 ++ List.replicate 0 unb, fun ls => (Hf_sock_NewTable_v1_L0 a0 p0 q0 n0 k0 X0 A0 (.e0 ) (ls.take 1 ++ ls.drop 1)).drop 1⟩ :=
  spc_of_goesM hU 2 (k0 := 1) (go_sock_NewTable_v1_L0 hU a0 p0 q0 n0 k0 X0 A0 hR0 _ _ h) (t0_sock_NewTable_v1_L0_0 a0 p0 q0 n0 k0 X0 A0 ) (pre_sock_NewTable_v1_L0_0 a0 p0 q0 n0 k0 X0 A0 ) (fun _ => rfl) (fun ls h => by match ls, h with | [l0], _ => exact ⟨by kernel_rfl, by kernel_rfl⟩) (fun ls h => by match ls, h with | [l0], _ => rfl) (by decide) (by decide) (fun ls => rfl)
theorem sp1_sock_NewTable_v1_L0_0_ok (c1_0 : Nat) (c1_1 : Nat → Int) (c1_2 : Nat) (c1_3 : Nat → Arr73) (h : lpO (st_sock_NewTable_v1_L0 n0 A0) (.c0) = some (.e1 c1_0 c1_1 c1_2 c1_3)) : SpcG Try.prog M B0 S ⟨fun ls => .code (.loop bd_sock_NewTable_v1_L0) (t0_sock_NewTable_v1_L0_0 a0 p0 q0 n0 k0 X0 A0  ls), pre_sock_NewTable_v1_L0_0 a0 p0 q0 n0 k0 X0 A0 , 3, (.exit 0), fun ls => vf_sock_NewTable_v1_L0 a0 p0 q0 n0 k0 X0 A0 (.e1 c1_0 c1_1 c1_2 c1_3) (ls.take 1 ++ ls.drop 1), fun ls => (Hf_sock_NewTable_v1_L0 a0 p0 q0 n0 k0 X0 A0 (.e1 c1_0 c1_1 c1_2 c1_3) (ls.take 1 ++ ls.drop 1)).take 1 ++ List.replicate 0 unb, fun ls => (Hf_sock_NewTable_v1_L0 a0 p0 q0 n0 k0 X0 A0 (.e1 c1_0 c1_1 c1_2 c1_3) (ls.take 1 ++ ls.drop 1)).drop 1⟩ :=
  spc_of_goesM hU 2 (k0 := 1) (go_sock_NewTable_v1_L0 hU a0 p0 q0 n0 k0 X0 A0 hR0 _ _ h) (t0_sock_NewTable_v1_L0_0 a0 p0 q0 n0 k0 X0 A0 ) (pre_sock_NewTable_v1_L0_0 a0 p0 q0 n0 k0 X0 A0 ) (fun _ => rfl) (fun ls h => by match ls, h with | [l0], _ => exact ⟨by kernel_rfl, by kernel_rfl⟩) (fun ls h => by match ls, h with | [l0], _ => rfl) (by decide) (by decide) (fun ls => rfl)
theorem sp2_sock_NewTable_v1_L0_0_ok (h : lpO (st_sock_NewTable_v1_L0 n0 A0) (.c0) = some (.e2 )) : SpcG Try.prog M B0 S ⟨fun ls => .code (.loop bd_sock_NewTable_v1_L0) (t0_sock_NewTable_v1_L0_0 a0 p0 q0 n0 k0 X0 A0  ls), pre_sock_NewTable_v1_L0_0 a0 p0 q0 n0 k0 X0 A0 , 3, .ret, fun ls => vf_sock_NewTable_v1_L0 a0 p0 q0 n0 k0 X0 A0 (.e2 ) (ls.take 1 ++ ls.drop 1), fun ls => (Hf_sock_NewTable_v1_L0 a0 p0 q0 n0 k0 X0 A0 (.e2 ) (ls.take 1 ++ ls.drop 1)).take 1 ++ List.replicate 0 unb, fun ls => (Hf_sock_NewTable_v1_L0 a0 p0 q0 n0 k0 X0 A0 (.e2 ) (ls.take 1 ++ ls.drop 1)).drop 1⟩ :=
  spc_of_goesM hU 2 (k0 := 1) (go_sock_NewTable_v1_L0 hU a0 p0 q0 n0 k0 X0 A0 hR0 _ _ h) (t0_sock_NewTable_v1_L0_0 a0 p0 q0 n0 k0 X0 A0 ) (pre_sock_NewTable_v1_L0_0 a0 p0 q0 n0 k0 X0 A0 ) (fun _ => rfl) (fun ls h => by match ls, h with | [l0], _ => exact ⟨by kernel_rfl, by kernel_rfl⟩) (fun ls h => by match ls, h with | [l0], _ => rfl) (by decide) (by decide) (fun ls => rfl)
theorem sp3_sock_NewTable_v1_L0_0_ok (c3_0 : Nat) (c3_1 : Nat → Int) (c3_2 : Nat) (c3_3 : Nat → Arr73) (h : lpO (st_sock_NewTable_v1_L0 n0 A0) (.c0) = some (.e3 c3_0 c3_1 c3_2 c3_3)) : SpcG Try.prog M B0 S ⟨fun ls => .code (.loop bd_sock_NewTable_v1_L0) (t0_sock_NewTable_v1_L0_0 a0 p0 q0 n0 k0 X0 A0  ls), pre_sock_NewTable_v1_L0_0 a0 p0 q0 n0 k0 X0 A0 , 3, .ret, fun ls => vf_sock_NewTable_v1_L0 a0 p0 q0 n0 k0 X0 A0 (.e3 c3_0 c3_1 c3_2 c3_3) (ls.take 1 ++ ls.drop 1), fun ls => (Hf_sock_NewTable_v1_L0 a0 p0 q0 n0 k0 X0 A0 (.e3 c3_0 c3_1 c3_2 c3_3) (ls.take 1 ++ ls.drop 1)).take 1 ++ List.replicate 0 unb, fun ls => (Hf_sock_NewTable_v1_L0 a0 p0 q0 n0 k0 X0 A0 (.e3 c3_0 c3_1 c3_2 c3_3) (ls.take 1 ++ ls.drop 1)).drop 1⟩ :=
  spc_of_goesM hU 2 (k0 := 1) (go_sock_NewTable_v1_L0 hU a0 p0 q0 n0 k0 X0 A0 hR0 _ _ h) (t0_sock_NewTable_v1_L0_0 a0 p0 q0 n0 k0 X0 A0 ) (pre_sock_NewTable_v1_L0_0 a0 p0 q0 n0 k0 X0 A0 ) (fun _ => rfl) (fun ls h => by match ls, h with | [l0], _ => exact ⟨by kernel_rfl, by kernel_rfl⟩) (fun ls h => by match ls, h with | [l0], _ => rfl) (by decide) (by decide) (fun ls => rfl)
inductive R_sock_NewTable_v1 where
  | e0 (c0_0 : Int)
  | e1 
  | e2 (c2_0 : Nat) (c2_1 : Nat → Int) (c2_2 : Nat) (c2_3 : Nat → Arr73)
noncomputable def m_sock_NewTable_v1 (n0 : Nat) (A0 : Nat → (Nat × (Nat → BitVec 8))) : Option R_sock_NewTable_v1 :=
  bif decide (16 < (n0 : Int)) then
    (some (.e0 111))
  else ((lpO (st_sock_NewTable_v1_L0 n0 A0) (.c0)).bind fun g0 => match g0 with
  | .e0  => (some (.e1))
  | .e1 g0_0 g0_1 g0_2 g0_3 => (some (.e2 g0_0 g0_1 g0_2 g0_3))
  | .e2  => (some (.e0 112))
  | .e3 g0_0 g0_1 g0_2 g0_3 => (some (.e0 112)))
def sq0_sock_NewTable_v1 (a0 : Option Addr) (p0 : Nat) (q0 : Nat) (n0 : Nat) (k0 : Nat) (X0 : Nat → RoX) (A0 : Nat → (Nat × (Nat → BitVec 8))) (c0_0 : Int) : Spc := ⟨fun ls => .call 8 #[.slice a0 n0 (n0 + k0)], fun ls => [], 0, .normal, fun ls => [.tuple #[.pointer none, .int .i64 (c0_0)]], fun ls => [], fun ls => []⟩
def sq1_sock_NewTable_v1 (a0 : Option Addr) (p0 : Nat) (q0 : Nat) (n0 : Nat) (k0 : Nat) (X0 : Nat → RoX) (A0 : Nat → (Nat × (Nat → BitVec 8)))  : Spc := ⟨fun ls => .call 8 #[.slice a0 n0 (n0 + k0)], fun ls => [], 1, .normal, fun ls => [.tuple #[.pointer (some ⟨(lget ls 0).n, 0, none⟩), .int .i64 (0)]], fun ls => [], fun ls => [.cells #[.slice none 0 0, .slice none 0 0] 72]⟩
def sq2_sock_NewTable_v1 (a0 : Option Addr) (p0 : Nat) (q0 : Nat) (n0 : Nat) (k0 : Nat) (X0 : Nat → RoX) (A0 : Nat → (Nat × (Nat → BitVec 8))) (c2_0 : Nat) (c2_1 : Nat → Int) (c2_2 : Nat) (c2_3 : Nat → Arr73) : Spc := ⟨fun ls => .call 8 #[.slice a0 n0 (n0 + k0)], fun ls => [], 3, .normal, fun ls => [.tuple #[.pointer (some ⟨(lget ls 0).n, 0, none⟩), .int .i64 (0)]], fun ls => [], fun ls => [.cells #[(rowV (lget ls 1) c2_0 1), (rowV (lget ls 2) c2_2 20)] 72, rowO (lget ls 1) (esG cZ c2_0 c2_1) 3 c2_0 1, rowO (lget ls 2) (esG c_Arr73 c2_2 c2_3) 73 c2_2 20]⟩
theorem ok0_sock_NewTable_v1 (c0_0 : Int) (e : m_sock_NewTable_v1 n0 A0 = some (.e0 c0_0)) : SpcG Try.prog M B0 S (sq0_sock_NewTable_v1 a0 p0 q0 n0 k0 X0 A0 c0_0) := by
  unfold m_sock_NewTable_v1 at e
  replace e := cond_eq_or e
  rcases e with ⟨hq0, e⟩ | ⟨hq0, e⟩
  · injection e with e; injection e with i0; subst i0; exact fn_specG hU (P := Try.prog) Try.func8 (fun xs w => by kernel_rfl) 0 _ _ (fun _ => rfl) _ _ _ [] [.o, .o, .o, .o, .b (z_gtrT hq0), .o, .o] [] (fun b => by kernel_rfl)
  · replace e := bindO_eq e
    obtain ⟨g0, e_g0, e⟩ := e
    rcases g0 with _ | ⟨g0_0, g0_1, g0_2, g0_3⟩ | _ | ⟨g0_0, g0_1, g0_2, g0_3⟩
    · try dsimp only at e
      cases e
    · try dsimp only at e
      cases e
    · try dsimp only at e
      injection e with e; injection e with i0; subst i0; exact fn_specG hU (P := Try.prog) Try.func8 (fun xs w => by kernel_rfl) 0 _ _ (fun _ => rfl) _ _ _ [] [.o, .o, .o, .o, .b (z_gtrF hq0), .o, .o, .o, .o, .o, .o, .cp, .cx (sp2_sock_NewTable_v1_L0_0_ok hU a0 p0 q0 n0 k0 X0 A0 hR0   e_g0) [0]] [] (fun b => by kernel_rfl)
    · try dsimp only at e
      injection e with e; injection e with i0; subst i0; exact fn_specG hU (P := Try.prog) Try.func8 (fun xs w => by kernel_rfl) 0 _ _ (fun _ => rfl) _ _ _ [] [.o, .o, .o, .o, .b (z_gtrF hq0), .o, .o, .o, .o, .o, .o, .cp, .cx (sp3_sock_NewTable_v1_L0_0_ok hU a0 p0 q0 n0 k0 X0 A0 hR0  g0_0 g0_1 g0_2 g0_3 e_g0) [0]] [] (fun b => by kernel_rfl)
theorem ok1_sock_NewTable_v1 (e : m_sock_NewTable_v1 n0 A0 = some (.e1 )) : SpcG Try.prog M B0 S (sq1_sock_NewTable_v1 a0 p0 q0 n0 k0 X0 A0 ) := by
  unfold m_sock_NewTable_v1 at e
  replace e := cond_eq_or e
  rcases e with ⟨hq0, e⟩ | ⟨hq0, e⟩
  · cases e
  · replace e := bindO_eq e
    obtain ⟨g0, e_g0, e⟩ := e
    rcases g0 with _ | ⟨g0_0, g0_1, g0_2, g0_3⟩ | _ | ⟨g0_0, g0_1, g0_2, g0_3⟩
    · try dsimp only at e
      exact fn_specG hU (P := Try.prog) Try.func8 (fun xs w => by kernel_rfl) 0 _ _ (fun _ => rfl) _ _ _ [0] [.o, .o, .o, .o, .b (z_gtrF hq0), .o, .o, .o, .o, .o, .o, .cp, .cx (sp0_sock_NewTable_v1_L0_0_ok hU a0 p0 q0 n0 k0 X0 A0 hR0   e_g0) [0], .o, .o, .o] [] (fun b => by kernel_rfl)
    · try dsimp only at e
      cases e
    · try dsimp only at e
      cases e
    · try dsimp only at e
      cases e
theorem ok2_sock_NewTable_v1 (c2_0 : Nat) (c2_1 : Nat → Int) (c2_2 : Nat) (c2_3 : Nat → Arr73) (e : m_sock_NewTable_v1 n0 A0 = some (.e2 c2_0 c2_1 c2_2 c2_3)) : SpcG Try.prog M B0 S (sq2_sock_NewTable_v1 a0 p0 q0 n0 k0 X0 A0 c2_0 c2_1 c2_2 c2_3) := by
  unfold m_sock_NewTable_v1 at e
  replace e := cond_eq_or e
  rcases e with ⟨hq0, e⟩ | ⟨hq0, e⟩
  · cases e
  · replace e := bindO_eq e
    obtain ⟨g0, e_g0, e⟩ := e
    rcases g0 with _ | ⟨g0_0, g0_1, g0_2, g0_3⟩ | _ | ⟨g0_0, g0_1, g0_2, g0_3⟩
    · try dsimp only at e
      cases e
    · try dsimp only at e
      injection e with e; injection e with i0 i1 i2 i3; subst i0 i1 i2 i3; exact fn_specG hU (P := Try.prog) Try.func8 (fun xs w => by kernel_rfl) 0 _ _ (fun _ => rfl) _ _ _ [0, 1, 2] [.o, .o, .o, .o, .b (z_gtrF hq0), .o, .o, .o, .o, .o, .o, .cp, .cx (sp1_sock_NewTable_v1_L0_0_ok hU a0 p0 q0 n0 k0 X0 A0 hR0  g0_0 g0_1 g0_2 g0_3 e_g0) [0], .o, .o, .o] [] (fun b => by kernel_rfl)
    · try dsimp only at e
      cases e
    · try dsimp only at e
      cases e
def sq0_sock_Table_Len   : Spc := ⟨fun ls => .call 26 #[.pointer (some ⟨(lget ls 0).n, 0, none⟩)], fun ls => [.cells #[.slice none 0 0, .slice none 0 0] 72], 0, .normal, fun ls => [.int .i64 (0)], fun ls => [.cells #[.slice none 0 0, .slice none 0 0] 72], fun ls => []⟩
end
section
variable {M : Nat → Prop} {B0 : Nat} {S : World → Prop} (hU : Up M B0 S)
include hU
theorem p0_sock_Table_Len : SpcG Try.prog M B0 S (sq0_sock_Table_Len  ) :=
  fn_specG hU (P := Try.prog) Try.func26 (fun xs w => by kernel_rfl) 1 _ _ (fun _ => rfl) _ _ _ []
    [.o, .o, .o, .o, .a 0, .o, .o]
    [] (fun b => by kernel_rfl)
inductive R_sock_counting_counted_v6 where
  | e0 
noncomputable def m_sock_counting_counted_v6 (y1 : Int) : Option R_sock_counting_counted_v6 :=
  bif decide (y1 < 0) then
    (some (.e0))
  else (bif decide (0 ≤ y1) then
    (some (.e0))
  else (none))
def sq0_sock_counting_counted_v6 (y1 : Int)  : Spc := ⟨fun ls => .call 34 #[.pointer (some ⟨(lget ls 0).n, 0, none⟩), .int .i64 (y1)], fun ls => [.cells #[.slice none 0 0, .slice none 0 0] 72], 0, .normal, fun ls => [.int .i64 (0)], fun ls => [.cells #[.slice none 0 0, .slice none 0 0] 72], fun ls => []⟩
theorem ok0_sock_counting_counted_v6 (y1 : Int) (e : m_sock_counting_counted_v6 y1 = some (.e0 )) : SpcG Try.prog M B0 S (sq0_sock_counting_counted_v6 y1 ) := by
  unfold m_sock_counting_counted_v6 at e
  replace e := cond_eq_or e
  rcases e with ⟨hq0, e⟩ | ⟨hq0, e⟩
  · exact fn_specG hU (P := Try.prog) Try.func34 (fun xs w => by kernel_rfl) 1 _ _ (fun _ => rfl) _ _ _ [] [.o, .o, .b (z_lssT hq0), .o, .o, .o] [] (fun b => by kernel_rfl)
  · replace e := cond_eq_or e
    rcases e with ⟨hq1, e⟩ | ⟨hq1, e⟩
    · exact fn_specG hU (P := Try.prog) Try.func34 (fun xs w => by kernel_rfl) 1 _ _ (fun _ => rfl) _ _ _ [] [.o, .o, .b (z_lssF hq0), .o, .o, .o, .o, .o, .a 0, .o, .b (z_geqT hq1), .o, .o] [] (fun b => by kernel_rfl)
    · exact none_some e
inductive R_sock_Table_Take_v1 where
  | e0 
noncomputable def m_sock_Table_Take_v1 (y1 : Int) : Option R_sock_Table_Take_v1 :=
  (m_sock_counting_counted_v6 y1).bind fun g0 => match g0 with
  | .e0 =>
  some (.e0)
def sq0_sock_Table_Take_v1 (y1 : Int)  : Spc := ⟨fun ls => .call 11 #[.pointer (some ⟨(lget ls 0).n, 0, none⟩), .int .i64 (y1)], fun ls => [.cells #[.slice none 0 0, .slice none 0 0] 72], 0, .normal, fun ls => [.int .i64 (110)], fun ls => [.cells #[.slice none 0 0, .slice none 0 0] 72], fun ls => []⟩
theorem ok0_sock_Table_Take_v1 (y1 : Int) (e : m_sock_Table_Take_v1 y1 = some (.e0 )) : SpcG Try.prog M B0 S (sq0_sock_Table_Take_v1 y1 ) := by
  unfold m_sock_Table_Take_v1 at e
  replace e := bindO_eq e
  obtain ⟨g0, e_g0, e⟩ := e
  cases g0
  try dsimp only at e
  exact fn_specG hU (P := Try.prog) Try.func11 (fun xs w => by kernel_rfl) 1 _ _ (fun _ => rfl) _ _ _ [] [.o, .o, .o, .o, .o, .xg (ok0_sock_counting_counted_v6 hU y1  e_g0) [0], .o, .o] [] (fun b => by kernel_rfl)
inductive R_sock_Table_Drop_v2 where
  | e0 
noncomputable def m_sock_Table_Drop_v2 (y1 : Int) : Option R_sock_Table_Drop_v2 :=
  (m_sock_counting_counted_v6 y1).bind fun g0 => match g0 with
  | .e0 =>
  some (.e0)
def sq0_sock_Table_Drop_v2 (y1 : Int)  : Spc := ⟨fun ls => .call 13 #[.pointer (some ⟨(lget ls 0).n, 0, none⟩), .int .i64 (y1)], fun ls => [.cells #[.slice none 0 0, .slice none 0 0] 72], 0, .normal, fun ls => [.int .i64 (110)], fun ls => [.cells #[.slice none 0 0, .slice none 0 0] 72], fun ls => []⟩
theorem ok0_sock_Table_Drop_v2 (y1 : Int) (e : m_sock_Table_Drop_v2 y1 = some (.e0 )) : SpcG Try.prog M B0 S (sq0_sock_Table_Drop_v2 y1 ) := by
  unfold m_sock_Table_Drop_v2 at e
  replace e := bindO_eq e
  obtain ⟨g0, e_g0, e⟩ := e
  cases g0
  try dsimp only at e
  exact fn_specG hU (P := Try.prog) Try.func13 (fun xs w => by kernel_rfl) 1 _ _ (fun _ => rfl) _ _ _ [] [.o, .o, .o, .o, .o, .xg (ok0_sock_counting_counted_v6 hU y1  e_g0) [0], .o, .o] [] (fun b => by kernel_rfl)
def sq0_slices_Clone_int_int   : Spc := ⟨fun ls => .call 38 #[.slice none 0 0], fun ls => [], 0, .normal, fun ls => [.slice none 0 0], fun ls => [], fun ls => []⟩
theorem p0_slices_Clone_int_int : SpcG Try.prog M B0 S (sq0_slices_Clone_int_int  ) :=
  fn_specG hU (P := Try.prog) Try.func38 (fun xs w => by kernel_rfl) 0 _ _ (fun _ => rfl) _ _ _ []
    [.o, .o, .o, .o]
    [] (fun b => by kernel_rfl)
def sq0_sock_Table_Counts   : Spc := ⟨fun ls => .call 24 #[.pointer (some ⟨(lget ls 0).n, 0, none⟩)], fun ls => [.cells #[.slice none 0 0, .slice none 0 0] 72], 0, .normal, fun ls => [.slice none 0 0], fun ls => [.cells #[.slice none 0 0, .slice none 0 0] 72], fun ls => []⟩
theorem p0_sock_Table_Counts : SpcG Try.prog M B0 S (sq0_sock_Table_Counts  ) :=
  fn_specG hU (P := Try.prog) Try.func24 (fun xs w => by kernel_rfl) 1 _ _ (fun _ => rfl) _ _ _ []
    [.o, .o, .o, .o, .o, .a 0, .xg (p0_slices_Clone_int_int hU  ) [], .o]
    [] (fun b => by kernel_rfl)
def sq0_sock_Table_Len_v1 (w0 : Nat) (w1 : Nat) (w2 : Nat → Int) (w3 : Nat → Arr73)  : Spc := ⟨fun ls => .call 26 #[.pointer (some ⟨(lget ls 0).n, 0, none⟩)], fun ls => [.cells #[(rowV (lget ls 1) w0 1), (rowV (lget ls 2) w1 20)] 72, rowO (lget ls 1) (esG cZ w0 w2) 3 w0 1, rowO (lget ls 2) (esG c_Arr73 w1 w3) 73 w1 20], 0, .normal, fun ls => [.int .i64 ((w1 : Int))], fun ls => [.cells #[(rowV (lget ls 1) w0 1), (rowV (lget ls 2) w1 20)] 72, rowO (lget ls 1) (esG cZ w0 w2) 3 w0 1, rowO (lget ls 2) (esG c_Arr73 w1 w3) 73 w1 20], fun ls => []⟩
theorem p0_sock_Table_Len_v1 (w0 : Nat) (w1 : Nat) (w2 : Nat → Int) (w3 : Nat → Arr73) : SpcG Try.prog M B0 S (sq0_sock_Table_Len_v1 w0 w1 w2 w3 ) :=
  fn_specG hU (P := Try.prog) Try.func26 (fun xs w => by kernel_rfl) 3 _ _ (fun _ => rfl) _ _ _ []
    [.o, .o, .o, .o, .a 0, .o, .o]
    [] (fun b => by kernel_rfl)
inductive R_sock_counting_counted_v7 where
  | e0 (c0_0 : Int)
noncomputable def m_sock_counting_counted_v7 (y1 : Int) (w0 : Nat) (w1 : Nat) (w2 : Nat → Int) (w3 : Nat → Arr73) : Option R_sock_counting_counted_v7 :=
  bif decide (y1 < 0) then
    (some (.e0 0))
  else (bif decide ((w0 : Int) ≤ y1) then
    (some (.e0 0))
  else (bif inR y1 w0 then
    (some (.e0 (w2 (y1).toNat)))
  else (none)))
def sq0_sock_counting_counted_v7 (y1 : Int) (w0 : Nat) (w1 : Nat) (w2 : Nat → Int) (w3 : Nat → Arr73) (c0_0 : Int) : Spc := ⟨fun ls => .call 34 #[.pointer (some ⟨(lget ls 0).n, 0, none⟩), .int .i64 (y1)], fun ls => [.cells #[(rowV (lget ls 1) w0 1), (rowV (lget ls 2) w1 20)] 72, rowO (lget ls 1) (esG cZ w0 w2) 3 w0 1, rowO (lget ls 2) (esG c_Arr73 w1 w3) 73 w1 20], 0, .normal, fun ls => [.int .i64 (c0_0)], fun ls => [.cells #[(rowV (lget ls 1) w0 1), (rowV (lget ls 2) w1 20)] 72, rowO (lget ls 1) (esG cZ w0 w2) 3 w0 1, rowO (lget ls 2) (esG c_Arr73 w1 w3) 73 w1 20], fun ls => []⟩
theorem ok0_sock_counting_counted_v7 (y1 : Int) (w0 : Nat) (w1 : Nat) (w2 : Nat → Int) (w3 : Nat → Arr73) (c0_0 : Int) (e : m_sock_counting_counted_v7 y1 w0 w1 w2 w3 = some (.e0 c0_0)) : SpcG Try.prog M B0 S (sq0_sock_counting_counted_v7 y1 w0 w1 w2 w3 c0_0) := by
  unfold m_sock_counting_counted_v7 at e
  replace e := cond_eq_or e
  rcases e with ⟨hq0, e⟩ | ⟨hq0, e⟩
  · injection e with e; injection e with i0; subst i0; exact fn_specG hU (P := Try.prog) Try.func34 (fun xs w => by kernel_rfl) 3 _ _ (fun _ => rfl) _ _ _ [] [.o, .o, .b (z_lssT hq0), .o, .o, .o] [] (fun b => by kernel_rfl)
  · replace e := cond_eq_or e
    rcases e with ⟨hq1, e⟩ | ⟨hq1, e⟩
    · injection e with e; injection e with i0; subst i0; exact fn_specG hU (P := Try.prog) Try.func34 (fun xs w => by kernel_rfl) 3 _ _ (fun _ => rfl) _ _ _ [] [.o, .o, .b (z_lssF hq0), .o, .o, .o, .o, .o, .a 0, .o, .b (z_geqT hq1), .o, .o] [] (fun b => by kernel_rfl)
    · replace e := cond_eq_or e
      rcases e with ⟨hq2, e⟩ | ⟨hq2, e⟩
      · injection e with e; injection e with i0; subst i0; exact fn_specG hU (P := Try.prog) Try.func34 (fun xs w => by kernel_rfl) 3 _ _ (fun _ => rfl) _ _ _ [] [.o, .o, .b (z_lssF hq0), .o, .o, .o, .o, .o, .a 0, .o, .b (z_geqF hq1), .o, .o, .o, .o, .a 0, .o, .q (ixM_ok (kd := .i64) (T := 56) (x := y1) (N := w0) (sz := 1) rfl (fun w => by kernel_rfl) hq2), .l (accG (i := 1) (f := cZ) (A := w2) (k := (y1).toNat) 0 [.int .i64 ((w2 (y1).toNat))] cZ_len (inR_nat hq2) rfl), .o] [] (fun b => by kernel_rfl)
      · exact none_some e
inductive R_sock_counting_change_v3 where
  | e0 (c0_0 : Nat → Int)
noncomputable def m_sock_counting_change_v3 (y1 : Int) (y2 : Int) (w0 : Nat) (w1 : Nat) (w2 : Nat → Int) (w3 : Nat → Arr73) : Option R_sock_counting_change_v3 :=
  bif inR y1 w0 then
    (some (.e0 (updF w2 (y1).toNat (IntKind.i64.wrap ((w2 (y1).toNat) + y2)))))
  else (none)
def sq0_sock_counting_change_v3 (y1 : Int) (y2 : Int) (w0 : Nat) (w1 : Nat) (w2 : Nat → Int) (w3 : Nat → Arr73) (c0_0 : Nat → Int) : Spc := ⟨fun ls => .call 35 #[.pointer (some ⟨(lget ls 0).n, 0, none⟩), .int .i64 (y1), .int .i64 (y2)], fun ls => [.cells #[(rowV (lget ls 1) w0 1), (rowV (lget ls 2) w1 20)] 72, rowO (lget ls 1) (esG cZ w0 w2) 3 w0 1, rowO (lget ls 2) (esG c_Arr73 w1 w3) 73 w1 20], 0, .normal, fun ls => [.tuple #[]], fun ls => [.cells #[(rowV (lget ls 1) w0 1), (rowV (lget ls 2) w1 20)] 72, rowO (lget ls 1) (esG cZ w0 c0_0) 3 w0 1, rowO (lget ls 2) (esG c_Arr73 w1 w3) 73 w1 20], fun ls => []⟩
theorem ok0_sock_counting_change_v3 (y1 : Int) (y2 : Int) (w0 : Nat) (w1 : Nat) (w2 : Nat → Int) (w3 : Nat → Arr73) (c0_0 : Nat → Int) (e : m_sock_counting_change_v3 y1 y2 w0 w1 w2 w3 = some (.e0 c0_0)) : SpcG Try.prog M B0 S (sq0_sock_counting_change_v3 y1 y2 w0 w1 w2 w3 c0_0) := by
  unfold m_sock_counting_change_v3 at e
  replace e := cond_eq_or e
  rcases e with ⟨hq0, e⟩ | ⟨hq0, e⟩
  · injection e with e; injection e with i0; subst i0; exact fn_specG hU (P := Try.prog) Try.func35 (fun xs w => by kernel_rfl) 3 _ _ (fun _ => rfl) _ _ _ [] [.o, .o, .o, .a 0, .o, .q (ixM_ok (kd := .i64) (T := 56) (x := y1) (N := w0) (sz := 1) rfl (fun w => by kernel_rfl) hq0), .l (accG (i := 1) (f := cZ) (A := w2) (k := (y1).toNat) 0 [.int .i64 ((w2 (y1).toNat))] cZ_len (inR_nat hq0) rfl), .o, .o, .q (ixM_ok (kd := .i64) (T := 56) (x := y1) (N := w0) (sz := 1) rfl (fun w => by kernel_rfl) hq0), .x (sqStG_ok (T := 3) (e := 3) (f := cZ) (A := w2) (v := (IntKind.i64.wrap ((w2 (y1).toNat) + y2))) 0 (.int .i64 ((IntKind.i64.wrap ((w2 (y1).toNat) + y2)))) cZ_len cZ_one rfl rfl (fun w => by kernel_rfl) (inR_nat hq0)) [1]] [] (fun b => by kernel_rfl)
  · exact none_some e
inductive R_sock_Table_Take_v2 where
  | e0 (c0_0 : Nat → Int) (c0_1 : Int)
noncomputable def m_sock_Table_Take_v2 (y1 : Int) (w0 : Nat) (w1 : Nat) (w2 : Nat → Int) (w3 : Nat → Arr73) : Option R_sock_Table_Take_v2 :=
  (m_sock_counting_counted_v7 y1 w0 w1 w2 w3).bind fun g0 => match g0 with
  | .e0 g0_0 =>
  bif g0_0 == 0 then
    (some (.e0 w2 110))
  else ((m_sock_counting_change_v3 y1 1 w0 w1 w2 w3).bind fun g1 => match g1 with
  | .e0 g1_0 =>
  some (.e0 g1_0 0))
def sq0_sock_Table_Take_v2 (y1 : Int) (w0 : Nat) (w1 : Nat) (w2 : Nat → Int) (w3 : Nat → Arr73) (c0_0 : Nat → Int) (c0_1 : Int) : Spc := ⟨fun ls => .call 11 #[.pointer (some ⟨(lget ls 0).n, 0, none⟩), .int .i64 (y1)], fun ls => [.cells #[(rowV (lget ls 1) w0 1), (rowV (lget ls 2) w1 20)] 72, rowO (lget ls 1) (esG cZ w0 w2) 3 w0 1, rowO (lget ls 2) (esG c_Arr73 w1 w3) 73 w1 20], 0, .normal, fun ls => [.int .i64 (c0_1)], fun ls => [.cells #[(rowV (lget ls 1) w0 1), (rowV (lget ls 2) w1 20)] 72, rowO (lget ls 1) (esG cZ w0 c0_0) 3 w0 1, rowO (lget ls 2) (esG c_Arr73 w1 w3) 73 w1 20], fun ls => []⟩
end
section
variable {M : Nat → Prop} {B0 : Nat} {S : World → Prop} (hU : Up M B0 S) (y1 : Int) (w0 : Nat) (w1 : Nat) (w2 : Nat → Int) (w3 : Nat → Arr73) (c0_0 : Nat → Int) (c0_1 : Int)
include hU y1 w0 w1 w2 w3 c0_0 c0_1
theorem ok0_sock_Table_Take_v2 (e : m_sock_Table_Take_v2 y1 w0 w1 w2 w3 = some (.e0 c0_0 c0_1)) : SpcG Try.prog M B0 S (sq0_sock_Table_Take_v2 y1 w0 w1 w2 w3 c0_0 c0_1) := by
  unfold m_sock_Table_Take_v2 at e
  replace e := bindO_eq e
  obtain ⟨g0, e_g0, e⟩ := e
  obtain ⟨g0_0⟩ := g0
  try dsimp only at e
  replace e := cond_eq_or e
  rcases e with ⟨hq0, e⟩ | ⟨hq0, e⟩
  · injection e with e; injection e with i0 i1; subst i0 i1; exact fn_specG hU (P := Try.prog) Try.func11 (fun xs w => by kernel_rfl) 3 _ _ (fun _ => rfl) _ _ _ [] [.o, .o, .o, .o, .o, .xg (ok0_sock_counting_counted_v7 hU y1 w0 w1 w2 w3 g0_0 e_g0) [0, 1, 2], .b (z_eqlT hq0), .o] [] (fun b => by kernel_rfl)
  · replace e := bindO_eq e
    obtain ⟨g1, e_g1, e⟩ := e
    obtain ⟨g1_0⟩ := g1
    try dsimp only at e
    injection e with e; injection e with i0 i1; subst i0 i1; exact fn_specG hU (P := Try.prog) Try.func11 (fun xs w => by kernel_rfl) 3 _ _ (fun _ => rfl) _ _ _ [] [.o, .o, .o, .o, .o, .xg (ok0_sock_counting_counted_v7 hU y1 w0 w1 w2 w3 g0_0 e_g0) [0, 1, 2], .b (z_eqlF hq0), .o, .o, .o, .o, .xg (ok0_sock_counting_change_v3 hU y1 1 w0 w1 w2 w3 g1_0 e_g1) [0, 1, 2], .o] [] (fun b => by kernel_rfl)
inductive R_sock_Table_Drop_v3 where
  | e0 (c0_0 : Nat → Int) (c0_1 : Int)
noncomputable def m_sock_Table_Drop_v3 (y1 : Int) (w0 : Nat) (w1 : Nat) (w2 : Nat → Int) (w3 : Nat → Arr73) : Option R_sock_Table_Drop_v3 :=
  (m_sock_counting_counted_v7 y1 w0 w1 w2 w3).bind fun g0 => match g0 with
  | .e0 g0_0 =>
  bif decide (g0_0 ≤ 1) then
    (some (.e0 w2 110))
  else ((m_sock_counting_change_v3 y1 (-1) w0 w1 w2 w3).bind fun g1 => match g1 with
  | .e0 g1_0 =>
  some (.e0 g1_0 0))
def sq0_sock_Table_Drop_v3 (y1 : Int) (w0 : Nat) (w1 : Nat) (w2 : Nat → Int) (w3 : Nat → Arr73) (c0_0 : Nat → Int) (c0_1 : Int) : Spc := ⟨fun ls => .call 13 #[.pointer (some ⟨(lget ls 0).n, 0, none⟩), .int .i64 (y1)], fun ls => [.cells #[(rowV (lget ls 1) w0 1), (rowV (lget ls 2) w1 20)] 72, rowO (lget ls 1) (esG cZ w0 w2) 3 w0 1, rowO (lget ls 2) (esG c_Arr73 w1 w3) 73 w1 20], 0, .normal, fun ls => [.int .i64 (c0_1)], fun ls => [.cells #[(rowV (lget ls 1) w0 1), (rowV (lget ls 2) w1 20)] 72, rowO (lget ls 1) (esG cZ w0 c0_0) 3 w0 1, rowO (lget ls 2) (esG c_Arr73 w1 w3) 73 w1 20], fun ls => []⟩
theorem ok0_sock_Table_Drop_v3 (e : m_sock_Table_Drop_v3 y1 w0 w1 w2 w3 = some (.e0 c0_0 c0_1)) : SpcG Try.prog M B0 S (sq0_sock_Table_Drop_v3 y1 w0 w1 w2 w3 c0_0 c0_1) := by
  unfold m_sock_Table_Drop_v3 at e
  replace e := bindO_eq e
  obtain ⟨g0, e_g0, e⟩ := e
  obtain ⟨g0_0⟩ := g0
  try dsimp only at e
  replace e := cond_eq_or e
  rcases e with ⟨hq0, e⟩ | ⟨hq0, e⟩
  · injection e with e; injection e with i0 i1; subst i0 i1; exact fn_specG hU (P := Try.prog) Try.func13 (fun xs w => by kernel_rfl) 3 _ _ (fun _ => rfl) _ _ _ [] [.o, .o, .o, .o, .o, .xg (ok0_sock_counting_counted_v7 hU y1 w0 w1 w2 w3 g0_0 e_g0) [0, 1, 2], .b (z_leqT hq0), .o] [] (fun b => by kernel_rfl)
  · replace e := bindO_eq e
    obtain ⟨g1, e_g1, e⟩ := e
    obtain ⟨g1_0⟩ := g1
    try dsimp only at e
    injection e with e; injection e with i0 i1; subst i0 i1; exact fn_specG hU (P := Try.prog) Try.func13 (fun xs w => by kernel_rfl) 3 _ _ (fun _ => rfl) _ _ _ [] [.o, .o, .o, .o, .o, .xg (ok0_sock_counting_counted_v7 hU y1 w0 w1 w2 w3 g0_0 e_g0) [0, 1, 2], .b (z_leqF hq0), .o, .o, .o, .o, .xg (ok0_sock_counting_change_v3 hU y1 (-1) w0 w1 w2 w3 g1_0 e_g1) [0, 1, 2], .o] [] (fun b => by kernel_rfl)
inductive R_slices_Clone_int_int_v1 where
  | e0 (c0_0 : Nat → Int)
noncomputable def m_slices_Clone_int_int_v1 (w0 : Nat) (w1 : Nat → Int) : Option R_slices_Clone_int_int_v1 :=
  bif decide (w0 ≤ 1000000) then
    (some (.e0 (catF (fun _ => 0) 0 w1)))
  else (none)
def sq0_slices_Clone_int_int_v1 (w0 : Nat) (w1 : Nat → Int) (c0_0 : Nat → Int) : Spc := ⟨fun ls => .call 38 #[(rowV (lget ls 0) w0 1)], fun ls => [rowO (lget ls 0) (esG cZ w0 w1) 3 w0 1], 1, .normal, fun ls => [(rowV (lget ls 1) (0 + w0) 1)], fun ls => [rowO (lget ls 0) (esG cZ w0 w1) 3 w0 1], fun ls => [rowO (lget ls 1) (esG cZ (0 + w0) c0_0) 3 (0 + w0) 1]⟩
end
section
variable {M : Nat → Prop} {B0 : Nat} {S : World → Prop} (hU : Up M B0 S) (w0 : Nat)
include hU w0
theorem ok0_slices_Clone_int_int_v1 (w1 : Nat → Int) (c0_0 : Nat → Int) (e : m_slices_Clone_int_int_v1 w0 w1 = some (.e0 c0_0)) : SpcG Try.prog M B0 S (sq0_slices_Clone_int_int_v1 w0 w1 c0_0) := by
  unfold m_slices_Clone_int_int_v1 at e
  replace e := cond_eq_or e
  rcases e with ⟨hq0, e⟩ | ⟨hq0, e⟩
  · injection e with e; injection e with i0; subst i0; exact fn_specG hU (P := Try.prog) Try.func38 (fun xs w => by kernel_rfl) 1 _ _ (fun _ => rfl) _ _ _ [2] [.o, .o, .o, .o, .o, .x (sqApS_ok (ty := 56) rt56 #[false, false] (N := 0) (m := w0) (A := (fun _ => 0)) (B := w1) (T' := 3) .plain cZ_len cZ_one (by decide) hq0 (by decide) rfl) [1, 0], .o] [] (fun b => by kernel_rfl)
  · exact none_some e
inductive R_sock_Table_Counts_v1 where
  | e0 (c0_0 : Nat → Int)
noncomputable def m_sock_Table_Counts_v1 (w0 : Nat) (w1 : Nat) (w2 : Nat → Int) (w3 : Nat → Arr73) : Option R_sock_Table_Counts_v1 :=
  (m_slices_Clone_int_int_v1 w0 w2).bind fun g0 => match g0 with
  | .e0 g0_0 =>
  some (.e0 g0_0)
def sq0_sock_Table_Counts_v1 (w0 : Nat) (w1 : Nat) (w2 : Nat → Int) (w3 : Nat → Arr73) (c0_0 : Nat → Int) : Spc := ⟨fun ls => .call 24 #[.pointer (some ⟨(lget ls 0).n, 0, none⟩)], fun ls => [.cells #[(rowV (lget ls 1) w0 1), (rowV (lget ls 2) w1 20)] 72, rowO (lget ls 1) (esG cZ w0 w2) 3 w0 1, rowO (lget ls 2) (esG c_Arr73 w1 w3) 73 w1 20], 1, .normal, fun ls => [(rowV (lget ls 3) (0 + w0) 1)], fun ls => [.cells #[(rowV (lget ls 1) w0 1), (rowV (lget ls 2) w1 20)] 72, rowO (lget ls 1) (esG cZ w0 w2) 3 w0 1, rowO (lget ls 2) (esG c_Arr73 w1 w3) 73 w1 20], fun ls => [rowO (lget ls 3) (esG cZ (0 + w0) c0_0) 3 (0 + w0) 1]⟩
theorem ok0_sock_Table_Counts_v1 (w1 : Nat) (w2 : Nat → Int) (w3 : Nat → Arr73) (c0_0 : Nat → Int) (e : m_sock_Table_Counts_v1 w0 w1 w2 w3 = some (.e0 c0_0)) : SpcG Try.prog M B0 S (sq0_sock_Table_Counts_v1 w0 w1 w2 w3 c0_0) := by
  unfold m_sock_Table_Counts_v1 at e
  replace e := bindO_eq e
  obtain ⟨g0, e_g0, e⟩ := e
  obtain ⟨g0_0⟩ := g0
  try dsimp only at e
  injection e with e; injection e with i0; subst i0; exact fn_specG hU (P := Try.prog) Try.func24 (fun xs w => by kernel_rfl) 3 _ _ (fun _ => rfl) _ _ _ [3] [.o, .o, .o, .o, .o, .a 0, .xg (ok0_slices_Clone_int_int_v1 hU w0 w2 g0_0 e_g0) [1], .o] [] (fun b => by kernel_rfl)
inductive Sh_barbicanlaw11_SockCounts_L0 where
  | c0 
  | c1 (s0_0 : Nat) (s0_1 : Nat → (Nat × (Nat → BitVec 8))) (s0_2 : Int)
inductive Ex_barbicanlaw11_SockCounts_L0 where
  | e0 
  | e1 (c1_0 : Nat) (c1_1 : Nat → (Nat × (Nat → BitVec 8)))
noncomputable def st_barbicanlaw11_SockCounts_L0 (y0 : Int) : Sh_barbicanlaw11_SockCounts_L0 → Option (Sh_barbicanlaw11_SockCounts_L0 ⊕ Ex_barbicanlaw11_SockCounts_L0)
  | .c0  =>
    bif decide (0 < y0) then
      (some (.inl (.c1 1 (fun _ => (20, (fun k => if k = 0 then 0#8 else if k = 1 then 0#8 else if k = 2 then 0#8 else if k = 3 then 0#8 else if k = 4 then 0#8 else if k = 5 then 0#8 else if k = 6 then 0#8 else if k = 7 then 0#8 else if k = 8 then 0#8 else if k = 9 then 0#8 else if k = 10 then 0#8 else if k = 11 then 0#8 else if k = 12 then 0#8 else if k = 13 then 0#8 else if k = 14 then 0#8 else if k = 15 then 0#8 else if k = 16 then 0#8 else if k = 17 then 0#8 else if k = 18 then 0#8 else 0#8))) 1)))
    else (some (.inr (.e0 )))
  | .c1 s0_0 s0_1 s0_2 =>
    bif decide (s0_2 < y0) then
      (bif decide (s0_0 ≤ 1000000) then
        (some (.inl (.c1 (s0_0 + 1) (updF s0_1 s0_0 (20, (fun k => if k = 0 then 0#8 else if k = 1 then 0#8 else if k = 2 then 0#8 else if k = 3 then 0#8 else if k = 4 then 0#8 else if k = 5 then 0#8 else if k = 6 then 0#8 else if k = 7 then 0#8 else if k = 8 then 0#8 else if k = 9 then 0#8 else if k = 10 then 0#8 else if k = 11 then 0#8 else if k = 12 then 0#8 else if k = 13 then 0#8 else if k = 14 then 0#8 else if k = 15 then 0#8 else if k = 16 then 0#8 else if k = 17 then 0#8 else if k = 18 then 0#8 else 0#8))) (IntKind.i64.wrap (s0_2 + 1)))))
      else (none))
    else (some (.inr (.e1 s0_0 s0_1)))
noncomputable def bd_barbicanlaw11_SockCounts_L0 : Code := codeOf Try.f6 [1, 1, 1, 1, 0, 1, 0, 0]
def fl_barbicanlaw11_SockCounts_L0 (y0 : Int) (a0 : Option Addr) (p0 : Nat) (q0 : Nat) (n0 : Nat) (k0 : Nat) (A0 : Nat → BitVec 8) : Sh_barbicanlaw11_SockCounts_L0 → List L1 → List Value
  | .c0 , ls => [.int .i64 (y0), .slice a0 n0 (n0 + k0), .bool false, .slice none 0 0, .int .i64 (0)]
  | .c1 s0_0 s0_1 s0_2, ls => [.int .i64 (y0), .slice a0 n0 (n0 + k0), .bool false, (rrV (lget ls 0) s0_0), .int .i64 (s0_2)]
def mf_barbicanlaw11_SockCounts_L0 : Sh_barbicanlaw11_SockCounts_L0 → List (Nat × Nat)
  | .c0  => [(2, 2), (3, 114)]
  | .c1 _ _ _ => [(2, 2), (3, 114)]
noncomputable def fr_barbicanlaw11_SockCounts_L0 (y0 : Int) (a0 : Option Addr) (p0 : Nat) (q0 : Nat) (n0 : Nat) (k0 : Nat) (A0 : Nat → BitVec 8) (s : Sh_barbicanlaw11_SockCounts_L0) : List L1 → List Value := mrgF (mf_barbicanlaw11_SockCounts_L0 s) (fl_barbicanlaw11_SockCounts_L0 y0 a0 p0 q0 n0 k0 A0 s) 1
def Hs_barbicanlaw11_SockCounts_L0 (y0 : Int) (a0 : Option Addr) (p0 : Nat) (q0 : Nat) (n0 : Nat) (k0 : Nat) (A0 : Nat → BitVec 8) : Sh_barbicanlaw11_SockCounts_L0 → List L1 → List Obj
  | .c0 , ls => [unb, unb]
  | .c1 s0_0 s0_1 s0_2, ls => [rrO (lget ls 0) 25 5 cu8 1 s0_0 s0_1, unb]
def vl_barbicanlaw11_SockCounts_L0 (y0 : Int) (a0 : Option Addr) (p0 : Nat) (q0 : Nat) (n0 : Nat) (k0 : Nat) (A0 : Nat → BitVec 8) : Ex_barbicanlaw11_SockCounts_L0 → List L1 → List Value
  | .e0 , ls => [.int .i64 (y0), .slice a0 n0 (n0 + k0), .bool false, .slice none 0 0]
  | .e1 c1_0 c1_1, ls => [.int .i64 (y0), .slice a0 n0 (n0 + k0), .bool false, (rrV (lget ls 0) c1_0)]
def mk_barbicanlaw11_SockCounts_L0 : Ex_barbicanlaw11_SockCounts_L0 → List (Nat × Nat)
  | .e0  => [(2, 2), (2, 115)]
  | .e1 _ _ => [(2, 2), (2, 115)]
noncomputable def vf_barbicanlaw11_SockCounts_L0 (y0 : Int) (a0 : Option Addr) (p0 : Nat) (q0 : Nat) (n0 : Nat) (k0 : Nat) (A0 : Nat → BitVec 8) (r : Ex_barbicanlaw11_SockCounts_L0) : List L1 → List Value := mrgF (mk_barbicanlaw11_SockCounts_L0 r) (vl_barbicanlaw11_SockCounts_L0 y0 a0 p0 q0 n0 k0 A0 r) 1
def Hf_barbicanlaw11_SockCounts_L0 (y0 : Int) (a0 : Option Addr) (p0 : Nat) (q0 : Nat) (n0 : Nat) (k0 : Nat) (A0 : Nat → BitVec 8) : Ex_barbicanlaw11_SockCounts_L0 → List L1 → List Obj
  | .e0 , ls => [unb, unb]
  | .e1 c1_0 c1_1, ls => [rrO (lget ls 0) 25 5 cu8 1 c1_0 c1_1, unb]
def ex_barbicanlaw11_SockCounts_L0 : Ex_barbicanlaw11_SockCounts_L0 → Ex
  | .e0  => (.exit 0)
  | .e1 _ _ => (.exit 0)
end
section
variable {M : Nat → Prop} {B0 : Nat} {S : World → Prop} (hU : Up M B0 S) (y0 : Int) (a0 : Option Addr) (p0 : Nat) (q0 : Nat) (n0 : Nat) (k0 : Nat) (A0 : Nat → BitVec 8) (hR0 : Ro S cu8 1 a0 p0 q0 n0 A0)
include hU y0 a0 p0 q0 n0 k0 A0 hR0
theorem go_barbicanlaw11_SockCounts_L0 (s : Sh_barbicanlaw11_SockCounts_L0) (r : Ex_barbicanlaw11_SockCounts_L0) (h : lpO (st_barbicanlaw11_SockCounts_L0 y0) s = some r) : GoesG Try.prog M B0 S (.loop bd_barbicanlaw11_SockCounts_L0) 2 (fr_barbicanlaw11_SockCounts_L0 y0 a0 p0 q0 n0 k0 A0 s) (Hs_barbicanlaw11_SockCounts_L0 y0 a0 p0 q0 n0 k0 A0 s) (ex_barbicanlaw11_SockCounts_L0 r) 0 (vf_barbicanlaw11_SockCounts_L0 y0 a0 p0 q0 n0 k0 A0 r) (Hf_barbicanlaw11_SockCounts_L0 y0 a0 p0 q0 n0 k0 A0 r) 2 :=
  goes_lpO (fun s q e => by
    cases s with
    | c0  =>
      unfold st_barbicanlaw11_SockCounts_L0 at e
      dsimp only at e
      replace e := cond_eq_or e
      rcases e with ⟨hq0, e⟩ | ⟨hq0, e⟩
      · cases e; exact goes_runM hU [.o, .o, .b (z_lssT hq0), .o, .o, .o, .xg (sqApRR0_ok (ty := 22) (T2 := 5) rt22 #[false, false] .plain (f := cu8) (sz := 1) (m := 20) (B := (fun k => if k = 0 then 0#8 else if k = 1 then 0#8 else if k = 2 then 0#8 else if k = 3 then 0#8 else if k = 4 then 0#8 else if k = 5 then 0#8 else if k = 6 then 0#8 else if k = 7 then 0#8 else if k = 8 then 0#8 else if k = 9 then 0#8 else if k = 10 then 0#8 else if k = 11 then 0#8 else if k = 12 then 0#8 else if k = 13 then 0#8 else if k = 14 then 0#8 else if k = 15 then 0#8 else if k = 16 then 0#8 else if k = 17 then 0#8 else if k = 18 then 0#8 else 0#8)) (c := 1) (T' := 25) (by decide) (by decide) (by decide)) [3, 2], .o, .o, .o, .o] [4] (fun b => rfl) (by decide) rfl rfl (fun b => by kernel_rfl)
      · cases e; exact ⟨ne_exit 0, goes_runM hU [.o, .o, .b (z_lssF hq0)] [0] (fun b => rfl) (by decide) rfl rfl (fun b => by kernel_rfl)⟩
    | c1 s0_0 s0_1 s0_2 =>
      unfold st_barbicanlaw11_SockCounts_L0 at e
      dsimp only at e
      replace e := cond_eq_or e
      rcases e with ⟨hq0, e⟩ | ⟨hq0, e⟩
      · replace e := cond_eq_or e
        rcases e with ⟨hq1, e⟩ | ⟨hq1, e⟩
        · cases e; exact goes_runM hU [.o, .o, .b (z_lssT hq0), .o, .o, .o, .xg (sqApRR_ok (ty := 22) (T2 := 5) rt22 #[false, false] .plain (f := cu8) (sz := 1) (N := s0_0) (D := s0_1) (m := 20) (B := (fun k => if k = 0 then 0#8 else if k = 1 then 0#8 else if k = 2 then 0#8 else if k = 3 then 0#8 else if k = 4 then 0#8 else if k = 5 then 0#8 else if k = 6 then 0#8 else if k = 7 then 0#8 else if k = 8 then 0#8 else if k = 9 then 0#8 else if k = 10 then 0#8 else if k = 11 then 0#8 else if k = 12 then 0#8 else if k = 13 then 0#8 else if k = 14 then 0#8 else if k = 15 then 0#8 else if k = 16 then 0#8 else if k = 17 then 0#8 else if k = 18 then 0#8 else 0#8)) (c := 1) (T' := 25) (by decide) (by decide) hq1 (by decide)) [0, 3, 2], .o, .o, .o, .o] [4] (fun b => rfl) (by decide) rfl rfl (fun b => by kernel_rfl)
        · exact none_some e
      · cases e; exact ⟨ne_exit 0, goes_runM hU [.o, .o, .b (z_lssF hq0)] [0] (fun b => rfl) (by decide) rfl rfl (fun b => by kernel_rfl)⟩) s r h
noncomputable def t0_barbicanlaw11_SockCounts_L0_0 (y0 : Int) (a0 : Option Addr) (p0 : Nat) (q0 : Nat) (n0 : Nat) (k0 : Nat) (A0 : Nat → BitVec 8)  (ls : List L1) : List Value := List.append [.int .i64 (y0), .slice a0 n0 (n0 + k0), undef, undef, .bool false, .slice none 0 0, .int .i64 (0)] (List.append (und 7) (List.append [.bool true, .bool false, .int .i64 (y0), .bool false, .bool false, .int .i64 (y0), .bool false, .bool false, .bool false, .slice a0 n0 (n0 + k0), .int .i64 ((n0 : Int)), .bool false, .bool false] (und 94)))
def pre_barbicanlaw11_SockCounts_L0_0 (y0 : Int) (a0 : Option Addr) (p0 : Nat) (q0 : Nat) (n0 : Nat) (k0 : Nat) (A0 : Nat → BitVec 8)  (ls : List L1) : List Obj := []
theorem sp0_barbicanlaw11_SockCounts_L0_0_ok (h : lpO (st_barbicanlaw11_SockCounts_L0 y0) (.c0) = some (.e0 )) : SpcG Try.prog M B0 S ⟨fun ls => .code (.loop bd_barbicanlaw11_SockCounts_L0) (t0_barbicanlaw11_SockCounts_L0_0 y0 a0 p0 q0 n0 k0 A0  ls), pre_barbicanlaw11_SockCounts_L0_0 y0 a0 p0 q0 n0 k0 A0 , 2, (.exit 0), fun ls => vf_barbicanlaw11_SockCounts_L0 y0 a0 p0 q0 n0 k0 A0 (.e0 ) (ls.take 0 ++ ls.drop 0), fun ls => (Hf_barbicanlaw11_SockCounts_L0 y0 a0 p0 q0 n0 k0 A0 (.e0 ) (ls.take 0 ++ ls.drop 0)).take 0 ++ List.replicate 0 unb, fun ls => (Hf_barbicanlaw11_SockCounts_L0 y0 a0 p0 q0 n0 k0 A0 (.e0 ) (ls.take 0 ++ ls.drop 0)).drop 0⟩ :=
  spc_of_goesM hU 1 (k0 := 0) (go_barbicanlaw11_SockCounts_L0 hU y0 a0 p0 q0 n0 k0 A0 hR0 _ _ h) (t0_barbicanlaw11_SockCounts_L0_0 y0 a0 p0 q0 n0 k0 A0 ) (pre_barbicanlaw11_SockCounts_L0_0 y0 a0 p0 q0 n0 k0 A0 ) (fun _ => rfl) (fun ls h => by match ls, h with | [], _ => exact ⟨by kernel_rfl, by kernel_rfl⟩) (fun ls h => by match ls, h with | [], _ => rfl) (by decide) (by decide) (fun ls => rfl)
theorem sp1_barbicanlaw11_SockCounts_L0_0_ok (c1_0 : Nat) (c1_1 : Nat → (Nat × (Nat → BitVec 8))) (h : lpO (st_barbicanlaw11_SockCounts_L0 y0) (.c0) = some (.e1 c1_0 c1_1)) : SpcG Try.prog M B0 S ⟨fun ls => .code (.loop bd_barbicanlaw11_SockCounts_L0) (t0_barbicanlaw11_SockCounts_L0_0 y0 a0 p0 q0 n0 k0 A0  ls), pre_barbicanlaw11_SockCounts_L0_0 y0 a0 p0 q0 n0 k0 A0 , 2, (.exit 0), fun ls => vf_barbicanlaw11_SockCounts_L0 y0 a0 p0 q0 n0 k0 A0 (.e1 c1_0 c1_1) (ls.take 0 ++ ls.drop 0), fun ls => (Hf_barbicanlaw11_SockCounts_L0 y0 a0 p0 q0 n0 k0 A0 (.e1 c1_0 c1_1) (ls.take 0 ++ ls.drop 0)).take 0 ++ List.replicate 0 unb, fun ls => (Hf_barbicanlaw11_SockCounts_L0 y0 a0 p0 q0 n0 k0 A0 (.e1 c1_0 c1_1) (ls.take 0 ++ ls.drop 0)).drop 0⟩ :=
  spc_of_goesM hU 1 (k0 := 0) (go_barbicanlaw11_SockCounts_L0 hU y0 a0 p0 q0 n0 k0 A0 hR0 _ _ h) (t0_barbicanlaw11_SockCounts_L0_0 y0 a0 p0 q0 n0 k0 A0 ) (pre_barbicanlaw11_SockCounts_L0_0 y0 a0 p0 q0 n0 k0 A0 ) (fun _ => rfl) (fun ls h => by match ls, h with | [], _ => exact ⟨by kernel_rfl, by kernel_rfl⟩) (fun ls h => by match ls, h with | [], _ => rfl) (by decide) (by decide) (fun ls => rfl)
inductive Sh_barbicanlaw11_SockCounts_L1 where
  | c0 (s0_0 : Int)
inductive Ex_barbicanlaw11_SockCounts_L1 where
  | e0 (c0_0 : Nat → Int)
  | e1 (c1_0 : Nat → Int)
noncomputable def st_barbicanlaw11_SockCounts_L1 (y0 : Int) (n0 : Nat) (A0 : Nat → BitVec 8) : Sh_barbicanlaw11_SockCounts_L1 → Option (Sh_barbicanlaw11_SockCounts_L1 ⊕ Ex_barbicanlaw11_SockCounts_L1)
  | .c0 s0_0 =>
    bif decide (s0_0 < (n0 : Int)) then
      (bif inR s0_0 n0 then
        (bif y0 == 0 then
          (none)
        else (bif ((A0 (s0_0).toNat) % 2#8) == 0#8 then
          ((m_sock_Table_Take_v1 (zrem (nn ((A0 (s0_0).toNat) / 2#8)) y0)).bind fun gb0 => match gb0 with
          | .e0 =>
          some (.inr (.e1 (fun _ => 0))))
        else ((m_sock_Table_Drop_v2 (zrem (nn ((A0 (s0_0).toNat) / 2#8)) y0)).bind fun gb0 => match gb0 with
        | .e0 =>
        bif inR (zrem (nn ((A0 (s0_0).toNat) / 2#8)) y0) 16 then
          (some (.inl (.c0 (IntKind.i64.wrap (s0_0 + 1)))))
        else (none))))
      else (none))
    else (some (.inr (.e0 (fun _ => 0))))
noncomputable def bd_barbicanlaw11_SockCounts_L1 : Code := codeOf Try.f6 [1, 1, 1, 1, 1, 1, 1, 1, 0, 1, 0, 0]
def fl_barbicanlaw11_SockCounts_L1 (y0 : Int) (a0 : Option Addr) (p0 : Nat) (q0 : Nat) (n0 : Nat) (k0 : Nat) (A0 : Nat → BitVec 8) : Sh_barbicanlaw11_SockCounts_L1 → List L1 → List Value
  | .c0 s0_0, ls => [.int .i64 (y0), .slice a0 n0 (n0 + k0), .bool false, .pointer (some ⟨(lget ls 2).n, 0, none⟩), .pointer (some ⟨(lget ls 3).n, 0, none⟩), .int .i64 (s0_0), ((lget ls 1).u 12), ((lget ls 1).u 13), ((lget ls 1).u 99), ((lget ls 1).u 100), ((lget ls 1).u 101), ((lget ls 1).u 102), ((lget ls 1).u 103), ((lget ls 1).u 104), ((lget ls 1).u 105), ((lget ls 1).u 106), ((lget ls 1).u 107), ((lget ls 1).u 108), ((lget ls 1).u 109), ((lget ls 1).u 110), ((lget ls 1).u 111), ((lget ls 1).u 112), ((lget ls 1).u 113), ((lget ls 1).u 114), ((lget ls 1).u 115), ((lget ls 1).u 116), ((lget ls 1).u 117), ((lget ls 1).u 118), ((lget ls 1).u 119), ((lget ls 1).u 120)]
def mf_barbicanlaw11_SockCounts_L1 : Sh_barbicanlaw11_SockCounts_L1 → List (Nat × Nat)
  | .c0 _ => [(2, 2), (1, 2), (1, 1), (2, 1), (2, 85), (22, 0)]
noncomputable def fr_barbicanlaw11_SockCounts_L1 (y0 : Int) (a0 : Option Addr) (p0 : Nat) (q0 : Nat) (n0 : Nat) (k0 : Nat) (A0 : Nat → BitVec 8) (s : Sh_barbicanlaw11_SockCounts_L1) : List L1 → List Value := mrgF (mf_barbicanlaw11_SockCounts_L1 s) (fl_barbicanlaw11_SockCounts_L1 y0 a0 p0 q0 n0 k0 A0 s) 4
def Hs_barbicanlaw11_SockCounts_L1 (y0 : Int) (a0 : Option Addr) (p0 : Nat) (q0 : Nat) (n0 : Nat) (k0 : Nat) (A0 : Nat → BitVec 8) : Sh_barbicanlaw11_SockCounts_L1 → List L1 → List Obj
  | .c0 s0_0, ls => [unb, unb, .cells #[.slice none 0 0, .slice none 0 0] 72, .cells ⟨esG cZ 16 (fun _ => 0)⟩ 66, unb]
def vl_barbicanlaw11_SockCounts_L1 (y0 : Int) (a0 : Option Addr) (p0 : Nat) (q0 : Nat) (n0 : Nat) (k0 : Nat) (A0 : Nat → BitVec 8) : Ex_barbicanlaw11_SockCounts_L1 → List L1 → List Value
  | .e0 c0_0, ls => [.int .i64 (y0), .slice a0 n0 (n0 + k0), .bool false, .pointer (some ⟨(lget ls 2).n, 0, none⟩), .pointer (some ⟨(lget ls 3).n, 0, none⟩), ((lget ls 1).u 12), ((lget ls 1).u 13), ((lget ls 1).u 99), ((lget ls 1).u 100), ((lget ls 1).u 101), ((lget ls 1).u 102), ((lget ls 1).u 103), ((lget ls 1).u 104), ((lget ls 1).u 105), ((lget ls 1).u 106), ((lget ls 1).u 107), ((lget ls 1).u 108), ((lget ls 1).u 109), ((lget ls 1).u 110), ((lget ls 1).u 111), ((lget ls 1).u 112), ((lget ls 1).u 113), ((lget ls 1).u 114), ((lget ls 1).u 115), ((lget ls 1).u 116), ((lget ls 1).u 117), ((lget ls 1).u 118), ((lget ls 1).u 119), ((lget ls 1).u 120)]
  | .e1 c1_0, ls => [.int .i64 (y0), .slice a0 n0 (n0 + k0), .bool false, .pointer (some ⟨(lget ls 2).n, 0, none⟩), .pointer (some ⟨(lget ls 3).n, 0, none⟩), ((lget ls 1).u 12), ((lget ls 1).u 13), ((lget ls 1).u 99), ((lget ls 1).u 100), ((lget ls 1).u 101), ((lget ls 1).u 102), ((lget ls 1).u 103), ((lget ls 1).u 104), ((lget ls 1).u 105), ((lget ls 1).u 106), ((lget ls 1).u 107), ((lget ls 1).u 108), ((lget ls 1).u 109), ((lget ls 1).u 110), ((lget ls 1).u 111), ((lget ls 1).u 112), ((lget ls 1).u 113), ((lget ls 1).u 114), ((lget ls 1).u 115), ((lget ls 1).u 116), ((lget ls 1).u 117), ((lget ls 1).u 118), ((lget ls 1).u 119), ((lget ls 1).u 120)]
def mk_barbicanlaw11_SockCounts_L1 : Ex_barbicanlaw11_SockCounts_L1 → List (Nat × Nat)
  | .e0 _ => [(2, 2), (1, 2), (1, 1), (1, 2), (2, 85), (22, 0)]
  | .e1 _ => [(2, 2), (1, 2), (1, 1), (1, 2), (2, 85), (22, 0)]
noncomputable def vf_barbicanlaw11_SockCounts_L1 (y0 : Int) (a0 : Option Addr) (p0 : Nat) (q0 : Nat) (n0 : Nat) (k0 : Nat) (A0 : Nat → BitVec 8) (r : Ex_barbicanlaw11_SockCounts_L1) : List L1 → List Value := mrgF (mk_barbicanlaw11_SockCounts_L1 r) (vl_barbicanlaw11_SockCounts_L1 y0 a0 p0 q0 n0 k0 A0 r) 4
def Hf_barbicanlaw11_SockCounts_L1 (y0 : Int) (a0 : Option Addr) (p0 : Nat) (q0 : Nat) (n0 : Nat) (k0 : Nat) (A0 : Nat → BitVec 8) : Ex_barbicanlaw11_SockCounts_L1 → List L1 → List Obj
  | .e0 c0_0, ls => [unb, unb, .cells #[.slice none 0 0, .slice none 0 0] 72, .cells ⟨esG cZ 16 c0_0⟩ 66, unb]
  | .e1 c1_0, ls => [unb, unb, .cells #[.slice none 0 0, .slice none 0 0] 72, .cells ⟨esG cZ 16 c1_0⟩ 66, unb]
def ex_barbicanlaw11_SockCounts_L1 : Ex_barbicanlaw11_SockCounts_L1 → Ex
  | .e0 _ => (.exit 2)
  | .e1 _ => .ret
theorem go_barbicanlaw11_SockCounts_L1 (s : Sh_barbicanlaw11_SockCounts_L1) (r : Ex_barbicanlaw11_SockCounts_L1) (h : lpO (st_barbicanlaw11_SockCounts_L1 y0 n0 A0) s = some r) : GoesG Try.prog M B0 S (.loop bd_barbicanlaw11_SockCounts_L1) 5 (fr_barbicanlaw11_SockCounts_L1 y0 a0 p0 q0 n0 k0 A0 s) (Hs_barbicanlaw11_SockCounts_L1 y0 a0 p0 q0 n0 k0 A0 s) (ex_barbicanlaw11_SockCounts_L1 r) 4 (vf_barbicanlaw11_SockCounts_L1 y0 a0 p0 q0 n0 k0 A0 r) (Hf_barbicanlaw11_SockCounts_L1 y0 a0 p0 q0 n0 k0 A0 r) 5 :=
  goes_lpO (fun s q e => by
    cases s with
    | c0 s0_0 =>
      unfold st_barbicanlaw11_SockCounts_L1 at e
      dsimp only at e
      replace e := cond_eq_or e
      rcases e with ⟨hq0, e⟩ | ⟨hq0, e⟩
      · replace e := cond_eq_or e
        rcases e with ⟨hq1, e⟩ | ⟨hq1, e⟩
        · replace e := cond_eq_or e
          rcases e with ⟨hq2, e⟩ | ⟨hq2, e⟩
          · exact none_some e
          · replace e := cond_eq_or e
            rcases e with ⟨hq3, e⟩ | ⟨hq3, e⟩
            · replace e := bindO_eq e
              obtain ⟨gb0, e_gb0, e⟩ := e
              cases gb0
              try dsimp only at e
              cases e; exact ⟨ne_ret, goes_runM hU [.o, .o, .o, .b (z_lssT hq0), .o, .o, .q (ixRo_ok (kd := .i64) (T := 25) (x := s0_0) (sz := 1) rfl (fun w => by kernel_rfl) hR0 hq1), .l (accRo hR0 cu8_len (inR_nat hq1) 0 [.int .u8 (nn (A0 (s0_0).toNat))] rfl), .ov (u8_quo Try.prog 5 (.tmp 62) (.const (.int .u8 (2))) (A0 (s0_0).toNat) (2#8) (by decide)), .v .i64 (z_of_nn (by decide) ((A0 (s0_0).toNat) / 2#8)), .o, .ov (z_rem Try.prog 3 (.tmp 64) (.tmp 65) (nn ((A0 (s0_0).toNat) / 2#8)) y0 (z_nz hq2)), .o, .o, .o, .q (ixRo_ok (kd := .i64) (T := 25) (x := s0_0) (sz := 1) rfl (fun w => by kernel_rfl) hR0 hq1), .l (accRo hR0 cu8_len (inR_nat hq1) 0 [.int .u8 (nn (A0 (s0_0).toNat))] rfl), .ov (u8_rem Try.prog 5 (.tmp 70) (.const (.int .u8 (2))) (A0 (s0_0).toNat) (2#8) (by decide)), .t (u_eq ((A0 (s0_0).toNat) % 2#8) (0#8)) hq3, .o, .o, .xg (ok0_sock_Table_Take_v1 hU (zrem (nn ((A0 (s0_0).toNat) / 2#8)) y0)  e_gb0) [2], .o, .o] [0, 1, 2, 3] (fun b => rfl) (by decide) rfl rfl (fun b => by kernel_rfl)⟩
            · replace e := bindO_eq e
              obtain ⟨gb0, e_gb0, e⟩ := e
              cases gb0
              try dsimp only at e
              replace e := cond_eq_or e
              rcases e with ⟨hq4, e⟩ | ⟨hq4, e⟩
              · cases e; exact goes_runM hU [.o, .o, .o, .b (z_lssT hq0), .o, .o, .q (ixRo_ok (kd := .i64) (T := 25) (x := s0_0) (sz := 1) rfl (fun w => by kernel_rfl) hR0 hq1), .l (accRo hR0 cu8_len (inR_nat hq1) 0 [.int .u8 (nn (A0 (s0_0).toNat))] rfl), .ov (u8_quo Try.prog 5 (.tmp 62) (.const (.int .u8 (2))) (A0 (s0_0).toNat) (2#8) (by decide)), .v .i64 (z_of_nn (by decide) ((A0 (s0_0).toNat) / 2#8)), .o, .ov (z_rem Try.prog 3 (.tmp 64) (.tmp 65) (nn ((A0 (s0_0).toNat) / 2#8)) y0 (z_nz hq2)), .o, .o, .o, .q (ixRo_ok (kd := .i64) (T := 25) (x := s0_0) (sz := 1) rfl (fun w => by kernel_rfl) hR0 hq1), .l (accRo hR0 cu8_len (inR_nat hq1) 0 [.int .u8 (nn (A0 (s0_0).toNat))] rfl), .ov (u8_rem Try.prog 5 (.tmp 70) (.const (.int .u8 (2))) (A0 (s0_0).toNat) (2#8) (by decide)), .t (u_eq ((A0 (s0_0).toNat) % 2#8) (0#8)) hq3, .o, .o, .xg (ok0_sock_Table_Drop_v2 hU (zrem (nn ((A0 (s0_0).toNat) / 2#8)) y0)  e_gb0) [2], .o, .o, .o, .o, .q (ixA_ok (kd := .i64) (T := 66) (x := (zrem (nn ((A0 (s0_0).toNat) / 2#8)) y0)) (sz := 1) (N := 16) rfl rfl (fun w => by kernel_rfl) hq4), .l (accF (i := 3) (f := cZ) (A := (fun _ => 0)) (k := ((zrem (nn ((A0 (s0_0).toNat) / 2#8)) y0)).toNat) 0 [.int .i64 (0)] cZ_len (inR_nat hq4) rfl), .o, .o, .o, .o, .o, .o, .o] [0, 1, 2, 3] (fun b => rfl) (by decide) rfl rfl (fun b => by kernel_rfl)
              · exact none_some e
        · exact none_some e
      · cases e; exact ⟨ne_exit 2, goes_runM hU [.o, .o, .o, .b (z_lssF hq0)] [0, 1, 2, 3] (fun b => rfl) (by decide) rfl rfl (fun b => by kernel_rfl)⟩) s r h
noncomputable def t0_barbicanlaw11_SockCounts_L1_0 (y0 : Int) (a0 : Option Addr) (p0 : Nat) (q0 : Nat) (n0 : Nat) (k0 : Nat) (A0 : Nat → BitVec 8) (s0_0 : Int) (ls : List L1) : List Value := List.append [.int .i64 (y0), .slice a0 n0 (n0 + k0), ((lget ls 1).u 2), ((lget ls 1).u 3), .bool false, .slice none 0 0, ((lget ls 1).u 6), .pointer (some ⟨(lget ls 2).n, 0, none⟩), .int .i64 (0), .pointer (some ⟨(lget ls 3).n, 0, none⟩), .int .i64 (s0_0)] (List.append (jks (lget ls 1).u 11 25) (List.append [.tuple #[.pointer (some ⟨(lget ls 2).n, 0, none⟩), .int .i64 (0)], .slice none 0 0, .tuple #[.pointer (some ⟨(lget ls 2).n, 0, none⟩), .int .i64 (0)], .pointer (some ⟨(lget ls 2).n, 0, none⟩), .int .i64 (0), .int .i64 (0), .bool false, .bool false, .pointer (some ⟨(lget ls 2).n, 0, none⟩), .bool false, .bool false, .bool false, .pointer (some ⟨(lget ls 2).n, 0, none⟩), .int .i64 (0), .int .i64 (y0), .bool false, .bool false] (jks (lget ls 1).u 53 68)))
def pre_barbicanlaw11_SockCounts_L1_0 (y0 : Int) (a0 : Option Addr) (p0 : Nat) (q0 : Nat) (n0 : Nat) (k0 : Nat) (A0 : Nat → BitVec 8) (s0_0 : Int) (ls : List L1) : List Obj := [unb, unb, .cells #[.slice none 0 0, .slice none 0 0] 72, .cells ⟨esG cZ 16 (fun _ => 0)⟩ 66]
theorem sp0_barbicanlaw11_SockCounts_L1_0_ok (s0_0 : Int) (c0_0 : Nat → Int) (h : lpO (st_barbicanlaw11_SockCounts_L1 y0 n0 A0) (.c0 s0_0) = some (.e0 c0_0)) : SpcG Try.prog M B0 S ⟨fun ls => .code (.loop bd_barbicanlaw11_SockCounts_L1) (t0_barbicanlaw11_SockCounts_L1_0 y0 a0 p0 q0 n0 k0 A0 s0_0 ls), pre_barbicanlaw11_SockCounts_L1_0 y0 a0 p0 q0 n0 k0 A0 s0_0, 1, (.exit 2), fun ls => vf_barbicanlaw11_SockCounts_L1 y0 a0 p0 q0 n0 k0 A0 (.e0 c0_0) (ls.take 4 ++ ls.drop 4), fun ls => (Hf_barbicanlaw11_SockCounts_L1 y0 a0 p0 q0 n0 k0 A0 (.e0 c0_0) (ls.take 4 ++ ls.drop 4)).take 4 ++ List.replicate 0 unb, fun ls => (Hf_barbicanlaw11_SockCounts_L1 y0 a0 p0 q0 n0 k0 A0 (.e0 c0_0) (ls.take 4 ++ ls.drop 4)).drop 4⟩ :=
  spc_of_goesM hU 0 (k0 := 4) (go_barbicanlaw11_SockCounts_L1 hU y0 a0 p0 q0 n0 k0 A0 hR0 _ _ h) (t0_barbicanlaw11_SockCounts_L1_0 y0 a0 p0 q0 n0 k0 A0 s0_0) (pre_barbicanlaw11_SockCounts_L1_0 y0 a0 p0 q0 n0 k0 A0 s0_0) (fun _ => rfl) (fun ls h => by match ls, h with | [l0, l1, l2, l3], _ => exact ⟨by kernel_rfl, by kernel_rfl⟩) (fun ls h => by match ls, h with | [l0, l1, l2, l3], _ => rfl) (by decide) (by decide) (fun ls => rfl)
theorem sp1_barbicanlaw11_SockCounts_L1_0_ok (s0_0 : Int) (c1_0 : Nat → Int) (h : lpO (st_barbicanlaw11_SockCounts_L1 y0 n0 A0) (.c0 s0_0) = some (.e1 c1_0)) : SpcG Try.prog M B0 S ⟨fun ls => .code (.loop bd_barbicanlaw11_SockCounts_L1) (t0_barbicanlaw11_SockCounts_L1_0 y0 a0 p0 q0 n0 k0 A0 s0_0 ls), pre_barbicanlaw11_SockCounts_L1_0 y0 a0 p0 q0 n0 k0 A0 s0_0, 1, .ret, fun ls => vf_barbicanlaw11_SockCounts_L1 y0 a0 p0 q0 n0 k0 A0 (.e1 c1_0) (ls.take 4 ++ ls.drop 4), fun ls => (Hf_barbicanlaw11_SockCounts_L1 y0 a0 p0 q0 n0 k0 A0 (.e1 c1_0) (ls.take 4 ++ ls.drop 4)).take 4 ++ List.replicate 0 unb, fun ls => (Hf_barbicanlaw11_SockCounts_L1 y0 a0 p0 q0 n0 k0 A0 (.e1 c1_0) (ls.take 4 ++ ls.drop 4)).drop 4⟩ :=
  spc_of_goesM hU 0 (k0 := 4) (go_barbicanlaw11_SockCounts_L1 hU y0 a0 p0 q0 n0 k0 A0 hR0 _ _ h) (t0_barbicanlaw11_SockCounts_L1_0 y0 a0 p0 q0 n0 k0 A0 s0_0) (pre_barbicanlaw11_SockCounts_L1_0 y0 a0 p0 q0 n0 k0 A0 s0_0) (fun _ => rfl) (fun ls h => by match ls, h with | [l0, l1, l2, l3], _ => exact ⟨by kernel_rfl, by kernel_rfl⟩) (fun ls h => by match ls, h with | [l0, l1, l2, l3], _ => rfl) (by decide) (by decide) (fun ls => rfl)
inductive Sh_barbicanlaw11_SockCounts_L2 where
  | c0 
inductive Ex_barbicanlaw11_SockCounts_L2 where
  | e0 
  | e1 
noncomputable def st_barbicanlaw11_SockCounts_L2 (y0 : Int) : Sh_barbicanlaw11_SockCounts_L2 → Option (Sh_barbicanlaw11_SockCounts_L2 ⊕ Ex_barbicanlaw11_SockCounts_L2)
  | .c0  =>
    bif decide (0 < y0) then
      (bif (0 : Int) == y0 then
        (none)
      else (some (.inr (.e1 ))))
    else (some (.inr (.e0 )))
noncomputable def bd_barbicanlaw11_SockCounts_L2 : Code := codeOf Try.f6 [1, 1, 1, 1, 1, 1, 1, 1, 1, 1, 0, 1, 0, 0]
def fl_barbicanlaw11_SockCounts_L2 (y0 : Int) (a0 : Option Addr) (p0 : Nat) (q0 : Nat) (n0 : Nat) (k0 : Nat) (A0 : Nat → BitVec 8) (g2_0 : Nat → Int) : Sh_barbicanlaw11_SockCounts_L2 → List L1 → List Value
  | .c0 , ls => [.int .i64 (y0), .bool false, .pointer (some ⟨(lget ls 3).n, 0, none⟩), .slice none 0 0, .int .i64 (0)]
def mf_barbicanlaw11_SockCounts_L2 : Sh_barbicanlaw11_SockCounts_L2 → List (Nat × Nat)
  | .c0  => [(1, 3), (1, 4), (1, 2), (2, 107)]
noncomputable def fr_barbicanlaw11_SockCounts_L2 (y0 : Int) (a0 : Option Addr) (p0 : Nat) (q0 : Nat) (n0 : Nat) (k0 : Nat) (A0 : Nat → BitVec 8) (g2_0 : Nat → Int) (s : Sh_barbicanlaw11_SockCounts_L2) : List L1 → List Value := mrgF (mf_barbicanlaw11_SockCounts_L2 s) (fl_barbicanlaw11_SockCounts_L2 y0 a0 p0 q0 n0 k0 A0 g2_0 s) 5
def Hs_barbicanlaw11_SockCounts_L2 (y0 : Int) (a0 : Option Addr) (p0 : Nat) (q0 : Nat) (n0 : Nat) (k0 : Nat) (A0 : Nat → BitVec 8) (g2_0 : Nat → Int) : Sh_barbicanlaw11_SockCounts_L2 → List L1 → List Obj
  | .c0 , ls => [unb, unb, .cells #[.slice none 0 0, .slice none 0 0] 72, .cells ⟨esG cZ 16 g2_0⟩ 66, unb, unb]
def vl_barbicanlaw11_SockCounts_L2 (y0 : Int) (a0 : Option Addr) (p0 : Nat) (q0 : Nat) (n0 : Nat) (k0 : Nat) (A0 : Nat → BitVec 8) (g2_0 : Nat → Int) : Ex_barbicanlaw11_SockCounts_L2 → List L1 → List Value
  | .e0 , ls => [.int .i64 (y0), .bool false, .pointer (some ⟨(lget ls 3).n, 0, none⟩), .slice none 0 0]
  | .e1 , ls => [.int .i64 (y0), .bool false, .pointer (some ⟨(lget ls 3).n, 0, none⟩), .slice none 0 0]
def mk_barbicanlaw11_SockCounts_L2 : Ex_barbicanlaw11_SockCounts_L2 → List (Nat × Nat)
  | .e0  => [(1, 3), (1, 4), (1, 2), (1, 108)]
  | .e1  => [(1, 3), (1, 4), (1, 2), (1, 108)]
noncomputable def vf_barbicanlaw11_SockCounts_L2 (y0 : Int) (a0 : Option Addr) (p0 : Nat) (q0 : Nat) (n0 : Nat) (k0 : Nat) (A0 : Nat → BitVec 8) (g2_0 : Nat → Int) (r : Ex_barbicanlaw11_SockCounts_L2) : List L1 → List Value := mrgF (mk_barbicanlaw11_SockCounts_L2 r) (vl_barbicanlaw11_SockCounts_L2 y0 a0 p0 q0 n0 k0 A0 g2_0 r) 5
def Hf_barbicanlaw11_SockCounts_L2 (y0 : Int) (a0 : Option Addr) (p0 : Nat) (q0 : Nat) (n0 : Nat) (k0 : Nat) (A0 : Nat → BitVec 8) (g2_0 : Nat → Int) : Ex_barbicanlaw11_SockCounts_L2 → List L1 → List Obj
  | .e0 , ls => [unb, unb, .cells #[.slice none 0 0, .slice none 0 0] 72, .cells ⟨esG cZ 16 g2_0⟩ 66, unb, unb]
  | .e1 , ls => [unb, unb, .cells #[.slice none 0 0, .slice none 0 0] 72, .cells ⟨esG cZ 16 g2_0⟩ 66, unb, unb]
def ex_barbicanlaw11_SockCounts_L2 : Ex_barbicanlaw11_SockCounts_L2 → Ex
  | .e0  => (.exit 4)
  | .e1  => .ret
theorem go_barbicanlaw11_SockCounts_L2 (g2_0 : Nat → Int) (s : Sh_barbicanlaw11_SockCounts_L2) (r : Ex_barbicanlaw11_SockCounts_L2) (h : lpO (st_barbicanlaw11_SockCounts_L2 y0) s = some r) : GoesG Try.prog M B0 S (.loop bd_barbicanlaw11_SockCounts_L2) 6 (fr_barbicanlaw11_SockCounts_L2 y0 a0 p0 q0 n0 k0 A0 g2_0 s) (Hs_barbicanlaw11_SockCounts_L2 y0 a0 p0 q0 n0 k0 A0 g2_0 s) (ex_barbicanlaw11_SockCounts_L2 r) 5 (vf_barbicanlaw11_SockCounts_L2 y0 a0 p0 q0 n0 k0 A0 g2_0 r) (Hf_barbicanlaw11_SockCounts_L2 y0 a0 p0 q0 n0 k0 A0 g2_0 r) 6 :=
  goes_lpO (fun s q e => by
    cases s with
    | c0  =>
      unfold st_barbicanlaw11_SockCounts_L2 at e
      dsimp only at e
      replace e := cond_eq_or e
      rcases e with ⟨hq0, e⟩ | ⟨hq0, e⟩
      · replace e := cond_eq_or e
        rcases e with ⟨hq1, e⟩ | ⟨hq1, e⟩
        · exact none_some e
        · cases e; exact ⟨ne_ret, goes_runM hU [.o, .o, .b (z_lssT hq0), .r [0, 1, 2, 3, 4, 5, 6, 7, 8, 9, 10, 11, 12, 13, 14] [] [], .o, .o, .o, .b (z_neqF hq1), .o, .o, .o] [0, 1, 2, 3, 4] (fun b => rfl) (by decide) rfl rfl (fun b => by kernel_rfl)⟩
      · cases e; exact ⟨ne_exit 4, goes_runM hU [.o, .o, .b (z_lssF hq0)] [0, 1, 2, 3, 4] (fun b => rfl) (by decide) rfl rfl (fun b => by kernel_rfl)⟩) s r h
noncomputable def t0_barbicanlaw11_SockCounts_L2_0 (y0 : Int) (a0 : Option Addr) (p0 : Nat) (q0 : Nat) (n0 : Nat) (k0 : Nat) (A0 : Nat → BitVec 8) (g2_0 : Nat → Int)  (ls : List L1) : List Value := List.append [.int .i64 (y0), .slice a0 n0 (n0 + k0), ((lget ls 4).u 2), ((lget ls 4).u 3), .bool false, ((lget ls 4).u 5), ((lget ls 4).u 6), .pointer (some ⟨(lget ls 2).n, 0, none⟩), ((lget ls 4).u 8), .pointer (some ⟨(lget ls 3).n, 0, none⟩), ((lget ls 4).u 10), ((lget ls 4).u 11), .slice none 0 0, .int .i64 (0)] (List.append (jks (lget ls 4).u 14 85) (List.append [.pointer (some ⟨(lget ls 2).n, 0, none⟩), .slice none 0 0] (jks (lget ls 1).u 101 20)))
def pre_barbicanlaw11_SockCounts_L2_0 (y0 : Int) (a0 : Option Addr) (p0 : Nat) (q0 : Nat) (n0 : Nat) (k0 : Nat) (A0 : Nat → BitVec 8) (g2_0 : Nat → Int)  (ls : List L1) : List Obj := [unb, unb, .cells #[.slice none 0 0, .slice none 0 0] 72, .cells ⟨esG cZ 16 g2_0⟩ 66, unb]
theorem sp0_barbicanlaw11_SockCounts_L2_0_ok (g2_0 : Nat → Int) (h : lpO (st_barbicanlaw11_SockCounts_L2 y0) (.c0) = some (.e0 )) : SpcG Try.prog M B0 S ⟨fun ls => .code (.loop bd_barbicanlaw11_SockCounts_L2) (t0_barbicanlaw11_SockCounts_L2_0 y0 a0 p0 q0 n0 k0 A0 g2_0  ls), pre_barbicanlaw11_SockCounts_L2_0 y0 a0 p0 q0 n0 k0 A0 g2_0 , 1, (.exit 4), fun ls => vf_barbicanlaw11_SockCounts_L2 y0 a0 p0 q0 n0 k0 A0 g2_0 (.e0 ) (ls.take 5 ++ ls.drop 5), fun ls => (Hf_barbicanlaw11_SockCounts_L2 y0 a0 p0 q0 n0 k0 A0 g2_0 (.e0 ) (ls.take 5 ++ ls.drop 5)).take 5 ++ List.replicate 0 unb, fun ls => (Hf_barbicanlaw11_SockCounts_L2 y0 a0 p0 q0 n0 k0 A0 g2_0 (.e0 ) (ls.take 5 ++ ls.drop 5)).drop 5⟩ :=
  spc_of_goesM hU 0 (k0 := 5) (go_barbicanlaw11_SockCounts_L2 hU y0 a0 p0 q0 n0 k0 A0 hR0 g2_0 _ _ h) (t0_barbicanlaw11_SockCounts_L2_0 y0 a0 p0 q0 n0 k0 A0 g2_0 ) (pre_barbicanlaw11_SockCounts_L2_0 y0 a0 p0 q0 n0 k0 A0 g2_0 ) (fun _ => rfl) (fun ls h => by match ls, h with | [l0, l1, l2, l3, l4], _ => exact ⟨by kernel_rfl, by kernel_rfl⟩) (fun ls h => by match ls, h with | [l0, l1, l2, l3, l4], _ => rfl) (by decide) (by decide) (fun ls => rfl)
theorem sp1_barbicanlaw11_SockCounts_L2_0_ok (g2_0 : Nat → Int) (h : lpO (st_barbicanlaw11_SockCounts_L2 y0) (.c0) = some (.e1 )) : SpcG Try.prog M B0 S ⟨fun ls => .code (.loop bd_barbicanlaw11_SockCounts_L2) (t0_barbicanlaw11_SockCounts_L2_0 y0 a0 p0 q0 n0 k0 A0 g2_0  ls), pre_barbicanlaw11_SockCounts_L2_0 y0 a0 p0 q0 n0 k0 A0 g2_0 , 1, .ret, fun ls => vf_barbicanlaw11_SockCounts_L2 y0 a0 p0 q0 n0 k0 A0 g2_0 (.e1 ) (ls.take 5 ++ ls.drop 5), fun ls => (Hf_barbicanlaw11_SockCounts_L2 y0 a0 p0 q0 n0 k0 A0 g2_0 (.e1 ) (ls.take 5 ++ ls.drop 5)).take 5 ++ List.replicate 0 unb, fun ls => (Hf_barbicanlaw11_SockCounts_L2 y0 a0 p0 q0 n0 k0 A0 g2_0 (.e1 ) (ls.take 5 ++ ls.drop 5)).drop 5⟩ :=
  spc_of_goesM hU 0 (k0 := 5) (go_barbicanlaw11_SockCounts_L2 hU y0 a0 p0 q0 n0 k0 A0 hR0 g2_0 _ _ h) (t0_barbicanlaw11_SockCounts_L2_0 y0 a0 p0 q0 n0 k0 A0 g2_0 ) (pre_barbicanlaw11_SockCounts_L2_0 y0 a0 p0 q0 n0 k0 A0 g2_0 ) (fun _ => rfl) (fun ls h => by match ls, h with | [l0, l1, l2, l3, l4], _ => exact ⟨by kernel_rfl, by kernel_rfl⟩) (fun ls h => by match ls, h with | [l0, l1, l2, l3, l4], _ => rfl) (by decide) (by decide) (fun ls => rfl)
inductive Sh_barbicanlaw11_SockCounts_L1v1 where
  | c0 (s0_0 : Nat → Int) (s0_1 : Nat → Int) (s0_2 : Int)
inductive Ex_barbicanlaw11_SockCounts_L1v1 where
  | e0 (c0_0 : Nat → Int) (c0_1 : Nat → Int)
  | e1 (c1_0 : Nat → Int) (c1_1 : Nat → Int)
noncomputable def st_barbicanlaw11_SockCounts_L1v1 (y0 : Int) (n0 : Nat) (A0 : Nat → BitVec 8) (g1_0 : Nat) (g1_2 : Nat) (g1_3 : Nat → Arr73) : Sh_barbicanlaw11_SockCounts_L1v1 → Option (Sh_barbicanlaw11_SockCounts_L1v1 ⊕ Ex_barbicanlaw11_SockCounts_L1v1)
  | .c0 s0_0 s0_1 s0_2 =>
    bif decide (s0_2 < (n0 : Int)) then
      (bif inR s0_2 n0 then
        (bif y0 == 0 then
          (none)
        else (bif ((A0 (s0_2).toNat) % 2#8) == 0#8 then
          ((m_sock_Table_Take_v2 (zrem (nn ((A0 (s0_2).toNat) / 2#8)) y0) g1_0 g1_2 s0_0 g1_3).bind fun gb0 => match gb0 with
          | .e0 gb0_0 gb0_1 =>
          bif gb0_1 == 0 then
            (bif inR (zrem (nn ((A0 (s0_2).toNat) / 2#8)) y0) 16 then
              (bindT (updF s0_1 ((zrem (nn ((A0 (s0_2).toNat) / 2#8)) y0)).toNat (IntKind.i64.wrap ((s0_1 ((zrem (nn ((A0 (s0_2).toNat) / 2#8)) y0)).toNat) + 1))) fun rb1 =>
              some (.inl (.c0 gb0_0 rb1 (IntKind.i64.wrap (s0_2 + 1)))))
            else (none))
          else (some (.inr (.e1 gb0_0 s0_1))))
        else ((m_sock_Table_Drop_v3 (zrem (nn ((A0 (s0_2).toNat) / 2#8)) y0) g1_0 g1_2 s0_0 g1_3).bind fun gb0 => match gb0 with
        | .e0 gb0_0 gb0_1 =>
        bif inR (zrem (nn ((A0 (s0_2).toNat) / 2#8)) y0) 16 then
          (bif (gb0_1 == 0) != (decide (0 < (s0_1 ((zrem (nn ((A0 (s0_2).toNat) / 2#8)) y0)).toNat))) then
            (some (.inr (.e1 gb0_0 s0_1)))
          else (bif gb0_1 == 0 then
            (bindT (updF s0_1 ((zrem (nn ((A0 (s0_2).toNat) / 2#8)) y0)).toNat (IntKind.i64.wrap ((s0_1 ((zrem (nn ((A0 (s0_2).toNat) / 2#8)) y0)).toNat) - 1))) fun rb1 =>
            some (.inl (.c0 gb0_0 rb1 (IntKind.i64.wrap (s0_2 + 1)))))
          else (some (.inl (.c0 gb0_0 s0_1 (IntKind.i64.wrap (s0_2 + 1)))))))
        else (none))))
      else (none))
    else (some (.inr (.e0 s0_0 s0_1)))
noncomputable def bd_barbicanlaw11_SockCounts_L1v1 : Code := codeOf Try.f6 [1, 1, 1, 1, 1, 1, 1, 1, 0, 1, 0, 0]
def fl_barbicanlaw11_SockCounts_L1v1 (y0 : Int) (a0 : Option Addr) (p0 : Nat) (q0 : Nat) (n0 : Nat) (k0 : Nat) (A0 : Nat → BitVec 8) (g1_0 : Nat) (g1_1 : Nat → Int) (g1_2 : Nat) (g1_3 : Nat → Arr73) : Sh_barbicanlaw11_SockCounts_L1v1 → List L1 → List Value
  | .c0 s0_0 s0_1 s0_2, ls => [.int .i64 (y0), .slice a0 n0 (n0 + k0), .bool false, .pointer (some ⟨(lget ls 2).n, 0, none⟩), .pointer (some ⟨(lget ls 5).n, 0, none⟩), .int .i64 (s0_2), ((lget ls 1).u 12), ((lget ls 1).u 13), ((lget ls 1).u 99), ((lget ls 1).u 100), ((lget ls 1).u 101), ((lget ls 1).u 102), ((lget ls 1).u 103), ((lget ls 1).u 104), ((lget ls 1).u 105), ((lget ls 1).u 106), ((lget ls 1).u 107), ((lget ls 1).u 108), ((lget ls 1).u 109), ((lget ls 1).u 110), ((lget ls 1).u 111), ((lget ls 1).u 112), ((lget ls 1).u 113), ((lget ls 1).u 114), ((lget ls 1).u 115), ((lget ls 1).u 116), ((lget ls 1).u 117), ((lget ls 1).u 118), ((lget ls 1).u 119), ((lget ls 1).u 120)]
def mf_barbicanlaw11_SockCounts_L1v1 : Sh_barbicanlaw11_SockCounts_L1v1 → List (Nat × Nat)
  | .c0 _ _ _ => [(2, 2), (1, 2), (1, 1), (2, 1), (2, 85), (22, 0)]
noncomputable def fr_barbicanlaw11_SockCounts_L1v1 (y0 : Int) (a0 : Option Addr) (p0 : Nat) (q0 : Nat) (n0 : Nat) (k0 : Nat) (A0 : Nat → BitVec 8) (g1_0 : Nat) (g1_1 : Nat → Int) (g1_2 : Nat) (g1_3 : Nat → Arr73) (s : Sh_barbicanlaw11_SockCounts_L1v1) : List L1 → List Value := mrgF (mf_barbicanlaw11_SockCounts_L1v1 s) (fl_barbicanlaw11_SockCounts_L1v1 y0 a0 p0 q0 n0 k0 A0 g1_0 g1_1 g1_2 g1_3 s) 6
def Hs_barbicanlaw11_SockCounts_L1v1 (y0 : Int) (a0 : Option Addr) (p0 : Nat) (q0 : Nat) (n0 : Nat) (k0 : Nat) (A0 : Nat → BitVec 8) (g1_0 : Nat) (g1_1 : Nat → Int) (g1_2 : Nat) (g1_3 : Nat → Arr73) : Sh_barbicanlaw11_SockCounts_L1v1 → List L1 → List Obj
  | .c0 s0_0 s0_1 s0_2, ls => [unb, unb, .cells #[(rowV (lget ls 3) g1_0 1), (rowV (lget ls 4) g1_2 20)] 72, rowO (lget ls 3) (esG cZ g1_0 s0_0) 3 g1_0 1, rowO (lget ls 4) (esG c_Arr73 g1_2 g1_3) 73 g1_2 20, .cells ⟨esG cZ 16 s0_1⟩ 66, unb]
def vl_barbicanlaw11_SockCounts_L1v1 (y0 : Int) (a0 : Option Addr) (p0 : Nat) (q0 : Nat) (n0 : Nat) (k0 : Nat) (A0 : Nat → BitVec 8) (g1_0 : Nat) (g1_1 : Nat → Int) (g1_2 : Nat) (g1_3 : Nat → Arr73) : Ex_barbicanlaw11_SockCounts_L1v1 → List L1 → List Value
  | .e0 c0_0 c0_1, ls => [.int .i64 (y0), .slice a0 n0 (n0 + k0), .bool false, .pointer (some ⟨(lget ls 2).n, 0, none⟩), .pointer (some ⟨(lget ls 5).n, 0, none⟩), ((lget ls 1).u 12), ((lget ls 1).u 13), ((lget ls 1).u 99), ((lget ls 1).u 100), ((lget ls 1).u 101), ((lget ls 1).u 102), ((lget ls 1).u 103), ((lget ls 1).u 104), ((lget ls 1).u 105), ((lget ls 1).u 106), ((lget ls 1).u 107), ((lget ls 1).u 108), ((lget ls 1).u 109), ((lget ls 1).u 110), ((lget ls 1).u 111), ((lget ls 1).u 112), ((lget ls 1).u 113), ((lget ls 1).u 114), ((lget ls 1).u 115), ((lget ls 1).u 116), ((lget ls 1).u 117), ((lget ls 1).u 118), ((lget ls 1).u 119), ((lget ls 1).u 120)]
  | .e1 c1_0 c1_1, ls => [.int .i64 (y0), .slice a0 n0 (n0 + k0), .bool false, .pointer (some ⟨(lget ls 2).n, 0, none⟩), .pointer (some ⟨(lget ls 5).n, 0, none⟩), ((lget ls 1).u 12), ((lget ls 1).u 13), ((lget ls 1).u 99), ((lget ls 1).u 100), ((lget ls 1).u 101), ((lget ls 1).u 102), ((lget ls 1).u 103), ((lget ls 1).u 104), ((lget ls 1).u 105), ((lget ls 1).u 106), ((lget ls 1).u 107), ((lget ls 1).u 108), ((lget ls 1).u 109), ((lget ls 1).u 110), ((lget ls 1).u 111), ((lget ls 1).u 112), ((lget ls 1).u 113), ((lget ls 1).u 114), ((lget ls 1).u 115), ((lget ls 1).u 116), ((lget ls 1).u 117), ((lget ls 1).u 118), ((lget ls 1).u 119), ((lget ls 1).u 120)]
def mk_barbicanlaw11_SockCounts_L1v1 : Ex_barbicanlaw11_SockCounts_L1v1 → List (Nat × Nat)
  | .e0 _ _ => [(2, 2), (1, 2), (1, 1), (1, 2), (2, 85), (22, 0)]
  | .e1 _ _ => [(2, 2), (1, 2), (1, 1), (1, 2), (2, 85), (22, 0)]
noncomputable def vf_barbicanlaw11_SockCounts_L1v1 (y0 : Int) (a0 : Option Addr) (p0 : Nat) (q0 : Nat) (n0 : Nat) (k0 : Nat) (A0 : Nat → BitVec 8) (g1_0 : Nat) (g1_1 : Nat → Int) (g1_2 : Nat) (g1_3 : Nat → Arr73) (r : Ex_barbicanlaw11_SockCounts_L1v1) : List L1 → List Value := mrgF (mk_barbicanlaw11_SockCounts_L1v1 r) (vl_barbicanlaw11_SockCounts_L1v1 y0 a0 p0 q0 n0 k0 A0 g1_0 g1_1 g1_2 g1_3 r) 6
def Hf_barbicanlaw11_SockCounts_L1v1 (y0 : Int) (a0 : Option Addr) (p0 : Nat) (q0 : Nat) (n0 : Nat) (k0 : Nat) (A0 : Nat → BitVec 8) (g1_0 : Nat) (g1_1 : Nat → Int) (g1_2 : Nat) (g1_3 : Nat → Arr73) : Ex_barbicanlaw11_SockCounts_L1v1 → List L1 → List Obj
  | .e0 c0_0 c0_1, ls => [unb, unb, .cells #[(rowV (lget ls 3) g1_0 1), (rowV (lget ls 4) g1_2 20)] 72, rowO (lget ls 3) (esG cZ g1_0 c0_0) 3 g1_0 1, rowO (lget ls 4) (esG c_Arr73 g1_2 g1_3) 73 g1_2 20, .cells ⟨esG cZ 16 c0_1⟩ 66, unb]
  | .e1 c1_0 c1_1, ls => [unb, unb, .cells #[(rowV (lget ls 3) g1_0 1), (rowV (lget ls 4) g1_2 20)] 72, rowO (lget ls 3) (esG cZ g1_0 c1_0) 3 g1_0 1, rowO (lget ls 4) (esG c_Arr73 g1_2 g1_3) 73 g1_2 20, .cells ⟨esG cZ 16 c1_1⟩ 66, unb]
def ex_barbicanlaw11_SockCounts_L1v1 : Ex_barbicanlaw11_SockCounts_L1v1 → Ex
  | .e0 _ _ => (.exit 2)
  | .e1 _ _ => .ret
theorem go_barbicanlaw11_SockCounts_L1v1 (g1_0 : Nat) (g1_1 : Nat → Int) (g1_2 : Nat) (g1_3 : Nat → Arr73) (s : Sh_barbicanlaw11_SockCounts_L1v1) (r : Ex_barbicanlaw11_SockCounts_L1v1) (h : lpO (st_barbicanlaw11_SockCounts_L1v1 y0 n0 A0 g1_0 g1_2 g1_3) s = some r) : GoesG Try.prog M B0 S (.loop bd_barbicanlaw11_SockCounts_L1v1) 7 (fr_barbicanlaw11_SockCounts_L1v1 y0 a0 p0 q0 n0 k0 A0 g1_0 g1_1 g1_2 g1_3 s) (Hs_barbicanlaw11_SockCounts_L1v1 y0 a0 p0 q0 n0 k0 A0 g1_0 g1_1 g1_2 g1_3 s) (ex_barbicanlaw11_SockCounts_L1v1 r) 6 (vf_barbicanlaw11_SockCounts_L1v1 y0 a0 p0 q0 n0 k0 A0 g1_0 g1_1 g1_2 g1_3 r) (Hf_barbicanlaw11_SockCounts_L1v1 y0 a0 p0 q0 n0 k0 A0 g1_0 g1_1 g1_2 g1_3 r) 7 :=
  goes_lpO (fun s q e => by
    cases s with
    | c0 s0_0 s0_1 s0_2 =>
      unfold st_barbicanlaw11_SockCounts_L1v1 at e
      dsimp only at e
      replace e := cond_eq_or e
      rcases e with ⟨hq0, e⟩ | ⟨hq0, e⟩
      · replace e := cond_eq_or e
        rcases e with ⟨hq1, e⟩ | ⟨hq1, e⟩
        · replace e := cond_eq_or e
          rcases e with ⟨hq2, e⟩ | ⟨hq2, e⟩
          · exact none_some e
          · replace e := cond_eq_or e
            rcases e with ⟨hq3, e⟩ | ⟨hq3, e⟩
            · replace e := bindO_eq e
              obtain ⟨gb0, e_gb0, e⟩ := e
              obtain ⟨gb0_0, gb0_1⟩ := gb0
              try dsimp only at e
              replace e := cond_eq_or e
              rcases e with ⟨hq4, e⟩ | ⟨hq4, e⟩
              · replace e := cond_eq_or e
                rcases e with ⟨hq5, e⟩ | ⟨hq5, e⟩
                · replace e := bindT_eq e
                  obtain ⟨rb1, e_rb1, e⟩ := e
                  try dsimp only at e
                  cases e; exact goes_runM hU [.o, .o, .o, .b (z_lssT hq0), .o, .o, .q (ixRo_ok (kd := .i64) (T := 25) (x := s0_2) (sz := 1) rfl (fun w => by kernel_rfl) hR0 hq1), .l (accRo hR0 cu8_len (inR_nat hq1) 0 [.int .u8 (nn (A0 (s0_2).toNat))] rfl), .ov (u8_quo Try.prog 5 (.tmp 62) (.const (.int .u8 (2))) (A0 (s0_2).toNat) (2#8) (by decide)), .v .i64 (z_of_nn (by decide) ((A0 (s0_2).toNat) / 2#8)), .o, .ov (z_rem Try.prog 3 (.tmp 64) (.tmp 65) (nn ((A0 (s0_2).toNat) / 2#8)) y0 (z_nz hq2)), .o, .o, .o, .q (ixRo_ok (kd := .i64) (T := 25) (x := s0_2) (sz := 1) rfl (fun w => by kernel_rfl) hR0 hq1), .l (accRo hR0 cu8_len (inR_nat hq1) 0 [.int .u8 (nn (A0 (s0_2).toNat))] rfl), .ov (u8_rem Try.prog 5 (.tmp 70) (.const (.int .u8 (2))) (A0 (s0_2).toNat) (2#8) (by decide)), .t (u_eq ((A0 (s0_2).toNat) % 2#8) (0#8)) hq3, .o, .o, .xg (ok0_sock_Table_Take_v2 hU (zrem (nn ((A0 (s0_2).toNat) / 2#8)) y0) g1_0 g1_2 s0_0 g1_3 gb0_0 gb0_1 e_gb0) [2, 3, 4], .b (z_neqT hq4), .o, .q (ixA_ok (kd := .i64) (T := 66) (x := (zrem (nn ((A0 (s0_2).toNat) / 2#8)) y0)) (sz := 1) (N := 16) rfl rfl (fun w => by kernel_rfl) hq5), .l (accF (i := 5) (f := cZ) (A := s0_1) (k := ((zrem (nn ((A0 (s0_2).toNat) / 2#8)) y0)).toNat) 0 [.int .i64 ((s0_1 ((zrem (nn ((A0 (s0_2).toNat) / 2#8)) y0)).toNat))] cZ_len (inR_nat hq5) rfl), .o, .q (ixA_ok (kd := .i64) (T := 66) (x := (zrem (nn ((A0 (s0_2).toNat) / 2#8)) y0)) (sz := 1) (N := 16) rfl rfl (fun w => by kernel_rfl) hq5), .x (sqStFr_ok (T := 3) (e := 66) (f := cZ) (A := s0_1) (v := (IntKind.i64.wrap ((s0_1 ((zrem (nn ((A0 (s0_2).toNat) / 2#8)) y0)).toNat) + 1))) 0 (.int .i64 ((IntKind.i64.wrap ((s0_1 ((zrem (nn ((A0 (s0_2).toNat) / 2#8)) y0)).toNat) + 1)))) cZ_len cZ_one rfl rfl (fun w => by kernel_rfl) (inR_nat hq5) e_rb1) [5], .o, .o, .o] [0, 1, 2, 3, 4, 5] (fun b => rfl) (by decide) rfl rfl (fun b => by kernel_rfl)
                · exact none_some e
              · cases e; exact ⟨ne_ret, goes_runM hU [.o, .o, .o, .b (z_lssT hq0), .o, .o, .q (ixRo_ok (kd := .i64) (T := 25) (x := s0_2) (sz := 1) rfl (fun w => by kernel_rfl) hR0 hq1), .l (accRo hR0 cu8_len (inR_nat hq1) 0 [.int .u8 (nn (A0 (s0_2).toNat))] rfl), .ov (u8_quo Try.prog 5 (.tmp 62) (.const (.int .u8 (2))) (A0 (s0_2).toNat) (2#8) (by decide)), .v .i64 (z_of_nn (by decide) ((A0 (s0_2).toNat) / 2#8)), .o, .ov (z_rem Try.prog 3 (.tmp 64) (.tmp 65) (nn ((A0 (s0_2).toNat) / 2#8)) y0 (z_nz hq2)), .o, .o, .o, .q (ixRo_ok (kd := .i64) (T := 25) (x := s0_2) (sz := 1) rfl (fun w => by kernel_rfl) hR0 hq1), .l (accRo hR0 cu8_len (inR_nat hq1) 0 [.int .u8 (nn (A0 (s0_2).toNat))] rfl), .ov (u8_rem Try.prog 5 (.tmp 70) (.const (.int .u8 (2))) (A0 (s0_2).toNat) (2#8) (by decide)), .t (u_eq ((A0 (s0_2).toNat) % 2#8) (0#8)) hq3, .o, .o, .xg (ok0_sock_Table_Take_v2 hU (zrem (nn ((A0 (s0_2).toNat) / 2#8)) y0) g1_0 g1_2 s0_0 g1_3 gb0_0 gb0_1 e_gb0) [2, 3, 4], .b (z_neqF hq4), .o] [0, 1, 2, 3, 4, 5] (fun b => rfl) (by decide) rfl rfl (fun b => by kernel_rfl)⟩
            · replace e := bindO_eq e
              obtain ⟨gb0, e_gb0, e⟩ := e
              obtain ⟨gb0_0, gb0_1⟩ := gb0
              try dsimp only at e
              replace e := cond_eq_or e
              rcases e with ⟨hq4, e⟩ | ⟨hq4, e⟩
              · replace e := cond_eq_or e
                rcases e with ⟨hq5, e⟩ | ⟨hq5, e⟩
                · cases e; exact ⟨ne_ret, goes_runM hU [.o, .o, .o, .b (z_lssT hq0), .o, .o, .q (ixRo_ok (kd := .i64) (T := 25) (x := s0_2) (sz := 1) rfl (fun w => by kernel_rfl) hR0 hq1), .l (accRo hR0 cu8_len (inR_nat hq1) 0 [.int .u8 (nn (A0 (s0_2).toNat))] rfl), .ov (u8_quo Try.prog 5 (.tmp 62) (.const (.int .u8 (2))) (A0 (s0_2).toNat) (2#8) (by decide)), .v .i64 (z_of_nn (by decide) ((A0 (s0_2).toNat) / 2#8)), .o, .ov (z_rem Try.prog 3 (.tmp 64) (.tmp 65) (nn ((A0 (s0_2).toNat) / 2#8)) y0 (z_nz hq2)), .o, .o, .o, .q (ixRo_ok (kd := .i64) (T := 25) (x := s0_2) (sz := 1) rfl (fun w => by kernel_rfl) hR0 hq1), .l (accRo hR0 cu8_len (inR_nat hq1) 0 [.int .u8 (nn (A0 (s0_2).toNat))] rfl), .ov (u8_rem Try.prog 5 (.tmp 70) (.const (.int .u8 (2))) (A0 (s0_2).toNat) (2#8) (by decide)), .t (u_eq ((A0 (s0_2).toNat) % 2#8) (0#8)) hq3, .o, .o, .xg (ok0_sock_Table_Drop_v3 hU (zrem (nn ((A0 (s0_2).toNat) / 2#8)) y0) g1_0 g1_2 s0_0 g1_3 gb0_0 gb0_1 e_gb0) [2, 3, 4], .o, .o, .o, .o, .q (ixA_ok (kd := .i64) (T := 66) (x := (zrem (nn ((A0 (s0_2).toNat) / 2#8)) y0)) (sz := 1) (N := 16) rfl rfl (fun w => by kernel_rfl) hq4), .l (accF (i := 5) (f := cZ) (A := s0_1) (k := ((zrem (nn ((A0 (s0_2).toNat) / 2#8)) y0)).toNat) 0 [.int .i64 ((s0_1 ((zrem (nn ((A0 (s0_2).toNat) / 2#8)) y0)).toNat))] cZ_len (inR_nat hq4) rfl), .o, .b hq5, .o] [0, 1, 2, 3, 4, 5] (fun b => rfl) (by decide) rfl rfl (fun b => by kernel_rfl)⟩
                · replace e := cond_eq_or e
                  rcases e with ⟨hq6, e⟩ | ⟨hq6, e⟩
                  · replace e := bindT_eq e
                    obtain ⟨rb1, e_rb1, e⟩ := e
                    try dsimp only at e
                    cases e; exact goes_runM hU [.o, .o, .o, .b (z_lssT hq0), .o, .o, .q (ixRo_ok (kd := .i64) (T := 25) (x := s0_2) (sz := 1) rfl (fun w => by kernel_rfl) hR0 hq1), .l (accRo hR0 cu8_len (inR_nat hq1) 0 [.int .u8 (nn (A0 (s0_2).toNat))] rfl), .ov (u8_quo Try.prog 5 (.tmp 62) (.const (.int .u8 (2))) (A0 (s0_2).toNat) (2#8) (by decide)), .v .i64 (z_of_nn (by decide) ((A0 (s0_2).toNat) / 2#8)), .o, .ov (z_rem Try.prog 3 (.tmp 64) (.tmp 65) (nn ((A0 (s0_2).toNat) / 2#8)) y0 (z_nz hq2)), .o, .o, .o, .q (ixRo_ok (kd := .i64) (T := 25) (x := s0_2) (sz := 1) rfl (fun w => by kernel_rfl) hR0 hq1), .l (accRo hR0 cu8_len (inR_nat hq1) 0 [.int .u8 (nn (A0 (s0_2).toNat))] rfl), .ov (u8_rem Try.prog 5 (.tmp 70) (.const (.int .u8 (2))) (A0 (s0_2).toNat) (2#8) (by decide)), .t (u_eq ((A0 (s0_2).toNat) % 2#8) (0#8)) hq3, .o, .o, .xg (ok0_sock_Table_Drop_v3 hU (zrem (nn ((A0 (s0_2).toNat) / 2#8)) y0) g1_0 g1_2 s0_0 g1_3 gb0_0 gb0_1 e_gb0) [2, 3, 4], .o, .o, .o, .o, .q (ixA_ok (kd := .i64) (T := 66) (x := (zrem (nn ((A0 (s0_2).toNat) / 2#8)) y0)) (sz := 1) (N := 16) rfl rfl (fun w => by kernel_rfl) hq4), .l (accF (i := 5) (f := cZ) (A := s0_1) (k := ((zrem (nn ((A0 (s0_2).toNat) / 2#8)) y0)).toNat) 0 [.int .i64 ((s0_1 ((zrem (nn ((A0 (s0_2).toNat) / 2#8)) y0)).toNat))] cZ_len (inR_nat hq4) rfl), .o, .b hq5, .o, .b (z_eqlT hq6), .o, .q (ixA_ok (kd := .i64) (T := 66) (x := (zrem (nn ((A0 (s0_2).toNat) / 2#8)) y0)) (sz := 1) (N := 16) rfl rfl (fun w => by kernel_rfl) hq4), .l (accF (i := 5) (f := cZ) (A := s0_1) (k := ((zrem (nn ((A0 (s0_2).toNat) / 2#8)) y0)).toNat) 0 [.int .i64 ((s0_1 ((zrem (nn ((A0 (s0_2).toNat) / 2#8)) y0)).toNat))] cZ_len (inR_nat hq4) rfl), .o, .q (ixA_ok (kd := .i64) (T := 66) (x := (zrem (nn ((A0 (s0_2).toNat) / 2#8)) y0)) (sz := 1) (N := 16) rfl rfl (fun w => by kernel_rfl) hq4), .x (sqStFr_ok (T := 3) (e := 66) (f := cZ) (A := s0_1) (v := (IntKind.i64.wrap ((s0_1 ((zrem (nn ((A0 (s0_2).toNat) / 2#8)) y0)).toNat) - 1))) 0 (.int .i64 ((IntKind.i64.wrap ((s0_1 ((zrem (nn ((A0 (s0_2).toNat) / 2#8)) y0)).toNat) - 1)))) cZ_len cZ_one rfl rfl (fun w => by kernel_rfl) (inR_nat hq4) e_rb1) [5], .o, .o, .o] [0, 1, 2, 3, 4, 5] (fun b => rfl) (by decide) rfl rfl (fun b => by kernel_rfl)
                  · cases e; exact goes_runM hU [.o, .o, .o, .b (z_lssT hq0), .o, .o, .q (ixRo_ok (kd := .i64) (T := 25) (x := s0_2) (sz := 1) rfl (fun w => by kernel_rfl) hR0 hq1), .l (accRo hR0 cu8_len (inR_nat hq1) 0 [.int .u8 (nn (A0 (s0_2).toNat))] rfl), .ov (u8_quo Try.prog 5 (.tmp 62) (.const (.int .u8 (2))) (A0 (s0_2).toNat) (2#8) (by decide)), .v .i64 (z_of_nn (by decide) ((A0 (s0_2).toNat) / 2#8)), .o, .ov (z_rem Try.prog 3 (.tmp 64) (.tmp 65) (nn ((A0 (s0_2).toNat) / 2#8)) y0 (z_nz hq2)), .o, .o, .o, .q (ixRo_ok (kd := .i64) (T := 25) (x := s0_2) (sz := 1) rfl (fun w => by kernel_rfl) hR0 hq1), .l (accRo hR0 cu8_len (inR_nat hq1) 0 [.int .u8 (nn (A0 (s0_2).toNat))] rfl), .ov (u8_rem Try.prog 5 (.tmp 70) (.const (.int .u8 (2))) (A0 (s0_2).toNat) (2#8) (by decide)), .t (u_eq ((A0 (s0_2).toNat) % 2#8) (0#8)) hq3, .o, .o, .xg (ok0_sock_Table_Drop_v3 hU (zrem (nn ((A0 (s0_2).toNat) / 2#8)) y0) g1_0 g1_2 s0_0 g1_3 gb0_0 gb0_1 e_gb0) [2, 3, 4], .o, .o, .o, .o, .q (ixA_ok (kd := .i64) (T := 66) (x := (zrem (nn ((A0 (s0_2).toNat) / 2#8)) y0)) (sz := 1) (N := 16) rfl rfl (fun w => by kernel_rfl) hq4), .l (accF (i := 5) (f := cZ) (A := s0_1) (k := ((zrem (nn ((A0 (s0_2).toNat) / 2#8)) y0)).toNat) 0 [.int .i64 ((s0_1 ((zrem (nn ((A0 (s0_2).toNat) / 2#8)) y0)).toNat))] cZ_len (inR_nat hq4) rfl), .o, .b hq5, .o, .b (z_eqlF hq6), .o, .o, .o] [0, 1, 2, 3, 4, 5] (fun b => rfl) (by decide) rfl rfl (fun b => by kernel_rfl)
              · exact none_some e
        · exact none_some e
      · cases e; exact ⟨ne_exit 2, goes_runM hU [.o, .o, .o, .b (z_lssF hq0)] [0, 1, 2, 3, 4, 5] (fun b => rfl) (by decide) rfl rfl (fun b => by kernel_rfl)⟩) s r h
noncomputable def t0_barbicanlaw11_SockCounts_L1v1_0 (y0 : Int) (a0 : Option Addr) (p0 : Nat) (q0 : Nat) (n0 : Nat) (k0 : Nat) (A0 : Nat → BitVec 8) (g1_0 : Nat) (g1_1 : Nat → Int) (g1_2 : Nat) (g1_3 : Nat → Arr73) (s0_0 : Nat → Int) (s0_1 : Nat → Int) (s0_2 : Int) (ls : List L1) : List Value := List.append [.int .i64 (y0), .slice a0 n0 (n0 + k0), ((lget ls 1).u 2), ((lget ls 1).u 3), .bool false, .slice none 0 0, ((lget ls 1).u 6), .pointer (some ⟨(lget ls 2).n, 0, none⟩), .int .i64 (0), .pointer (some ⟨(lget ls 5).n, 0, none⟩), .int .i64 (s0_2)] (List.append (jks (lget ls 1).u 11 25) (List.append [.tuple #[.pointer (some ⟨(lget ls 2).n, 0, none⟩), .int .i64 (0)], .slice none 0 0, .tuple #[.pointer (some ⟨(lget ls 2).n, 0, none⟩), .int .i64 (0)], .pointer (some ⟨(lget ls 2).n, 0, none⟩), .int .i64 (0), .int .i64 (0), .bool false, .bool false, .pointer (some ⟨(lget ls 2).n, 0, none⟩), .bool false, .bool false, .bool false, .pointer (some ⟨(lget ls 2).n, 0, none⟩), .int .i64 ((g1_2 : Int)), .int .i64 (y0), .bool false, .bool false] (jks (lget ls 1).u 53 68)))
def pre_barbicanlaw11_SockCounts_L1v1_0 (y0 : Int) (a0 : Option Addr) (p0 : Nat) (q0 : Nat) (n0 : Nat) (k0 : Nat) (A0 : Nat → BitVec 8) (g1_0 : Nat) (g1_1 : Nat → Int) (g1_2 : Nat) (g1_3 : Nat → Arr73) (s0_0 : Nat → Int) (s0_1 : Nat → Int) (s0_2 : Int) (ls : List L1) : List Obj := [unb, unb, .cells #[(rowV (lget ls 3) g1_0 1), (rowV (lget ls 4) g1_2 20)] 72, rowO (lget ls 3) (esG cZ g1_0 s0_0) 3 g1_0 1, rowO (lget ls 4) (esG c_Arr73 g1_2 g1_3) 73 g1_2 20, .cells ⟨esG cZ 16 s0_1⟩ 66]
theorem sp0_barbicanlaw11_SockCounts_L1v1_0_ok (g1_0 : Nat) (g1_1 : Nat → Int) (g1_2 : Nat) (g1_3 : Nat → Arr73) (s0_0 : Nat → Int) (s0_1 : Nat → Int) (s0_2 : Int) (c0_0 : Nat → Int) (c0_1 : Nat → Int) (h : lpO (st_barbicanlaw11_SockCounts_L1v1 y0 n0 A0 g1_0 g1_2 g1_3) (.c0 s0_0 s0_1 s0_2) = some (.e0 c0_0 c0_1)) : SpcG Try.prog M B0 S ⟨fun ls => .code (.loop bd_barbicanlaw11_SockCounts_L1v1) (t0_barbicanlaw11_SockCounts_L1v1_0 y0 a0 p0 q0 n0 k0 A0 g1_0 g1_1 g1_2 g1_3 s0_0 s0_1 s0_2 ls), pre_barbicanlaw11_SockCounts_L1v1_0 y0 a0 p0 q0 n0 k0 A0 g1_0 g1_1 g1_2 g1_3 s0_0 s0_1 s0_2, 1, (.exit 2), fun ls => vf_barbicanlaw11_SockCounts_L1v1 y0 a0 p0 q0 n0 k0 A0 g1_0 g1_1 g1_2 g1_3 (.e0 c0_0 c0_1) (ls.take 6 ++ ls.drop 6), fun ls => (Hf_barbicanlaw11_SockCounts_L1v1 y0 a0 p0 q0 n0 k0 A0 g1_0 g1_1 g1_2 g1_3 (.e0 c0_0 c0_1) (ls.take 6 ++ ls.drop 6)).take 6 ++ List.replicate 0 unb, fun ls => (Hf_barbicanlaw11_SockCounts_L1v1 y0 a0 p0 q0 n0 k0 A0 g1_0 g1_1 g1_2 g1_3 (.e0 c0_0 c0_1) (ls.take 6 ++ ls.drop 6)).drop 6⟩ :=
  spc_of_goesM hU 0 (k0 := 6) (go_barbicanlaw11_SockCounts_L1v1 hU y0 a0 p0 q0 n0 k0 A0 hR0 g1_0 g1_1 g1_2 g1_3 _ _ h) (t0_barbicanlaw11_SockCounts_L1v1_0 y0 a0 p0 q0 n0 k0 A0 g1_0 g1_1 g1_2 g1_3 s0_0 s0_1 s0_2) (pre_barbicanlaw11_SockCounts_L1v1_0 y0 a0 p0 q0 n0 k0 A0 g1_0 g1_1 g1_2 g1_3 s0_0 s0_1 s0_2) (fun _ => rfl) (fun ls h => by match ls, h with | [l0, l1, l2, l3, l4, l5], _ => exact ⟨by kernel_rfl, by kernel_rfl⟩) (fun ls h => by match ls, h with | [l0, l1, l2, l3, l4, l5], _ => rfl) (by decide) (by decide) (fun ls => rfl)
theorem sp1_barbicanlaw11_SockCounts_L1v1_0_ok (g1_0 : Nat) (g1_1 : Nat → Int) (g1_2 : Nat) (g1_3 : Nat → Arr73) (s0_0 : Nat → Int) (s0_1 : Nat → Int) (s0_2 : Int) (c1_0 : Nat → Int) (c1_1 : Nat → Int) (h : lpO (st_barbicanlaw11_SockCounts_L1v1 y0 n0 A0 g1_0 g1_2 g1_3) (.c0 s0_0 s0_1 s0_2) = some (.e1 c1_0 c1_1)) : SpcG Try.prog M B0 S ⟨fun ls => .code (.loop bd_barbicanlaw11_SockCounts_L1v1) (t0_barbicanlaw11_SockCounts_L1v1_0 y0 a0 p0 q0 n0 k0 A0 g1_0 g1_1 g1_2 g1_3 s0_0 s0_1 s0_2 ls), pre_barbicanlaw11_SockCounts_L1v1_0 y0 a0 p0 q0 n0 k0 A0 g1_0 g1_1 g1_2 g1_3 s0_0 s0_1 s0_2, 1, .ret, fun ls => vf_barbicanlaw11_SockCounts_L1v1 y0 a0 p0 q0 n0 k0 A0 g1_0 g1_1 g1_2 g1_3 (.e1 c1_0 c1_1) (ls.take 6 ++ ls.drop 6), fun ls => (Hf_barbicanlaw11_SockCounts_L1v1 y0 a0 p0 q0 n0 k0 A0 g1_0 g1_1 g1_2 g1_3 (.e1 c1_0 c1_1) (ls.take 6 ++ ls.drop 6)).take 6 ++ List.replicate 0 unb, fun ls => (Hf_barbicanlaw11_SockCounts_L1v1 y0 a0 p0 q0 n0 k0 A0 g1_0 g1_1 g1_2 g1_3 (.e1 c1_0 c1_1) (ls.take 6 ++ ls.drop 6)).drop 6⟩ :=
  spc_of_goesM hU 0 (k0 := 6) (go_barbicanlaw11_SockCounts_L1v1 hU y0 a0 p0 q0 n0 k0 A0 hR0 g1_0 g1_1 g1_2 g1_3 _ _ h) (t0_barbicanlaw11_SockCounts_L1v1_0 y0 a0 p0 q0 n0 k0 A0 g1_0 g1_1 g1_2 g1_3 s0_0 s0_1 s0_2) (pre_barbicanlaw11_SockCounts_L1v1_0 y0 a0 p0 q0 n0 k0 A0 g1_0 g1_1 g1_2 g1_3 s0_0 s0_1 s0_2) (fun _ => rfl) (fun ls h => by match ls, h with | [l0, l1, l2, l3, l4, l5], _ => exact ⟨by kernel_rfl, by kernel_rfl⟩) (fun ls h => by match ls, h with | [l0, l1, l2, l3, l4, l5], _ => rfl) (by decide) (by decide) (fun ls => rfl)
inductive Sh_barbicanlaw11_SockCounts_L2v1 where
  | c0 (s0_0 : Int)
inductive Ex_barbicanlaw11_SockCounts_L2v1 where
  | e0 
  | e1 
noncomputable def st_barbicanlaw11_SockCounts_L2v1 (y0 : Int) (g1_0 : Nat) (g2_1 : Nat → Int) (g3_0 : Nat → Int) : Sh_barbicanlaw11_SockCounts_L2v1 → Option (Sh_barbicanlaw11_SockCounts_L2v1 ⊕ Ex_barbicanlaw11_SockCounts_L2v1)
  | .c0 s0_0 =>
    bif decide (s0_0 < y0) then
      (bif ((0 + g1_0) : Int) == y0 then
        (bif inR s0_0 (0 + g1_0) then
          (bif inR s0_0 16 then
            (bif (g3_0 (s0_0).toNat) == (IntKind.i64.wrap ((g2_1 (s0_0).toNat) + 1)) then
              (some (.inl (.c0 (IntKind.i64.wrap (s0_0 + 1)))))
            else (some (.inr (.e1 ))))
          else (none))
        else (none))
      else (some (.inr (.e1 ))))
    else (some (.inr (.e0 )))
noncomputable def bd_barbicanlaw11_SockCounts_L2v1 : Code := codeOf Try.f6 [1, 1, 1, 1, 1, 1, 1, 1, 1, 1, 0, 1, 0, 0]
def fl_barbicanlaw11_SockCounts_L2v1 (y0 : Int) (a0 : Option Addr) (p0 : Nat) (q0 : Nat) (n0 : Nat) (k0 : Nat) (A0 : Nat → BitVec 8) (g1_0 : Nat) (g1_1 : Nat → Int) (g1_2 : Nat) (g1_3 : Nat → Arr73) (g2_0 : Nat → Int) (g2_1 : Nat → Int) (g3_0 : Nat → Int) : Sh_barbicanlaw11_SockCounts_L2v1 → List L1 → List Value
  | .c0 s0_0, ls => [.int .i64 (y0), .bool false, .pointer (some ⟨(lget ls 5).n, 0, none⟩), (rowV (lget ls 7) (0 + g1_0) 1), .int .i64 (s0_0)]
def mf_barbicanlaw11_SockCounts_L2v1 : Sh_barbicanlaw11_SockCounts_L2v1 → List (Nat × Nat)
  | .c0 _ => [(1, 3), (1, 4), (1, 2), (2, 107)]
noncomputable def fr_barbicanlaw11_SockCounts_L2v1 (y0 : Int) (a0 : Option Addr) (p0 : Nat) (q0 : Nat) (n0 : Nat) (k0 : Nat) (A0 : Nat → BitVec 8) (g1_0 : Nat) (g1_1 : Nat → Int) (g1_2 : Nat) (g1_3 : Nat → Arr73) (g2_0 : Nat → Int) (g2_1 : Nat → Int) (g3_0 : Nat → Int) (s : Sh_barbicanlaw11_SockCounts_L2v1) : List L1 → List Value := mrgF (mf_barbicanlaw11_SockCounts_L2v1 s) (fl_barbicanlaw11_SockCounts_L2v1 y0 a0 p0 q0 n0 k0 A0 g1_0 g1_1 g1_2 g1_3 g2_0 g2_1 g3_0 s) 8
def Hs_barbicanlaw11_SockCounts_L2v1 (y0 : Int) (a0 : Option Addr) (p0 : Nat) (q0 : Nat) (n0 : Nat) (k0 : Nat) (A0 : Nat → BitVec 8) (g1_0 : Nat) (g1_1 : Nat → Int) (g1_2 : Nat) (g1_3 : Nat → Arr73) (g2_0 : Nat → Int) (g2_1 : Nat → Int) (g3_0 : Nat → Int) : Sh_barbicanlaw11_SockCounts_L2v1 → List L1 → List Obj
  | .c0 s0_0, ls => [unb, unb, .cells #[(rowV (lget ls 3) g1_0 1), (rowV (lget ls 4) g1_2 20)] 72, rowO (lget ls 3) (esG cZ g1_0 g2_0) 3 g1_0 1, rowO (lget ls 4) (esG c_Arr73 g1_2 g1_3) 73 g1_2 20, .cells ⟨esG cZ 16 g2_1⟩ 66, unb, rowO (lget ls 7) (esG cZ (0 + g1_0) g3_0) 3 (0 + g1_0) 1, unb]
def vl_barbicanlaw11_SockCounts_L2v1 (y0 : Int) (a0 : Option Addr) (p0 : Nat) (q0 : Nat) (n0 : Nat) (k0 : Nat) (A0 : Nat → BitVec 8) (g1_0 : Nat) (g1_1 : Nat → Int) (g1_2 : Nat) (g1_3 : Nat → Arr73) (g2_0 : Nat → Int) (g2_1 : Nat → Int) (g3_0 : Nat → Int) : Ex_barbicanlaw11_SockCounts_L2v1 → List L1 → List Value
  | .e0 , ls => [.int .i64 (y0), .bool false, .pointer (some ⟨(lget ls 5).n, 0, none⟩), (rowV (lget ls 7) (0 + g1_0) 1)]
  | .e1 , ls => [.int .i64 (y0), .bool false, .pointer (some ⟨(lget ls 5).n, 0, none⟩), (rowV (lget ls 7) (0 + g1_0) 1)]
def mk_barbicanlaw11_SockCounts_L2v1 : Ex_barbicanlaw11_SockCounts_L2v1 → List (Nat × Nat)
  | .e0  => [(1, 3), (1, 4), (1, 2), (1, 108)]
  | .e1  => [(1, 3), (1, 4), (1, 2), (1, 108)]
noncomputable def vf_barbicanlaw11_SockCounts_L2v1 (y0 : Int) (a0 : Option Addr) (p0 : Nat) (q0 : Nat) (n0 : Nat) (k0 : Nat) (A0 : Nat → BitVec 8) (g1_0 : Nat) (g1_1 : Nat → Int) (g1_2 : Nat) (g1_3 : Nat → Arr73) (g2_0 : Nat → Int) (g2_1 : Nat → Int) (g3_0 : Nat → Int) (r : Ex_barbicanlaw11_SockCounts_L2v1) : List L1 → List Value := mrgF (mk_barbicanlaw11_SockCounts_L2v1 r) (vl_barbicanlaw11_SockCounts_L2v1 y0 a0 p0 q0 n0 k0 A0 g1_0 g1_1 g1_2 g1_3 g2_0 g2_1 g3_0 r) 8
def Hf_barbicanlaw11_SockCounts_L2v1 (y0 : Int) (a0 : Option Addr) (p0 : Nat) (q0 : Nat) (n0 : Nat) (k0 : Nat) (A0 : Nat → BitVec 8) (g1_0 : Nat) (g1_1 : Nat → Int) (g1_2 : Nat) (g1_3 : Nat → Arr73) (g2_0 : Nat → Int) (g2_1 : Nat → Int) (g3_0 : Nat → Int) : Ex_barbicanlaw11_SockCounts_L2v1 → List L1 → List Obj
  | .e0 , ls => [unb, unb, .cells #[(rowV (lget ls 3) g1_0 1), (rowV (lget ls 4) g1_2 20)] 72, rowO (lget ls 3) (esG cZ g1_0 g2_0) 3 g1_0 1, rowO (lget ls 4) (esG c_Arr73 g1_2 g1_3) 73 g1_2 20, .cells ⟨esG cZ 16 g2_1⟩ 66, unb, rowO (lget ls 7) (esG cZ (0 + g1_0) g3_0) 3 (0 + g1_0) 1, unb]
  | .e1 , ls => [unb, unb, .cells #[(rowV (lget ls 3) g1_0 1), (rowV (lget ls 4) g1_2 20)] 72, rowO (lget ls 3) (esG cZ g1_0 g2_0) 3 g1_0 1, rowO (lget ls 4) (esG c_Arr73 g1_2 g1_3) 73 g1_2 20, .cells ⟨esG cZ 16 g2_1⟩ 66, unb, rowO (lget ls 7) (esG cZ (0 + g1_0) g3_0) 3 (0 + g1_0) 1, unb]
def ex_barbicanlaw11_SockCounts_L2v1 : Ex_barbicanlaw11_SockCounts_L2v1 → Ex
  | .e0  => (.exit 4)
  | .e1  => .ret
theorem go_barbicanlaw11_SockCounts_L2v1 (g1_0 : Nat) (g1_1 : Nat → Int) (g1_2 : Nat) (g1_3 : Nat → Arr73) (g2_0 : Nat → Int) (g2_1 : Nat → Int) (g3_0 : Nat → Int) (s : Sh_barbicanlaw11_SockCounts_L2v1) (r : Ex_barbicanlaw11_SockCounts_L2v1) (h : lpO (st_barbicanlaw11_SockCounts_L2v1 y0 g1_0 g2_1 g3_0) s = some r) : GoesG Try.prog M B0 S (.loop bd_barbicanlaw11_SockCounts_L2v1) 9 (fr_barbicanlaw11_SockCounts_L2v1 y0 a0 p0 q0 n0 k0 A0 g1_0 g1_1 g1_2 g1_3 g2_0 g2_1 g3_0 s) (Hs_barbicanlaw11_SockCounts_L2v1 y0 a0 p0 q0 n0 k0 A0 g1_0 g1_1 g1_2 g1_3 g2_0 g2_1 g3_0 s) (ex_barbicanlaw11_SockCounts_L2v1 r) 8 (vf_barbicanlaw11_SockCounts_L2v1 y0 a0 p0 q0 n0 k0 A0 g1_0 g1_1 g1_2 g1_3 g2_0 g2_1 g3_0 r) (Hf_barbicanlaw11_SockCounts_L2v1 y0 a0 p0 q0 n0 k0 A0 g1_0 g1_1 g1_2 g1_3 g2_0 g2_1 g3_0 r) 9 :=
  goes_lpO (fun s q e => by
    cases s with
    | c0 s0_0 =>
      unfold st_barbicanlaw11_SockCounts_L2v1 at e
      dsimp only at e
      replace e := cond_eq_or e
      rcases e with ⟨hq0, e⟩ | ⟨hq0, e⟩
      · replace e := cond_eq_or e
        rcases e with ⟨hq1, e⟩ | ⟨hq1, e⟩
        · replace e := cond_eq_or e
          rcases e with ⟨hq2, e⟩ | ⟨hq2, e⟩
          · replace e := cond_eq_or e
            rcases e with ⟨hq3, e⟩ | ⟨hq3, e⟩
            · replace e := cond_eq_or e
              rcases e with ⟨hq4, e⟩ | ⟨hq4, e⟩
              · cases e; exact goes_runM hU [.o, .o, .b (z_lssT hq0), .r [0, 1, 2, 3, 4, 5, 6, 7, 8, 9, 10, 11, 12, 13, 14] [] [], .o, .o, .o, .b (z_neqT hq1), .o, .o, .o, .q (ixM_ok (kd := .i64) (T := 56) (x := s0_0) (N := (0 + g1_0)) (sz := 1) rfl (fun w => by kernel_rfl) hq2), .l (accG (i := 7) (f := cZ) (A := g3_0) (k := (s0_0).toNat) 0 [.int .i64 ((g3_0 (s0_0).toNat))] cZ_len (inR_nat hq2) rfl), .o, .q (ixA_ok (kd := .i64) (T := 66) (x := s0_0) (sz := 1) (N := 16) rfl rfl (fun w => by kernel_rfl) hq3), .l (accF (i := 5) (f := cZ) (A := g2_1) (k := (s0_0).toNat) 0 [.int .i64 ((g2_1 (s0_0).toNat))] cZ_len (inR_nat hq3) rfl), .o, .b (z_neqT hq4), .o, .o, .o, .o] [0, 1, 2, 3, 4, 5, 6, 7] (fun b => rfl) (by decide) rfl rfl (fun b => by kernel_rfl)
              · cases e; exact ⟨ne_ret, goes_runM hU [.o, .o, .b (z_lssT hq0), .r [0, 1, 2, 3, 4, 5, 6, 7, 8, 9, 10, 11, 12, 13, 14] [] [], .o, .o, .o, .b (z_neqT hq1), .o, .o, .o, .q (ixM_ok (kd := .i64) (T := 56) (x := s0_0) (N := (0 + g1_0)) (sz := 1) rfl (fun w => by kernel_rfl) hq2), .l (accG (i := 7) (f := cZ) (A := g3_0) (k := (s0_0).toNat) 0 [.int .i64 ((g3_0 (s0_0).toNat))] cZ_len (inR_nat hq2) rfl), .o, .q (ixA_ok (kd := .i64) (T := 66) (x := s0_0) (sz := 1) (N := 16) rfl rfl (fun w => by kernel_rfl) hq3), .l (accF (i := 5) (f := cZ) (A := g2_1) (k := (s0_0).toNat) 0 [.int .i64 ((g2_1 (s0_0).toNat))] cZ_len (inR_nat hq3) rfl), .o, .b (z_neqF hq4), .o, .o] [0, 1, 2, 3, 4, 5, 6, 7] (fun b => rfl) (by decide) rfl rfl (fun b => by kernel_rfl)⟩
            · exact none_some e
          · exact none_some e
        · cases e; exact ⟨ne_ret, goes_runM hU [.o, .o, .b (z_lssT hq0), .r [0, 1, 2, 3, 4, 5, 6, 7, 8, 9, 10, 11, 12, 13, 14] [] [], .o, .o, .o, .b (z_neqF hq1), .o, .o, .o] [0, 1, 2, 3, 4, 5, 6, 7] (fun b => rfl) (by decide) rfl rfl (fun b => by kernel_rfl)⟩
      · cases e; exact ⟨ne_exit 4, goes_runM hU [.o, .o, .b (z_lssF hq0)] [0, 1, 2, 3, 4, 5, 6, 7] (fun b => rfl) (by decide) rfl rfl (fun b => by kernel_rfl)⟩) s r h
noncomputable def t0_barbicanlaw11_SockCounts_L2v1_0 (y0 : Int) (a0 : Option Addr) (p0 : Nat) (q0 : Nat) (n0 : Nat) (k0 : Nat) (A0 : Nat → BitVec 8) (g1_0 : Nat) (g1_1 : Nat → Int) (g1_2 : Nat) (g1_3 : Nat → Arr73) (g2_0 : Nat → Int) (g2_1 : Nat → Int) (g3_0 : Nat → Int) (s0_0 : Int) (ls : List L1) : List Value := List.append [.int .i64 (y0), .slice a0 n0 (n0 + k0), ((lget ls 6).u 2), ((lget ls 6).u 3), .bool false, ((lget ls 6).u 5), ((lget ls 6).u 6), .pointer (some ⟨(lget ls 2).n, 0, none⟩), ((lget ls 6).u 8), .pointer (some ⟨(lget ls 5).n, 0, none⟩), ((lget ls 6).u 10), ((lget ls 6).u 11), (rowV (lget ls 7) (0 + g1_0) 1), .int .i64 (s0_0)] (List.append (jks (lget ls 6).u 14 85) (List.append [.pointer (some ⟨(lget ls 2).n, 0, none⟩), (rowV (lget ls 7) (0 + g1_0) 1)] (jks (lget ls 1).u 101 20)))
def pre_barbicanlaw11_SockCounts_L2v1_0 (y0 : Int) (a0 : Option Addr) (p0 : Nat) (q0 : Nat) (n0 : Nat) (k0 : Nat) (A0 : Nat → BitVec 8) (g1_0 : Nat) (g1_1 : Nat → Int) (g1_2 : Nat) (g1_3 : Nat → Arr73) (g2_0 : Nat → Int) (g2_1 : Nat → Int) (g3_0 : Nat → Int) (s0_0 : Int) (ls : List L1) : List Obj := [unb, unb, .cells #[(rowV (lget ls 3) g1_0 1), (rowV (lget ls 4) g1_2 20)] 72, rowO (lget ls 3) (esG cZ g1_0 g2_0) 3 g1_0 1, rowO (lget ls 4) (esG c_Arr73 g1_2 g1_3) 73 g1_2 20, .cells ⟨esG cZ 16 g2_1⟩ 66, unb, rowO (lget ls 7) (esG cZ (0 + g1_0) g3_0) 3 (0 + g1_0) 1]
theorem sp0_barbicanlaw11_SockCounts_L2v1_0_ok (g1_0 : Nat) (g1_1 : Nat → Int) (g1_2 : Nat) (g1_3 : Nat → Arr73) (g2_0 : Nat → Int) (g2_1 : Nat → Int) (g3_0 : Nat → Int) (s0_0 : Int) (h : lpO (st_barbicanlaw11_SockCounts_L2v1 y0 g1_0 g2_1 g3_0) (.c0 s0_0) = some (.e0 )) : SpcG Try.prog M B0 S ⟨fun ls => .code (.loop bd_barbicanlaw11_SockCounts_L2v1) (t0_barbicanlaw11_SockCounts_L2v1_0 y0 a0 p0 q0 n0 k0 A0 g1_0 g1_1 g1_2 g1_3 g2_0 g2_1 g3_0 s0_0 ls), pre_barbicanlaw11_SockCounts_L2v1_0 y0 a0 p0 q0 n0 k0 A0 g1_0 g1_1 g1_2 g1_3 g2_0 g2_1 g3_0 s0_0, 1, (.exit 4), fun ls => vf_barbicanlaw11_SockCounts_L2v1 y0 a0 p0 q0 n0 k0 A0 g1_0 g1_1 g1_2 g1_3 g2_0 g2_1 g3_0 (.e0 ) (ls.take 8 ++ ls.drop 8), fun ls => (Hf_barbicanlaw11_SockCounts_L2v1 y0 a0 p0 q0 n0 k0 A0 g1_0 g1_1 g1_2 g1_3 g2_0 g2_1 g3_0 (.e0 ) (ls.take 8 ++ ls.drop 8)).take 8 ++ List.replicate 0 unb, fun ls => (Hf_barbicanlaw11_SockCounts_L2v1 y0 a0 p0 q0 n0 k0 A0 g1_0 g1_1 g1_2 g1_3 g2_0 g2_1 g3_0 (.e0 ) (ls.take 8 ++ ls.drop 8)).drop 8⟩ :=
  spc_of_goesM hU 0 (k0 := 8) (go_barbicanlaw11_SockCounts_L2v1 hU y0 a0 p0 q0 n0 k0 A0 hR0 g1_0 g1_1 g1_2 g1_3 g2_0 g2_1 g3_0 _ _ h) (t0_barbicanlaw11_SockCounts_L2v1_0 y0 a0 p0 q0 n0 k0 A0 g1_0 g1_1 g1_2 g1_3 g2_0 g2_1 g3_0 s0_0) (pre_barbicanlaw11_SockCounts_L2v1_0 y0 a0 p0 q0 n0 k0 A0 g1_0 g1_1 g1_2 g1_3 g2_0 g2_1 g3_0 s0_0) (fun _ => rfl) (fun ls h => by match ls, h with | [l0, l1, l2, l3, l4, l5, l6, l7], _ => exact ⟨by kernel_rfl, by kernel_rfl⟩) (fun ls h => by match ls, h with | [l0, l1, l2, l3, l4, l5, l6, l7], _ => rfl) (by decide) (by decide) (fun ls => rfl)
theorem sp1_barbicanlaw11_SockCounts_L2v1_0_ok (g1_0 : Nat) (g1_1 : Nat → Int) (g1_2 : Nat) (g1_3 : Nat → Arr73) (g2_0 : Nat → Int) (g2_1 : Nat → Int) (g3_0 : Nat → Int) (s0_0 : Int) (h : lpO (st_barbicanlaw11_SockCounts_L2v1 y0 g1_0 g2_1 g3_0) (.c0 s0_0) = some (.e1 )) : SpcG Try.prog M B0 S ⟨fun ls => .code (.loop bd_barbicanlaw11_SockCounts_L2v1) (t0_barbicanlaw11_SockCounts_L2v1_0 y0 a0 p0 q0 n0 k0 A0 g1_0 g1_1 g1_2 g1_3 g2_0 g2_1 g3_0 s0_0 ls), pre_barbicanlaw11_SockCounts_L2v1_0 y0 a0 p0 q0 n0 k0 A0 g1_0 g1_1 g1_2 g1_3 g2_0 g2_1 g3_0 s0_0, 1, .ret, fun ls => vf_barbicanlaw11_SockCounts_L2v1 y0 a0 p0 q0 n0 k0 A0 g1_0 g1_1 g1_2 g1_3 g2_0 g2_1 g3_0 (.e1 ) (ls.take 8 ++ ls.drop 8), fun ls => (Hf_barbicanlaw11_SockCounts_L2v1 y0 a0 p0 q0 n0 k0 A0 g1_0 g1_1 g1_2 g1_3 g2_0 g2_1 g3_0 (.e1 ) (ls.take 8 ++ ls.drop 8)).take 8 ++ List.replicate 0 unb, fun ls => (Hf_barbicanlaw11_SockCounts_L2v1 y0 a0 p0 q0 n0 k0 A0 g1_0 g1_1 g1_2 g1_3 g2_0 g2_1 g3_0 (.e1 ) (ls.take 8 ++ ls.drop 8)).drop 8⟩ :=
  spc_of_goesM hU 0 (k0 := 8) (go_barbicanlaw11_SockCounts_L2v1 hU y0 a0 p0 q0 n0 k0 A0 hR0 g1_0 g1_1 g1_2 g1_3 g2_0 g2_1 g3_0 _ _ h) (t0_barbicanlaw11_SockCounts_L2v1_0 y0 a0 p0 q0 n0 k0 A0 g1_0 g1_1 g1_2 g1_3 g2_0 g2_1 g3_0 s0_0) (pre_barbicanlaw11_SockCounts_L2v1_0 y0 a0 p0 q0 n0 k0 A0 g1_0 g1_1 g1_2 g1_3 g2_0 g2_1 g3_0 s0_0) (fun _ => rfl) (fun ls h => by match ls, h with | [l0, l1, l2, l3, l4, l5, l6, l7], _ => exact ⟨by kernel_rfl, by kernel_rfl⟩) (fun ls h => by match ls, h with | [l0, l1, l2, l3, l4, l5, l6, l7], _ => rfl) (by decide) (by decide) (fun ls => rfl)
inductive Sh_barbicanlaw11_SockCounts_L1v2 where
  | c0 (s0_0 : Int)
inductive Ex_barbicanlaw11_SockCounts_L1v2 where
  | e0 (c0_0 : Nat → Int)
  | e1 (c1_0 : Nat → Int)
noncomputable def st_barbicanlaw11_SockCounts_L1v2 (y0 : Int) (n0 : Nat) (A0 : Nat → BitVec 8) : Sh_barbicanlaw11_SockCounts_L1v2 → Option (Sh_barbicanlaw11_SockCounts_L1v2 ⊕ Ex_barbicanlaw11_SockCounts_L1v2)
  | .c0 s0_0 =>
    bif decide (s0_0 < (n0 : Int)) then
      (bif inR s0_0 n0 then
        (bif y0 == 0 then
          (none)
        else (bif ((A0 (s0_0).toNat) % 2#8) == 0#8 then
          ((m_sock_Table_Take_v1 (zrem (nn ((A0 (s0_0).toNat) / 2#8)) y0)).bind fun gb0 => match gb0 with
          | .e0 =>
          some (.inr (.e1 (fun _ => 0))))
        else ((m_sock_Table_Drop_v2 (zrem (nn ((A0 (s0_0).toNat) / 2#8)) y0)).bind fun gb0 => match gb0 with
        | .e0 =>
        bif inR (zrem (nn ((A0 (s0_0).toNat) / 2#8)) y0) 16 then
          (some (.inl (.c0 (IntKind.i64.wrap (s0_0 + 1)))))
        else (none))))
      else (none))
    else (some (.inr (.e0 (fun _ => 0))))
noncomputable def bd_barbicanlaw11_SockCounts_L1v2 : Code := codeOf Try.f6 [1, 1, 1, 1, 1, 1, 1, 1, 0, 1, 0, 0]
def fl_barbicanlaw11_SockCounts_L1v2 (y0 : Int) (a0 : Option Addr) (p0 : Nat) (q0 : Nat) (n0 : Nat) (k0 : Nat) (A0 : Nat → BitVec 8) (g0_0 : Nat) (g0_1 : Nat → (Nat × (Nat → BitVec 8))) : Sh_barbicanlaw11_SockCounts_L1v2 → List L1 → List Value
  | .c0 s0_0, ls => [.int .i64 (y0), .slice a0 n0 (n0 + k0), .bool false, .pointer (some ⟨(lget ls 2).n, 0, none⟩), .pointer (some ⟨(lget ls 3).n, 0, none⟩), .int .i64 (s0_0), ((lget ls 1).u 12), ((lget ls 1).u 13), ((lget ls 1).u 99), ((lget ls 1).u 100), ((lget ls 1).u 101), ((lget ls 1).u 102), ((lget ls 1).u 103), ((lget ls 1).u 104), ((lget ls 1).u 105), ((lget ls 1).u 106), ((lget ls 1).u 107), ((lget ls 1).u 108), ((lget ls 1).u 109), ((lget ls 1).u 110), ((lget ls 1).u 111), ((lget ls 1).u 112), ((lget ls 1).u 113), ((lget ls 1).u 114), ((lget ls 1).u 115), ((lget ls 1).u 116), ((lget ls 1).u 117), ((lget ls 1).u 118), ((lget ls 1).u 119), ((lget ls 1).u 120)]
def mf_barbicanlaw11_SockCounts_L1v2 : Sh_barbicanlaw11_SockCounts_L1v2 → List (Nat × Nat)
  | .c0 _ => [(2, 2), (1, 2), (1, 1), (2, 1), (2, 85), (22, 0)]
noncomputable def fr_barbicanlaw11_SockCounts_L1v2 (y0 : Int) (a0 : Option Addr) (p0 : Nat) (q0 : Nat) (n0 : Nat) (k0 : Nat) (A0 : Nat → BitVec 8) (g0_0 : Nat) (g0_1 : Nat → (Nat × (Nat → BitVec 8))) (s : Sh_barbicanlaw11_SockCounts_L1v2) : List L1 → List Value := mrgF (mf_barbicanlaw11_SockCounts_L1v2 s) (fl_barbicanlaw11_SockCounts_L1v2 y0 a0 p0 q0 n0 k0 A0 g0_0 g0_1 s) 4
def Hs_barbicanlaw11_SockCounts_L1v2 (y0 : Int) (a0 : Option Addr) (p0 : Nat) (q0 : Nat) (n0 : Nat) (k0 : Nat) (A0 : Nat → BitVec 8) (g0_0 : Nat) (g0_1 : Nat → (Nat × (Nat → BitVec 8))) : Sh_barbicanlaw11_SockCounts_L1v2 → List L1 → List Obj
  | .c0 s0_0, ls => [rrO (lget ls 0) 25 5 cu8 1 g0_0 g0_1, unb, .cells #[.slice none 0 0, .slice none 0 0] 72, .cells ⟨esG cZ 16 (fun _ => 0)⟩ 66, unb]
def vl_barbicanlaw11_SockCounts_L1v2 (y0 : Int) (a0 : Option Addr) (p0 : Nat) (q0 : Nat) (n0 : Nat) (k0 : Nat) (A0 : Nat → BitVec 8) (g0_0 : Nat) (g0_1 : Nat → (Nat × (Nat → BitVec 8))) : Ex_barbicanlaw11_SockCounts_L1v2 → List L1 → List Value
  | .e0 c0_0, ls => [.int .i64 (y0), .slice a0 n0 (n0 + k0), .bool false, .pointer (some ⟨(lget ls 2).n, 0, none⟩), .pointer (some ⟨(lget ls 3).n, 0, none⟩), ((lget ls 1).u 12), ((lget ls 1).u 13), ((lget ls 1).u 99), ((lget ls 1).u 100), ((lget ls 1).u 101), ((lget ls 1).u 102), ((lget ls 1).u 103), ((lget ls 1).u 104), ((lget ls 1).u 105), ((lget ls 1).u 106), ((lget ls 1).u 107), ((lget ls 1).u 108), ((lget ls 1).u 109), ((lget ls 1).u 110), ((lget ls 1).u 111), ((lget ls 1).u 112), ((lget ls 1).u 113), ((lget ls 1).u 114), ((lget ls 1).u 115), ((lget ls 1).u 116), ((lget ls 1).u 117), ((lget ls 1).u 118), ((lget ls 1).u 119), ((lget ls 1).u 120)]
  | .e1 c1_0, ls => [.int .i64 (y0), .slice a0 n0 (n0 + k0), .bool false, .pointer (some ⟨(lget ls 2).n, 0, none⟩), .pointer (some ⟨(lget ls 3).n, 0, none⟩), ((lget ls 1).u 12), ((lget ls 1).u 13), ((lget ls 1).u 99), ((lget ls 1).u 100), ((lget ls 1).u 101), ((lget ls 1).u 102), ((lget ls 1).u 103), ((lget ls 1).u 104), ((lget ls 1).u 105), ((lget ls 1).u 106), ((lget ls 1).u 107), ((lget ls 1).u 108), ((lget ls 1).u 109), ((lget ls 1).u 110), ((lget ls 1).u 111), ((lget ls 1).u 112), ((lget ls 1).u 113), ((lget ls 1).u 114), ((lget ls 1).u 115), ((lget ls 1).u 116), ((lget ls 1).u 117), ((lget ls 1).u 118), ((lget ls 1).u 119), ((lget ls 1).u 120)]
def mk_barbicanlaw11_SockCounts_L1v2 : Ex_barbicanlaw11_SockCounts_L1v2 → List (Nat × Nat)
  | .e0 _ => [(2, 2), (1, 2), (1, 1), (1, 2), (2, 85), (22, 0)]
  | .e1 _ => [(2, 2), (1, 2), (1, 1), (1, 2), (2, 85), (22, 0)]
noncomputable def vf_barbicanlaw11_SockCounts_L1v2 (y0 : Int) (a0 : Option Addr) (p0 : Nat) (q0 : Nat) (n0 : Nat) (k0 : Nat) (A0 : Nat → BitVec 8) (g0_0 : Nat) (g0_1 : Nat → (Nat × (Nat → BitVec 8))) (r : Ex_barbicanlaw11_SockCounts_L1v2) : List L1 → List Value := mrgF (mk_barbicanlaw11_SockCounts_L1v2 r) (vl_barbicanlaw11_SockCounts_L1v2 y0 a0 p0 q0 n0 k0 A0 g0_0 g0_1 r) 4
def Hf_barbicanlaw11_SockCounts_L1v2 (y0 : Int) (a0 : Option Addr) (p0 : Nat) (q0 : Nat) (n0 : Nat) (k0 : Nat) (A0 : Nat → BitVec 8) (g0_0 : Nat) (g0_1 : Nat → (Nat × (Nat → BitVec 8))) : Ex_barbicanlaw11_SockCounts_L1v2 → List L1 → List Obj
  | .e0 c0_0, ls => [rrO (lget ls 0) 25 5 cu8 1 g0_0 g0_1, unb, .cells #[.slice none 0 0, .slice none 0 0] 72, .cells ⟨esG cZ 16 c0_0⟩ 66, unb]
  | .e1 c1_0, ls => [rrO (lget ls 0) 25 5 cu8 1 g0_0 g0_1, unb, .cells #[.slice none 0 0, .slice none 0 0] 72, .cells ⟨esG cZ 16 c1_0⟩ 66, unb]
def ex_barbicanlaw11_SockCounts_L1v2 : Ex_barbicanlaw11_SockCounts_L1v2 → Ex
  | .e0 _ => (.exit 2)
  | .e1 _ => .ret
theorem go_barbicanlaw11_SockCounts_L1v2 (g0_0 : Nat) (g0_1 : Nat → (Nat × (Nat → BitVec 8))) (s : Sh_barbicanlaw11_SockCounts_L1v2) (r : Ex_barbicanlaw11_SockCounts_L1v2) (h : lpO (st_barbicanlaw11_SockCounts_L1v2 y0 n0 A0) s = some r) : GoesG Try.prog M B0 S (.loop bd_barbicanlaw11_SockCounts_L1v2) 5 (fr_barbicanlaw11_SockCounts_L1v2 y0 a0 p0 q0 n0 k0 A0 g0_0 g0_1 s) (Hs_barbicanlaw11_SockCounts_L1v2 y0 a0 p0 q0 n0 k0 A0 g0_0 g0_1 s) (ex_barbicanlaw11_SockCounts_L1v2 r) 4 (vf_barbicanlaw11_SockCounts_L1v2 y0 a0 p0 q0 n0 k0 A0 g0_0 g0_1 r) (Hf_barbicanlaw11_SockCounts_L1v2 y0 a0 p0 q0 n0 k0 A0 g0_0 g0_1 r) 5 :=
  goes_lpO (fun s q e => by
    cases s with
    | c0 s0_0 =>
      unfold st_barbicanlaw11_SockCounts_L1v2 at e
      dsimp only at e
      replace e := cond_eq_or e
      rcases e with ⟨hq0, e⟩ | ⟨hq0, e⟩
      · replace e := cond_eq_or e
        rcases e with ⟨hq1, e⟩ | ⟨hq1, e⟩
        · replace e := cond_eq_or e
          rcases e with ⟨hq2, e⟩ | ⟨hq2, e⟩
          · exact none_some e
          · replace e := cond_eq_or e
            rcases e with ⟨hq3, e⟩ | ⟨hq3, e⟩
            · replace e := bindO_eq e
              obtain ⟨gb0, e_gb0, e⟩ := e
              cases gb0
              try dsimp only at e
              cases e; exact ⟨ne_ret, goes_runM hU [.o, .o, .o, .b (z_lssT hq0), .o, .o, .q (ixRo_ok (kd := .i64) (T := 25) (x := s0_0) (sz := 1) rfl (fun w => by kernel_rfl) hR0 hq1), .l (accRo hR0 cu8_len (inR_nat hq1) 0 [.int .u8 (nn (A0 (s0_0).toNat))] rfl), .ov (u8_quo Try.prog 5 (.tmp 62) (.const (.int .u8 (2))) (A0 (s0_0).toNat) (2#8) (by decide)), .v .i64 (z_of_nn (by decide) ((A0 (s0_0).toNat) / 2#8)), .o, .ov (z_rem Try.prog 3 (.tmp 64) (.tmp 65) (nn ((A0 (s0_0).toNat) / 2#8)) y0 (z_nz hq2)), .o, .o, .o, .q (ixRo_ok (kd := .i64) (T := 25) (x := s0_0) (sz := 1) rfl (fun w => by kernel_rfl) hR0 hq1), .l (accRo hR0 cu8_len (inR_nat hq1) 0 [.int .u8 (nn (A0 (s0_0).toNat))] rfl), .ov (u8_rem Try.prog 5 (.tmp 70) (.const (.int .u8 (2))) (A0 (s0_0).toNat) (2#8) (by decide)), .t (u_eq ((A0 (s0_0).toNat) % 2#8) (0#8)) hq3, .o, .o, .xg (ok0_sock_Table_Take_v1 hU (zrem (nn ((A0 (s0_0).toNat) / 2#8)) y0)  e_gb0) [2], .o, .o] [0, 1, 2, 3] (fun b => rfl) (by decide) rfl rfl (fun b => by kernel_rfl)⟩
            · replace e := bindO_eq e
              obtain ⟨gb0, e_gb0, e⟩ := e
              cases gb0
              try dsimp only at e
              replace e := cond_eq_or e
              rcases e with ⟨hq4, e⟩ | ⟨hq4, e⟩
              · cases e; exact goes_runM hU [.o, .o, .o, .b (z_lssT hq0), .o, .o, .q (ixRo_ok (kd := .i64) (T := 25) (x := s0_0) (sz := 1) rfl (fun w => by kernel_rfl) hR0 hq1), .l (accRo hR0 cu8_len (inR_nat hq1) 0 [.int .u8 (nn (A0 (s0_0).toNat))] rfl), .ov (u8_quo Try.prog 5 (.tmp 62) (.const (.int .u8 (2))) (A0 (s0_0).toNat) (2#8) (by decide)), .v .i64 (z_of_nn (by decide) ((A0 (s0_0).toNat) / 2#8)), .o, .ov (z_rem Try.prog 3 (.tmp 64) (.tmp 65) (nn ((A0 (s0_0).toNat) / 2#8)) y0 (z_nz hq2)), .o, .o, .o, .q (ixRo_ok (kd := .i64) (T := 25) (x := s0_0) (sz := 1) rfl (fun w => by kernel_rfl) hR0 hq1), .l (accRo hR0 cu8_len (inR_nat hq1) 0 [.int .u8 (nn (A0 (s0_0).toNat))] rfl), .ov (u8_rem Try.prog 5 (.tmp 70) (.const (.int .u8 (2))) (A0 (s0_0).toNat) (2#8) (by decide)), .t (u_eq ((A0 (s0_0).toNat) % 2#8) (0#8)) hq3, .o, .o, .xg (ok0_sock_Table_Drop_v2 hU (zrem (nn ((A0 (s0_0).toNat) / 2#8)) y0)  e_gb0) [2], .o, .o, .o, .o, .q (ixA_ok (kd := .i64) (T := 66) (x := (zrem (nn ((A0 (s0_0).toNat) / 2#8)) y0)) (sz := 1) (N := 16) rfl rfl (fun w => by kernel_rfl) hq4), .l (accF (i := 3) (f := cZ) (A := (fun _ => 0)) (k := ((zrem (nn ((A0 (s0_0).toNat) / 2#8)) y0)).toNat) 0 [.int .i64 (0)] cZ_len (inR_nat hq4) rfl), .o, .o, .o, .o, .o, .o, .o] [0, 1, 2, 3] (fun b => rfl) (by decide) rfl rfl (fun b => by kernel_rfl)
              · exact none_some e
        · exact none_some e
      · cases e; exact ⟨ne_exit 2, goes_runM hU [.o, .o, .o, .b (z_lssF hq0)] [0, 1, 2, 3] (fun b => rfl) (by decide) rfl rfl (fun b => by kernel_rfl)⟩) s r h
noncomputable def t0_barbicanlaw11_SockCounts_L1v2_0 (y0 : Int) (a0 : Option Addr) (p0 : Nat) (q0 : Nat) (n0 : Nat) (k0 : Nat) (A0 : Nat → BitVec 8) (g0_0 : Nat) (g0_1 : Nat → (Nat × (Nat → BitVec 8))) (s0_0 : Int) (ls : List L1) : List Value := List.append [.int .i64 (y0), .slice a0 n0 (n0 + k0), ((lget ls 1).u 2), ((lget ls 1).u 3), .bool false, (rrV (lget ls 0) g0_0), ((lget ls 1).u 6), .pointer (some ⟨(lget ls 2).n, 0, none⟩), .int .i64 (0), .pointer (some ⟨(lget ls 3).n, 0, none⟩), .int .i64 (s0_0)] (List.append (jks (lget ls 1).u 11 25) (List.append [.tuple #[.pointer (some ⟨(lget ls 2).n, 0, none⟩), .int .i64 (0)], (rrV (lget ls 0) g0_0), .tuple #[.pointer (some ⟨(lget ls 2).n, 0, none⟩), .int .i64 (0)], .pointer (some ⟨(lget ls 2).n, 0, none⟩), .int .i64 (0), .int .i64 (0), .bool false, .bool false, .pointer (some ⟨(lget ls 2).n, 0, none⟩), .bool false, .bool false, .bool false, .pointer (some ⟨(lget ls 2).n, 0, none⟩), .int .i64 (0), .int .i64 (y0), .bool false, .bool false] (jks (lget ls 1).u 53 68)))
def pre_barbicanlaw11_SockCounts_L1v2_0 (y0 : Int) (a0 : Option Addr) (p0 : Nat) (q0 : Nat) (n0 : Nat) (k0 : Nat) (A0 : Nat → BitVec 8) (g0_0 : Nat) (g0_1 : Nat → (Nat × (Nat → BitVec 8))) (s0_0 : Int) (ls : List L1) : List Obj := [rrO (lget ls 0) 25 5 cu8 1 g0_0 g0_1, unb, .cells #[.slice none 0 0, .slice none 0 0] 72, .cells ⟨esG cZ 16 (fun _ => 0)⟩ 66]
theorem sp0_barbicanlaw11_SockCounts_L1v2_0_ok (g0_0 : Nat) (g0_1 : Nat → (Nat × (Nat → BitVec 8))) (s0_0 : Int) (c0_0 : Nat → Int) (h : lpO (st_barbicanlaw11_SockCounts_L1v2 y0 n0 A0) (.c0 s0_0) = some (.e0 c0_0)) : SpcG Try.prog M B0 S ⟨fun ls => .code (.loop bd_barbicanlaw11_SockCounts_L1v2) (t0_barbicanlaw11_SockCounts_L1v2_0 y0 a0 p0 q0 n0 k0 A0 g0_0 g0_1 s0_0 ls), pre_barbicanlaw11_SockCounts_L1v2_0 y0 a0 p0 q0 n0 k0 A0 g0_0 g0_1 s0_0, 1, (.exit 2), fun ls => vf_barbicanlaw11_SockCounts_L1v2 y0 a0 p0 q0 n0 k0 A0 g0_0 g0_1 (.e0 c0_0) (ls.take 4 ++ ls.drop 4), fun ls => (Hf_barbicanlaw11_SockCounts_L1v2 y0 a0 p0 q0 n0 k0 A0 g0_0 g0_1 (.e0 c0_0) (ls.take 4 ++ ls.drop 4)).take 4 ++ List.replicate 0 unb, fun ls => (Hf_barbicanlaw11_SockCounts_L1v2 y0 a0 p0 q0 n0 k0 A0 g0_0 g0_1 (.e0 c0_0) (ls.take 4 ++ ls.drop 4)).drop 4⟩ :=
  spc_of_goesM hU 0 (k0 := 4) (go_barbicanlaw11_SockCounts_L1v2 hU y0 a0 p0 q0 n0 k0 A0 hR0 g0_0 g0_1 _ _ h) (t0_barbicanlaw11_SockCounts_L1v2_0 y0 a0 p0 q0 n0 k0 A0 g0_0 g0_1 s0_0) (pre_barbicanlaw11_SockCounts_L1v2_0 y0 a0 p0 q0 n0 k0 A0 g0_0 g0_1 s0_0) (fun _ => rfl) (fun ls h => by match ls, h with | [l0, l1, l2, l3], _ => exact ⟨by kernel_rfl, by kernel_rfl⟩) (fun ls h => by match ls, h with | [l0, l1, l2, l3], _ => rfl) (by decide) (by decide) (fun ls => rfl)
theorem sp1_barbicanlaw11_SockCounts_L1v2_0_ok (g0_0 : Nat) (g0_1 : Nat → (Nat × (Nat → BitVec 8))) (s0_0 : Int) (c1_0 : Nat → Int) (h : lpO (st_barbicanlaw11_SockCounts_L1v2 y0 n0 A0) (.c0 s0_0) = some (.e1 c1_0)) : SpcG Try.prog M B0 S ⟨fun ls => .code (.loop bd_barbicanlaw11_SockCounts_L1v2) (t0_barbicanlaw11_SockCounts_L1v2_0 y0 a0 p0 q0 n0 k0 A0 g0_0 g0_1 s0_0 ls), pre_barbicanlaw11_SockCounts_L1v2_0 y0 a0 p0 q0 n0 k0 A0 g0_0 g0_1 s0_0, 1, .ret, fun ls => vf_barbicanlaw11_SockCounts_L1v2 y0 a0 p0 q0 n0 k0 A0 g0_0 g0_1 (.e1 c1_0) (ls.take 4 ++ ls.drop 4), fun ls => (Hf_barbicanlaw11_SockCounts_L1v2 y0 a0 p0 q0 n0 k0 A0 g0_0 g0_1 (.e1 c1_0) (ls.take 4 ++ ls.drop 4)).take 4 ++ List.replicate 0 unb, fun ls => (Hf_barbicanlaw11_SockCounts_L1v2 y0 a0 p0 q0 n0 k0 A0 g0_0 g0_1 (.e1 c1_0) (ls.take 4 ++ ls.drop 4)).drop 4⟩ :=
  spc_of_goesM hU 0 (k0 := 4) (go_barbicanlaw11_SockCounts_L1v2 hU y0 a0 p0 q0 n0 k0 A0 hR0 g0_0 g0_1 _ _ h) (t0_barbicanlaw11_SockCounts_L1v2_0 y0 a0 p0 q0 n0 k0 A0 g0_0 g0_1 s0_0) (pre_barbicanlaw11_SockCounts_L1v2_0 y0 a0 p0 q0 n0 k0 A0 g0_0 g0_1 s0_0) (fun _ => rfl) (fun ls h => by match ls, h with | [l0, l1, l2, l3], _ => exact ⟨by kernel_rfl, by kernel_rfl⟩) (fun ls h => by match ls, h with | [l0, l1, l2, l3], _ => rfl) (by decide) (by decide) (fun ls => rfl)
inductive Sh_barbicanlaw11_SockCounts_L2v2 where
  | c0 
inductive Ex_barbicanlaw11_SockCounts_L2v2 where
  | e0 
  | e1 
noncomputable def st_barbicanlaw11_SockCounts_L2v2 (y0 : Int) : Sh_barbicanlaw11_SockCounts_L2v2 → Option (Sh_barbicanlaw11_SockCounts_L2v2 ⊕ Ex_barbicanlaw11_SockCounts_L2v2)
  | .c0  =>
    bif decide (0 < y0) then
      (bif (0 : Int) == y0 then
        (none)
      else (some (.inr (.e1 ))))
    else (some (.inr (.e0 )))
noncomputable def bd_barbicanlaw11_SockCounts_L2v2 : Code := codeOf Try.f6 [1, 1, 1, 1, 1, 1, 1, 1, 1, 1, 0, 1, 0, 0]
def fl_barbicanlaw11_SockCounts_L2v2 (y0 : Int) (a0 : Option Addr) (p0 : Nat) (q0 : Nat) (n0 : Nat) (k0 : Nat) (A0 : Nat → BitVec 8) (g0_0 : Nat) (g0_1 : Nat → (Nat × (Nat → BitVec 8))) (g2_0 : Nat → Int) : Sh_barbicanlaw11_SockCounts_L2v2 → List L1 → List Value
  | .c0 , ls => [.int .i64 (y0), .bool false, .pointer (some ⟨(lget ls 3).n, 0, none⟩), .slice none 0 0, .int .i64 (0)]
def mf_barbicanlaw11_SockCounts_L2v2 : Sh_barbicanlaw11_SockCounts_L2v2 → List (Nat × Nat)
  | .c0  => [(1, 3), (1, 4), (1, 2), (2, 107)]
noncomputable def fr_barbicanlaw11_SockCounts_L2v2 (y0 : Int) (a0 : Option Addr) (p0 : Nat) (q0 : Nat) (n0 : Nat) (k0 : Nat) (A0 : Nat → BitVec 8) (g0_0 : Nat) (g0_1 : Nat → (Nat × (Nat → BitVec 8))) (g2_0 : Nat → Int) (s : Sh_barbicanlaw11_SockCounts_L2v2) : List L1 → List Value := mrgF (mf_barbicanlaw11_SockCounts_L2v2 s) (fl_barbicanlaw11_SockCounts_L2v2 y0 a0 p0 q0 n0 k0 A0 g0_0 g0_1 g2_0 s) 5
def Hs_barbicanlaw11_SockCounts_L2v2 (y0 : Int) (a0 : Option Addr) (p0 : Nat) (q0 : Nat) (n0 : Nat) (k0 : Nat) (A0 : Nat → BitVec 8) (g0_0 : Nat) (g0_1 : Nat → (Nat × (Nat → BitVec 8))) (g2_0 : Nat → Int) : Sh_barbicanlaw11_SockCounts_L2v2 → List L1 → List Obj
  | .c0 , ls => [rrO (lget ls 0) 25 5 cu8 1 g0_0 g0_1, unb, .cells #[.slice none 0 0, .slice none 0 0] 72, .cells ⟨esG cZ 16 g2_0⟩ 66, unb, unb]
def vl_barbicanlaw11_SockCounts_L2v2 (y0 : Int) (a0 : Option Addr) (p0 : Nat) (q0 : Nat) (n0 : Nat) (k0 : Nat) (A0 : Nat → BitVec 8) (g0_0 : Nat) (g0_1 : Nat → (Nat × (Nat → BitVec 8))) (g2_0 : Nat → Int) : Ex_barbicanlaw11_SockCounts_L2v2 → List L1 → List Value
  | .e0 , ls => [.int .i64 (y0), .bool false, .pointer (some ⟨(lget ls 3).n, 0, none⟩), .slice none 0 0]
  | .e1 , ls => [.int .i64 (y0), .bool false, .pointer (some ⟨(lget ls 3).n, 0, none⟩), .slice none 0 0]
def mk_barbicanlaw11_SockCounts_L2v2 : Ex_barbicanlaw11_SockCounts_L2v2 → List (Nat × Nat)
  | .e0  => [(1, 3), (1, 4), (1, 2), (1, 108)]
  | .e1  => [(1, 3), (1, 4), (1, 2), (1, 108)]
noncomputable def vf_barbicanlaw11_SockCounts_L2v2 (y0 : Int) (a0 : Option Addr) (p0 : Nat) (q0 : Nat) (n0 : Nat) (k0 : Nat) (A0 : Nat → BitVec 8) (g0_0 : Nat) (g0_1 : Nat → (Nat × (Nat → BitVec 8))) (g2_0 : Nat → Int) (r : Ex_barbicanlaw11_SockCounts_L2v2) : List L1 → List Value := mrgF (mk_barbicanlaw11_SockCounts_L2v2 r) (vl_barbicanlaw11_SockCounts_L2v2 y0 a0 p0 q0 n0 k0 A0 g0_0 g0_1 g2_0 r) 5
def Hf_barbicanlaw11_SockCounts_L2v2 (y0 : Int) (a0 : Option Addr) (p0 : Nat) (q0 : Nat) (n0 : Nat) (k0 : Nat) (A0 : Nat → BitVec 8) (g0_0 : Nat) (g0_1 : Nat → (Nat × (Nat → BitVec 8))) (g2_0 : Nat → Int) : Ex_barbicanlaw11_SockCounts_L2v2 → List L1 → List Obj
  | .e0 , ls => [rrO (lget ls 0) 25 5 cu8 1 g0_0 g0_1, unb, .cells #[.slice none 0 0, .slice none 0 0] 72, .cells ⟨esG cZ 16 g2_0⟩ 66, unb, unb]
  | .e1 , ls => [rrO (lget ls 0) 25 5 cu8 1 g0_0 g0_1, unb, .cells #[.slice none 0 0, .slice none 0 0] 72, .cells ⟨esG cZ 16 g2_0⟩ 66, unb, unb]
def ex_barbicanlaw11_SockCounts_L2v2 : Ex_barbicanlaw11_SockCounts_L2v2 → Ex
  | .e0  => (.exit 4)
  | .e1  => .ret
theorem go_barbicanlaw11_SockCounts_L2v2 (g0_0 : Nat) (g0_1 : Nat → (Nat × (Nat → BitVec 8))) (g2_0 : Nat → Int) (s : Sh_barbicanlaw11_SockCounts_L2v2) (r : Ex_barbicanlaw11_SockCounts_L2v2) (h : lpO (st_barbicanlaw11_SockCounts_L2v2 y0) s = some r) : GoesG Try.prog M B0 S (.loop bd_barbicanlaw11_SockCounts_L2v2) 6 (fr_barbicanlaw11_SockCounts_L2v2 y0 a0 p0 q0 n0 k0 A0 g0_0 g0_1 g2_0 s) (Hs_barbicanlaw11_SockCounts_L2v2 y0 a0 p0 q0 n0 k0 A0 g0_0 g0_1 g2_0 s) (ex_barbicanlaw11_SockCounts_L2v2 r) 5 (vf_barbicanlaw11_SockCounts_L2v2 y0 a0 p0 q0 n0 k0 A0 g0_0 g0_1 g2_0 r) (Hf_barbicanlaw11_SockCounts_L2v2 y0 a0 p0 q0 n0 k0 A0 g0_0 g0_1 g2_0 r) 6 :=
  goes_lpO (fun s q e => by
    cases s with
    | c0  =>
      unfold st_barbicanlaw11_SockCounts_L2v2 at e
      dsimp only at e
      replace e := cond_eq_or e
      rcases e with ⟨hq0, e⟩ | ⟨hq0, e⟩
      · replace e := cond_eq_or e
        rcases e with ⟨hq1, e⟩ | ⟨hq1, e⟩
        · exact none_some e
        · cases e; exact ⟨ne_ret, goes_runM hU [.o, .o, .b (z_lssT hq0), .r [0, 1, 2, 3, 4, 5, 6, 7, 8, 9, 10, 11, 12, 13, 14] [] [], .o, .o, .o, .b (z_neqF hq1), .o, .o, .o] [0, 1, 2, 3, 4] (fun b => rfl) (by decide) rfl rfl (fun b => by kernel_rfl)⟩
      · cases e; exact ⟨ne_exit 4, goes_runM hU [.o, .o, .b (z_lssF hq0)] [0, 1, 2, 3, 4] (fun b => rfl) (by decide) rfl rfl (fun b => by kernel_rfl)⟩) s r h
noncomputable def t0_barbicanlaw11_SockCounts_L2v2_0 (y0 : Int) (a0 : Option Addr) (p0 : Nat) (q0 : Nat) (n0 : Nat) (k0 : Nat) (A0 : Nat → BitVec 8) (g0_0 : Nat) (g0_1 : Nat → (Nat × (Nat → BitVec 8))) (g2_0 : Nat → Int)  (ls : List L1) : List Value := List.append [.int .i64 (y0), .slice a0 n0 (n0 + k0), ((lget ls 4).u 2), ((lget ls 4).u 3), .bool false, ((lget ls 4).u 5), ((lget ls 4).u 6), .pointer (some ⟨(lget ls 2).n, 0, none⟩), ((lget ls 4).u 8), .pointer (some ⟨(lget ls 3).n, 0, none⟩), ((lget ls 4).u 10), ((lget ls 4).u 11), .slice none 0 0, .int .i64 (0)] (List.append (jks (lget ls 4).u 14 85) (List.append [.pointer (some ⟨(lget ls 2).n, 0, none⟩), .slice none 0 0] (jks (lget ls 1).u 101 20)))
def pre_barbicanlaw11_SockCounts_L2v2_0 (y0 : Int) (a0 : Option Addr) (p0 : Nat) (q0 : Nat) (n0 : Nat) (k0 : Nat) (A0 : Nat → BitVec 8) (g0_0 : Nat) (g0_1 : Nat → (Nat × (Nat → BitVec 8))) (g2_0 : Nat → Int)  (ls : List L1) : List Obj := [rrO (lget ls 0) 25 5 cu8 1 g0_0 g0_1, unb, .cells #[.slice none 0 0, .slice none 0 0] 72, .cells ⟨esG cZ 16 g2_0⟩ 66, unb]
theorem sp0_barbicanlaw11_SockCounts_L2v2_0_ok (g0_0 : Nat) (g0_1 : Nat → (Nat × (Nat → BitVec 8))) (g2_0 : Nat → Int) (h : lpO (st_barbicanlaw11_SockCounts_L2v2 y0) (.c0) = some (.e0 )) : SpcG Try.prog M B0 S ⟨fun ls => .code (.loop bd_barbicanlaw11_SockCounts_L2v2) (t0_barbicanlaw11_SockCounts_L2v2_0 y0 a0 p0 q0 n0 k0 A0 g0_0 g0_1 g2_0  ls), pre_barbicanlaw11_SockCounts_L2v2_0 y0 a0 p0 q0 n0 k0 A0 g0_0 g0_1 g2_0 , 1, (.exit 4), fun ls => vf_barbicanlaw11_SockCounts_L2v2 y0 a0 p0 q0 n0 k0 A0 g0_0 g0_1 g2_0 (.e0 ) (ls.take 5 ++ ls.drop 5), fun ls => (Hf_barbicanlaw11_SockCounts_L2v2 y0 a0 p0 q0 n0 k0 A0 g0_0 g0_1 g2_0 (.e0 ) (ls.take 5 ++ ls.drop 5)).take 5 ++ List.replicate 0 unb, fun ls => (Hf_barbicanlaw11_SockCounts_L2v2 y0 a0 p0 q0 n0 k0 A0 g0_0 g0_1 g2_0 (.e0 ) (ls.take 5 ++ ls.drop 5)).drop 5⟩ :=
  spc_of_goesM hU 0 (k0 := 5) (go_barbicanlaw11_SockCounts_L2v2 hU y0 a0 p0 q0 n0 k0 A0 hR0 g0_0 g0_1 g2_0 _ _ h) (t0_barbicanlaw11_SockCounts_L2v2_0 y0 a0 p0 q0 n0 k0 A0 g0_0 g0_1 g2_0 ) (pre_barbicanlaw11_SockCounts_L2v2_0 y0 a0 p0 q0 n0 k0 A0 g0_0 g0_1 g2_0 ) (fun _ => rfl) (fun ls h => by match ls, h with | [l0, l1, l2, l3, l4], _ => exact ⟨by kernel_rfl, by kernel_rfl⟩) (fun ls h => by match ls, h with | [l0, l1, l2, l3, l4], _ => rfl) (by decide) (by decide) (fun ls => rfl)
theorem sp1_barbicanlaw11_SockCounts_L2v2_0_ok (g0_0 : Nat) (g0_1 : Nat → (Nat × (Nat → BitVec 8))) (g2_0 : Nat → Int) (h : lpO (st_barbicanlaw11_SockCounts_L2v2 y0) (.c0) = some (.e1 )) : SpcG Try.prog M B0 S ⟨fun ls => .code (.loop bd_barbicanlaw11_SockCounts_L2v2) (t0_barbicanlaw11_SockCounts_L2v2_0 y0 a0 p0 q0 n0 k0 A0 g0_0 g0_1 g2_0  ls), pre_barbicanlaw11_SockCounts_L2v2_0 y0 a0 p0 q0 n0 k0 A0 g0_0 g0_1 g2_0 , 1, .ret, fun ls => vf_barbicanlaw11_SockCounts_L2v2 y0 a0 p0 q0 n0 k0 A0 g0_0 g0_1 g2_0 (.e1 ) (ls.take 5 ++ ls.drop 5), fun ls => (Hf_barbicanlaw11_SockCounts_L2v2 y0 a0 p0 q0 n0 k0 A0 g0_0 g0_1 g2_0 (.e1 ) (ls.take 5 ++ ls.drop 5)).take 5 ++ List.replicate 0 unb, fun ls => (Hf_barbicanlaw11_SockCounts_L2v2 y0 a0 p0 q0 n0 k0 A0 g0_0 g0_1 g2_0 (.e1 ) (ls.take 5 ++ ls.drop 5)).drop 5⟩ :=
  spc_of_goesM hU 0 (k0 := 5) (go_barbicanlaw11_SockCounts_L2v2 hU y0 a0 p0 q0 n0 k0 A0 hR0 g0_0 g0_1 g2_0 _ _ h) (t0_barbicanlaw11_SockCounts_L2v2_0 y0 a0 p0 q0 n0 k0 A0 g0_0 g0_1 g2_0 ) (pre_barbicanlaw11_SockCounts_L2v2_0 y0 a0 p0 q0 n0 k0 A0 g0_0 g0_1 g2_0 ) (fun _ => rfl) (fun ls h => by match ls, h with | [l0, l1, l2, l3, l4], _ => exact ⟨by kernel_rfl, by kernel_rfl⟩) (fun ls h => by match ls, h with | [l0, l1, l2, l3, l4], _ => rfl) (by decide) (by decide) (fun ls => rfl)
inductive Sh_barbicanlaw11_SockCounts_L1v3 where
  | c0 (s0_0 : Nat → Int) (s0_1 : Nat → Int) (s0_2 : Int)
inductive Ex_barbicanlaw11_SockCounts_L1v3 where
  | e0 (c0_0 : Nat → Int) (c0_1 : Nat → Int)
  | e1 (c1_0 : Nat → Int) (c1_1 : Nat → Int)
noncomputable def st_barbicanlaw11_SockCounts_L1v3 (y0 : Int) (n0 : Nat) (A0 : Nat → BitVec 8) (g1_0 : Nat) (g1_2 : Nat) (g1_3 : Nat → Arr73) : Sh_barbicanlaw11_SockCounts_L1v3 → Option (Sh_barbicanlaw11_SockCounts_L1v3 ⊕ Ex_barbicanlaw11_SockCounts_L1v3)
  | .c0 s0_0 s0_1 s0_2 =>
    bif decide (s0_2 < (n0 : Int)) then
      (bif inR s0_2 n0 then
        (bif y0 == 0 then
          (none)
        else (bif ((A0 (s0_2).toNat) % 2#8) == 0#8 then
          ((m_sock_Table_Take_v2 (zrem (nn ((A0 (s0_2).toNat) / 2#8)) y0) g1_0 g1_2 s0_0 g1_3).bind fun gb0 => match gb0 with
          | .e0 gb0_0 gb0_1 =>
          bif gb0_1 == 0 then
            (bif inR (zrem (nn ((A0 (s0_2).toNat) / 2#8)) y0) 16 then
              (bindT (updF s0_1 ((zrem (nn ((A0 (s0_2).toNat) / 2#8)) y0)).toNat (IntKind.i64.wrap ((s0_1 ((zrem (nn ((A0 (s0_2).toNat) / 2#8)) y0)).toNat) + 1))) fun rb1 =>
              some (.inl (.c0 gb0_0 rb1 (IntKind.i64.wrap (s0_2 + 1)))))
            else (none))
          else (some (.inr (.e1 gb0_0 s0_1))))
        else ((m_sock_Table_Drop_v3 (zrem (nn ((A0 (s0_2).toNat) / 2#8)) y0) g1_0 g1_2 s0_0 g1_3).bind fun gb0 => match gb0 with
        | .e0 gb0_0 gb0_1 =>
        bif inR (zrem (nn ((A0 (s0_2).toNat) / 2#8)) y0) 16 then
          (bif (gb0_1 == 0) != (decide (0 < (s0_1 ((zrem (nn ((A0 (s0_2).toNat) / 2#8)) y0)).toNat))) then
            (some (.inr (.e1 gb0_0 s0_1)))
          else (bif gb0_1 == 0 then
            (bindT (updF s0_1 ((zrem (nn ((A0 (s0_2).toNat) / 2#8)) y0)).toNat (IntKind.i64.wrap ((s0_1 ((zrem (nn ((A0 (s0_2).toNat) / 2#8)) y0)).toNat) - 1))) fun rb1 =>
            some (.inl (.c0 gb0_0 rb1 (IntKind.i64.wrap (s0_2 + 1)))))
          else (some (.inl (.c0 gb0_0 s0_1 (IntKind.i64.wrap (s0_2 + 1)))))))
        else (none))))
      else (none))
    else (some (.inr (.e0 s0_0 s0_1)))
noncomputable def bd_barbicanlaw11_SockCounts_L1v3 : Code := codeOf Try.f6 [1, 1, 1, 1, 1, 1, 1, 1, 0, 1, 0, 0]
def fl_barbicanlaw11_SockCounts_L1v3 (y0 : Int) (a0 : Option Addr) (p0 : Nat) (q0 : Nat) (n0 : Nat) (k0 : Nat) (A0 : Nat → BitVec 8) (g0_0 : Nat) (g0_1 : Nat → (Nat × (Nat → BitVec 8))) (g1_0 : Nat) (g1_1 : Nat → Int) (g1_2 : Nat) (g1_3 : Nat → Arr73) : Sh_barbicanlaw11_SockCounts_L1v3 → List L1 → List Value
  | .c0 s0_0 s0_1 s0_2, ls => [.int .i64 (y0), .slice a0 n0 (n0 + k0), .bool false, .pointer (some ⟨(lget ls 2).n, 0, none⟩), .pointer (some ⟨(lget ls 5).n, 0, none⟩), .int .i64 (s0_2), ((lget ls 1).u 12), ((lget ls 1).u 13), ((lget ls 1).u 99), ((lget ls 1).u 100), ((lget ls 1).u 101), ((lget ls 1).u 102), ((lget ls 1).u 103), ((lget ls 1).u 104), ((lget ls 1).u 105), ((lget ls 1).u 106), ((lget ls 1).u 107), ((lget ls 1).u 108), ((lget ls 1).u 109), ((lget ls 1).u 110), ((lget ls 1).u 111), ((lget ls 1).u 112), ((lget ls 1).u 113), ((lget ls 1).u 114), ((lget ls 1).u 115), ((lget ls 1).u 116), ((lget ls 1).u 117), ((lget ls 1).u 118), ((lget ls 1).u 119), ((lget ls 1).u 120)]
def mf_barbicanlaw11_SockCounts_L1v3 : Sh_barbicanlaw11_SockCounts_L1v3 → List (Nat × Nat)
  | .c0 _ _ _ => [(2, 2), (1, 2), (1, 1), (2, 1), (2, 85), (22, 0)]
noncomputable def fr_barbicanlaw11_SockCounts_L1v3 (y0 : Int) (a0 : Option Addr) (p0 : Nat) (q0 : Nat) (n0 : Nat) (k0 : Nat) (A0 : Nat → BitVec 8) (g0_0 : Nat) (g0_1 : Nat → (Nat × (Nat → BitVec 8))) (g1_0 : Nat) (g1_1 : Nat → Int) (g1_2 : Nat) (g1_3 : Nat → Arr73) (s : Sh_barbicanlaw11_SockCounts_L1v3) : List L1 → List Value := mrgF (mf_barbicanlaw11_SockCounts_L1v3 s) (fl_barbicanlaw11_SockCounts_L1v3 y0 a0 p0 q0 n0 k0 A0 g0_0 g0_1 g1_0 g1_1 g1_2 g1_3 s) 6
def Hs_barbicanlaw11_SockCounts_L1v3 (y0 : Int) (a0 : Option Addr) (p0 : Nat) (q0 : Nat) (n0 : Nat) (k0 : Nat) (A0 : Nat → BitVec 8) (g0_0 : Nat) (g0_1 : Nat → (Nat × (Nat → BitVec 8))) (g1_0 : Nat) (g1_1 : Nat → Int) (g1_2 : Nat) (g1_3 : Nat → Arr73) : Sh_barbicanlaw11_SockCounts_L1v3 → List L1 → List Obj
  | .c0 s0_0 s0_1 s0_2, ls => [rrO (lget ls 0) 25 5 cu8 1 g0_0 g0_1, unb, .cells #[(rowV (lget ls 3) g1_0 1), (rowV (lget ls 4) g1_2 20)] 72, rowO (lget ls 3) (esG cZ g1_0 s0_0) 3 g1_0 1, rowO (lget ls 4) (esG c_Arr73 g1_2 g1_3) 73 g1_2 20, .cells ⟨esG cZ 16 s0_1⟩ 66, unb]
def vl_barbicanlaw11_SockCounts_L1v3 (y0 : Int) (a0 : Option Addr) (p0 : Nat) (q0 : Nat) (n0 : Nat) (k0 : Nat) (A0 : Nat → BitVec 8) (g0_0 : Nat) (g0_1 : Nat → (Nat × (Nat → BitVec 8))) (g1_0 : Nat) (g1_1 : Nat → Int) (g1_2 : Nat) (g1_3 : Nat → Arr73) : Ex_barbicanlaw11_SockCounts_L1v3 → List L1 → List Value
  | .e0 c0_0 c0_1, ls => [.int .i64 (y0), .slice a0 n0 (n0 + k0), .bool false, .pointer (some ⟨(lget ls 2).n, 0, none⟩), .pointer (some ⟨(lget ls 5).n, 0, none⟩), ((lget ls 1).u 12), ((lget ls 1).u 13), ((lget ls 1).u 99), ((lget ls 1).u 100), ((lget ls 1).u 101), ((lget ls 1).u 102), ((lget ls 1).u 103), ((lget ls 1).u 104), ((lget ls 1).u 105), ((lget ls 1).u 106), ((lget ls 1).u 107), ((lget ls 1).u 108), ((lget ls 1).u 109), ((lget ls 1).u 110), ((lget ls 1).u 111), ((lget ls 1).u 112), ((lget ls 1).u 113), ((lget ls 1).u 114), ((lget ls 1).u 115), ((lget ls 1).u 116), ((lget ls 1).u 117), ((lget ls 1).u 118), ((lget ls 1).u 119), ((lget ls 1).u 120)]
  | .e1 c1_0 c1_1, ls => [.int .i64 (y0), .slice a0 n0 (n0 + k0), .bool false, .pointer (some ⟨(lget ls 2).n, 0, none⟩), .pointer (some ⟨(lget ls 5).n, 0, none⟩), ((lget ls 1).u 12), ((lget ls 1).u 13), ((lget ls 1).u 99), ((lget ls 1).u 100), ((lget ls 1).u 101), ((lget ls 1).u 102), ((lget ls 1).u 103), ((lget ls 1).u 104), ((lget ls 1).u 105), ((lget ls 1).u 106), ((lget ls 1).u 107), ((lget ls 1).u 108), ((lget ls 1).u 109), ((lget ls 1).u 110), ((lget ls 1).u 111), ((lget ls 1).u 112), ((lget ls 1).u 113), ((lget ls 1).u 114), ((lget ls 1).u 115), ((lget ls 1).u 116), ((lget ls 1).u 117), ((lget ls 1).u 118), ((lget ls 1).u 119), ((lget ls 1).u 120)]
def mk_barbicanlaw11_SockCounts_L1v3 : Ex_barbicanlaw11_SockCounts_L1v3 → List (Nat × Nat)
  | .e0 _ _ => [(2, 2), (1, 2), (1, 1), (1, 2), (2, 85), (22, 0)]
  | .e1 _ _ => [(2, 2), (1, 2), (1, 1), (1, 2), (2, 85), (22, 0)]
noncomputable def vf_barbicanlaw11_SockCounts_L1v3 (y0 : Int) (a0 : Option Addr) (p0 : Nat) (q0 : Nat) (n0 : Nat) (k0 : Nat) (A0 : Nat → BitVec 8) (g0_0 : Nat) (g0_1 : Nat → (Nat × (Nat → BitVec 8))) (g1_0 : Nat) (g1_1 : Nat → Int) (g1_2 : Nat) (g1_3 : Nat → Arr73) (r : Ex_barbicanlaw11_SockCounts_L1v3) : List L1 → List Value := mrgF (mk_barbicanlaw11_SockCounts_L1v3 r) (vl_barbicanlaw11_SockCounts_L1v3 y0 a0 p0 q0 n0 k0 A0 g0_0 g0_1 g1_0 g1_1 g1_2 g1_3 r) 6
def Hf_barbicanlaw11_SockCounts_L1v3 (y0 : Int) (a0 : Option Addr) (p0 : Nat) (q0 : Nat) (n0 : Nat) (k0 : Nat) (A0 : Nat → BitVec 8) (g0_0 : Nat) (g0_1 : Nat → (Nat × (Nat → BitVec 8))) (g1_0 : Nat) (g1_1 : Nat → Int) (g1_2 : Nat) (g1_3 : Nat → Arr73) : Ex_barbicanlaw11_SockCounts_L1v3 → List L1 → List Obj
  | .e0 c0_0 c0_1, ls => [rrO (lget ls 0) 25 5 cu8 1 g0_0 g0_1, unb, .cells #[(rowV (lget ls 3) g1_0 1), (rowV (lget ls 4) g1_2 20)] 72, rowO (lget ls 3) (esG cZ g1_0 c0_0) 3 g1_0 1, rowO (lget ls 4) (esG c_Arr73 g1_2 g1_3) 73 g1_2 20, .cells ⟨esG cZ 16 c0_1⟩ 66, unb]
  | .e1 c1_0 c1_1, ls => [rrO (lget ls 0) 25 5 cu8 1 g0_0 g0_1, unb, .cells #[(rowV (lget ls 3) g1_0 1), (rowV (lget ls 4) g1_2 20)] 72, rowO (lget ls 3) (esG cZ g1_0 c1_0) 3 g1_0 1, rowO (lget ls 4) (esG c_Arr73 g1_2 g1_3) 73 g1_2 20, .cells ⟨esG cZ 16 c1_1⟩ 66, unb]
def ex_barbicanlaw11_SockCounts_L1v3 : Ex_barbicanlaw11_SockCounts_L1v3 → Ex
  | .e0 _ _ => (.exit 2)
  | .e1 _ _ => .ret
theorem go_barbicanlaw11_SockCounts_L1v3 (g0_0 : Nat) (g0_1 : Nat → (Nat × (Nat → BitVec 8))) (g1_0 : Nat) (g1_1 : Nat → Int) (g1_2 : Nat) (g1_3 : Nat → Arr73) (s : Sh_barbicanlaw11_SockCounts_L1v3) (r : Ex_barbicanlaw11_SockCounts_L1v3) (h : lpO (st_barbicanlaw11_SockCounts_L1v3 y0 n0 A0 g1_0 g1_2 g1_3) s = some r) : GoesG Try.prog M B0 S (.loop bd_barbicanlaw11_SockCounts_L1v3) 7 (fr_barbicanlaw11_SockCounts_L1v3 y0 a0 p0 q0 n0 k0 A0 g0_0 g0_1 g1_0 g1_1 g1_2 g1_3 s) (Hs_barbicanlaw11_SockCounts_L1v3 y0 a0 p0 q0 n0 k0 A0 g0_0 g0_1 g1_0 g1_1 g1_2 g1_3 s) (ex_barbicanlaw11_SockCounts_L1v3 r) 6 (vf_barbicanlaw11_SockCounts_L1v3 y0 a0 p0 q0 n0 k0 A0 g0_0 g0_1 g1_0 g1_1 g1_2 g1_3 r) (Hf_barbicanlaw11_SockCounts_L1v3 y0 a0 p0 q0 n0 k0 A0 g0_0 g0_1 g1_0 g1_1 g1_2 g1_3 r) 7 :=
  goes_lpO (fun s q e => by
    cases s with
    | c0 s0_0 s0_1 s0_2 =>
      unfold st_barbicanlaw11_SockCounts_L1v3 at e
      dsimp only at e
      replace e := cond_eq_or e
      rcases e with ⟨hq0, e⟩ | ⟨hq0, e⟩
      · replace e := cond_eq_or e
        rcases e with ⟨hq1, e⟩ | ⟨hq1, e⟩
        · replace e := cond_eq_or e
          rcases e with ⟨hq2, e⟩ | ⟨hq2, e⟩
          · exact none_some e
          · replace e := cond_eq_or e
            rcases e with ⟨hq3, e⟩ | ⟨hq3, e⟩
            · replace e := bindO_eq e
              obtain ⟨gb0, e_gb0, e⟩ := e
              obtain ⟨gb0_0, gb0_1⟩ := gb0
              try dsimp only at e
              replace e := cond_eq_or e
              rcases e with ⟨hq4, e⟩ | ⟨hq4, e⟩
              · replace e := cond_eq_or e
                rcases e with ⟨hq5, e⟩ | ⟨hq5, e⟩
                · replace e := bindT_eq e
                  obtain ⟨rb1, e_rb1, e⟩ := e
                  try dsimp only at e
                  cases e; exact goes_runM hU [.o, .o, .o, .b (z_lssT hq0), .o, .o, .q (ixRo_ok (kd := .i64) (T := 25) (x := s0_2) (sz := 1) rfl (fun w => by kernel_rfl) hR0 hq1), .l (accRo hR0 cu8_len (inR_nat hq1) 0 [.int .u8 (nn (A0 (s0_2).toNat))] rfl), .ov (u8_quo Try.prog 5 (.tmp 62) (.const (.int .u8 (2))) (A0 (s0_2).toNat) (2#8) (by decide)), .v .i64 (z_of_nn (by decide) ((A0 (s0_2).toNat) / 2#8)), .o, .ov (z_rem Try.prog 3 (.tmp 64) (.tmp 65) (nn ((A0 (s0_2).toNat) / 2#8)) y0 (z_nz hq2)), .o, .o, .o, .q (ixRo_ok (kd := .i64) (T := 25) (x := s0_2) (sz := 1) rfl (fun w => by kernel_rfl) hR0 hq1), .l (accRo hR0 cu8_len (inR_nat hq1) 0 [.int .u8 (nn (A0 (s0_2).toNat))] rfl), .ov (u8_rem Try.prog 5 (.tmp 70) (.const (.int .u8 (2))) (A0 (s0_2).toNat) (2#8) (by decide)), .t (u_eq ((A0 (s0_2).toNat) % 2#8) (0#8)) hq3, .o, .o, .xg (ok0_sock_Table_Take_v2 hU (zrem (nn ((A0 (s0_2).toNat) / 2#8)) y0) g1_0 g1_2 s0_0 g1_3 gb0_0 gb0_1 e_gb0) [2, 3, 4], .b (z_neqT hq4), .o, .q (ixA_ok (kd := .i64) (T := 66) (x := (zrem (nn ((A0 (s0_2).toNat) / 2#8)) y0)) (sz := 1) (N := 16) rfl rfl (fun w => by kernel_rfl) hq5), .l (accF (i := 5) (f := cZ) (A := s0_1) (k := ((zrem (nn ((A0 (s0_2).toNat) / 2#8)) y0)).toNat) 0 [.int .i64 ((s0_1 ((zrem (nn ((A0 (s0_2).toNat) / 2#8)) y0)).toNat))] cZ_len (inR_nat hq5) rfl), .o, .q (ixA_ok (kd := .i64) (T := 66) (x := (zrem (nn ((A0 (s0_2).toNat) / 2#8)) y0)) (sz := 1) (N := 16) rfl rfl (fun w => by kernel_rfl) hq5), .x (sqStFr_ok (T := 3) (e := 66) (f := cZ) (A := s0_1) (v := (IntKind.i64.wrap ((s0_1 ((zrem (nn ((A0 (s0_2).toNat) / 2#8)) y0)).toNat) + 1))) 0 (.int .i64 ((IntKind.i64.wrap ((s0_1 ((zrem (nn ((A0 (s0_2).toNat) / 2#8)) y0)).toNat) + 1)))) cZ_len cZ_one rfl rfl (fun w => by kernel_rfl) (inR_nat hq5) e_rb1) [5], .o, .o, .o] [0, 1, 2, 3, 4, 5] (fun b => rfl) (by decide) rfl rfl (fun b => by kernel_rfl)
                · exact none_some e
              · cases e; exact ⟨ne_ret, goes_runM hU [.o, .o, .o, .b (z_lssT hq0), .o, .o, .q (ixRo_ok (kd := .i64) (T := 25) (x := s0_2) (sz := 1) rfl (fun w => by kernel_rfl) hR0 hq1), .l (accRo hR0 cu8_len (inR_nat hq1) 0 [.int .u8 (nn (A0 (s0_2).toNat))] rfl), .ov (u8_quo Try.prog 5 (.tmp 62) (.const (.int .u8 (2))) (A0 (s0_2).toNat) (2#8) (by decide)), .v .i64 (z_of_nn (by decide) ((A0 (s0_2).toNat) / 2#8)), .o, .ov (z_rem Try.prog 3 (.tmp 64) (.tmp 65) (nn ((A0 (s0_2).toNat) / 2#8)) y0 (z_nz hq2)), .o, .o, .o, .q (ixRo_ok (kd := .i64) (T := 25) (x := s0_2) (sz := 1) rfl (fun w => by kernel_rfl) hR0 hq1), .l (accRo hR0 cu8_len (inR_nat hq1) 0 [.int .u8 (nn (A0 (s0_2).toNat))] rfl), .ov (u8_rem Try.prog 5 (.tmp 70) (.const (.int .u8 (2))) (A0 (s0_2).toNat) (2#8) (by decide)), .t (u_eq ((A0 (s0_2).toNat) % 2#8) (0#8)) hq3, .o, .o, .xg (ok0_sock_Table_Take_v2 hU (zrem (nn ((A0 (s0_2).toNat) / 2#8)) y0) g1_0 g1_2 s0_0 g1_3 gb0_0 gb0_1 e_gb0) [2, 3, 4], .b (z_neqF hq4), .o] [0, 1, 2, 3, 4, 5] (fun b => rfl) (by decide) rfl rfl (fun b => by kernel_rfl)⟩
            · replace e := bindO_eq e
              obtain ⟨gb0, e_gb0, e⟩ := e
              obtain ⟨gb0_0, gb0_1⟩ := gb0
              try dsimp only at e
              replace e := cond_eq_or e
              rcases e with ⟨hq4, e⟩ | ⟨hq4, e⟩
              · replace e := cond_eq_or e
                rcases e with ⟨hq5, e⟩ | ⟨hq5, e⟩
                · cases e; exact ⟨ne_ret, goes_runM hU [.o, .o, .o, .b (z_lssT hq0), .o, .o, .q (ixRo_ok (kd := .i64) (T := 25) (x := s0_2) (sz := 1) rfl (fun w => by kernel_rfl) hR0 hq1), .l (accRo hR0 cu8_len (inR_nat hq1) 0 [.int .u8 (nn (A0 (s0_2).toNat))] rfl), .ov (u8_quo Try.prog 5 (.tmp 62) (.const (.int .u8 (2))) (A0 (s0_2).toNat) (2#8) (by decide)), .v .i64 (z_of_nn (by decide) ((A0 (s0_2).toNat) / 2#8)), .o, .ov (z_rem Try.prog 3 (.tmp 64) (.tmp 65) (nn ((A0 (s0_2).toNat) / 2#8)) y0 (z_nz hq2)), .o, .o, .o, .q (ixRo_ok (kd := .i64) (T := 25) (x := s0_2) (sz := 1) rfl (fun w => by kernel_rfl) hR0 hq1), .l (accRo hR0 cu8_len (inR_nat hq1) 0 [.int .u8 (nn (A0 (s0_2).toNat))] rfl), .ov (u8_rem Try.prog 5 (.tmp 70) (.const (.int .u8 (2))) (A0 (s0_2).toNat) (2#8) (by decide)), .t (u_eq ((A0 (s0_2).toNat) % 2#8) (0#8)) hq3, .o, .o, .xg (ok0_sock_Table_Drop_v3 hU (zrem (nn ((A0 (s0_2).toNat) / 2#8)) y0) g1_0 g1_2 s0_0 g1_3 gb0_0 gb0_1 e_gb0) [2, 3, 4], .o, .o, .o, .o, .q (ixA_ok (kd := .i64) (T := 66) (x := (zrem (nn ((A0 (s0_2).toNat) / 2#8)) y0)) (sz := 1) (N := 16) rfl rfl (fun w => by kernel_rfl) hq4), .l (accF (i := 5) (f := cZ) (A := s0_1) (k := ((zrem (nn ((A0 (s0_2).toNat) / 2#8)) y0)).toNat) 0 [.int .i64 ((s0_1 ((zrem (nn ((A0 (s0_2).toNat) / 2#8)) y0)).toNat))] cZ_len (inR_nat hq4) rfl), .o, .b hq5, .o] [0, 1, 2, 3, 4, 5] (fun b => rfl) (by decide) rfl rfl (fun b => by kernel_rfl)⟩
                · replace e := cond_eq_or e
                  rcases e with ⟨hq6, e⟩ | ⟨hq6, e⟩
                  · replace e := bindT_eq e
                    obtain ⟨rb1, e_rb1, e⟩ := e
                    try dsimp only at e
                    cases e; exact goes_runM hU [.o, .o, .o, .b (z_lssT hq0), .o, .o, .q (ixRo_ok (kd := .i64) (T := 25) (x := s0_2) (sz := 1) rfl (fun w => by kernel_rfl) hR0 hq1), .l (accRo hR0 cu8_len (inR_nat hq1) 0 [.int .u8 (nn (A0 (s0_2).toNat))] rfl), .ov (u8_quo Try.prog 5 (.tmp 62) (.const (.int .u8 (2))) (A0 (s0_2).toNat) (2#8) (by decide)), .v .i64 (z_of_nn (by decide) ((A0 (s0_2).toNat) / 2#8)), .o, .ov (z_rem Try.prog 3 (.tmp 64) (.tmp 65) (nn ((A0 (s0_2).toNat) / 2#8)) y0 (z_nz hq2)), .o, .o, .o, .q (ixRo_ok (kd := .i64) (T := 25) (x := s0_2) (sz := 1) rfl (fun w => by kernel_rfl) hR0 hq1), .l (accRo hR0 cu8_len (inR_nat hq1) 0 [.int .u8 (nn (A0 (s0_2).toNat))] rfl), .ov (u8_rem Try.prog 5 (.tmp 70) (.const (.int .u8 (2))) (A0 (s0_2).toNat) (2#8) (by decide)), .t (u_eq ((A0 (s0_2).toNat) % 2#8) (0#8)) hq3, .o, .o, .xg (ok0_sock_Table_Drop_v3 hU (zrem (nn ((A0 (s0_2).toNat) / 2#8)) y0) g1_0 g1_2 s0_0 g1_3 gb0_0 gb0_1 e_gb0) [2, 3, 4], .o, .o, .o, .o, .q (ixA_ok (kd := .i64) (T := 66) (x := (zrem (nn ((A0 (s0_2).toNat) / 2#8)) y0)) (sz := 1) (N := 16) rfl rfl (fun w => by kernel_rfl) hq4), .l (accF (i := 5) (f := cZ) (A := s0_1) (k := ((zrem (nn ((A0 (s0_2).toNat) / 2#8)) y0)).toNat) 0 [.int .i64 ((s0_1 ((zrem (nn ((A0 (s0_2).toNat) / 2#8)) y0)).toNat))] cZ_len (inR_nat hq4) rfl), .o, .b hq5, .o, .b (z_eqlT hq6), .o, .q (ixA_ok (kd := .i64) (T := 66) (x := (zrem (nn ((A0 (s0_2).toNat) / 2#8)) y0)) (sz := 1) (N := 16) rfl rfl (fun w => by kernel_rfl) hq4), .l (accF (i := 5) (f := cZ) (A := s0_1) (k := ((zrem (nn ((A0 (s0_2).toNat) / 2#8)) y0)).toNat) 0 [.int .i64 ((s0_1 ((zrem (nn ((A0 (s0_2).toNat) / 2#8)) y0)).toNat))] cZ_len (inR_nat hq4) rfl), .o, .q (ixA_ok (kd := .i64) (T := 66) (x := (zrem (nn ((A0 (s0_2).toNat) / 2#8)) y0)) (sz := 1) (N := 16) rfl rfl (fun w => by kernel_rfl) hq4), .x (sqStFr_ok (T := 3) (e := 66) (f := cZ) (A := s0_1) (v := (IntKind.i64.wrap ((s0_1 ((zrem (nn ((A0 (s0_2).toNat) / 2#8)) y0)).toNat) - 1))) 0 (.int .i64 ((IntKind.i64.wrap ((s0_1 ((zrem (nn ((A0 (s0_2).toNat) / 2#8)) y0)).toNat) - 1)))) cZ_len cZ_one rfl rfl (fun w => by kernel_rfl) (inR_nat hq4) e_rb1) [5], .o, .o, .o] [0, 1, 2, 3, 4, 5] (fun b => rfl) (by decide) rfl rfl (fun b => by kernel_rfl)
                  · cases e; exact goes_runM hU [.o, .o, .o, .b (z_lssT hq0), .o, .o, .q (ixRo_ok (kd := .i64) (T := 25) (x := s0_2) (sz := 1) rfl (fun w => by kernel_rfl) hR0 hq1), .l (accRo hR0 cu8_len (inR_nat hq1) 0 [.int .u8 (nn (A0 (s0_2).toNat))] rfl), .ov (u8_quo Try.prog 5 (.tmp 62) (.const (.int .u8 (2))) (A0 (s0_2).toNat) (2#8) (by decide)), .v .i64 (z_of_nn (by decide) ((A0 (s0_2).toNat) / 2#8)), .o, .ov (z_rem Try.prog 3 (.tmp 64) (.tmp 65) (nn ((A0 (s0_2).toNat) / 2#8)) y0 (z_nz hq2)), .o, .o, .o, .q (ixRo_ok (kd := .i64) (T := 25) (x := s0_2) (sz := 1) rfl (fun w => by kernel_rfl) hR0 hq1), .l (accRo hR0 cu8_len (inR_nat hq1) 0 [.int .u8 (nn (A0 (s0_2).toNat))] rfl), .ov (u8_rem Try.prog 5 (.tmp 70) (.const (.int .u8 (2))) (A0 (s0_2).toNat) (2#8) (by decide)), .t (u_eq ((A0 (s0_2).toNat) % 2#8) (0#8)) hq3, .o, .o, .xg (ok0_sock_Table_Drop_v3 hU (zrem (nn ((A0 (s0_2).toNat) / 2#8)) y0) g1_0 g1_2 s0_0 g1_3 gb0_0 gb0_1 e_gb0) [2, 3, 4], .o, .o, .o, .o, .q (ixA_ok (kd := .i64) (T := 66) (x := (zrem (nn ((A0 (s0_2).toNat) / 2#8)) y0)) (sz := 1) (N := 16) rfl rfl (fun w => by kernel_rfl) hq4), .l (accF (i := 5) (f := cZ) (A := s0_1) (k := ((zrem (nn ((A0 (s0_2).toNat) / 2#8)) y0)).toNat) 0 [.int .i64 ((s0_1 ((zrem (nn ((A0 (s0_2).toNat) / 2#8)) y0)).toNat))] cZ_len (inR_nat hq4) rfl), .o, .b hq5, .o, .b (z_eqlF hq6), .o, .o, .o] [0, 1, 2, 3, 4, 5] (fun b => rfl) (by decide) rfl rfl (fun b => by kernel_rfl)
              · exact none_some e
        · exact none_some e
      · cases e; exact ⟨ne_exit 2, goes_runM hU [.o, .o, .o, .b (z_lssF hq0)] [0, 1, 2, 3, 4, 5] (fun b => rfl) (by decide) rfl rfl (fun b => by kernel_rfl)⟩) s r h
noncomputable def t0_barbicanlaw11_SockCounts_L1v3_0 (y0 : Int) (a0 : Option Addr) (p0 : Nat) (q0 : Nat) (n0 : Nat) (k0 : Nat) (A0 : Nat → BitVec 8) (g0_0 : Nat) (g0_1 : Nat → (Nat × (Nat → BitVec 8))) (g1_0 : Nat) (g1_1 : Nat → Int) (g1_2 : Nat) (g1_3 : Nat → Arr73) (s0_0 : Nat → Int) (s0_1 : Nat → Int) (s0_2 : Int) (ls : List L1) : List Value := List.append [.int .i64 (y0), .slice a0 n0 (n0 + k0), ((lget ls 1).u 2), ((lget ls 1).u 3), .bool false, (rrV (lget ls 0) g0_0), ((lget ls 1).u 6), .pointer (some ⟨(lget ls 2).n, 0, none⟩), .int .i64 (0), .pointer (some ⟨(lget ls 5).n, 0, none⟩), .int .i64 (s0_2)] (List.append (jks (lget ls 1).u 11 25) (List.append [.tuple #[.pointer (some ⟨(lget ls 2).n, 0, none⟩), .int .i64 (0)], (rrV (lget ls 0) g0_0), .tuple #[.pointer (some ⟨(lget ls 2).n, 0, none⟩), .int .i64 (0)], .pointer (some ⟨(lget ls 2).n, 0, none⟩), .int .i64 (0), .int .i64 (0), .bool false, .bool false, .pointer (some ⟨(lget ls 2).n, 0, none⟩), .bool false, .bool false, .bool false, .pointer (some ⟨(lget ls 2).n, 0, none⟩), .int .i64 ((g1_2 : Int)), .int .i64 (y0), .bool false, .bool false] (jks (lget ls 1).u 53 68)))
def pre_barbicanlaw11_SockCounts_L1v3_0 (y0 : Int) (a0 : Option Addr) (p0 : Nat) (q0 : Nat) (n0 : Nat) (k0 : Nat) (A0 : Nat → BitVec 8) (g0_0 : Nat) (g0_1 : Nat → (Nat × (Nat → BitVec 8))) (g1_0 : Nat) (g1_1 : Nat → Int) (g1_2 : Nat) (g1_3 : Nat → Arr73) (s0_0 : Nat → Int) (s0_1 : Nat → Int) (s0_2 : Int) (ls : List L1) : List Obj := [rrO (lget ls 0) 25 5 cu8 1 g0_0 g0_1, unb, .cells #[(rowV (lget ls 3) g1_0 1), (rowV (lget ls 4) g1_2 20)] 72, rowO (lget ls 3) (esG cZ g1_0 s0_0) 3 g1_0 1, rowO (lget ls 4) (esG c_Arr73 g1_2 g1_3) 73 g1_2 20, .cells ⟨esG cZ 16 s0_1⟩ 66]
theorem sp0_barbicanlaw11_SockCounts_L1v3_0_ok (g0_0 : Nat) (g0_1 : Nat → (Nat × (Nat → BitVec 8))) (g1_0 : Nat) (g1_1 : Nat → Int) (g1_2 : Nat) (g1_3 : Nat → Arr73) (s0_0 : Nat → Int) (s0_1 : Nat → Int) (s0_2 : Int) (c0_0 : Nat → Int) (c0_1 : Nat → Int) (h : lpO (st_barbicanlaw11_SockCounts_L1v3 y0 n0 A0 g1_0 g1_2 g1_3) (.c0 s0_0 s0_1 s0_2) = some (.e0 c0_0 c0_1)) : SpcG Try.prog M B0 S ⟨fun ls => .code (.loop bd_barbicanlaw11_SockCounts_L1v3) (t0_barbicanlaw11_SockCounts_L1v3_0 y0 a0 p0 q0 n0 k0 A0 g0_0 g0_1 g1_0 g1_1 g1_2 g1_3 s0_0 s0_1 s0_2 ls), pre_barbicanlaw11_SockCounts_L1v3_0 y0 a0 p0 q0 n0 k0 A0 g0_0 g0_1 g1_0 g1_1 g1_2 g1_3 s0_0 s0_1 s0_2, 1, (.exit 2), fun ls => vf_barbicanlaw11_SockCounts_L1v3 y0 a0 p0 q0 n0 k0 A0 g0_0 g0_1 g1_0 g1_1 g1_2 g1_3 (.e0 c0_0 c0_1) (ls.take 6 ++ ls.drop 6), fun ls => (Hf_barbicanlaw11_SockCounts_L1v3 y0 a0 p0 q0 n0 k0 A0 g0_0 g0_1 g1_0 g1_1 g1_2 g1_3 (.e0 c0_0 c0_1) (ls.take 6 ++ ls.drop 6)).take 6 ++ List.replicate 0 unb, fun ls => (Hf_barbicanlaw11_SockCounts_L1v3 y0 a0 p0 q0 n0 k0 A0 g0_0 g0_1 g1_0 g1_1 g1_2 g1_3 (.e0 c0_0 c0_1) (ls.take 6 ++ ls.drop 6)).drop 6⟩ :=
  spc_of_goesM hU 0 (k0 := 6) (go_barbicanlaw11_SockCounts_L1v3 hU y0 a0 p0 q0 n0 k0 A0 hR0 g0_0 g0_1 g1_0 g1_1 g1_2 g1_3 _ _ h) (t0_barbicanlaw11_SockCounts_L1v3_0 y0 a0 p0 q0 n0 k0 A0 g0_0 g0_1 g1_0 g1_1 g1_2 g1_3 s0_0 s0_1 s0_2) (pre_barbicanlaw11_SockCounts_L1v3_0 y0 a0 p0 q0 n0 k0 A0 g0_0 g0_1 g1_0 g1_1 g1_2 g1_3 s0_0 s0_1 s0_2) (fun _ => rfl) (fun ls h => by match ls, h with | [l0, l1, l2, l3, l4, l5], _ => exact ⟨by kernel_rfl, by kernel_rfl⟩) (fun ls h => by match ls, h with | [l0, l1, l2, l3, l4, l5], _ => rfl) (by decide) (by decide) (fun ls => rfl)
theorem sp1_barbicanlaw11_SockCounts_L1v3_0_ok (g0_0 : Nat) (g0_1 : Nat → (Nat × (Nat → BitVec 8))) (g1_0 : Nat) (g1_1 : Nat → Int) (g1_2 : Nat) (g1_3 : Nat → Arr73) (s0_0 : Nat → Int) (s0_1 : Nat → Int) (s0_2 : Int) (c1_0 : Nat → Int) (c1_1 : Nat → Int) (h : lpO (st_barbicanlaw11_SockCounts_L1v3 y0 n0 A0 g1_0 g1_2 g1_3) (.c0 s0_0 s0_1 s0_2) = some (.e1 c1_0 c1_1)) : SpcG Try.prog M B0 S ⟨fun ls => .code (.loop bd_barbicanlaw11_SockCounts_L1v3) (t0_barbicanlaw11_SockCounts_L1v3_0 y0 a0 p0 q0 n0 k0 A0 g0_0 g0_1 g1_0 g1_1 g1_2 g1_3 s0_0 s0_1 s0_2 ls), pre_barbicanlaw11_SockCounts_L1v3_0 y0 a0 p0 q0 n0 k0 A0 g0_0 g0_1 g1_0 g1_1 g1_2 g1_3 s0_0 s0_1 s0_2, 1, .ret, fun ls => vf_barbicanlaw11_SockCounts_L1v3 y0 a0 p0 q0 n0 k0 A0 g0_0 g0_1 g1_0 g1_1 g1_2 g1_3 (.e1 c1_0 c1_1) (ls.take 6 ++ ls.drop 6), fun ls => (Hf_barbicanlaw11_SockCounts_L1v3 y0 a0 p0 q0 n0 k0 A0 g0_0 g0_1 g1_0 g1_1 g1_2 g1_3 (.e1 c1_0 c1_1) (ls.take 6 ++ ls.drop 6)).take 6 ++ List.replicate 0 unb, fun ls => (Hf_barbicanlaw11_SockCounts_L1v3 y0 a0 p0 q0 n0 k0 A0 g0_0 g0_1 g1_0 g1_1 g1_2 g1_3 (.e1 c1_0 c1_1) (ls.take 6 ++ ls.drop 6)).drop 6⟩ :=
  spc_of_goesM hU 0 (k0 := 6) (go_barbicanlaw11_SockCounts_L1v3 hU y0 a0 p0 q0 n0 k0 A0 hR0 g0_0 g0_1 g1_0 g1_1 g1_2 g1_3 _ _ h) (t0_barbicanlaw11_SockCounts_L1v3_0 y0 a0 p0 q0 n0 k0 A0 g0_0 g0_1 g1_0 g1_1 g1_2 g1_3 s0_0 s0_1 s0_2) (pre_barbicanlaw11_SockCounts_L1v3_0 y0 a0 p0 q0 n0 k0 A0 g0_0 g0_1 g1_0 g1_1 g1_2 g1_3 s0_0 s0_1 s0_2) (fun _ => rfl) (fun ls h => by match ls, h with | [l0, l1, l2, l3, l4, l5], _ => exact ⟨by kernel_rfl, by kernel_rfl⟩) (fun ls h => by match ls, h with | [l0, l1, l2, l3, l4, l5], _ => rfl) (by decide) (by decide) (fun ls => rfl)
inductive Sh_barbicanlaw11_SockCounts_L2v3 where
  | c0 (s0_0 : Int)
inductive Ex_barbicanlaw11_SockCounts_L2v3 where
  | e0 
  | e1 
noncomputable def st_barbicanlaw11_SockCounts_L2v3 (y0 : Int) (g1_0 : Nat) (g2_1 : Nat → Int) (g3_0 : Nat → Int) : Sh_barbicanlaw11_SockCounts_L2v3 → Option (Sh_barbicanlaw11_SockCounts_L2v3 ⊕ Ex_barbicanlaw11_SockCounts_L2v3)
  | .c0 s0_0 =>
    bif decide (s0_0 < y0) then
      (bif ((0 + g1_0) : Int) == y0 then
        (bif inR s0_0 (0 + g1_0) then
          (bif inR s0_0 16 then
            (bif (g3_0 (s0_0).toNat) == (IntKind.i64.wrap ((g2_1 (s0_0).toNat) + 1)) then
              (some (.inl (.c0 (IntKind.i64.wrap (s0_0 + 1)))))
            else (some (.inr (.e1 ))))
          else (none))
        else (none))
      else (some (.inr (.e1 ))))
    else (some (.inr (.e0 )))
noncomputable def bd_barbicanlaw11_SockCounts_L2v3 : Code := codeOf Try.f6 [1, 1, 1, 1, 1, 1, 1, 1, 1, 1, 0, 1, 0, 0]
def fl_barbicanlaw11_SockCounts_L2v3 (y0 : Int) (a0 : Option Addr) (p0 : Nat) (q0 : Nat) (n0 : Nat) (k0 : Nat) (A0 : Nat → BitVec 8) (g0_0 : Nat) (g0_1 : Nat → (Nat × (Nat → BitVec 8))) (g1_0 : Nat) (g1_1 : Nat → Int) (g1_2 : Nat) (g1_3 : Nat → Arr73) (g2_0 : Nat → Int) (g2_1 : Nat → Int) (g3_0 : Nat → Int) : Sh_barbicanlaw11_SockCounts_L2v3 → List L1 → List Value
  | .c0 s0_0, ls => [.int .i64 (y0), .bool false, .pointer (some ⟨(lget ls 5).n, 0, none⟩), (rowV (lget ls 7) (0 + g1_0) 1), .int .i64 (s0_0)]
def mf_barbicanlaw11_SockCounts_L2v3 : Sh_barbicanlaw11_SockCounts_L2v3 → List (Nat × Nat)
  | .c0 _ => [(1, 3), (1, 4), (1, 2), (2, 107)]
noncomputable def fr_barbicanlaw11_SockCounts_L2v3 (y0 : Int) (a0 : Option Addr) (p0 : Nat) (q0 : Nat) (n0 : Nat) (k0 : Nat) (A0 : Nat → BitVec 8) (g0_0 : Nat) (g0_1 : Nat → (Nat × (Nat → BitVec 8))) (g1_0 : Nat) (g1_1 : Nat → Int) (g1_2 : Nat) (g1_3 : Nat → Arr73) (g2_0 : Nat → Int) (g2_1 : Nat → Int) (g3_0 : Nat → Int) (s : Sh_barbicanlaw11_SockCounts_L2v3) : List L1 → List Value := mrgF (mf_barbicanlaw11_SockCounts_L2v3 s) (fl_barbicanlaw11_SockCounts_L2v3 y0 a0 p0 q0 n0 k0 A0 g0_0 g0_1 g1_0 g1_1 g1_2 g1_3 g2_0 g2_1 g3_0 s) 8
def Hs_barbicanlaw11_SockCounts_L2v3 (y0 : Int) (a0 : Option Addr) (p0 : Nat) (q0 : Nat) (n0 : Nat) (k0 : Nat) (A0 : Nat → BitVec 8) (g0_0 : Nat) (g0_1 : Nat → (Nat × (Nat → BitVec 8))) (g1_0 : Nat) (g1_1 : Nat → Int) (g1_2 : Nat) (g1_3 : Nat → Arr73) (g2_0 : Nat → Int) (g2_1 : Nat → Int) (g3_0 : Nat → Int) : Sh_barbicanlaw11_SockCounts_L2v3 → List L1 → List Obj
  | .c0 s0_0, ls => [rrO (lget ls 0) 25 5 cu8 1 g0_0 g0_1, unb, .cells #[(rowV (lget ls 3) g1_0 1), (rowV (lget ls 4) g1_2 20)] 72, rowO (lget ls 3) (esG cZ g1_0 g2_0) 3 g1_0 1, rowO (lget ls 4) (esG c_Arr73 g1_2 g1_3) 73 g1_2 20, .cells ⟨esG cZ 16 g2_1⟩ 66, unb, rowO (lget ls 7) (esG cZ (0 + g1_0) g3_0) 3 (0 + g1_0) 1, unb]
def vl_barbicanlaw11_SockCounts_L2v3 (y0 : Int) (a0 : Option Addr) (p0 : Nat) (q0 : Nat) (n0 : Nat) (k0 : Nat) (A0 : Nat → BitVec 8) (g0_0 : Nat) (g0_1 : Nat → (Nat × (Nat → BitVec 8))) (g1_0 : Nat) (g1_1 : Nat → Int) (g1_2 : Nat) (g1_3 : Nat → Arr73) (g2_0 : Nat → Int) (g2_1 : Nat → Int) (g3_0 : Nat → Int) : Ex_barbicanlaw11_SockCounts_L2v3 → List L1 → List Value
  | .e0 , ls => [.int .i64 (y0), .bool false, .pointer (some ⟨(lget ls 5).n, 0, none⟩), (rowV (lget ls 7) (0 + g1_0) 1)]
  | .e1 , ls => [.int .i64 (y0), .bool false, .pointer (some ⟨(lget ls 5).n, 0, none⟩), (rowV (lget ls 7) (0 + g1_0) 1)]
def mk_barbicanlaw11_SockCounts_L2v3 : Ex_barbicanlaw11_SockCounts_L2v3 → List (Nat × Nat)
  | .e0  => [(1, 3), (1, 4), (1, 2), (1, 108)]
  | .e1  => [(1, 3), (1, 4), (1, 2), (1, 108)]
noncomputable def vf_barbicanlaw11_SockCounts_L2v3 (y0 : Int) (a0 : Option Addr) (p0 : Nat) (q0 : Nat) (n0 : Nat) (k0 : Nat) (A0 : Nat → BitVec 8) (g0_0 : Nat) (g0_1 : Nat → (Nat × (Nat → BitVec 8))) (g1_0 : Nat) (g1_1 : Nat → Int) (g1_2 : Nat) (g1_3 : Nat → Arr73) (g2_0 : Nat → Int) (g2_1 : Nat → Int) (g3_0 : Nat → Int) (r : Ex_barbicanlaw11_SockCounts_L2v3) : List L1 → List Value := mrgF (mk_barbicanlaw11_SockCounts_L2v3 r) (vl_barbicanlaw11_SockCounts_L2v3 y0 a0 p0 q0 n0 k0 A0 g0_0 g0_1 g1_0 g1_1 g1_2 g1_3 g2_0 g2_1 g3_0 r) 8
def Hf_barbicanlaw11_SockCounts_L2v3 (y0 : Int) (a0 : Option Addr) (p0 : Nat) (q0 : Nat) (n0 : Nat) (k0 : Nat) (A0 : Nat → BitVec 8) (g0_0 : Nat) (g0_1 : Nat → (Nat × (Nat → BitVec 8))) (g1_0 : Nat) (g1_1 : Nat → Int) (g1_2 : Nat) (g1_3 : Nat → Arr73) (g2_0 : Nat → Int) (g2_1 : Nat → Int) (g3_0 : Nat → Int) : Ex_barbicanlaw11_SockCounts_L2v3 → List L1 → List Obj
  | .e0 , ls => [rrO (lget ls 0) 25 5 cu8 1 g0_0 g0_1, unb, .cells #[(rowV (lget ls 3) g1_0 1), (rowV (lget ls 4) g1_2 20)] 72, rowO (lget ls 3) (esG cZ g1_0 g2_0) 3 g1_0 1, rowO (lget ls 4) (esG c_Arr73 g1_2 g1_3) 73 g1_2 20, .cells ⟨esG cZ 16 g2_1⟩ 66, unb, rowO (lget ls 7) (esG cZ (0 + g1_0) g3_0) 3 (0 + g1_0) 1, unb]
  | .e1 , ls => [rrO (lget ls 0) 25 5 cu8 1 g0_0 g0_1, unb, .cells #[(rowV (lget ls 3) g1_0 1), (rowV (lget ls 4) g1_2 20)] 72, rowO (lget ls 3) (esG cZ g1_0 g2_0) 3 g1_0 1, rowO (lget ls 4) (esG c_Arr73 g1_2 g1_3) 73 g1_2 20, .cells ⟨esG cZ 16 g2_1⟩ 66, unb, rowO (lget ls 7) (esG cZ (0 + g1_0) g3_0) 3 (0 + g1_0) 1, unb]
def ex_barbicanlaw11_SockCounts_L2v3 : Ex_barbicanlaw11_SockCounts_L2v3 → Ex
  | .e0  => (.exit 4)
  | .e1  => .ret
theorem go_barbicanlaw11_SockCounts_L2v3 (g0_0 : Nat) (g0_1 : Nat → (Nat × (Nat → BitVec 8))) (g1_0 : Nat) (g1_1 : Nat → Int) (g1_2 : Nat) (g1_3 : Nat → Arr73) (g2_0 : Nat → Int) (g2_1 : Nat → Int) (g3_0 : Nat → Int) (s : Sh_barbicanlaw11_SockCounts_L2v3) (r : Ex_barbicanlaw11_SockCounts_L2v3) (h : lpO (st_barbicanlaw11_SockCounts_L2v3 y0 g1_0 g2_1 g3_0) s = some r) : GoesG Try.prog M B0 S (.loop bd_barbicanlaw11_SockCounts_L2v3) 9 (fr_barbicanlaw11_SockCounts_L2v3 y0 a0 p0 q0 n0 k0 A0 g0_0 g0_1 g1_0 g1_1 g1_2 g1_3 g2_0 g2_1 g3_0 s) (Hs_barbicanlaw11_SockCounts_L2v3 y0 a0 p0 q0 n0 k0 A0 g0_0 g0_1 g1_0 g1_1 g1_2 g1_3 g2_0 g2_1 g3_0 s) (ex_barbicanlaw11_SockCounts_L2v3 r) 8 (vf_barbicanlaw11_SockCounts_L2v3 y0 a0 p0 q0 n0 k0 A0 g0_0 g0_1 g1_0 g1_1 g1_2 g1_3 g2_0 g2_1 g3_0 r) (Hf_barbicanlaw11_SockCounts_L2v3 y0 a0 p0 q0 n0 k0 A0 g0_0 g0_1 g1_0 g1_1 g1_2 g1_3 g2_0 g2_1 g3_0 r) 9 :=
  goes_lpO (fun s q e => by
    cases s with
    | c0 s0_0 =>
      unfold st_barbicanlaw11_SockCounts_L2v3 at e
      dsimp only at e
      replace e := cond_eq_or e
      rcases e with ⟨hq0, e⟩ | ⟨hq0, e⟩
      · replace e := cond_eq_or e
        rcases e with ⟨hq1, e⟩ | ⟨hq1, e⟩
        · replace e := cond_eq_or e
          rcases e with ⟨hq2, e⟩ | ⟨hq2, e⟩
          · replace e := cond_eq_or e
            rcases e with ⟨hq3, e⟩ | ⟨hq3, e⟩
            · replace e := cond_eq_or e
              rcases e with ⟨hq4, e⟩ | ⟨hq4, e⟩
              · cases e; exact goes_runM hU [.o, .o, .b (z_lssT hq0), .r [0, 1, 2, 3, 4, 5, 6, 7, 8, 9, 10, 11, 12, 13, 14] [] [], .o, .o, .o, .b (z_neqT hq1), .o, .o, .o, .q (ixM_ok (kd := .i64) (T := 56) (x := s0_0) (N := (0 + g1_0)) (sz := 1) rfl (fun w => by kernel_rfl) hq2), .l (accG (i := 7) (f := cZ) (A := g3_0) (k := (s0_0).toNat) 0 [.int .i64 ((g3_0 (s0_0).toNat))] cZ_len (inR_nat hq2) rfl), .o, .q (ixA_ok (kd := .i64) (T := 66) (x := s0_0) (sz := 1) (N := 16) rfl rfl (fun w => by kernel_rfl) hq3), .l (accF (i := 5) (f := cZ) (A := g2_1) (k := (s0_0).toNat) 0 [.int .i64 ((g2_1 (s0_0).toNat))] cZ_len (inR_nat hq3) rfl), .o, .b (z_neqT hq4), .o, .o, .o, .o] [0, 1, 2, 3, 4, 5, 6, 7] (fun b => rfl) (by decide) rfl rfl (fun b => by kernel_rfl)
              · cases e; exact ⟨ne_ret, goes_runM hU [.o, .o, .b (z_lssT hq0), .r [0, 1, 2, 3, 4, 5, 6, 7, 8, 9, 10, 11, 12, 13, 14] [] [], .o, .o, .o, .b (z_neqT hq1), .o, .o, .o, .q (ixM_ok (kd := .i64) (T := 56) (x := s0_0) (N := (0 + g1_0)) (sz := 1) rfl (fun w => by kernel_rfl) hq2), .l (accG (i := 7) (f := cZ) (A := g3_0) (k := (s0_0).toNat) 0 [.int .i64 ((g3_0 (s0_0).toNat))] cZ_len (inR_nat hq2) rfl), .o, .q (ixA_ok (kd := .i64) (T := 66) (x := s0_0) (sz := 1) (N := 16) rfl rfl (fun w => by kernel_rfl) hq3), .l (accF (i := 5) (f := cZ) (A := g2_1) (k := (s0_0).toNat) 0 [.int .i64 ((g2_1 (s0_0).toNat))] cZ_len (inR_nat hq3) rfl), .o, .b (z_neqF hq4), .o, .o] [0, 1, 2, 3, 4, 5, 6, 7] (fun b => rfl) (by decide) rfl rfl (fun b => by kernel_rfl)⟩
            · exact none_some e
          · exact none_some e
        · cases e; exact ⟨ne_ret, goes_runM hU [.o, .o, .b (z_lssT hq0), .r [0, 1, 2, 3, 4, 5, 6, 7, 8, 9, 10, 11, 12, 13, 14] [] [], .o, .o, .o, .b (z_neqF hq1), .o, .o, .o] [0, 1, 2, 3, 4, 5, 6, 7] (fun b => rfl) (by decide) rfl rfl (fun b => by kernel_rfl)⟩
      · cases e; exact ⟨ne_exit 4, goes_runM hU [.o, .o, .b (z_lssF hq0)] [0, 1, 2, 3, 4, 5, 6, 7] (fun b => rfl) (by decide) rfl rfl (fun b => by kernel_rfl)⟩) s r h
noncomputable def t0_barbicanlaw11_SockCounts_L2v3_0 (y0 : Int) (a0 : Option Addr) (p0 : Nat) (q0 : Nat) (n0 : Nat) (k0 : Nat) (A0 : Nat → BitVec 8) (g0_0 : Nat) (g0_1 : Nat → (Nat × (Nat → BitVec 8))) (g1_0 : Nat) (g1_1 : Nat → Int) (g1_2 : Nat) (g1_3 : Nat → Arr73) (g2_0 : Nat → Int) (g2_1 : Nat → Int) (g3_0 : Nat → Int) (s0_0 : Int) (ls : List L1) : List Value := List.append [.int .i64 (y0), .slice a0 n0 (n0 + k0), ((lget ls 6).u 2), ((lget ls 6).u 3), .bool false, ((lget ls 6).u 5), ((lget ls 6).u 6), .pointer (some ⟨(lget ls 2).n, 0, none⟩), ((lget ls 6).u 8), .pointer (some ⟨(lget ls 5).n, 0, none⟩), ((lget ls 6).u 10), ((lget ls 6).u 11), (rowV (lget ls 7) (0 + g1_0) 1), .int .i64 (s0_0)] (List.append (jks (lget ls 6).u 14 85) (List.append [.pointer (some ⟨(lget ls 2).n, 0, none⟩), (rowV (lget ls 7) (0 + g1_0) 1)] (jks (lget ls 1).u 101 20)))
def pre_barbicanlaw11_SockCounts_L2v3_0 (y0 : Int) (a0 : Option Addr) (p0 : Nat) (q0 : Nat) (n0 : Nat) (k0 : Nat) (A0 : Nat → BitVec 8) (g0_0 : Nat) (g0_1 : Nat → (Nat × (Nat → BitVec 8))) (g1_0 : Nat) (g1_1 : Nat → Int) (g1_2 : Nat) (g1_3 : Nat → Arr73) (g2_0 : Nat → Int) (g2_1 : Nat → Int) (g3_0 : Nat → Int) (s0_0 : Int) (ls : List L1) : List Obj := [rrO (lget ls 0) 25 5 cu8 1 g0_0 g0_1, unb, .cells #[(rowV (lget ls 3) g1_0 1), (rowV (lget ls 4) g1_2 20)] 72, rowO (lget ls 3) (esG cZ g1_0 g2_0) 3 g1_0 1, rowO (lget ls 4) (esG c_Arr73 g1_2 g1_3) 73 g1_2 20, .cells ⟨esG cZ 16 g2_1⟩ 66, unb, rowO (lget ls 7) (esG cZ (0 + g1_0) g3_0) 3 (0 + g1_0) 1]
theorem sp0_barbicanlaw11_SockCounts_L2v3_0_ok (g0_0 : Nat) (g0_1 : Nat → (Nat × (Nat → BitVec 8))) (g1_0 : Nat) (g1_1 : Nat → Int) (g1_2 : Nat) (g1_3 : Nat → Arr73) (g2_0 : Nat → Int) (g2_1 : Nat → Int) (g3_0 : Nat → Int) (s0_0 : Int) (h : lpO (st_barbicanlaw11_SockCounts_L2v3 y0 g1_0 g2_1 g3_0) (.c0 s0_0) = some (.e0 )) : SpcG Try.prog M B0 S ⟨fun ls => .code (.loop bd_barbicanlaw11_SockCounts_L2v3) (t0_barbicanlaw11_SockCounts_L2v3_0 y0 a0 p0 q0 n0 k0 A0 g0_0 g0_1 g1_0 g1_1 g1_2 g1_3 g2_0 g2_1 g3_0 s0_0 ls), pre_barbicanlaw11_SockCounts_L2v3_0 y0 a0 p0 q0 n0 k0 A0 g0_0 g0_1 g1_0 g1_1 g1_2 g1_3 g2_0 g2_1 g3_0 s0_0, 1, (.exit 4), fun ls => vf_barbicanlaw11_SockCounts_L2v3 y0 a0 p0 q0 n0 k0 A0 g0_0 g0_1 g1_0 g1_1 g1_2 g1_3 g2_0 g2_1 g3_0 (.e0 ) (ls.take 8 ++ ls.drop 8), fun ls => (Hf_barbicanlaw11_SockCounts_L2v3 y0 a0 p0 q0 n0 k0 A0 g0_0 g0_1 g1_0 g1_1 g1_2 g1_3 g2_0 g2_1 g3_0 (.e0 ) (ls.take 8 ++ ls.drop 8)).take 8 ++ List.replicate 0 unb, fun ls => (Hf_barbicanlaw11_SockCounts_L2v3 y0 a0 p0 q0 n0 k0 A0 g0_0 g0_1 g1_0 g1_1 g1_2 g1_3 g2_0 g2_1 g3_0 (.e0 ) (ls.take 8 ++ ls.drop 8)).drop 8⟩ :=
  spc_of_goesM hU 0 (k0 := 8) (go_barbicanlaw11_SockCounts_L2v3 hU y0 a0 p0 q0 n0 k0 A0 hR0 g0_0 g0_1 g1_0 g1_1 g1_2 g1_3 g2_0 g2_1 g3_0 _ _ h) (t0_barbicanlaw11_SockCounts_L2v3_0 y0 a0 p0 q0 n0 k0 A0 g0_0 g0_1 g1_0 g1_1 g1_2 g1_3 g2_0 g2_1 g3_0 s0_0) (pre_barbicanlaw11_SockCounts_L2v3_0 y0 a0 p0 q0 n0 k0 A0 g0_0 g0_1 g1_0 g1_1 g1_2 g1_3 g2_0 g2_1 g3_0 s0_0) (fun _ => rfl) (fun ls h => by match ls, h with | [l0, l1, l2, l3, l4, l5, l6, l7], _ => exact ⟨by kernel_rfl, by kernel_rfl⟩) (fun ls h => by match ls, h with | [l0, l1, l2, l3, l4, l5, l6, l7], _ => rfl) (by decide) (by decide) (fun ls => rfl)
theorem sp1_barbicanlaw11_SockCounts_L2v3_0_ok (g0_0 : Nat) (g0_1 : Nat → (Nat × (Nat → BitVec 8))) (g1_0 : Nat) (g1_1 : Nat → Int) (g1_2 : Nat) (g1_3 : Nat → Arr73) (g2_0 : Nat → Int) (g2_1 : Nat → Int) (g3_0 : Nat → Int) (s0_0 : Int) (h : lpO (st_barbicanlaw11_SockCounts_L2v3 y0 g1_0 g2_1 g3_0) (.c0 s0_0) = some (.e1 )) : SpcG Try.prog M B0 S ⟨fun ls => .code (.loop bd_barbicanlaw11_SockCounts_L2v3) (t0_barbicanlaw11_SockCounts_L2v3_0 y0 a0 p0 q0 n0 k0 A0 g0_0 g0_1 g1_0 g1_1 g1_2 g1_3 g2_0 g2_1 g3_0 s0_0 ls), pre_barbicanlaw11_SockCounts_L2v3_0 y0 a0 p0 q0 n0 k0 A0 g0_0 g0_1 g1_0 g1_1 g1_2 g1_3 g2_0 g2_1 g3_0 s0_0, 1, .ret, fun ls => vf_barbicanlaw11_SockCounts_L2v3 y0 a0 p0 q0 n0 k0 A0 g0_0 g0_1 g1_0 g1_1 g1_2 g1_3 g2_0 g2_1 g3_0 (.e1 ) (ls.take 8 ++ ls.drop 8), fun ls => (Hf_barbicanlaw11_SockCounts_L2v3 y0 a0 p0 q0 n0 k0 A0 g0_0 g0_1 g1_0 g1_1 g1_2 g1_3 g2_0 g2_1 g3_0 (.e1 ) (ls.take 8 ++ ls.drop 8)).take 8 ++ List.replicate 0 unb, fun ls => (Hf_barbicanlaw11_SockCounts_L2v3 y0 a0 p0 q0 n0 k0 A0 g0_0 g0_1 g1_0 g1_1 g1_2 g1_3 g2_0 g2_1 g3_0 (.e1 ) (ls.take 8 ++ ls.drop 8)).drop 8⟩ :=
  spc_of_goesM hU 0 (k0 := 8) (go_barbicanlaw11_SockCounts_L2v3 hU y0 a0 p0 q0 n0 k0 A0 hR0 g0_0 g0_1 g1_0 g1_1 g1_2 g1_3 g2_0 g2_1 g3_0 _ _ h) (t0_barbicanlaw11_SockCounts_L2v3_0 y0 a0 p0 q0 n0 k0 A0 g0_0 g0_1 g1_0 g1_1 g1_2 g1_3 g2_0 g2_1 g3_0 s0_0) (pre_barbicanlaw11_SockCounts_L2v3_0 y0 a0 p0 q0 n0 k0 A0 g0_0 g0_1 g1_0 g1_1 g1_2 g1_3 g2_0 g2_1 g3_0 s0_0) (fun _ => rfl) (fun ls h => by match ls, h with | [l0, l1, l2, l3, l4, l5, l6, l7], _ => exact ⟨by kernel_rfl, by kernel_rfl⟩) (fun ls h => by match ls, h with | [l0, l1, l2, l3, l4, l5, l6, l7], _ => rfl) (by decide) (by decide) (fun ls => rfl)
noncomputable def m_barbicanlaw11_SockCounts (y0 : Int) (n0 : Nat) (A0 : Nat → BitVec 8) : Option (Bool) :=
  bif decide (y0 < 1) then
    (some true)
  else (bif decide (16 < y0) then
    (some true)
  else (bif decide (80 < (n0 : Int)) then
    (some true)
  else ((lpO (st_barbicanlaw11_SockCounts_L0 y0) (.c0)).bind fun g0 => match g0 with
  | .e0  => ((m_sock_NewTable_v1 0 (fun _ => (0, fun _ => 0#8))).bind fun g1 => match g1 with
    | .e0 g1_0 => (bif g1_0 == 0 then
        (some false)
      else (some false))
    | .e1  => (bif (0 : Int) == y0 then
        ((lpO (st_barbicanlaw11_SockCounts_L1 y0 n0 A0) (.c0 0)).bind fun g2 => match g2 with
        | .e0 g2_0 => ((lpO (st_barbicanlaw11_SockCounts_L2 y0) (.c0)).bind fun g3 => match g3 with
          | .e0  => (some true)
          | .e1  => (some false))
        | .e1 g2_0 => (some false))
      else (some false))
    | .e2 g1_0 g1_1 g1_2 g1_3 => (bif (g1_2 : Int) == y0 then
        ((lpO (st_barbicanlaw11_SockCounts_L1v1 y0 n0 A0 g1_0 g1_2 g1_3) (.c0 g1_1 (fun _ => 0) 0)).bind fun g2 => match g2 with
        | .e0 g2_0 g2_1 => ((m_sock_Table_Counts_v1 g1_0 g1_2 g2_0 g1_3).bind fun g3 => match g3 with
          | .e0 g3_0 =>
          (lpO (st_barbicanlaw11_SockCounts_L2v1 y0 g1_0 g2_1 g3_0) (.c0 0)).bind fun g4 => match g4 with
          | .e0  => (some true)
          | .e1  => (some false))
        | .e1 g2_0 g2_1 => (some false))
      else (some false)))
  | .e1 g0_0 g0_1 => ((m_sock_NewTable_v1 g0_0 g0_1).bind fun g1 => match g1 with
    | .e0 g1_0 => (bif g1_0 == 0 then
        (some false)
      else (some false))
    | .e1  => (bif (0 : Int) == y0 then
        ((lpO (st_barbicanlaw11_SockCounts_L1v2 y0 n0 A0) (.c0 0)).bind fun g2 => match g2 with
        | .e0 g2_0 => ((lpO (st_barbicanlaw11_SockCounts_L2v2 y0) (.c0)).bind fun g3 => match g3 with
          | .e0  => (some true)
          | .e1  => (some false))
        | .e1 g2_0 => (some false))
      else (some false))
    | .e2 g1_0 g1_1 g1_2 g1_3 => (bif (g1_2 : Int) == y0 then
        ((lpO (st_barbicanlaw11_SockCounts_L1v3 y0 n0 A0 g1_0 g1_2 g1_3) (.c0 g1_1 (fun _ => 0) 0)).bind fun g2 => match g2 with
        | .e0 g2_0 g2_1 => ((m_sock_Table_Counts_v1 g1_0 g1_2 g2_0 g1_3).bind fun g3 => match g3 with
          | .e0 g3_0 =>
          (lpO (st_barbicanlaw11_SockCounts_L2v3 y0 g1_0 g2_1 g3_0) (.c0 0)).bind fun g4 => match g4 with
          | .e0  => (some true)
          | .e1  => (some false))
        | .e1 g2_0 g2_1 => (some false))
      else (some false))))))
theorem ok_barbicanlaw11_SockCounts (r : Bool) (e : m_barbicanlaw11_SockCounts y0 n0 A0 = some r) : ConG Try.prog S 6 #[.int .i64 (y0), .slice a0 n0 (n0 + k0)] (.bool (r)) := by
  unfold m_barbicanlaw11_SockCounts at e
  replace e := cond_eq_or e
  rcases e with ⟨hq0, e⟩ | ⟨hq0, e⟩
  · injection e with e; subst e; exact fn_conG hU (P := Try.prog) Try.func6 (fun xs w => by kernel_rfl) _ _ [.o, .cg (ok_barbicanlaw11_known_v1 hU  ), .o, .o, .b (z_lssT hq0), .o, .o, .o, .o, .o] [] (fun b => by kernel_rfl)
  · replace e := cond_eq_or e
    rcases e with ⟨hq1, e⟩ | ⟨hq1, e⟩
    · injection e with e; subst e; exact fn_conG hU (P := Try.prog) Try.func6 (fun xs w => by kernel_rfl) _ _ [.o, .cg (ok_barbicanlaw11_known_v1 hU  ), .o, .o, .b (z_lssF hq0), .o, .o, .b (z_gtrT hq1), .o, .o, .o, .o] [] (fun b => by kernel_rfl)
    · replace e := cond_eq_or e
      rcases e with ⟨hq2, e⟩ | ⟨hq2, e⟩
      · injection e with e; subst e; exact fn_conG hU (P := Try.prog) Try.func6 (fun xs w => by kernel_rfl) _ _ [.o, .cg (ok_barbicanlaw11_known_v1 hU  ), .o, .o, .b (z_lssF hq0), .o, .o, .b (z_gtrF hq1), .o, .o, .o, .o, .b (z_gtrT hq2), .o, .o] [] (fun b => by kernel_rfl)
      · replace e := bindO_eq e
        obtain ⟨g0, e_g0, e⟩ := e
        rcases g0 with _ | ⟨g0_0, g0_1⟩
        · try dsimp only at e
          replace e := bindO_eq e
          obtain ⟨g1, e_g1, e⟩ := e
          rcases g1 with ⟨g1_0⟩ | _ | ⟨g1_0, g1_1, g1_2, g1_3⟩
          · try dsimp only at e
            replace e := cond_eq_or e
            rcases e with ⟨hq3, e⟩ | ⟨hq3, e⟩
            · injection e with e; subst e; exact fn_conG hU (P := Try.prog) Try.func6 (fun xs w => by kernel_rfl) _ _ [.o, .cg (ok_barbicanlaw11_known_v1 hU  ), .o, .o, .b (z_lssF hq0), .o, .o, .b (z_gtrF hq1), .o, .o, .o, .o, .b (z_gtrF hq2), .o, .o, .o, .cp, .cx (sp0_barbicanlaw11_SockCounts_L0_0_ok hU y0 a0 p0 q0 n0 k0 A0 hR0   e_g0) [], .o, .xg (ok0_sock_NewTable_v1 hU none 0 0 0 0 (fun _ => ⟨none, 0, 0, 0⟩) (fun _ => (0, fun _ => 0#8)) RoR.nil g1_0 e_g1) [], .o, .o, .o, .o, .o, .o, .b (z_neqT hq3), .o, .o, .o, .o, .o, .o, .o] [] (fun b => by kernel_rfl)
            · injection e with e; subst e; exact fn_conG hU (P := Try.prog) Try.func6 (fun xs w => by kernel_rfl) _ _ [.o, .cg (ok_barbicanlaw11_known_v1 hU  ), .o, .o, .b (z_lssF hq0), .o, .o, .b (z_gtrF hq1), .o, .o, .o, .o, .b (z_gtrF hq2), .o, .o, .o, .cp, .cx (sp0_barbicanlaw11_SockCounts_L0_0_ok hU y0 a0 p0 q0 n0 k0 A0 hR0   e_g0) [], .o, .xg (ok0_sock_NewTable_v1 hU none 0 0 0 0 (fun _ => ⟨none, 0, 0, 0⟩) (fun _ => (0, fun _ => 0#8)) RoR.nil g1_0 e_g1) [], .o, .o, .o, .o, .o, .o, .b (z_neqF hq3), .o, .o, .o, .o, .o] [] (fun b => by kernel_rfl)
          · try dsimp only at e
            replace e := cond_eq_or e
            rcases e with ⟨hq3, e⟩ | ⟨hq3, e⟩
            · replace e := bindO_eq e
              obtain ⟨g2, e_g2, e⟩ := e
              rcases g2 with ⟨g2_0⟩ | ⟨g2_0⟩
              · try dsimp only at e
                replace e := bindO_eq e
                obtain ⟨g3, e_g3, e⟩ := e
                rcases g3 with _ | _
                · try dsimp only at e
                  injection e with e; subst e; exact fn_conG hU (P := Try.prog) Try.func6 (fun xs w => by kernel_rfl) _ _ [.o, .cg (ok_barbicanlaw11_known_v1 hU  ), .o, .o, .b (z_lssF hq0), .o, .o, .b (z_gtrF hq1), .o, .o, .o, .o, .b (z_gtrF hq2), .o, .o, .o, .cp, .cx (sp0_barbicanlaw11_SockCounts_L0_0_ok hU y0 a0 p0 q0 n0 k0 A0 hR0   e_g0) [], .o, .xg (ok1_sock_NewTable_v1 hU none 0 0 0 0 (fun _ => ⟨none, 0, 0, 0⟩) (fun _ => (0, fun _ => 0#8)) RoR.nil  e_g1) [], .o, .o, .o, .o, .o, .o, .o, .o, .o, .o, .o, .o, .o, .xg (p0_sock_Table_Len hU  ) [2], .o, .b (z_neqT hq3), .o, .o, .o, .cp, .cx (sp0_barbicanlaw11_SockCounts_L1_0_ok hU y0 a0 p0 q0 n0 k0 A0 hR0 0 g2_0 e_g2) [0, 1, 2, 3], .o, .xg (p0_sock_Table_Counts hU  ) [2], .o, .o, .cp, .cx (sp0_barbicanlaw11_SockCounts_L2_0_ok hU y0 a0 p0 q0 n0 k0 A0 hR0 g2_0   e_g3) [0, 1, 2, 3, 4], .o] [] (fun b => by kernel_rfl)
                · try dsimp only at e
                  injection e with e; subst e; exact fn_conG hU (P := Try.prog) Try.func6 (fun xs w => by kernel_rfl) _ _ [.o, .cg (ok_barbicanlaw11_known_v1 hU  ), .o, .o, .b (z_lssF hq0), .o, .o, .b (z_gtrF hq1), .o, .o, .o, .o, .b (z_gtrF hq2), .o, .o, .o, .cp, .cx (sp0_barbicanlaw11_SockCounts_L0_0_ok hU y0 a0 p0 q0 n0 k0 A0 hR0   e_g0) [], .o, .xg (ok1_sock_NewTable_v1 hU none 0 0 0 0 (fun _ => ⟨none, 0, 0, 0⟩) (fun _ => (0, fun _ => 0#8)) RoR.nil  e_g1) [], .o, .o, .o, .o, .o, .o, .o, .o, .o, .o, .o, .o, .o, .xg (p0_sock_Table_Len hU  ) [2], .o, .b (z_neqT hq3), .o, .o, .o, .cp, .cx (sp0_barbicanlaw11_SockCounts_L1_0_ok hU y0 a0 p0 q0 n0 k0 A0 hR0 0 g2_0 e_g2) [0, 1, 2, 3], .o, .xg (p0_sock_Table_Counts hU  ) [2], .o, .o, .cp, .cx (sp1_barbicanlaw11_SockCounts_L2_0_ok hU y0 a0 p0 q0 n0 k0 A0 hR0 g2_0   e_g3) [0, 1, 2, 3, 4]] [] (fun b => by kernel_rfl)
              · try dsimp only at e
                injection e with e; subst e; exact fn_conG hU (P := Try.prog) Try.func6 (fun xs w => by kernel_rfl) _ _ [.o, .cg (ok_barbicanlaw11_known_v1 hU  ), .o, .o, .b (z_lssF hq0), .o, .o, .b (z_gtrF hq1), .o, .o, .o, .o, .b (z_gtrF hq2), .o, .o, .o, .cp, .cx (sp0_barbicanlaw11_SockCounts_L0_0_ok hU y0 a0 p0 q0 n0 k0 A0 hR0   e_g0) [], .o, .xg (ok1_sock_NewTable_v1 hU none 0 0 0 0 (fun _ => ⟨none, 0, 0, 0⟩) (fun _ => (0, fun _ => 0#8)) RoR.nil  e_g1) [], .o, .o, .o, .o, .o, .o, .o, .o, .o, .o, .o, .o, .o, .xg (p0_sock_Table_Len hU  ) [2], .o, .b (z_neqT hq3), .o, .o, .o, .cp, .cx (sp1_barbicanlaw11_SockCounts_L1_0_ok hU y0 a0 p0 q0 n0 k0 A0 hR0 0 g2_0 e_g2) [0, 1, 2, 3]] [] (fun b => by kernel_rfl)
            · injection e with e; subst e; exact fn_conG hU (P := Try.prog) Try.func6 (fun xs w => by kernel_rfl) _ _ [.o, .cg (ok_barbicanlaw11_known_v1 hU  ), .o, .o, .b (z_lssF hq0), .o, .o, .b (z_gtrF hq1), .o, .o, .o, .o, .b (z_gtrF hq2), .o, .o, .o, .cp, .cx (sp0_barbicanlaw11_SockCounts_L0_0_ok hU y0 a0 p0 q0 n0 k0 A0 hR0   e_g0) [], .o, .xg (ok1_sock_NewTable_v1 hU none 0 0 0 0 (fun _ => ⟨none, 0, 0, 0⟩) (fun _ => (0, fun _ => 0#8)) RoR.nil  e_g1) [], .o, .o, .o, .o, .o, .o, .o, .o, .o, .o, .o, .o, .o, .xg (p0_sock_Table_Len hU  ) [2], .o, .b (z_neqF hq3), .o, .o] [] (fun b => by kernel_rfl)
          · try dsimp only at e
            replace e := cond_eq_or e
            rcases e with ⟨hq3, e⟩ | ⟨hq3, e⟩
            · replace e := bindO_eq e
              obtain ⟨g2, e_g2, e⟩ := e
              rcases g2 with ⟨g2_0, g2_1⟩ | ⟨g2_0, g2_1⟩
              · try dsimp only at e
                replace e := bindO_eq e
                obtain ⟨g3, e_g3, e⟩ := e
                obtain ⟨g3_0⟩ := g3
                try dsimp only at e
                replace e := bindO_eq e
                obtain ⟨g4, e_g4, e⟩ := e
                rcases g4 with _ | _
                · try dsimp only at e
                  injection e with e; subst e; exact fn_conG hU (P := Try.prog) Try.func6 (fun xs w => by kernel_rfl) _ _ [.o, .cg (ok_barbicanlaw11_known_v1 hU  ), .o, .o, .b (z_lssF hq0), .o, .o, .b (z_gtrF hq1), .o, .o, .o, .o, .b (z_gtrF hq2), .o, .o, .o, .cp, .cx (sp0_barbicanlaw11_SockCounts_L0_0_ok hU y0 a0 p0 q0 n0 k0 A0 hR0   e_g0) [], .o, .xg (ok2_sock_NewTable_v1 hU none 0 0 0 0 (fun _ => ⟨none, 0, 0, 0⟩) (fun _ => (0, fun _ => 0#8)) RoR.nil g1_0 g1_1 g1_2 g1_3 e_g1) [], .o, .o, .o, .o, .o, .o, .o, .o, .o, .o, .o, .o, .o, .xg (p0_sock_Table_Len_v1 hU g1_0 g1_2 g1_1 g1_3 ) [2, 3, 4], .o, .b (z_neqT hq3), .o, .o, .o, .cp, .cx (sp0_barbicanlaw11_SockCounts_L1v1_0_ok hU y0 a0 p0 q0 n0 k0 A0 hR0 g1_0 g1_1 g1_2 g1_3 g1_1 (fun _ => 0) 0 g2_0 g2_1 e_g2) [0, 1, 2, 3, 4, 5], .o, .xg (ok0_sock_Table_Counts_v1 hU g1_0 g1_2 g2_0 g1_3 g3_0 e_g3) [2, 3, 4], .o, .o, .cp, .cx (sp0_barbicanlaw11_SockCounts_L2v1_0_ok hU y0 a0 p0 q0 n0 k0 A0 hR0 g1_0 g1_1 g1_2 g1_3 g2_0 g2_1 g3_0 0  e_g4) [0, 1, 2, 3, 4, 5, 6, 7], .o] [] (fun b => by kernel_rfl)
                · try dsimp only at e
                  injection e with e; subst e; exact fn_conG hU (P := Try.prog) Try.func6 (fun xs w => by kernel_rfl) _ _ [.o, .cg (ok_barbicanlaw11_known_v1 hU  ), .o, .o, .b (z_lssF hq0), .o, .o, .b (z_gtrF hq1), .o, .o, .o, .o, .b (z_gtrF hq2), .o, .o, .o, .cp, .cx (sp0_barbicanlaw11_SockCounts_L0_0_ok hU y0 a0 p0 q0 n0 k0 A0 hR0   e_g0) [], .o, .xg (ok2_sock_NewTable_v1 hU none 0 0 0 0 (fun _ => ⟨none, 0, 0, 0⟩) (fun _ => (0, fun _ => 0#8)) RoR.nil g1_0 g1_1 g1_2 g1_3 e_g1) [], .o, .o, .o, .o, .o, .o, .o, .o, .o, .o, .o, .o, .o, .xg (p0_sock_Table_Len_v1 hU g1_0 g1_2 g1_1 g1_3 ) [2, 3, 4], .o, .b (z_neqT hq3), .o, .o, .o, .cp, .cx (sp0_barbicanlaw11_SockCounts_L1v1_0_ok hU y0 a0 p0 q0 n0 k0 A0 hR0 g1_0 g1_1 g1_2 g1_3 g1_1 (fun _ => 0) 0 g2_0 g2_1 e_g2) [0, 1, 2, 3, 4, 5], .o, .xg (ok0_sock_Table_Counts_v1 hU g1_0 g1_2 g2_0 g1_3 g3_0 e_g3) [2, 3, 4], .o, .o, .cp, .cx (sp1_barbicanlaw11_SockCounts_L2v1_0_ok hU y0 a0 p0 q0 n0 k0 A0 hR0 g1_0 g1_1 g1_2 g1_3 g2_0 g2_1 g3_0 0  e_g4) [0, 1, 2, 3, 4, 5, 6, 7]] [] (fun b => by kernel_rfl)
              · try dsimp only at e
                injection e with e; subst e; exact fn_conG hU (P := Try.prog) Try.func6 (fun xs w => by kernel_rfl) _ _ [.o, .cg (ok_barbicanlaw11_known_v1 hU  ), .o, .o, .b (z_lssF hq0), .o, .o, .b (z_gtrF hq1), .o, .o, .o, .o, .b (z_gtrF hq2), .o, .o, .o, .cp, .cx (sp0_barbicanlaw11_SockCounts_L0_0_ok hU y0 a0 p0 q0 n0 k0 A0 hR0   e_g0) [], .o, .xg (ok2_sock_NewTable_v1 hU none 0 0 0 0 (fun _ => ⟨none, 0, 0, 0⟩) (fun _ => (0, fun _ => 0#8)) RoR.nil g1_0 g1_1 g1_2 g1_3 e_g1) [], .o, .o, .o, .o, .o, .o, .o, .o, .o, .o, .o, .o, .o, .xg (p0_sock_Table_Len_v1 hU g1_0 g1_2 g1_1 g1_3 ) [2, 3, 4], .o, .b (z_neqT hq3), .o, .o, .o, .cp, .cx (sp1_barbicanlaw11_SockCounts_L1v1_0_ok hU y0 a0 p0 q0 n0 k0 A0 hR0 g1_0 g1_1 g1_2 g1_3 g1_1 (fun _ => 0) 0 g2_0 g2_1 e_g2) [0, 1, 2, 3, 4, 5]] [] (fun b => by kernel_rfl)
            · injection e with e; subst e; exact fn_conG hU (P := Try.prog) Try.func6 (fun xs w => by kernel_rfl) _ _ [.o, .cg (ok_barbicanlaw11_known_v1 hU  ), .o, .o, .b (z_lssF hq0), .o, .o, .b (z_gtrF hq1), .o, .o, .o, .o, .b (z_gtrF hq2), .o, .o, .o, .cp, .cx (sp0_barbicanlaw11_SockCounts_L0_0_ok hU y0 a0 p0 q0 n0 k0 A0 hR0   e_g0) [], .o, .xg (ok2_sock_NewTable_v1 hU none 0 0 0 0 (fun _ => ⟨none, 0, 0, 0⟩) (fun _ => (0, fun _ => 0#8)) RoR.nil g1_0 g1_1 g1_2 g1_3 e_g1) [], .o, .o, .o, .o, .o, .o, .o, .o, .o, .o, .o, .o, .o, .xg (p0_sock_Table_Len_v1 hU g1_0 g1_2 g1_1 g1_3 ) [2, 3, 4], .o, .b (z_neqF hq3), .o, .o] [] (fun b => by kernel_rfl)
        · try dsimp only at e
          replace e := bindO_eq e
          obtain ⟨g1, e_g1, e⟩ := e
          rcases g1 with ⟨g1_0⟩ | _ | ⟨g1_0, g1_1, g1_2, g1_3⟩
          · try dsimp only at e
            replace e := cond_eq_or e
            rcases e with ⟨hq3, e⟩ | ⟨hq3, e⟩
            · injection e with e; subst e; exact fn_conG hU (P := Try.prog) Try.func6 (fun xs w => by kernel_rfl) _ _ [.o, .cg (ok_barbicanlaw11_known_v1 hU  ), .o, .o, .b (z_lssF hq0), .o, .o, .b (z_gtrF hq1), .o, .o, .o, .o, .b (z_gtrF hq2), .o, .o, .o, .cp, .cx (sp1_barbicanlaw11_SockCounts_L0_0_ok hU y0 a0 p0 q0 n0 k0 A0 hR0  g0_0 g0_1 e_g0) [], .o, .xg (SpcG.ownRR hU (f := cu8) (sz := 1) cu8_len g0_0 g0_1 25 5 _ 0 .normal (by intros; rfl) (by intros; rfl) (fun M0 B0 S0 x0 u0 v0 z0 X0 hU0 hs0 hr0 => ok0_sock_NewTable_v1 hU0 x0 u0 v0 g0_0 z0 X0 g0_1 hr0 g1_0 e_g1)) [0], .o, .o, .o, .o, .o, .o, .b (z_neqT hq3), .o, .o, .o, .o, .o, .o, .o] [] (fun b => by kernel_rfl)
            · injection e with e; subst e; exact fn_conG hU (P := Try.prog) Try.func6 (fun xs w => by kernel_rfl) _ _ [.o, .cg (ok_barbicanlaw11_known_v1 hU  ), .o, .o, .b (z_lssF hq0), .o, .o, .b (z_gtrF hq1), .o, .o, .o, .o, .b (z_gtrF hq2), .o, .o, .o, .cp, .cx (sp1_barbicanlaw11_SockCounts_L0_0_ok hU y0 a0 p0 q0 n0 k0 A0 hR0  g0_0 g0_1 e_g0) [], .o, .xg (SpcG.ownRR hU (f := cu8) (sz := 1) cu8_len g0_0 g0_1 25 5 _ 0 .normal (by intros; rfl) (by intros; rfl) (fun M0 B0 S0 x0 u0 v0 z0 X0 hU0 hs0 hr0 => ok0_sock_NewTable_v1 hU0 x0 u0 v0 g0_0 z0 X0 g0_1 hr0 g1_0 e_g1)) [0], .o, .o, .o, .o, .o, .o, .b (z_neqF hq3), .o, .o, .o, .o, .o] [] (fun b => by kernel_rfl)
          · try dsimp only at e
            replace e := cond_eq_or e
            rcases e with ⟨hq3, e⟩ | ⟨hq3, e⟩
            · replace e := bindO_eq e
              obtain ⟨g2, e_g2, e⟩ := e
              rcases g2 with ⟨g2_0⟩ | ⟨g2_0⟩
              · try dsimp only at e
                replace e := bindO_eq e
                obtain ⟨g3, e_g3, e⟩ := e
                rcases g3 with _ | _
                · try dsimp only at e
                  injection e with e; subst e; exact fn_conG hU (P := Try.prog) Try.func6 (fun xs w => by kernel_rfl) _ _ [.o, .cg (ok_barbicanlaw11_known_v1 hU  ), .o, .o, .b (z_lssF hq0), .o, .o, .b (z_gtrF hq1), .o, .o, .o, .o, .b (z_gtrF hq2), .o, .o, .o, .cp, .cx (sp1_barbicanlaw11_SockCounts_L0_0_ok hU y0 a0 p0 q0 n0 k0 A0 hR0  g0_0 g0_1 e_g0) [], .o, .xg (SpcG.ownRR hU (f := cu8) (sz := 1) cu8_len g0_0 g0_1 25 5 _ 1 .normal (by intros; rfl) (by intros; rfl) (fun M0 B0 S0 x0 u0 v0 z0 X0 hU0 hs0 hr0 => ok1_sock_NewTable_v1 hU0 x0 u0 v0 g0_0 z0 X0 g0_1 hr0  e_g1)) [0], .o, .o, .o, .o, .o, .o, .o, .o, .o, .o, .o, .o, .o, .xg (p0_sock_Table_Len hU  ) [2], .o, .b (z_neqT hq3), .o, .o, .o, .cp, .cx (sp0_barbicanlaw11_SockCounts_L1v2_0_ok hU y0 a0 p0 q0 n0 k0 A0 hR0 g0_0 g0_1 0 g2_0 e_g2) [0, 1, 2, 3], .o, .xg (p0_sock_Table_Counts hU  ) [2], .o, .o, .cp, .cx (sp0_barbicanlaw11_SockCounts_L2v2_0_ok hU y0 a0 p0 q0 n0 k0 A0 hR0 g0_0 g0_1 g2_0   e_g3) [0, 1, 2, 3, 4], .o] [] (fun b => by kernel_rfl)
                · try dsimp only at e
                  injection e with e; subst e; exact fn_conG hU (P := Try.prog) Try.func6 (fun xs w => by kernel_rfl) _ _ [.o, .cg (ok_barbicanlaw11_known_v1 hU  ), .o, .o, .b (z_lssF hq0), .o, .o, .b (z_gtrF hq1), .o, .o, .o, .o, .b (z_gtrF hq2), .o, .o, .o, .cp, .cx (sp1_barbicanlaw11_SockCounts_L0_0_ok hU y0 a0 p0 q0 n0 k0 A0 hR0  g0_0 g0_1 e_g0) [], .o, .xg (SpcG.ownRR hU (f := cu8) (sz := 1) cu8_len g0_0 g0_1 25 5 _ 1 .normal (by intros; rfl) (by intros; rfl) (fun M0 B0 S0 x0 u0 v0 z0 X0 hU0 hs0 hr0 => ok1_sock_NewTable_v1 hU0 x0 u0 v0 g0_0 z0 X0 g0_1 hr0  e_g1)) [0], .o, .o, .o, .o, .o, .o, .o, .o, .o, .o, .o, .o, .o, .xg (p0_sock_Table_Len hU  ) [2], .o, .b (z_neqT hq3), .o, .o, .o, .cp, .cx (sp0_barbicanlaw11_SockCounts_L1v2_0_ok hU y0 a0 p0 q0 n0 k0 A0 hR0 g0_0 g0_1 0 g2_0 e_g2) [0, 1, 2, 3], .o, .xg (p0_sock_Table_Counts hU  ) [2], .o, .o, .cp, .cx (sp1_barbicanlaw11_SockCounts_L2v2_0_ok hU y0 a0 p0 q0 n0 k0 A0 hR0 g0_0 g0_1 g2_0   e_g3) [0, 1, 2, 3, 4]] [] (fun b => by kernel_rfl)
              · try dsimp only at e
                injection e with e; subst e; exact fn_conG hU (P := Try.prog) Try.func6 (fun xs w => by kernel_rfl) _ _ [.o, .cg (ok_barbicanlaw11_known_v1 hU  ), .o, .o, .b (z_lssF hq0), .o, .o, .b (z_gtrF hq1), .o, .o, .o, .o, .b (z_gtrF hq2), .o, .o, .o, .cp, .cx (sp1_barbicanlaw11_SockCounts_L0_0_ok hU y0 a0 p0 q0 n0 k0 A0 hR0  g0_0 g0_1 e_g0) [], .o, .xg (SpcG.ownRR hU (f := cu8) (sz := 1) cu8_len g0_0 g0_1 25 5 _ 1 .normal (by intros; rfl) (by intros; rfl) (fun M0 B0 S0 x0 u0 v0 z0 X0 hU0 hs0 hr0 => ok1_sock_NewTable_v1 hU0 x0 u0 v0 g0_0 z0 X0 g0_1 hr0  e_g1)) [0], .o, .o, .o, .o, .o, .o, .o, .o, .o, .o, .o, .o, .o, .xg (p0_sock_Table_Len hU  ) [2], .o, .b (z_neqT hq3), .o, .o, .o, .cp, .cx (sp1_barbicanlaw11_SockCounts_L1v2_0_ok hU y0 a0 p0 q0 n0 k0 A0 hR0 g0_0 g0_1 0 g2_0 e_g2) [0, 1, 2, 3]] [] (fun b => by kernel_rfl)
            · injection e with e; subst e; exact fn_conG hU (P := Try.prog) Try.func6 (fun xs w => by kernel_rfl) _ _ [.o, .cg (ok_barbicanlaw11_known_v1 hU  ), .o, .o, .b (z_lssF hq0), .o, .o, .b (z_gtrF hq1), .o, .o, .o, .o, .b (z_gtrF hq2), .o, .o, .o, .cp, .cx (sp1_barbicanlaw11_SockCounts_L0_0_ok hU y0 a0 p0 q0 n0 k0 A0 hR0  g0_0 g0_1 e_g0) [], .o, .xg (SpcG.ownRR hU (f := cu8) (sz := 1) cu8_len g0_0 g0_1 25 5 _ 1 .normal (by intros; rfl) (by intros; rfl) (fun M0 B0 S0 x0 u0 v0 z0 X0 hU0 hs0 hr0 => ok1_sock_NewTable_v1 hU0 x0 u0 v0 g0_0 z0 X0 g0_1 hr0  e_g1)) [0], .o, .o, .o, .o, .o, .o, .o, .o, .o, .o, .o, .o, .o, .xg (p0_sock_Table_Len hU  ) [2], .o, .b (z_neqF hq3), .o, .o] [] (fun b => by kernel_rfl)
          · try dsimp only at e
            replace e := cond_eq_or e
            rcases e with ⟨hq3, e⟩ | ⟨hq3, e⟩
            · replace e := bindO_eq e
              obtain ⟨g2, e_g2, e⟩ := e
              rcases g2 with ⟨g2_0, g2_1⟩ | ⟨g2_0, g2_1⟩
              · try dsimp only at e
                replace e := bindO_eq e
                obtain ⟨g3, e_g3, e⟩ := e
                obtain ⟨g3_0⟩ := g3
                try dsimp only at e
                replace e := bindO_eq e
                obtain ⟨g4, e_g4, e⟩ := e
                rcases g4 with _ | _
                · try dsimp only at e
                  injection e with e; subst e; exact fn_conG hU (P := Try.prog) Try.func6 (fun xs w => by kernel_rfl) _ _ [.o, .cg (ok_barbicanlaw11_known_v1 hU  ), .o, .o, .b (z_lssF hq0), .o, .o, .b (z_gtrF hq1), .o, .o, .o, .o, .b (z_gtrF hq2), .o, .o, .o, .cp, .cx (sp1_barbicanlaw11_SockCounts_L0_0_ok hU y0 a0 p0 q0 n0 k0 A0 hR0  g0_0 g0_1 e_g0) [], .o, .xg (SpcG.ownRR hU (f := cu8) (sz := 1) cu8_len g0_0 g0_1 25 5 _ 3 .normal (by intros; rfl) (by intros; rfl) (fun M0 B0 S0 x0 u0 v0 z0 X0 hU0 hs0 hr0 => ok2_sock_NewTable_v1 hU0 x0 u0 v0 g0_0 z0 X0 g0_1 hr0 g1_0 g1_1 g1_2 g1_3 e_g1)) [0], .o, .o, .o, .o, .o, .o, .o, .o, .o, .o, .o, .o, .o, .xg (p0_sock_Table_Len_v1 hU g1_0 g1_2 g1_1 g1_3 ) [2, 3, 4], .o, .b (z_neqT hq3), .o, .o, .o, .cp, .cx (sp0_barbicanlaw11_SockCounts_L1v3_0_ok hU y0 a0 p0 q0 n0 k0 A0 hR0 g0_0 g0_1 g1_0 g1_1 g1_2 g1_3 g1_1 (fun _ => 0) 0 g2_0 g2_1 e_g2) [0, 1, 2, 3, 4, 5], .o, .xg (ok0_sock_Table_Counts_v1 hU g1_0 g1_2 g2_0 g1_3 g3_0 e_g3) [2, 3, 4], .o, .o, .cp, .cx (sp0_barbicanlaw11_SockCounts_L2v3_0_ok hU y0 a0 p0 q0 n0 k0 A0 hR0 g0_0 g0_1 g1_0 g1_1 g1_2 g1_3 g2_0 g2_1 g3_0 0  e_g4) [0, 1, 2, 3, 4, 5, 6, 7], .o] [] (fun b => by kernel_rfl)
                · try dsimp only at e
                  injection e with e; subst e; exact fn_conG hU (P := Try.prog) Try.func6 (fun xs w => by kernel_rfl) _ _ [.o, .cg (ok_barbicanlaw11_known_v1 hU  ), .o, .o, .b (z_lssF hq0), .o, .o, .b (z_gtrF hq1), .o, .o, .o, .o, .b (z_gtrF hq2), .o, .o, .o, .cp, .cx (sp1_barbicanlaw11_SockCounts_L0_0_ok hU y0 a0 p0 q0 n0 k0 A0 hR0  g0_0 g0_1 e_g0) [], .o, .xg (SpcG.ownRR hU (f := cu8) (sz := 1) cu8_len g0_0 g0_1 25 5 _ 3 .normal (by intros; rfl) (by intros; rfl) (fun M0 B0 S0 x0 u0 v0 z0 X0 hU0 hs0 hr0 => ok2_sock_NewTable_v1 hU0 x0 u0 v0 g0_0 z0 X0 g0_1 hr0 g1_0 g1_1 g1_2 g1_3 e_g1)) [0], .o, .o, .o, .o, .o, .o, .o, .o, .o, .o, .o, .o, .o, .xg (p0_sock_Table_Len_v1 hU g1_0 g1_2 g1_1 g1_3 ) [2, 3, 4], .o, .b (z_neqT hq3), .o, .o, .o, .cp, .cx (sp0_barbicanlaw11_SockCounts_L1v3_0_ok hU y0 a0 p0 q0 n0 k0 A0 hR0 g0_0 g0_1 g1_0 g1_1 g1_2 g1_3 g1_1 (fun _ => 0) 0 g2_0 g2_1 e_g2) [0, 1, 2, 3, 4, 5], .o, .xg (ok0_sock_Table_Counts_v1 hU g1_0 g1_2 g2_0 g1_3 g3_0 e_g3) [2, 3, 4], .o, .o, .cp, .cx (sp1_barbicanlaw11_SockCounts_L2v3_0_ok hU y0 a0 p0 q0 n0 k0 A0 hR0 g0_0 g0_1 g1_0 g1_1 g1_2 g1_3 g2_0 g2_1 g3_0 0  e_g4) [0, 1, 2, 3, 4, 5, 6, 7]] [] (fun b => by kernel_rfl)
              · try dsimp only at e
                injection e with e; subst e; exact fn_conG hU (P := Try.prog) Try.func6 (fun xs w => by kernel_rfl) _ _ [.o, .cg (ok_barbicanlaw11_known_v1 hU  ), .o, .o, .b (z_lssF hq0), .o, .o, .b (z_gtrF hq1), .o, .o, .o, .o, .b (z_gtrF hq2), .o, .o, .o, .cp, .cx (sp1_barbicanlaw11_SockCounts_L0_0_ok hU y0 a0 p0 q0 n0 k0 A0 hR0  g0_0 g0_1 e_g0) [], .o, .xg (SpcG.ownRR hU (f := cu8) (sz := 1) cu8_len g0_0 g0_1 25 5 _ 3 .normal (by intros; rfl) (by intros; rfl) (fun M0 B0 S0 x0 u0 v0 z0 X0 hU0 hs0 hr0 => ok2_sock_NewTable_v1 hU0 x0 u0 v0 g0_0 z0 X0 g0_1 hr0 g1_0 g1_1 g1_2 g1_3 e_g1)) [0], .o, .o, .o, .o, .o, .o, .o, .o, .o, .o, .o, .o, .o, .xg (p0_sock_Table_Len_v1 hU g1_0 g1_2 g1_1 g1_3 ) [2, 3, 4], .o, .b (z_neqT hq3), .o, .o, .o, .cp, .cx (sp1_barbicanlaw11_SockCounts_L1v3_0_ok hU y0 a0 p0 q0 n0 k0 A0 hR0 g0_0 g0_1 g1_0 g1_1 g1_2 g1_3 g1_1 (fun _ => 0) 0 g2_0 g2_1 e_g2) [0, 1, 2, 3, 4, 5]] [] (fun b => by kernel_rfl)
            · injection e with e; subst e; exact fn_conG hU (P := Try.prog) Try.func6 (fun xs w => by kernel_rfl) _ _ [.o, .cg (ok_barbicanlaw11_known_v1 hU  ), .o, .o, .b (z_lssF hq0), .o, .o, .b (z_gtrF hq1), .o, .o, .o, .o, .b (z_gtrF hq2), .o, .o, .o, .cp, .cx (sp1_barbicanlaw11_SockCounts_L0_0_ok hU y0 a0 p0 q0 n0 k0 A0 hR0  g0_0 g0_1 e_g0) [], .o, .xg (SpcG.ownRR hU (f := cu8) (sz := 1) cu8_len g0_0 g0_1 25 5 _ 3 .normal (by intros; rfl) (by intros; rfl) (fun M0 B0 S0 x0 u0 v0 z0 X0 hU0 hs0 hr0 => ok2_sock_NewTable_v1 hU0 x0 u0 v0 g0_0 z0 X0 g0_1 hr0 g1_0 g1_1 g1_2 g1_3 e_g1)) [0], .o, .o, .o, .o, .o, .o, .o, .o, .o, .o, .o, .o, .o, .xg (p0_sock_Table_Len_v1 hU g1_0 g1_2 g1_1 g1_3 ) [2, 3, 4], .o, .b (z_neqF hq3), .o, .o] [] (fun b => by kernel_rfl)
end

end Go.Proofs.Ytmopkmjddaaknaa
