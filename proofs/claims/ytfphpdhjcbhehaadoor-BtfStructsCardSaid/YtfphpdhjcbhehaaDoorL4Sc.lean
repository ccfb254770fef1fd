/-
  The law on a struct of fields of one size, by the program's text.
-/
import Derived.Test.YtfphpdhjcbhehaaDoorL4Sb
import Derived.Test.YtfphpdhjcbhehaaDoorL4K
import Derived.Test.YtfphpdhjcbhehaaDoorRyM
namespace Go.Proofs.YtfphpdhjcbhehaaDoor
open Go.RowKit
set_option linter.unusedVariables false
set_option linter.unusedSimpArgs false
set_option linter.unusedSectionVars false
set_option maxRecDepth 100000
set_option maxHeartbeats 4000000
inductive Sh_barbicanlaw4_BtfStructs_L0 where
  | c0 
  | c1 (s0_0 : Int) (s0_1 : Nat) (s0_2 : Nat → Member) (s0_3 : Int)
inductive Ex_barbicanlaw4_BtfStructs_L0 where
  | e0 (c0_0 : Int) (c0_1 : Nat) (c0_2 : Nat → Member)
noncomputable def st_barbicanlaw4_BtfStructs_L0 (y0 : Int) (y1 : BitVec 8) (y2 : Int) : Sh_barbicanlaw4_BtfStructs_L0 → Option (Sh_barbicanlaw4_BtfStructs_L0 ⊕ Ex_barbicanlaw4_BtfStructs_L0)
  | .c0  =>
    bif decide (0 < y0) then
      (some (.inl (.c1 (IntKind.i64.wrap (y0 * (IntKind.i64.wrap ((zshl 1 ((y1 % 4#8)).toNat) + y2)))) 1 (fun _ => (⟨(⟨#[97]⟩ : ByteArray), 1, (IntKind.i64.wrap (0 * (IntKind.i64.wrap ((zshl 1 ((y1 % 4#8)).toNat) + y2))))⟩ : Member)) 1)))
    else (none)
  | .c1 s0_0 s0_1 s0_2 s0_3 =>
    bif decide (s0_3 < y0) then
      (bif inR (IntKind.i64.wrap (s0_3 + 1)) (52 + 1) then
        (bif inR s0_3 (((IntKind.i64.wrap (s0_3 + 1))).toNat + 1) then
          (bif decide (s0_1 ≤ 1000000) then
            (bindT (updF s0_2 s0_1 (⟨((⟨#[97, 98, 99, 100, 101, 102, 103, 104, 105, 106, 107, 108, 109, 110, 111, 112, 113, 114, 115, 116, 117, 118, 119, 120, 121, 122, 65, 66, 67, 68, 69, 70, 71, 72, 73, 74, 75, 76, 77, 78, 79, 80, 81, 82, 83, 84, 85, 86, 87, 88, 89, 90]⟩ : ByteArray).extract (s0_3).toNat ((IntKind.i64.wrap (s0_3 + 1))).toNat), 1, (IntKind.i64.wrap ((IntKind.i64.wrap (8 * s0_3)) * (IntKind.i64.wrap ((zshl 1 ((y1 % 4#8)).toNat) + y2))))⟩ : Member)) fun rb0 =>
            some (.inl (.c1 s0_0 (s0_1 + 1) rb0 (IntKind.i64.wrap (s0_3 + 1)))))
          else (none))
        else (none))
      else (none))
    else (some (.inr (.e0 s0_0 s0_1 s0_2)))
noncomputable def bd_barbicanlaw4_BtfStructs_L0 : Code := codeOf Tryd.f3 [1, 1, 1, 1, 1, 1, 0, 1, 0, 0]
def fl_barbicanlaw4_BtfStructs_L0 (y0 : Int) (y1 : BitVec 8) (y2 : Int) : Sh_barbicanlaw4_BtfStructs_L0 → List L1 → List Value
  | .c0 , ls => [.int .i64 (y0), .int .i64 (y2), .int .i64 ((zshl 1 ((y1 % 4#8)).toNat)), .string (⟨#[97, 98, 99, 100, 101, 102, 103, 104, 105, 106, 107, 108, 109, 110, 111, 112, 113, 114, 115, 116, 117, 118, 119, 120, 121, 122, 65, 66, 67, 68, 69, 70, 71, 72, 73, 74, 75, 76, 77, 78, 79, 80, 81, 82, 83, 84, 85, 86, 87, 88, 89, 90]⟩ : ByteArray), .pointer (some ⟨(lget ls 0).n, 0, none⟩), .int .i64 (0)]
  | .c1 s0_0 s0_1 s0_2 s0_3, ls => [.int .i64 (y0), .int .i64 (y2), .int .i64 ((zshl 1 ((y1 % 4#8)).toNat)), .string (⟨#[97, 98, 99, 100, 101, 102, 103, 104, 105, 106, 107, 108, 109, 110, 111, 112, 113, 114, 115, 116, 117, 118, 119, 120, 121, 122, 65, 66, 67, 68, 69, 70, 71, 72, 73, 74, 75, 76, 77, 78, 79, 80, 81, 82, 83, 84, 85, 86, 87, 88, 89, 90]⟩ : ByteArray), .pointer (some ⟨(lget ls 0).n, 0, none⟩), .int .i64 (s0_3)]
def mf_barbicanlaw4_BtfStructs_L0 : Sh_barbicanlaw4_BtfStructs_L0 → List (Nat × Nat)
  | .c0  => [(1, 1), (1, 4), (4, 105)]
  | .c1 _ _ _ _ => [(1, 1), (1, 4), (4, 105)]
noncomputable def fr_barbicanlaw4_BtfStructs_L0 (y0 : Int) (y1 : BitVec 8) (y2 : Int) (s : Sh_barbicanlaw4_BtfStructs_L0) : List L1 → List Value := mrgF (mf_barbicanlaw4_BtfStructs_L0 s) (fl_barbicanlaw4_BtfStructs_L0 y0 y1 y2 s) 2
def Hs_barbicanlaw4_BtfStructs_L0 (y0 : Int) (y1 : BitVec 8) (y2 : Int) : Sh_barbicanlaw4_BtfStructs_L0 → List L1 → List Obj
  | .c0 , ls => [.cells #[.int .i64 (4), .string (⟨#[115]⟩ : ByteArray), .int .i64 ((IntKind.i64.wrap (y0 * (IntKind.i64.wrap ((zshl 1 ((y1 % 4#8)).toNat) + y2))))), .bool false, .int .i64 (0), .int .i64 (0), .slice none 0 0] 25, unb, unb]
  | .c1 s0_0 s0_1 s0_2 s0_3, ls => [.cells #[.int .i64 (4), .string (⟨#[115]⟩ : ByteArray), .int .i64 (s0_0), .bool false, .int .i64 (0), .int .i64 (0), (rowV (lget ls 1) s0_1 3)] 25, rowO (lget ls 1) (esG c_Member s0_1 s0_2) 27 s0_1 3, unb]
def vl_barbicanlaw4_BtfStructs_L0 (y0 : Int) (y1 : BitVec 8) (y2 : Int) : Ex_barbicanlaw4_BtfStructs_L0 → List L1 → List Value
  | .e0 c0_0 c0_1 c0_2, ls => [.int .i64 (y0), .int .i64 (y2), .int .i64 ((zshl 1 ((y1 % 4#8)).toNat)), .string (⟨#[97, 98, 99, 100, 101, 102, 103, 104, 105, 106, 107, 108, 109, 110, 111, 112, 113, 114, 115, 116, 117, 118, 119, 120, 121, 122, 65, 66, 67, 68, 69, 70, 71, 72, 73, 74, 75, 76, 77, 78, 79, 80, 81, 82, 83, 84, 85, 86, 87, 88, 89, 90]⟩ : ByteArray), .pointer (some ⟨(lget ls 0).n, 0, none⟩)]
def mk_barbicanlaw4_BtfStructs_L0 : Ex_barbicanlaw4_BtfStructs_L0 → List (Nat × Nat)
  | .e0 _ _ _ => [(1, 1), (1, 4), (3, 106)]
noncomputable def vf_barbicanlaw4_BtfStructs_L0 (y0 : Int) (y1 : BitVec 8) (y2 : Int) (r : Ex_barbicanlaw4_BtfStructs_L0) : List L1 → List Value := mrgF (mk_barbicanlaw4_BtfStructs_L0 r) (vl_barbicanlaw4_BtfStructs_L0 y0 y1 y2 r) 2
def Hf_barbicanlaw4_BtfStructs_L0 (y0 : Int) (y1 : BitVec 8) (y2 : Int) : Ex_barbicanlaw4_BtfStructs_L0 → List L1 → List Obj
  | .e0 c0_0 c0_1 c0_2, ls => [.cells #[.int .i64 (4), .string (⟨#[115]⟩ : ByteArray), .int .i64 (c0_0), .bool false, .int .i64 (0), .int .i64 (0), (rowV (lget ls 1) c0_1 3)] 25, rowO (lget ls 1) (esG c_Member c0_1 c0_2) 27 c0_1 3, unb]
def ex_barbicanlaw4_BtfStructs_L0 : Ex_barbicanlaw4_BtfStructs_L0 → Ex
  | .e0 _ _ _ => (.exit 0)
section
variable {M : Nat → Prop} {B0 : Nat} {S : World → Prop} (hU : Up M B0 S) (y0 : Int) (y1 : BitVec 8) (y2 : Int)
include hU y0 y1 y2
theorem go_barbicanlaw4_BtfStructs_L0 (s : Sh_barbicanlaw4_BtfStructs_L0) (r : Ex_barbicanlaw4_BtfStructs_L0) (h : lpO (st_barbicanlaw4_BtfStructs_L0 y0 y1 y2) s = some r) : GoesG Tryd.prog M B0 S (.loop bd_barbicanlaw4_BtfStructs_L0) 3 (fr_barbicanlaw4_BtfStructs_L0 y0 y1 y2 s) (Hs_barbicanlaw4_BtfStructs_L0 y0 y1 y2 s) (ex_barbicanlaw4_BtfStructs_L0 r) 1 (vf_barbicanlaw4_BtfStructs_L0 y0 y1 y2 r) (Hf_barbicanlaw4_BtfStructs_L0 y0 y1 y2 r) 3 :=
  goes_lpO (fun s q e => by
    cases s with
    | c0  =>
      unfold st_barbicanlaw4_BtfStructs_L0 at e
      dsimp only at e
      replace e := cond_eq_or e
      rcases e with ⟨hq0, e⟩ | ⟨hq0, e⟩
      · cases e; exact goes_runM hU [.o, .o, .b (z_lssT hq0), .r [0, 1, 2, 3, 4, 5, 6, 7, 8, 9, 10, 11, 12, 13] [] [14, 15, 16, 17], .o, .a 0, .o, .o, .o, .o, .o, .o, .o, .o, .o, .o, .o, .o, .o, .x (sqAppL1_ok (ty := 23) rt23 #[false, false] (f := c_Member) (c := 1) (⟨(⟨#[97]⟩ : ByteArray), 1, (IntKind.i64.wrap (0 * (IntKind.i64.wrap ((zshl 1 ((y1 % 4#8)).toNat) + y2))))⟩ : Member) (T' := 27) c_Member_len c_Member_one (by decide)) [3], .o, .a 0, .o, .o, .o] [0, 4] (fun b => rfl) (by decide) rfl rfl (fun b => by kernel_rfl)
      · exact none_some e
    | c1 s0_0 s0_1 s0_2 s0_3 =>
      unfold st_barbicanlaw4_BtfStructs_L0 at e
      dsimp only at e
      replace e := cond_eq_or e
      rcases e with ⟨hq0, e⟩ | ⟨hq0, e⟩
      · replace e := cond_eq_or e
        rcases e with ⟨hq1, e⟩ | ⟨hq1, e⟩
        · replace e := cond_eq_or e
          rcases e with ⟨hq2, e⟩ | ⟨hq2, e⟩
          · replace e := cond_eq_or e
            rcases e with ⟨hq3, e⟩ | ⟨hq3, e⟩
            · replace e := bindT_eq e
              obtain ⟨rb0, e_rb0, e⟩ := e
              try dsimp only at e
              cases e; exact goes_runM hU [.o, .o, .b (z_lssT hq0), .r [0, 1, 2, 3, 4, 5, 6, 7, 8, 9, 10, 11, 12, 13] [] [14, 15, 16, 17], .o, .a 0, .o, .o, .o, .o, .ov (slcS_ok (T := 9) (s := (⟨#[97, 98, 99, 100, 101, 102, 103, 104, 105, 106, 107, 108, 109, 110, 111, 112, 113, 114, 115, 116, 117, 118, 119, 120, 121, 122, 65, 66, 67, 68, 69, 70, 71, 72, 73, 74, 75, 76, 77, 78, 79, 80, 81, 82, 83, 84, 85, 86, 87, 88, 89, 90]⟩ : ByteArray)) (x := s0_3) (y := (IntKind.i64.wrap (s0_3 + 1))) (by kernel_rfl) hq2 hq1), .o, .o, .o, .o, .o, .o, .o, .o, .x (sqAppLr_ok (ty := 23) rt23 #[false, false] (f := c_Member) (N := s0_1) (A := s0_2) (c := 1) [(⟨((⟨#[97, 98, 99, 100, 101, 102, 103, 104, 105, 106, 107, 108, 109, 110, 111, 112, 113, 114, 115, 116, 117, 118, 119, 120, 121, 122, 65, 66, 67, 68, 69, 70, 71, 72, 73, 74, 75, 76, 77, 78, 79, 80, 81, 82, 83, 84, 85, 86, 87, 88, 89, 90]⟩ : ByteArray).extract (s0_3).toNat ((IntKind.i64.wrap (s0_3 + 1))).toNat), 1, (IntKind.i64.wrap ((IntKind.i64.wrap (8 * s0_3)) * (IntKind.i64.wrap ((zshl 1 ((y1 % 4#8)).toNat) + y2))))⟩ : Member)] (T' := 27) .row c_Member_len c_Member_one hq3 rfl (by decide) e_rb0) [1, 3], .o, .a 0, .o, .o, .o] [0, 4] (fun b => rfl) (by decide) rfl rfl (fun b => by kernel_rfl)
            · exact none_some e
          · exact none_some e
        · exact none_some e
      · cases e; exact ⟨ne_exit 0, goes_runM hU [.o, .o, .b (z_lssF hq0)] [0, 1] (fun b => rfl) (by decide) rfl rfl (fun b => by kernel_rfl)⟩) s r h
noncomputable def t0_barbicanlaw4_BtfStructs_L0_0 (y0 : Int) (y1 : BitVec 8) (y2 : Int)  (ls : List L1) : List Value := List.append [.int .i64 (y0), .int .u8 (nn y1), .int .i64 (y2), undef, undef, undef, .bool false, .int .i64 ((zshl 1 ((y1 % 4#8)).toNat)), .string (⟨#[97, 98, 99, 100, 101, 102, 103, 104, 105, 106, 107, 108, 109, 110, 111, 112, 113, 114, 115, 116, 117, 118, 119, 120, 121, 122, 65, 66, 67, 68, 69, 70, 71, 72, 73, 74, 75, 76, 77, 78, 79, 80, 81, 82, 83, 84, 85, 86, 87, 88, 89, 90]⟩ : ByteArray), .pointer (some ⟨(lget ls 0).n, 0, none⟩), .int .i64 (0)] (List.append (und 7) (List.append [.bool true, .bool false, .int .i64 (y0), .bool false, .bool false, .int .i64 (y0), .bool false, .bool false, .bool false, .int .i64 (y2), .bool false, .bool false, .bool false, .int .i64 (y2), .bool false, .bool false, .int .u8 (nn y1), .int .u8 (nn (y1 % 4#8)), .int .i64 ((zshl 1 ((y1 % 4#8)).toNat)), .int .i64 (y0), .int .i64 ((zshl 1 ((y1 % 4#8)).toNat)), .int .i64 (y2), .int .i64 ((IntKind.i64.wrap ((zshl 1 ((y1 % 4#8)).toNat) + y2))), .int .i64 ((IntKind.i64.wrap (y0 * (IntKind.i64.wrap ((zshl 1 ((y1 % 4#8)).toNat) + y2))))), .agg #[.int .i64 (4), .string (⟨#[115]⟩ : ByteArray), .int .i64 ((IntKind.i64.wrap (y0 * (IntKind.i64.wrap ((zshl 1 ((y1 % 4#8)).toNat) + y2))))), .bool false, .int .i64 (0), .int .i64 (0), .slice none 0 0]] (und 73)))
def pre_barbicanlaw4_BtfStructs_L0_0 (y0 : Int) (y1 : BitVec 8) (y2 : Int)  (ls : List L1) : List Obj := [.cells #[.int .i64 (4), .string (⟨#[115]⟩ : ByteArray), .int .i64 ((IntKind.i64.wrap (y0 * (IntKind.i64.wrap ((zshl 1 ((y1 % 4#8)).toNat) + y2))))), .bool false, .int .i64 (0), .int .i64 (0), .slice none 0 0] 25]
theorem sp0_barbicanlaw4_BtfStructs_L0_0_ok (c0_0 : Int) (c0_1 : Nat) (c0_2 : Nat → Member) (h : lpO (st_barbicanlaw4_BtfStructs_L0 y0 y1 y2) (.c0) = some (.e0 c0_0 c0_1 c0_2)) : SpcG Tryd.prog M B0 S ⟨fun ls => .code (.loop bd_barbicanlaw4_BtfStructs_L0) (t0_barbicanlaw4_BtfStructs_L0_0 y0 y1 y2  ls), pre_barbicanlaw4_BtfStructs_L0_0 y0 y1 y2 , 2, (.exit 0), fun ls => vf_barbicanlaw4_BtfStructs_L0 y0 y1 y2 (.e0 c0_0 c0_1 c0_2) (ls.take 1 ++ ls.drop 1), fun ls => (Hf_barbicanlaw4_BtfStructs_L0 y0 y1 y2 (.e0 c0_0 c0_1 c0_2) (ls.take 1 ++ ls.drop 1)).take 1 ++ List.replicate 0 unb, fun ls => (Hf_barbicanlaw4_BtfStructs_L0 y0 y1 y2 (.e0 c0_0 c0_1 c0_2) (ls.take 1 ++ ls.drop 1)).drop 1⟩ :=
  spc_of_goesM hU 1 (k0 := 1) (go_barbicanlaw4_BtfStructs_L0 hU y0 y1 y2 _ _ h) (t0_barbicanlaw4_BtfStructs_L0_0 y0 y1 y2 ) (pre_barbicanlaw4_BtfStructs_L0_0 y0 y1 y2 ) (fun _ => rfl) (fun ls h => by match ls, h with | [l0], _ => exact ⟨by kernel_rfl, by kernel_rfl⟩) (fun ls h => by match ls, h with | [l0], _ => rfl) (by decide) (by decide) (fun ls => rfl)
inductive Sh_barbicanlaw4_BtfStructs_L1 where
  | c0 (s0_0 : Int)
inductive Ex_barbicanlaw4_BtfStructs_L1 where
  | e0 (c0_0 : Int)
  | e1 (c1_0 : Int)
noncomputable def st_barbicanlaw4_BtfStructs_L1 (y1 : BitVec 8) (y2 : Int) (g0_0 : Int) (g0_1 : Nat) (g0_2 : Nat → Member) : Sh_barbicanlaw4_BtfStructs_L1 → Option (Sh_barbicanlaw4_BtfStructs_L1 ⊕ Ex_barbicanlaw4_BtfStructs_L1)
  | .c0 s0_0 =>
    bif decide (s0_0 < g0_0) then
      ((m_btf_Field_v2 s0_0 (zshl 1 ((y1 % 4#8)).toNat) g0_0 g0_1 g0_2).bind fun gb0 => match gb0 with
      | .e0 gb0_0 gb0_1 =>
      bif (IntKind.i64.wrap ((zshl 1 ((y1 % 4#8)).toNat) + y2)) == 0 then
        (none)
      else (bif decide ((zshl 1 ((y1 % 4#8)).toNat) ≤ (zrem s0_0 (IntKind.i64.wrap ((zshl 1 ((y1 % 4#8)).toNat) + y2)))) then
        (bif gb0_1 == 41 then
          (some (.inl (.c0 (IntKind.i64.wrap (s0_0 + 1)))))
        else (some (.inr (.e1 (zshl 1 ((y1 % 4#8)).toNat)))))
      else (bif gb0_1 == 0 then
        (bif inR (IntKind.i64.wrap ((zquo s0_0 (IntKind.i64.wrap ((zshl 1 ((y1 % 4#8)).toNat) + y2))) + 1)) (52 + 1) then
          (bif inR (zquo s0_0 (IntKind.i64.wrap ((zshl 1 ((y1 % 4#8)).toNat) + y2))) (((IntKind.i64.wrap ((zquo s0_0 (IntKind.i64.wrap ((zshl 1 ((y1 % 4#8)).toNat) + y2))) + 1))).toNat + 1) then
            (bif decide ((⟨#[46]⟩ : ByteArray).size + ((⟨#[97, 98, 99, 100, 101, 102, 103, 104, 105, 106, 107, 108, 109, 110, 111, 112, 113, 114, 115, 116, 117, 118, 119, 120, 121, 122, 65, 66, 67, 68, 69, 70, 71, 72, 73, 74, 75, 76, 77, 78, 79, 80, 81, 82, 83, 84, 85, 86, 87, 88, 89, 90]⟩ : ByteArray).extract ((zquo s0_0 (IntKind.i64.wrap ((zshl 1 ((y1 % 4#8)).toNat) + y2)))).toNat ((IntKind.i64.wrap ((zquo s0_0 (IntKind.i64.wrap ((zshl 1 ((y1 % 4#8)).toNat) + y2))) + 1))).toNat).size ≤ 9223372036854775807) then
              (bif gb0_0 != ((⟨#[46]⟩ : ByteArray) ++ ((⟨#[97, 98, 99, 100, 101, 102, 103, 104, 105, 106, 107, 108, 109, 110, 111, 112, 113, 114, 115, 116, 117, 118, 119, 120, 121, 122, 65, 66, 67, 68, 69, 70, 71, 72, 73, 74, 75, 76, 77, 78, 79, 80, 81, 82, 83, 84, 85, 86, 87, 88, 89, 90]⟩ : ByteArray).extract ((zquo s0_0 (IntKind.i64.wrap ((zshl 1 ((y1 % 4#8)).toNat) + y2)))).toNat ((IntKind.i64.wrap ((zquo s0_0 (IntKind.i64.wrap ((zshl 1 ((y1 % 4#8)).toNat) + y2))) + 1))).toNat)) then
                (some (.inr (.e1 (zshl 1 ((y1 % 4#8)).toNat))))
              else (some (.inl (.c0 (IntKind.i64.wrap (s0_0 + 1))))))
            else (none))
          else (none))
        else (none))
      else (some (.inr (.e1 (zshl 1 ((y1 % 4#8)).toNat)))))))
    else (some (.inr (.e0 (zshl 1 ((y1 % 4#8)).toNat))))
noncomputable def bd_barbicanlaw4_BtfStructs_L1 : Code := codeOf Tryd.f3 [1, 1, 1, 1, 1, 1, 1, 1, 0, 1, 0, 0]
def fl_barbicanlaw4_BtfStructs_L1 (y0 : Int) (y1 : BitVec 8) (y2 : Int) (g0_0 : Int) (g0_1 : Nat) (g0_2 : Nat → Member) : Sh_barbicanlaw4_BtfStructs_L1 → List L1 → List Value
  | .c0 s0_0, ls => [.int .i64 (y2), .int .i64 ((zshl 1 ((y1 % 4#8)).toNat)), .string (⟨#[97, 98, 99, 100, 101, 102, 103, 104, 105, 106, 107, 108, 109, 110, 111, 112, 113, 114, 115, 116, 117, 118, 119, 120, 121, 122, 65, 66, 67, 68, 69, 70, 71, 72, 73, 74, 75, 76, 77, 78, 79, 80, 81, 82, 83, 84, 85, 86, 87, 88, 89, 90]⟩ : ByteArray), .pointer (some ⟨(lget ls 0).n, 0, none⟩), .slice (some ⟨(lget ls 3).n, 0, none⟩) 2 2, .int .i64 (s0_0)]
def mf_barbicanlaw4_BtfStructs_L1 : Sh_barbicanlaw4_BtfStructs_L1 → List (Nat × Nat)
  | .c0 _ => [(0, 2), (1, 4), (3, 1), (2, 103)]
noncomputable def fr_barbicanlaw4_BtfStructs_L1 (y0 : Int) (y1 : BitVec 8) (y2 : Int) (g0_0 : Int) (g0_1 : Nat) (g0_2 : Nat → Member) (s : Sh_barbicanlaw4_BtfStructs_L1) : List L1 → List Value := mrgF (mf_barbicanlaw4_BtfStructs_L1 s) (fl_barbicanlaw4_BtfStructs_L1 y0 y1 y2 g0_0 g0_1 g0_2 s) 4
def Hs_barbicanlaw4_BtfStructs_L1 (y0 : Int) (y1 : BitVec 8) (y2 : Int) (g0_0 : Int) (g0_1 : Nat) (g0_2 : Nat → Member) : Sh_barbicanlaw4_BtfStructs_L1 → List L1 → List Obj
  | .c0 s0_0, ls => [.cells #[.int .i64 (4), .string (⟨#[115]⟩ : ByteArray), .int .i64 (g0_0), .bool false, .int .i64 (0), .int .i64 (0), (rowV (lget ls 1) g0_1 3)] 25, rowO (lget ls 1) (esG c_Member g0_1 g0_2) 27 g0_1 3, unb, .cells #[.int .i64 (1), .string (⟨#[117, 110, 105, 116]⟩ : ByteArray), .int .i64 ((zshl 1 ((y1 % 4#8)).toNat)), .bool false, .int .i64 (0), .int .i64 (0), .slice none 0 0, .int .i64 (4), .string (⟨#[115]⟩ : ByteArray), .int .i64 (g0_0), .bool false, .int .i64 (0), .int .i64 (0), (rowV (lget ls 1) g0_1 3)] 25, unb]
def vl_barbicanlaw4_BtfStructs_L1 (y0 : Int) (y1 : BitVec 8) (y2 : Int) (g0_0 : Int) (g0_1 : Nat) (g0_2 : Nat → Member) : Ex_barbicanlaw4_BtfStructs_L1 → List L1 → List Value
  | .e0 c0_0, ls => [.int .i64 (y2), .int .i64 ((zshl 1 ((y1 % 4#8)).toNat)), .string (⟨#[97, 98, 99, 100, 101, 102, 103, 104, 105, 106, 107, 108, 109, 110, 111, 112, 113, 114, 115, 116, 117, 118, 119, 120, 121, 122, 65, 66, 67, 68, 69, 70, 71, 72, 73, 74, 75, 76, 77, 78, 79, 80, 81, 82, 83, 84, 85, 86, 87, 88, 89, 90]⟩ : ByteArray), .pointer (some ⟨(lget ls 0).n, 0, none⟩), .slice (some ⟨(lget ls 3).n, 0, none⟩) 2 2]
  | .e1 c1_0, ls => [.int .i64 (y2), .bool false, .int .i64 ((zshl 1 ((y1 % 4#8)).toNat)), .string (⟨#[97, 98, 99, 100, 101, 102, 103, 104, 105, 106, 107, 108, 109, 110, 111, 112, 113, 114, 115, 116, 117, 118, 119, 120, 121, 122, 65, 66, 67, 68, 69, 70, 71, 72, 73, 74, 75, 76, 77, 78, 79, 80, 81, 82, 83, 84, 85, 86, 87, 88, 89, 90]⟩ : ByteArray), .pointer (some ⟨(lget ls 0).n, 0, none⟩), .slice (some ⟨(lget ls 3).n, 0, none⟩) 2 2]
def mk_barbicanlaw4_BtfStructs_L1 : Ex_barbicanlaw4_BtfStructs_L1 → List (Nat × Nat)
  | .e0 _ => [(0, 2), (1, 4), (3, 1), (1, 104)]
  | .e1 _ => [(0, 2), (1, 3), (4, 1), (1, 104)]
noncomputable def vf_barbicanlaw4_BtfStructs_L1 (y0 : Int) (y1 : BitVec 8) (y2 : Int) (g0_0 : Int) (g0_1 : Nat) (g0_2 : Nat → Member) (r : Ex_barbicanlaw4_BtfStructs_L1) : List L1 → List Value := mrgF (mk_barbicanlaw4_BtfStructs_L1 r) (vl_barbicanlaw4_BtfStructs_L1 y0 y1 y2 g0_0 g0_1 g0_2 r) 4
def Hf_barbicanlaw4_BtfStructs_L1 (y0 : Int) (y1 : BitVec 8) (y2 : Int) (g0_0 : Int) (g0_1 : Nat) (g0_2 : Nat → Member) : Ex_barbicanlaw4_BtfStructs_L1 → List L1 → List Obj
  | .e0 c0_0, ls => [.cells #[.int .i64 (4), .string (⟨#[115]⟩ : ByteArray), .int .i64 (g0_0), .bool false, .int .i64 (0), .int .i64 (0), (rowV (lget ls 1) g0_1 3)] 25, rowO (lget ls 1) (esG c_Member g0_1 g0_2) 27 g0_1 3, unb, .cells #[.int .i64 (1), .string (⟨#[117, 110, 105, 116]⟩ : ByteArray), .int .i64 (c0_0), .bool false, .int .i64 (0), .int .i64 (0), .slice none 0 0, .int .i64 (4), .string (⟨#[115]⟩ : ByteArray), .int .i64 (g0_0), .bool false, .int .i64 (0), .int .i64 (0), (rowV (lget ls 1) g0_1 3)] 25, unb]
  | .e1 c1_0, ls => [.cells #[.int .i64 (4), .string (⟨#[115]⟩ : ByteArray), .int .i64 (g0_0), .bool false, .int .i64 (0), .int .i64 (0), (rowV (lget ls 1) g0_1 3)] 25, rowO (lget ls 1) (esG c_Member g0_1 g0_2) 27 g0_1 3, unb, .cells #[.int .i64 (1), .string (⟨#[117, 110, 105, 116]⟩ : ByteArray), .int .i64 (c1_0), .bool false, .int .i64 (0), .int .i64 (0), .slice none 0 0, .int .i64 (4), .string (⟨#[115]⟩ : ByteArray), .int .i64 (g0_0), .bool false, .int .i64 (0), .int .i64 (0), (rowV (lget ls 1) g0_1 3)] 25, unb]
def ex_barbicanlaw4_BtfStructs_L1 : Ex_barbicanlaw4_BtfStructs_L1 → Ex
  | .e0 _ => (.exit 2)
  | .e1 _ => .ret
theorem go_barbicanlaw4_BtfStructs_L1 (g0_0 : Int) (g0_1 : Nat) (g0_2 : Nat → Member) (s : Sh_barbicanlaw4_BtfStructs_L1) (r : Ex_barbicanlaw4_BtfStructs_L1) (h : lpO (st_barbicanlaw4_BtfStructs_L1 y1 y2 g0_0 g0_1 g0_2) s = some r) : GoesG Tryd.prog M B0 S (.loop bd_barbicanlaw4_BtfStructs_L1) 5 (fr_barbicanlaw4_BtfStructs_L1 y0 y1 y2 g0_0 g0_1 g0_2 s) (Hs_barbicanlaw4_BtfStructs_L1 y0 y1 y2 g0_0 g0_1 g0_2 s) (ex_barbicanlaw4_BtfStructs_L1 r) 4 (vf_barbicanlaw4_BtfStructs_L1 y0 y1 y2 g0_0 g0_1 g0_2 r) (Hf_barbicanlaw4_BtfStructs_L1 y0 y1 y2 g0_0 g0_1 g0_2 r) 5 :=
  goes_lpO (fun s q e => by
    cases s with
    | c0 s0_0 =>
      unfold st_barbicanlaw4_BtfStructs_L1 at e
      dsimp only at e
      replace e := cond_eq_or e
      rcases e with ⟨hq0, e⟩ | ⟨hq0, e⟩
      · replace e := bindO_eq e
        obtain ⟨gb0, e_gb0, e⟩ := e
        obtain ⟨gb0_0, gb0_1⟩ := gb0
        try dsimp only at e
        replace e := cond_eq_or e
        rcases e with ⟨hq1, e⟩ | ⟨hq1, e⟩
        · exact none_some e
        · replace e := cond_eq_or e
          rcases e with ⟨hq2, e⟩ | ⟨hq2, e⟩
          · replace e := cond_eq_or e
            rcases e with ⟨hq3, e⟩ | ⟨hq3, e⟩
            · cases e; exact goes_runM hU [.o, .o, .a 0, .b (z_lssT hq0), .o, .o, .xg (ok0_btf_Field_v2 hU s0_0 (zshl 1 ((y1 % 4#8)).toNat) g0_0 g0_1 g0_2 gb0_0 gb0_1 e_gb0) [3, 1], .o, .o, .o, .o, .o, .o, .o, .o, .o, .ov (z_rem Tryd.prog 3 (.tmp 81) (.tmp 84) s0_0 (IntKind.i64.wrap ((zshl 1 ((y1 % 4#8)).toNat) + y2)) (z_nz hq1)), .o, .b (z_geqT hq2), .o, .b (z_neqT hq3), .o, .o, .o] [0, 1, 2, 3] (fun b => rfl) (by decide) rfl rfl (fun b => by kernel_rfl)
            · cases e; exact ⟨ne_ret, goes_runM hU [.o, .o, .a 0, .b (z_lssT hq0), .o, .o, .xg (ok0_btf_Field_v2 hU s0_0 (zshl 1 ((y1 % 4#8)).toNat) g0_0 g0_1 g0_2 gb0_0 gb0_1 e_gb0) [3, 1], .o, .o, .o, .o, .o, .o, .o, .o, .o, .ov (z_rem Tryd.prog 3 (.tmp 81) (.tmp 84) s0_0 (IntKind.i64.wrap ((zshl 1 ((y1 % 4#8)).toNat) + y2)) (z_nz hq1)), .o, .b (z_geqT hq2), .o, .b (z_neqF hq3), .o] [0, 1, 2, 3] (fun b => rfl) (by decide) rfl rfl (fun b => by kernel_rfl)⟩
          · replace e := cond_eq_or e
            rcases e with ⟨hq3, e⟩ | ⟨hq3, e⟩
            · replace e := cond_eq_or e
              rcases e with ⟨hq4, e⟩ | ⟨hq4, e⟩
              · replace e := cond_eq_or e
                rcases e with ⟨hq5, e⟩ | ⟨hq5, e⟩
                · replace e := cond_eq_or e
                  rcases e with ⟨hq6, e⟩ | ⟨hq6, e⟩
                  · replace e := cond_eq_or e
                    rcases e with ⟨hq7, e⟩ | ⟨hq7, e⟩
                    · cases e; exact ⟨ne_ret, goes_runM hU [.o, .o, .a 0, .b (z_lssT hq0), .o, .o, .xg (ok0_btf_Field_v2 hU s0_0 (zshl 1 ((y1 % 4#8)).toNat) g0_0 g0_1 g0_2 gb0_0 gb0_1 e_gb0) [3, 1], .o, .o, .o, .o, .o, .o, .o, .o, .o, .ov (z_rem Tryd.prog 3 (.tmp 81) (.tmp 84) s0_0 (IntKind.i64.wrap ((zshl 1 ((y1 % 4#8)).toNat) + y2)) (z_nz hq1)), .o, .b (z_geqF hq2), .o, .o, .o, .o, .ov (z_quo Tryd.prog 3 (.tmp 90) (.tmp 93) s0_0 (IntKind.i64.wrap ((zshl 1 ((y1 % 4#8)).toNat) + y2)) (z_nz hq1)), .o, .o, .b (z_neqT hq3), .o, .o, .o, .o, .o, .o, .ov (slcS_ok (T := 9) (s := (⟨#[97, 98, 99, 100, 101, 102, 103, 104, 105, 106, 107, 108, 109, 110, 111, 112, 113, 114, 115, 116, 117, 118, 119, 120, 121, 122, 65, 66, 67, 68, 69, 70, 71, 72, 73, 74, 75, 76, 77, 78, 79, 80, 81, 82, 83, 84, 85, 86, 87, 88, 89, 90]⟩ : ByteArray)) (x := (zquo s0_0 (IntKind.i64.wrap ((zshl 1 ((y1 % 4#8)).toNat) + y2)))) (y := (IntKind.i64.wrap ((zquo s0_0 (IntKind.i64.wrap ((zshl 1 ((y1 % 4#8)).toNat) + y2))) + 1))) (by kernel_rfl) hq5 hq4), .ov (catS_ok 9 (⟨#[46]⟩ : ByteArray) ((⟨#[97, 98, 99, 100, 101, 102, 103, 104, 105, 106, 107, 108, 109, 110, 111, 112, 113, 114, 115, 116, 117, 118, 119, 120, 121, 122, 65, 66, 67, 68, 69, 70, 71, 72, 73, 74, 75, 76, 77, 78, 79, 80, 81, 82, 83, 84, 85, 86, 87, 88, 89, 90]⟩ : ByteArray).extract ((zquo s0_0 (IntKind.i64.wrap ((zshl 1 ((y1 % 4#8)).toNat) + y2)))).toNat ((IntKind.i64.wrap ((zquo s0_0 (IntKind.i64.wrap ((zshl 1 ((y1 % 4#8)).toNat) + y2))) + 1))).toNat) (.const (.string (⟨#[46]⟩ : ByteArray))) (.tmp 103) (by kernel_rfl) hq6), .ov (fun w => (neqS_ok 9 gb0_0 ((⟨#[46]⟩ : ByteArray) ++ ((⟨#[97, 98, 99, 100, 101, 102, 103, 104, 105, 106, 107, 108, 109, 110, 111, 112, 113, 114, 115, 116, 117, 118, 119, 120, 121, 122, 65, 66, 67, 68, 69, 70, 71, 72, 73, 74, 75, 76, 77, 78, 79, 80, 81, 82, 83, 84, 85, 86, 87, 88, 89, 90]⟩ : ByteArray).extract ((zquo s0_0 (IntKind.i64.wrap ((zshl 1 ((y1 % 4#8)).toNat) + y2)))).toNat ((IntKind.i64.wrap ((zquo s0_0 (IntKind.i64.wrap ((zshl 1 ((y1 % 4#8)).toNat) + y2))) + 1))).toNat)) (by kernel_rfl) (.tmp 98) (.tmp 104) w).trans (congrArg (fun b => Result.ok (Next.value (Value.bool b)) w) hq7)), .o, .o] [0, 1, 2, 3] (fun b => rfl) (by decide) rfl rfl (fun b => by kernel_rfl)⟩
                    · cases e; exact goes_runM hU [.o, .o, .a 0, .b (z_lssT hq0), .o, .o, .xg (ok0_btf_Field_v2 hU s0_0 (zshl 1 ((y1 % 4#8)).toNat) g0_0 g0_1 g0_2 gb0_0 gb0_1 e_gb0) [3, 1], .o, .o, .o, .o, .o, .o, .o, .o, .o, .ov (z_rem Tryd.prog 3 (.tmp 81) (.tmp 84) s0_0 (IntKind.i64.wrap ((zshl 1 ((y1 % 4#8)).toNat) + y2)) (z_nz hq1)), .o, .b (z_geqF hq2), .o, .o, .o, .o, .ov (z_quo Tryd.prog 3 (.tmp 90) (.tmp 93) s0_0 (IntKind.i64.wrap ((zshl 1 ((y1 % 4#8)).toNat) + y2)) (z_nz hq1)), .o, .o, .b (z_neqT hq3), .o, .o, .o, .o, .o, .o, .ov (slcS_ok (T := 9) (s := (⟨#[97, 98, 99, 100, 101, 102, 103, 104, 105, 106, 107, 108, 109, 110, 111, 112, 113, 114, 115, 116, 117, 118, 119, 120, 121, 122, 65, 66, 67, 68, 69, 70, 71, 72, 73, 74, 75, 76, 77, 78, 79, 80, 81, 82, 83, 84, 85, 86, 87, 88, 89, 90]⟩ : ByteArray)) (x := (zquo s0_0 (IntKind.i64.wrap ((zshl 1 ((y1 % 4#8)).toNat) + y2)))) (y := (IntKind.i64.wrap ((zquo s0_0 (IntKind.i64.wrap ((zshl 1 ((y1 % 4#8)).toNat) + y2))) + 1))) (by kernel_rfl) hq5 hq4), .ov (catS_ok 9 (⟨#[46]⟩ : ByteArray) ((⟨#[97, 98, 99, 100, 101, 102, 103, 104, 105, 106, 107, 108, 109, 110, 111, 112, 113, 114, 115, 116, 117, 118, 119, 120, 121, 122, 65, 66, 67, 68, 69, 70, 71, 72, 73, 74, 75, 76, 77, 78, 79, 80, 81, 82, 83, 84, 85, 86, 87, 88, 89, 90]⟩ : ByteArray).extract ((zquo s0_0 (IntKind.i64.wrap ((zshl 1 ((y1 % 4#8)).toNat) + y2)))).toNat ((IntKind.i64.wrap ((zquo s0_0 (IntKind.i64.wrap ((zshl 1 ((y1 % 4#8)).toNat) + y2))) + 1))).toNat) (.const (.string (⟨#[46]⟩ : ByteArray))) (.tmp 103) (by kernel_rfl) hq6), .ov (fun w => (neqS_ok 9 gb0_0 ((⟨#[46]⟩ : ByteArray) ++ ((⟨#[97, 98, 99, 100, 101, 102, 103, 104, 105, 106, 107, 108, 109, 110, 111, 112, 113, 114, 115, 116, 117, 118, 119, 120, 121, 122, 65, 66, 67, 68, 69, 70, 71, 72, 73, 74, 75, 76, 77, 78, 79, 80, 81, 82, 83, 84, 85, 86, 87, 88, 89, 90]⟩ : ByteArray).extract ((zquo s0_0 (IntKind.i64.wrap ((zshl 1 ((y1 % 4#8)).toNat) + y2)))).toNat ((IntKind.i64.wrap ((zquo s0_0 (IntKind.i64.wrap ((zshl 1 ((y1 % 4#8)).toNat) + y2))) + 1))).toNat)) (by kernel_rfl) (.tmp 98) (.tmp 104) w).trans (congrArg (fun b => Result.ok (Next.value (Value.bool b)) w) hq7)), .o, .o, .o, .o] [0, 1, 2, 3] (fun b => rfl) (by decide) rfl rfl (fun b => by kernel_rfl)
                  · exact none_some e
                · exact none_some e
              · exact none_some e
            · cases e; exact ⟨ne_ret, goes_runM hU [.o, .o, .a 0, .b (z_lssT hq0), .o, .o, .xg (ok0_btf_Field_v2 hU s0_0 (zshl 1 ((y1 % 4#8)).toNat) g0_0 g0_1 g0_2 gb0_0 gb0_1 e_gb0) [3, 1], .o, .o, .o, .o, .o, .o, .o, .o, .o, .ov (z_rem Tryd.prog 3 (.tmp 81) (.tmp 84) s0_0 (IntKind.i64.wrap ((zshl 1 ((y1 % 4#8)).toNat) + y2)) (z_nz hq1)), .o, .b (z_geqF hq2), .o, .o, .o, .o, .ov (z_quo Tryd.prog 3 (.tmp 90) (.tmp 93) s0_0 (IntKind.i64.wrap ((zshl 1 ((y1 % 4#8)).toNat) + y2)) (z_nz hq1)), .o, .o, .b (z_neqF hq3), .o, .o, .o] [0, 1, 2, 3] (fun b => rfl) (by decide) rfl rfl (fun b => by kernel_rfl)⟩
      · cases e; exact ⟨ne_exit 2, goes_runM hU [.o, .o, .a 0, .b (z_lssF hq0)] [0, 1, 2, 3] (fun b => rfl) (by decide) rfl rfl (fun b => by kernel_rfl)⟩) s r h
noncomputable def t0_barbicanlaw4_BtfStructs_L1_0 (y0 : Int) (y1 : BitVec 8) (y2 : Int) (g0_0 : Int) (g0_1 : Nat) (g0_2 : Nat → Member) (s0_0 : Int) (ls : List L1) : List Value := List.append [.int .i64 (y0), ((lget ls 2).u 1), .int .i64 (y2)] (List.append (jks (lget ls 2).u 3 4) (List.append [.int .i64 ((zshl 1 ((y1 % 4#8)).toNat)), .string (⟨#[97, 98, 99, 100, 101, 102, 103, 104, 105, 106, 107, 108, 109, 110, 111, 112, 113, 114, 115, 116, 117, 118, 119, 120, 121, 122, 65, 66, 67, 68, 69, 70, 71, 72, 73, 74, 75, 76, 77, 78, 79, 80, 81, 82, 83, 84, 85, 86, 87, 88, 89, 90]⟩ : ByteArray), .pointer (some ⟨(lget ls 0).n, 0, none⟩), ((lget ls 2).u 10), .slice (some ⟨(lget ls 3).n, 0, none⟩) 2 2, .int .i64 (s0_0)] (List.append (jks (lget ls 2).u 13 52) (List.append [.int .i64 ((zshl 1 ((y1 % 4#8)).toNat)), .agg #[.int .i64 (1), .string (⟨#[117, 110, 105, 116]⟩ : ByteArray), .int .i64 ((zshl 1 ((y1 % 4#8)).toNat)), .bool false, .int .i64 (0), .int .i64 (0), .slice none 0 0], .agg #[.int .i64 (4), .string (⟨#[115]⟩ : ByteArray), .int .i64 (g0_0), .bool false, .int .i64 (0), .int .i64 (0), (rowV (lget ls 1) g0_1 3)], .slice (some ⟨(lget ls 3).n, 0, none⟩) 2 2] (jks (lget ls 2).u 69 47)))))
def pre_barbicanlaw4_BtfStructs_L1_0 (y0 : Int) (y1 : BitVec 8) (y2 : Int) (g0_0 : Int) (g0_1 : Nat) (g0_2 : Nat → Member) (s0_0 : Int) (ls : List L1) : List Obj := [.cells #[.int .i64 (4), .string (⟨#[115]⟩ : ByteArray), .int .i64 (g0_0), .bool false, .int .i64 (0), .int .i64 (0), (rowV (lget ls 1) g0_1 3)] 25, rowO (lget ls 1) (esG c_Member g0_1 g0_2) 27 g0_1 3, unb, .cells #[.int .i64 (1), .string (⟨#[117, 110, 105, 116]⟩ : ByteArray), .int .i64 ((zshl 1 ((y1 % 4#8)).toNat)), .bool false, .int .i64 (0), .int .i64 (0), .slice none 0 0, .int .i64 (4), .string (⟨#[115]⟩ : ByteArray), .int .i64 (g0_0), .bool false, .int .i64 (0), .int .i64 (0), (rowV (lget ls 1) g0_1 3)] 25]
theorem sp0_barbicanlaw4_BtfStructs_L1_0_ok (g0_0 : Int) (g0_1 : Nat) (g0_2 : Nat → Member) (s0_0 : Int) (c0_0 : Int) (h : lpO (st_barbicanlaw4_BtfStructs_L1 y1 y2 g0_0 g0_1 g0_2) (.c0 s0_0) = some (.e0 c0_0)) : SpcG Tryd.prog M B0 S ⟨fun ls => .code (.loop bd_barbicanlaw4_BtfStructs_L1) (t0_barbicanlaw4_BtfStructs_L1_0 y0 y1 y2 g0_0 g0_1 g0_2 s0_0 ls), pre_barbicanlaw4_BtfStructs_L1_0 y0 y1 y2 g0_0 g0_1 g0_2 s0_0, 1, (.exit 2), fun ls => vf_barbicanlaw4_BtfStructs_L1 y0 y1 y2 g0_0 g0_1 g0_2 (.e0 c0_0) (ls.take 4 ++ ls.drop 4), fun ls => (Hf_barbicanlaw4_BtfStructs_L1 y0 y1 y2 g0_0 g0_1 g0_2 (.e0 c0_0) (ls.take 4 ++ ls.drop 4)).take 4 ++ List.replicate 0 unb, fun ls => (Hf_barbicanlaw4_BtfStructs_L1 y0 y1 y2 g0_0 g0_1 g0_2 (.e0 c0_0) (ls.take 4 ++ ls.drop 4)).drop 4⟩ :=
  spc_of_goesM hU 0 (k0 := 4) (go_barbicanlaw4_BtfStructs_L1 hU y0 y1 y2 g0_0 g0_1 g0_2 _ _ h) (t0_barbicanlaw4_BtfStructs_L1_0 y0 y1 y2 g0_0 g0_1 g0_2 s0_0) (pre_barbicanlaw4_BtfStructs_L1_0 y0 y1 y2 g0_0 g0_1 g0_2 s0_0) (fun _ => rfl) (fun ls h => by match ls, h with | [l0, l1, l2, l3], _ => exact ⟨by kernel_rfl, by kernel_rfl⟩) (fun ls h => by match ls, h with | [l0, l1, l2, l3], _ => rfl) (by decide) (by decide) (fun ls => rfl)
theorem sp1_barbicanlaw4_BtfStructs_L1_0_ok (g0_0 : Int) (g0_1 : Nat) (g0_2 : Nat → Member) (s0_0 : Int) (c1_0 : Int) (h : lpO (st_barbicanlaw4_BtfStructs_L1 y1 y2 g0_0 g0_1 g0_2) (.c0 s0_0) = some (.e1 c1_0)) : SpcG Tryd.prog M B0 S ⟨fun ls => .code (.loop bd_barbicanlaw4_BtfStructs_L1) (t0_barbicanlaw4_BtfStructs_L1_0 y0 y1 y2 g0_0 g0_1 g0_2 s0_0 ls), pre_barbicanlaw4_BtfStructs_L1_0 y0 y1 y2 g0_0 g0_1 g0_2 s0_0, 1, .ret, fun ls => vf_barbicanlaw4_BtfStructs_L1 y0 y1 y2 g0_0 g0_1 g0_2 (.e1 c1_0) (ls.take 4 ++ ls.drop 4), fun ls => (Hf_barbicanlaw4_BtfStructs_L1 y0 y1 y2 g0_0 g0_1 g0_2 (.e1 c1_0) (ls.take 4 ++ ls.drop 4)).take 4 ++ List.replicate 0 unb, fun ls => (Hf_barbicanlaw4_BtfStructs_L1 y0 y1 y2 g0_0 g0_1 g0_2 (.e1 c1_0) (ls.take 4 ++ ls.drop 4)).drop 4⟩ :=
  spc_of_goesM hU 0 (k0 := 4) (go_barbicanlaw4_BtfStructs_L1 hU y0 y1 y2 g0_0 g0_1 g0_2 _ _ h) (t0_barbicanlaw4_BtfStructs_L1_0 y0 y1 y2 g0_0 g0_1 g0_2 s0_0) (pre_barbicanlaw4_BtfStructs_L1_0 y0 y1 y2 g0_0 g0_1 g0_2 s0_0) (fun _ => rfl) (fun ls h => by match ls, h with | [l0, l1, l2, l3], _ => exact ⟨by kernel_rfl, by kernel_rfl⟩) (fun ls h => by match ls, h with | [l0, l1, l2, l3], _ => rfl) (by decide) (by decide) (fun ls => rfl)
noncomputable def m_barbicanlaw4_BtfStructs (y0 : Int) (y1 : BitVec 8) (y2 : Int) : Option (Bool) :=
  bif decide (y0 < 1) then
    (some true)
  else (bif decide (40 < y0) then
    (some true)
  else (bif decide (y2 < 0) then
    (some true)
  else (bif decide (8 < y2) then
    (some true)
  else ((lpO (st_barbicanlaw4_BtfStructs_L0 y0 y1 y2) (.c0)).bind fun g0 => match g0 with
  | .e0 g0_0 g0_1 g0_2 =>
  (lpO (st_barbicanlaw4_BtfStructs_L1 y1 y2 g0_0 g0_1 g0_2) (.c0 0)).bind fun g1 => match g1 with
  | .e0 g1_0 => ((m_btf_Field_v2 g0_0 g1_0 g0_0 g0_1 g0_2).bind fun g2 => match g2 with
    | .e0 g2_0 g2_1 =>
    some (g2_1 == 43))
  | .e1 g1_0 => (some false)))))
theorem ok_barbicanlaw4_BtfStructs (r : Bool) (e : m_barbicanlaw4_BtfStructs y0 y1 y2 = some r) : ConG Tryd.prog S 3 #[.int .i64 (y0), .int .u8 (nn y1), .int .i64 (y2)] (.bool (r)) := by
  unfold m_barbicanlaw4_BtfStructs at e
  replace e := cond_eq_or e
  rcases e with ⟨hq0, e⟩ | ⟨hq0, e⟩
  · injection e with e; subst e; exact fn_conG hU (P := Tryd.prog) Tryd.func3 (fun xs w => by kernel_rfl) _ _ [.o, .cg (ok_barbicanlaw4_known hU  ), .o, .o, .b (z_lssT hq0), .o, .o, .o, .o, .o, .o, .o] [] (fun b => by kernel_rfl)
  · replace e := cond_eq_or e
    rcases e with ⟨hq1, e⟩ | ⟨hq1, e⟩
    · injection e with e; subst e; exact fn_conG hU (P := Tryd.prog) Tryd.func3 (fun xs w => by kernel_rfl) _ _ [.o, .cg (ok_barbicanlaw4_known hU  ), .o, .o, .b (z_lssF hq0), .o, .o, .b (z_gtrT hq1), .o, .o, .o, .o, .o, .o] [] (fun b => by kernel_rfl)
    · replace e := cond_eq_or e
      rcases e with ⟨hq2, e⟩ | ⟨hq2, e⟩
      · injection e with e; subst e; exact fn_conG hU (P := Tryd.prog) Tryd.func3 (fun xs w => by kernel_rfl) _ _ [.o, .cg (ok_barbicanlaw4_known hU  ), .o, .o, .b (z_lssF hq0), .o, .o, .b (z_gtrF hq1), .o, .o, .o, .b (z_lssT hq2), .o, .o, .o, .o] [] (fun b => by kernel_rfl)
      · replace e := cond_eq_or e
        rcases e with ⟨hq3, e⟩ | ⟨hq3, e⟩
        · injection e with e; subst e; exact fn_conG hU (P := Tryd.prog) Tryd.func3 (fun xs w => by kernel_rfl) _ _ [.o, .cg (ok_barbicanlaw4_known hU  ), .o, .o, .b (z_lssF hq0), .o, .o, .b (z_gtrF hq1), .o, .o, .o, .b (z_lssF hq2), .o, .o, .o, .b (z_gtrT hq3), .o, .o] [] (fun b => by kernel_rfl)
        · replace e := bindO_eq e
          obtain ⟨g0, e_g0, e⟩ := e
          obtain ⟨g0_0, g0_1, g0_2⟩ := g0
          try dsimp only at e
          replace e := bindO_eq e
          obtain ⟨g1, e_g1, e⟩ := e
          rcases g1 with ⟨g1_0⟩ | ⟨g1_0⟩
          · try dsimp only at e
            replace e := bindO_eq e
            obtain ⟨g2, e_g2, e⟩ := e
            obtain ⟨g2_0, g2_1⟩ := g2
            try dsimp only at e
            injection e with e; subst e; exact fn_conG hU (P := Tryd.prog) Tryd.func3 (fun xs w => by kernel_rfl) _ _ [.o, .cg (ok_barbicanlaw4_known hU  ), .o, .o, .b (z_lssF hq0), .o, .o, .b (z_gtrF hq1), .o, .o, .o, .b (z_lssF hq2), .o, .o, .o, .b (z_gtrF hq3), .o, .o, .ov (u8_rem Tryd.prog 5 (.tmp 34) (.const (.int .u8 (4))) y1 (4#8) (by decide)), .ov (z_shl Tryd.prog 3 (.const (.int .i64 (1))) (.tmp 35) 1 ((y1 % 4#8)).toNat .u8 rfl), .o, .o, .o, .o, .o, .o, .o, .o, .o, .a 0, .o, .cp, .cx (sp0_barbicanlaw4_BtfStructs_L0_0_ok hU y0 y1 y2  g0_0 g0_1 g0_2 e_g0) [0], .o, .o, .a 0, .o, .o, .o, .cp, .cx (sp0_barbicanlaw4_BtfStructs_L1_0_ok hU y0 y1 y2 g0_0 g0_1 g0_2 0 g1_0 e_g1) [0, 1, 2, 3], .o, .o, .a 0, .xg (ok0_btf_Field_v2 hU g0_0 g1_0 g0_0 g0_1 g0_2 g2_0 g2_1 e_g2) [3, 1], .o, .o, .o, .o, .o, .o, .o, .o] [] (fun b => by kernel_rfl)
          · try dsimp only at e
            injection e with e; subst e; exact fn_conG hU (P := Tryd.prog) Tryd.func3 (fun xs w => by kernel_rfl) _ _ [.o, .cg (ok_barbicanlaw4_known hU  ), .o, .o, .b (z_lssF hq0), .o, .o, .b (z_gtrF hq1), .o, .o, .o, .b (z_lssF hq2), .o, .o, .o, .b (z_gtrF hq3), .o, .o, .ov (u8_rem Tryd.prog 5 (.tmp 34) (.const (.int .u8 (4))) y1 (4#8) (by decide)), .ov (z_shl Tryd.prog 3 (.const (.int .i64 (1))) (.tmp 35) 1 ((y1 % 4#8)).toNat .u8 rfl), .o, .o, .o, .o, .o, .o, .o, .o, .o, .a 0, .o, .cp, .cx (sp0_barbicanlaw4_BtfStructs_L0_0_ok hU y0 y1 y2  g0_0 g0_1 g0_2 e_g0) [0], .o, .o, .a 0, .o, .o, .o, .cp, .cx (sp1_barbicanlaw4_BtfStructs_L1_0_ok hU y0 y1 y2 g0_0 g0_1 g0_2 0 g1_0 e_g1) [0, 1, 2, 3]] [] (fun b => by kernel_rfl)
end

end Go.Proofs.YtfphpdhjcbhehaaDoor
