/-
  The law on rows of comparisons, by the program's text.
-/
import Derived.Test.YtdgehbjiphahhaaCDKb
namespace Go.Proofs.Ytdgehbjiphahhaa
open Go.RowKit
set_option linter.unusedVariables false
set_option linter.unusedSimpArgs false
set_option linter.unusedSectionVars false
set_option maxRecDepth 100000
set_option maxHeartbeats 4000000
structure Me73 where
  fk : Int
  fv : Amount
def kv_Me73 (x : Me73) : Value := .int .i64 (x.fk)
def vv_Me73 (x : Me73) : Value := (v_Amount x.fv)
noncomputable def m_cost_check_v2 (n0 : Nat) (A0 : Nat → Insn) : Option (Int) :=
  (m_insn_Check n0 A0).bind fun r0 =>
  bif r0.2 == 0 then
    ((m_flow_Back n0 A0).bind fun g1 => match g1 with
    | .e0 =>
    (m_flow_Depth n0 A0).bind fun r2 =>
    bif r2.2 == 0 then
      (some 0)
    else (none))
  else (none)
section
variable {M : Nat → Prop} {B0 : Nat} {S : World → Prop} (hU : Up M B0 S)
include hU
theorem ok_cost_check_v2 (a0 : Option Addr) (p0 : Nat) (q0 : Nat) (n0 : Nat) (k0 : Nat) (A0 : Nat → Insn) (hR0 : Ro S c_Insn 5 a0 p0 q0 n0 A0) (r : Int) (e : m_cost_check_v2 n0 A0 = some r) : ConG Try.prog S 19 #[.slice a0 n0 (n0 + k0)] (.int .i64 (r)) := by
  unfold m_cost_check_v2 at e
  replace e := bindO_eq e
  obtain ⟨r0, e_r0, e⟩ := e
  try dsimp only at e
  replace e := cond_eq_or e
  rcases e with ⟨hq0, e⟩ | ⟨hq0, e⟩
  · replace e := bindO_eq e
    obtain ⟨g1, e_g1, e⟩ := e
    cases g1
    try dsimp only at e
    replace e := bindO_eq e
    obtain ⟨r2, e_r2, e⟩ := e
    try dsimp only at e
    replace e := cond_eq_or e
    rcases e with ⟨hq1, e⟩ | ⟨hq1, e⟩
    · injection e with e; subst e; exact fn_conG hU (P := Try.prog) Try.func19 (fun xs w => by kernel_rfl) _ _ [.o, .o, .cg (ok_insn_Check hU a0 p0 q0 n0 k0 A0 hR0 r0 e_r0), .o, .o, .o, .o, .o, .o, .b (z_neqT hq0), .o, .xg (ok0_flow_Back hU a0 p0 q0 n0 k0 A0 hR0  e_g1) [], .o, .o, .o, .o, .o, .o, .cg (ok_flow_Depth hU a0 p0 q0 n0 k0 A0 hR0 r2 e_r2), .o, .o, .o, .o, .o, .o, .b (z_neqT hq1), .o, .o, .o, .o, .o, .o] [] (fun b => by kernel_rfl)
    · exact none_some e
  · exact none_some e
def sq0_cost_newWalk_v3 (w0 : Nat) (w1 : Nat → Insn)  : Spc := ⟨fun ls => .call 20 #[(rowV (lget ls 0) w0 5), .agg #[.int .u64 (0), .int .u64 (1), .int .u64 (0), .int .u64 (0), .func (.func 14) #[] #[], .func (.func 15) #[] #[]]], fun ls => [rowO (lget ls 0) (esG c_Insn w0 w1) 25 w0 5], 5, .normal, fun ls => [.pointer (some ⟨(lget ls 1).n, 0, none⟩)], fun ls => [rowO (lget ls 0) (esG c_Insn w0 w1) 25 w0 5], fun ls => [.cells #[(rowV (lget ls 0) w0 5), .func (.func 34) #[] #[.pointer (some ⟨(lget ls 2).n, 0, none⟩), .pointer (some ⟨(lget ls 4).n, 0, none⟩), .pointer (some ⟨(lget ls 5).n, 0, none⟩)]] 62, .cells #[.map (some (lget ls 3).n)] 73, mapG kv_Me73 vv_Me73 0 (fun _ => (⟨0, (⟨0#64, 0#64⟩ : Amount)⟩ : Me73)), .cells #[.pointer (some ⟨(lget ls 1).n, 0, none⟩)] 54, .cells #[.int .u64 (0), .int .u64 (1), .int .u64 (0), .int .u64 (0), .func (.func 14) #[] #[], .func (.func 15) #[] #[]] 52]⟩
theorem p0_cost_newWalk_v3 (w0 : Nat) (w1 : Nat → Insn) : SpcG Try.prog M B0 S (sq0_cost_newWalk_v3 w0 w1 ) :=
  fn_specG hU (P := Try.prog) Try.func20 (fun xs w => by kernel_rfl) 1 _ _ (fun _ => rfl) _ _ _ [2, 5, 4, 3, 1]
    [.o, .o, .o, .o, .o, .o, .a 3, .o, .o, .a 5, .a 3, .o, .o, .o, .a 2, .a 3, .o]
    [] (fun b => by kernel_rfl)
inductive R_cost_newWalk_1_v15 where
  | e0 (c0_0 : Nat) (c0_1 : Nat → Me73) (c0_2 : BitVec 64) (c0_3 : BitVec 64)
noncomputable def m_cost_amount_plus_v6 (y0 : Amount) (y1 : Amount) : Amount :=
  (⟨(y0.fhi + y1.fhi + (cy64 y0.flo y1.flo (0#64))), (y0.flo + y1.flo + (0#64))⟩ : Amount)
end
section
variable {M : Nat → Prop} {B0 : Nat} {S : World → Prop} (hU : Up M B0 S) (y0 : Amount) (y1 : Amount)
include hU y0 y1
theorem ok_cost_amount_plus_v6 (r : Amount) (e : m_cost_amount_plus_v6 y0 y1 = r) : ConG Try.prog S 15 #[(v_Amount y0), (v_Amount y1)] ((v_Amount r)) := by
  unfold m_cost_amount_plus_v6 at e
  subst e; exact fn_conG hU (P := Try.prog) Try.func15 (fun xs w => by kernel_rfl) _ _ [.o, .o, .o, .o, .a 0, .o, .a 1, .ov (add64_ok (f := 29) y0.flo y1.flo (0#64) Try.func29 (by kernel_rfl) (by kernel_rfl) (by kernel_rfl) (by kernel_rfl) (by decide)), .o, .o, .o, .o, .o, .o, .a 0, .o, .a 1, .o, .ov (add64_ok (f := 29) y0.fhi y1.fhi (cy64 y0.flo y1.flo (0#64)) Try.func29 (by kernel_rfl) (by kernel_rfl) (by kernel_rfl) (by kernel_rfl) (cy64_le _ _ _ (by decide))), .o, .o, .o, .o, .o, .o, .o, .o, .a 2] [2, 2] (fun b => by kernel_rfl)
noncomputable def m_cost_amount_less_v2 (y0 : Amount) (y1 : Amount) : Bool :=
  bif BitVec.ult y0.fhi y1.fhi then
    (true)
  else (bif y0.fhi == y1.fhi then
    ((BitVec.ult y0.flo y1.flo))
  else (false))
theorem ok_cost_amount_less_v2 (r : Bool) (e : m_cost_amount_less_v2 y0 y1 = r) : ConG Try.prog S 28 #[(v_Amount y0), (v_Amount y1)] (.bool (r)) := by
  unfold m_cost_amount_less_v2 at e
  replace e := cond_eq_or e
  rcases e with ⟨hq0, e⟩ | ⟨hq0, e⟩
  · subst e; exact fn_conG hU (P := Try.prog) Try.func28 (fun xs w => by kernel_rfl) _ _ [.o, .o, .o, .o, .a 0, .o, .a 1, .t (u_lt y0.fhi y1.fhi) hq0, .o, .o, .o] [] (fun b => by kernel_rfl)
  · replace e := cond_eq_or e
    rcases e with ⟨hq1, e⟩ | ⟨hq1, e⟩
    · subst e; exact fn_conG hU (P := Try.prog) Try.func28 (fun xs w => by kernel_rfl) _ _ [.o, .o, .o, .o, .a 0, .o, .a 1, .t (u_lt y0.fhi y1.fhi) hq0, .o, .o, .a 0, .o, .a 1, .t (u_eq y0.fhi y1.fhi) hq1, .o, .o, .a 0, .o, .a 1, .t (u_lt y0.flo y1.flo) rfl, .o, .o, .o] [] (fun b => by kernel_rfl)
    · subst e; exact fn_conG hU (P := Try.prog) Try.func28 (fun xs w => by kernel_rfl) _ _ [.o, .o, .o, .o, .a 0, .o, .a 1, .t (u_lt y0.fhi y1.fhi) hq0, .o, .o, .a 0, .o, .a 1, .t (u_eq y0.fhi y1.fhi) hq1, .o, .o, .o, .o] [] (fun b => by kernel_rfl)
noncomputable def m_cost_greater_v1 (y0 : Amount) (y1 : Amount) : Amount :=
  bif m_cost_amount_less_v2 y0 y1 then
    (y1)
  else (y0)
theorem ok_cost_greater_v1 (r : Amount) (e : m_cost_greater_v1 y0 y1 = r) : ConG Try.prog S 14 #[(v_Amount y0), (v_Amount y1)] ((v_Amount r)) := by
  unfold m_cost_greater_v1 at e
  replace e := cond_eq_or e
  rcases e with ⟨hq0, e⟩ | ⟨hq0, e⟩
  · subst e; exact fn_conG hU (P := Try.prog) Try.func14 (fun xs w => by kernel_rfl) _ _ [.o, .o, .o, .a 0, .a 1, .cg (ok_cost_amount_less_v2 hU y0 y1 true hq0), .a 1, .a 2] [2, 2] (fun b => by kernel_rfl)
  · subst e; exact fn_conG hU (P := Try.prog) Try.func14 (fun xs w => by kernel_rfl) _ _ [.o, .o, .o, .a 0, .a 1, .cg (ok_cost_amount_less_v2 hU y0 y1 false hq0), .a 0, .a 2] [2, 2] (fun b => by kernel_rfl)
inductive Sh_cost_walk_reckon_v12_L0 where
  | c0 (s0_0 : Nat) (s0_1 : Nat → Me73) (s0_2 : BitVec 64) (s0_3 : BitVec 64) (s0_4 : Int)
inductive Ex_cost_walk_reckon_v12_L0 where
  | e0 (c0_0 : Nat) (c0_1 : Nat → Me73) (c0_2 : BitVec 64) (c0_3 : BitVec 64)
noncomputable def st_cost_walk_reckon_v12_L0 (w0 : BitVec 64) (w1 : BitVec 64) (w2 : Nat) (w3 : Nat → Insn) (mr0 : (Int) → (Nat) → (Nat → Me73) → (Nat) → (Nat → Insn) → (BitVec 64) → (BitVec 64) → Option R_cost_newWalk_1_v15) (g0_0 : Nat) (g0_1 : Nat → Int) : Sh_cost_walk_reckon_v12_L0 → Option (Sh_cost_walk_reckon_v12_L0 ⊕ Ex_cost_walk_reckon_v12_L0)
  | .c0 s0_0 s0_1 s0_2 s0_3 s0_4 =>
    bif decide (s0_4 < (g0_0 : Int)) then
      (bif inR s0_4 g0_0 then
        ((mr0 (g0_1 (s0_4).toNat) s0_0 s0_1 w2 w3 w0 w1).bind fun gb0 => match gb0 with
        | .e0 gb0_0 gb0_1 gb0_2 gb0_3 =>
        bif s0_4 == 0 then
          (some (.inl (.c0 gb0_0 gb0_1 gb0_2 gb0_3 (IntKind.i64.wrap (s0_4 + 1)))))
        else (bindT (m_cost_greater_v1 (⟨s0_2, s0_3⟩ : Amount) (⟨gb0_2, gb0_3⟩ : Amount)) fun rb1 =>
        some (.inl (.c0 gb0_0 gb0_1 rb1.fhi rb1.flo (IntKind.i64.wrap (s0_4 + 1))))))
      else (none))
    else (some (.inr (.e0 s0_0 s0_1 s0_2 s0_3)))
noncomputable def bd_cost_walk_reckon_v12_L0 : Code := codeOf Try.f35 [1, 1, 1, 0, 1, 0, 0]
def fl_cost_walk_reckon_v12_L0 (y1 : Int) (w0 : BitVec 64) (w1 : BitVec 64) (w2 : Nat) (w3 : Nat → Insn) (w4 : Nat) (w5 : Nat → Me73) (mr0 : (Int) → (Nat) → (Nat → Me73) → (Nat) → (Nat → Insn) → (BitVec 64) → (BitVec 64) → Option R_cost_newWalk_1_v15) (ih0 : ∀ {M : Nat → Prop} {B0 : Nat} {S : World → Prop} (hU : Up M B0 S) (y0 : Int) (w0 : Nat) (w1 : Nat → Me73) (w2 : Nat) (w3 : Nat → Insn) (w4 : BitVec 64) (w5 : BitVec 64) (c0_0 : Nat) (c0_1 : Nat → Me73) (c0_2 : BitVec 64) (c0_3 : BitVec 64), mr0 y0 w0 w1 w2 w3 w4 w5 = some (.e0 c0_0 c0_1 c0_2 c0_3) → SpcG Try.prog M B0 S ⟨fun ls => .call 34 #[.int .i64 (y0), .pointer (some ⟨(lget ls 0).n, 0, none⟩), .pointer (some ⟨(lget ls 2).n, 0, none⟩), .pointer (some ⟨(lget ls 5).n, 0, none⟩)], fun ls => [.cells #[.map (some (lget ls 1).n)] 73, mapG kv_Me73 vv_Me73 w0 w1, .cells #[.pointer (some ⟨(lget ls 3).n, 0, none⟩)] 54, .cells #[(rowV (lget ls 4) w2 5), .func (.func 34) #[] #[.pointer (some ⟨(lget ls 0).n, 0, none⟩), .pointer (some ⟨(lget ls 2).n, 0, none⟩), .pointer (some ⟨(lget ls 5).n, 0, none⟩)]] 62, rowO (lget ls 4) (esG c_Insn w2 w3) 25 w2 5, .cells #[.int .u64 (nn w4), .int .u64 (nn w5), .int .u64 (nn w4), .int .u64 (nn w4), .func (.func 14) #[] #[], .func (.func 15) #[] #[]] 52], 0, .normal, fun ls => [.agg #[.int .u64 (nn c0_2), .int .u64 (nn c0_3)]], fun ls => [.cells #[.map (some (lget ls 1).n)] 73, mapG kv_Me73 vv_Me73 c0_0 c0_1, .cells #[.pointer (some ⟨(lget ls 3).n, 0, none⟩)] 54, .cells #[(rowV (lget ls 4) w2 5), .func (.func 34) #[] #[.pointer (some ⟨(lget ls 0).n, 0, none⟩), .pointer (some ⟨(lget ls 2).n, 0, none⟩), .pointer (some ⟨(lget ls 5).n, 0, none⟩)]] 62, rowO (lget ls 4) (esG c_Insn w2 w3) 25 w2 5, .cells #[.int .u64 (nn w4), .int .u64 (nn w5), .int .u64 (nn w4), .int .u64 (nn w4), .func (.func 14) #[] #[], .func (.func 15) #[] #[]] 52], fun ls => []⟩) (g0_0 : Nat) (g0_1 : Nat → Int) : Sh_cost_walk_reckon_v12_L0 → List L1 → List Value
  | .c0 s0_0 s0_1 s0_2 s0_3 s0_4, ls => [.pointer (some ⟨(lget ls 0).n, 0, none⟩), .int .i64 (y1), .pointer (some ⟨(lget ls 6).n, 0, none⟩), .pointer (some ⟨(lget ls 7).n, 0, none⟩), .pointer (some ⟨(lget ls 9).n, 0, none⟩), (rowV (lget ls 8) g0_0 1), .int .i64 ((g0_0 : Int)), .int .i64 (s0_4)]
def mf_cost_walk_reckon_v12_L0 : Sh_cost_walk_reckon_v12_L0 → List (Nat × Nat)
  | .c0 _ _ _ _ _ => [(2, 3), (2, 2), (1, 16), (3, 62)]
noncomputable def fr_cost_walk_reckon_v12_L0 (y1 : Int) (w0 : BitVec 64) (w1 : BitVec 64) (w2 : Nat) (w3 : Nat → Insn) (w4 : Nat) (w5 : Nat → Me73) (mr0 : (Int) → (Nat) → (Nat → Me73) → (Nat) → (Nat → Insn) → (BitVec 64) → (BitVec 64) → Option R_cost_newWalk_1_v15) (ih0 : ∀ {M : Nat → Prop} {B0 : Nat} {S : World → Prop} (hU : Up M B0 S) (y0 : Int) (w0 : Nat) (w1 : Nat → Me73) (w2 : Nat) (w3 : Nat → Insn) (w4 : BitVec 64) (w5 : BitVec 64) (c0_0 : Nat) (c0_1 : Nat → Me73) (c0_2 : BitVec 64) (c0_3 : BitVec 64), mr0 y0 w0 w1 w2 w3 w4 w5 = some (.e0 c0_0 c0_1 c0_2 c0_3) → SpcG Try.prog M B0 S ⟨fun ls => .call 34 #[.int .i64 (y0), .pointer (some ⟨(lget ls 0).n, 0, none⟩), .pointer (some ⟨(lget ls 2).n, 0, none⟩), .pointer (some ⟨(lget ls 5).n, 0, none⟩)], fun ls => [.cells #[.map (some (lget ls 1).n)] 73, mapG kv_Me73 vv_Me73 w0 w1, .cells #[.pointer (some ⟨(lget ls 3).n, 0, none⟩)] 54, .cells #[(rowV (lget ls 4) w2 5), .func (.func 34) #[] #[.pointer (some ⟨(lget ls 0).n, 0, none⟩), .pointer (some ⟨(lget ls 2).n, 0, none⟩), .pointer (some ⟨(lget ls 5).n, 0, none⟩)]] 62, rowO (lget ls 4) (esG c_Insn w2 w3) 25 w2 5, .cells #[.int .u64 (nn w4), .int .u64 (nn w5), .int .u64 (nn w4), .int .u64 (nn w4), .func (.func 14) #[] #[], .func (.func 15) #[] #[]] 52], 0, .normal, fun ls => [.agg #[.int .u64 (nn c0_2), .int .u64 (nn c0_3)]], fun ls => [.cells #[.map (some (lget ls 1).n)] 73, mapG kv_Me73 vv_Me73 c0_0 c0_1, .cells #[.pointer (some ⟨(lget ls 3).n, 0, none⟩)] 54, .cells #[(rowV (lget ls 4) w2 5), .func (.func 34) #[] #[.pointer (some ⟨(lget ls 0).n, 0, none⟩), .pointer (some ⟨(lget ls 2).n, 0, none⟩), .pointer (some ⟨(lget ls 5).n, 0, none⟩)]] 62, rowO (lget ls 4) (esG c_Insn w2 w3) 25 w2 5, .cells #[.int .u64 (nn w4), .int .u64 (nn w5), .int .u64 (nn w4), .int .u64 (nn w4), .func (.func 14) #[] #[], .func (.func 15) #[] #[]] 52], fun ls => []⟩) (g0_0 : Nat) (g0_1 : Nat → Int) (s : Sh_cost_walk_reckon_v12_L0) : List L1 → List Value := mrgF (mf_cost_walk_reckon_v12_L0 s) (fl_cost_walk_reckon_v12_L0 y1 w0 w1 w2 w3 w4 w5 mr0 ih0 g0_0 g0_1 s) 10
def Hs_cost_walk_reckon_v12_L0 (y1 : Int) (w0 : BitVec 64) (w1 : BitVec 64) (w2 : Nat) (w3 : Nat → Insn) (w4 : Nat) (w5 : Nat → Me73) (mr0 : (Int) → (Nat) → (Nat → Me73) → (Nat) → (Nat → Insn) → (BitVec 64) → (BitVec 64) → Option R_cost_newWalk_1_v15) (ih0 : ∀ {M : Nat → Prop} {B0 : Nat} {S : World → Prop} (hU : Up M B0 S) (y0 : Int) (w0 : Nat) (w1 : Nat → Me73) (w2 : Nat) (w3 : Nat → Insn) (w4 : BitVec 64) (w5 : BitVec 64) (c0_0 : Nat) (c0_1 : Nat → Me73) (c0_2 : BitVec 64) (c0_3 : BitVec 64), mr0 y0 w0 w1 w2 w3 w4 w5 = some (.e0 c0_0 c0_1 c0_2 c0_3) → SpcG Try.prog M B0 S ⟨fun ls => .call 34 #[.int .i64 (y0), .pointer (some ⟨(lget ls 0).n, 0, none⟩), .pointer (some ⟨(lget ls 2).n, 0, none⟩), .pointer (some ⟨(lget ls 5).n, 0, none⟩)], fun ls => [.cells #[.map (some (lget ls 1).n)] 73, mapG kv_Me73 vv_Me73 w0 w1, .cells #[.pointer (some ⟨(lget ls 3).n, 0, none⟩)] 54, .cells #[(rowV (lget ls 4) w2 5), .func (.func 34) #[] #[.pointer (some ⟨(lget ls 0).n, 0, none⟩), .pointer (some ⟨(lget ls 2).n, 0, none⟩), .pointer (some ⟨(lget ls 5).n, 0, none⟩)]] 62, rowO (lget ls 4) (esG c_Insn w2 w3) 25 w2 5, .cells #[.int .u64 (nn w4), .int .u64 (nn w5), .int .u64 (nn w4), .int .u64 (nn w4), .func (.func 14) #[] #[], .func (.func 15) #[] #[]] 52], 0, .normal, fun ls => [.agg #[.int .u64 (nn c0_2), .int .u64 (nn c0_3)]], fun ls => [.cells #[.map (some (lget ls 1).n)] 73, mapG kv_Me73 vv_Me73 c0_0 c0_1, .cells #[.pointer (some ⟨(lget ls 3).n, 0, none⟩)] 54, .cells #[(rowV (lget ls 4) w2 5), .func (.func 34) #[] #[.pointer (some ⟨(lget ls 0).n, 0, none⟩), .pointer (some ⟨(lget ls 2).n, 0, none⟩), .pointer (some ⟨(lget ls 5).n, 0, none⟩)]] 62, rowO (lget ls 4) (esG c_Insn w2 w3) 25 w2 5, .cells #[.int .u64 (nn w4), .int .u64 (nn w5), .int .u64 (nn w4), .int .u64 (nn w4), .func (.func 14) #[] #[], .func (.func 15) #[] #[]] 52], fun ls => []⟩) (g0_0 : Nat) (g0_1 : Nat → Int) : Sh_cost_walk_reckon_v12_L0 → List L1 → List Obj
  | .c0 s0_0 s0_1 s0_2 s0_3 s0_4, ls => [.cells #[(rowV (lget ls 1) w2 5), .func (.func 34) #[] #[.pointer (some ⟨(lget ls 2).n, 0, none⟩), .pointer (some ⟨(lget ls 4).n, 0, none⟩), .pointer (some ⟨(lget ls 5).n, 0, none⟩)]] 62, rowO (lget ls 1) (esG c_Insn w2 w3) 25 w2 5, .cells #[.map (some (lget ls 3).n)] 73, mapG kv_Me73 vv_Me73 s0_0 s0_1, .cells #[.pointer (some ⟨(lget ls 0).n, 0, none⟩)] 54, .cells #[.int .u64 (nn w0), .int .u64 (nn w1), .int .u64 (nn w0), .int .u64 (nn w0), .func (.func 14) #[] #[], .func (.func 15) #[] #[]] 52, .cells #[.int .u64 (nn w0), .int .u64 (nn w1), .int .u64 (nn w0), .int .u64 (nn w0), .func (.func 14) #[] #[], .func (.func 15) #[] #[]] 52, .cells #[.int .u64 (0), .int .u64 (0)] 48, rowO (lget ls 8) (esG cZ g0_0 g0_1) 3 g0_0 1, .cells #[.int .u64 (nn s0_2), .int .u64 (nn s0_3)] 48, unb]
def vl_cost_walk_reckon_v12_L0 (y1 : Int) (w0 : BitVec 64) (w1 : BitVec 64) (w2 : Nat) (w3 : Nat → Insn) (w4 : Nat) (w5 : Nat → Me73) (mr0 : (Int) → (Nat) → (Nat → Me73) → (Nat) → (Nat → Insn) → (BitVec 64) → (BitVec 64) → Option R_cost_newWalk_1_v15) (ih0 : ∀ {M : Nat → Prop} {B0 : Nat} {S : World → Prop} (hU : Up M B0 S) (y0 : Int) (w0 : Nat) (w1 : Nat → Me73) (w2 : Nat) (w3 : Nat → Insn) (w4 : BitVec 64) (w5 : BitVec 64) (c0_0 : Nat) (c0_1 : Nat → Me73) (c0_2 : BitVec 64) (c0_3 : BitVec 64), mr0 y0 w0 w1 w2 w3 w4 w5 = some (.e0 c0_0 c0_1 c0_2 c0_3) → SpcG Try.prog M B0 S ⟨fun ls => .call 34 #[.int .i64 (y0), .pointer (some ⟨(lget ls 0).n, 0, none⟩), .pointer (some ⟨(lget ls 2).n, 0, none⟩), .pointer (some ⟨(lget ls 5).n, 0, none⟩)], fun ls => [.cells #[.map (some (lget ls 1).n)] 73, mapG kv_Me73 vv_Me73 w0 w1, .cells #[.pointer (some ⟨(lget ls 3).n, 0, none⟩)] 54, .cells #[(rowV (lget ls 4) w2 5), .func (.func 34) #[] #[.pointer (some ⟨(lget ls 0).n, 0, none⟩), .pointer (some ⟨(lget ls 2).n, 0, none⟩), .pointer (some ⟨(lget ls 5).n, 0, none⟩)]] 62, rowO (lget ls 4) (esG c_Insn w2 w3) 25 w2 5, .cells #[.int .u64 (nn w4), .int .u64 (nn w5), .int .u64 (nn w4), .int .u64 (nn w4), .func (.func 14) #[] #[], .func (.func 15) #[] #[]] 52], 0, .normal, fun ls => [.agg #[.int .u64 (nn c0_2), .int .u64 (nn c0_3)]], fun ls => [.cells #[.map (some (lget ls 1).n)] 73, mapG kv_Me73 vv_Me73 c0_0 c0_1, .cells #[.pointer (some ⟨(lget ls 3).n, 0, none⟩)] 54, .cells #[(rowV (lget ls 4) w2 5), .func (.func 34) #[] #[.pointer (some ⟨(lget ls 0).n, 0, none⟩), .pointer (some ⟨(lget ls 2).n, 0, none⟩), .pointer (some ⟨(lget ls 5).n, 0, none⟩)]] 62, rowO (lget ls 4) (esG c_Insn w2 w3) 25 w2 5, .cells #[.int .u64 (nn w4), .int .u64 (nn w5), .int .u64 (nn w4), .int .u64 (nn w4), .func (.func 14) #[] #[], .func (.func 15) #[] #[]] 52], fun ls => []⟩) (g0_0 : Nat) (g0_1 : Nat → Int) : Ex_cost_walk_reckon_v12_L0 → List L1 → List Value
  | .e0 c0_0 c0_1 c0_2 c0_3, ls => [.pointer (some ⟨(lget ls 0).n, 0, none⟩), .int .i64 (y1), .pointer (some ⟨(lget ls 6).n, 0, none⟩), .pointer (some ⟨(lget ls 7).n, 0, none⟩), .pointer (some ⟨(lget ls 9).n, 0, none⟩), (rowV (lget ls 8) g0_0 1), .int .i64 ((g0_0 : Int))]
def mk_cost_walk_reckon_v12_L0 : Ex_cost_walk_reckon_v12_L0 → List (Nat × Nat)
  | .e0 _ _ _ _ => [(2, 3), (2, 2), (1, 16), (2, 63)]
noncomputable def vf_cost_walk_reckon_v12_L0 (y1 : Int) (w0 : BitVec 64) (w1 : BitVec 64) (w2 : Nat) (w3 : Nat → Insn) (w4 : Nat) (w5 : Nat → Me73) (mr0 : (Int) → (Nat) → (Nat → Me73) → (Nat) → (Nat → Insn) → (BitVec 64) → (BitVec 64) → Option R_cost_newWalk_1_v15) (ih0 : ∀ {M : Nat → Prop} {B0 : Nat} {S : World → Prop} (hU : Up M B0 S) (y0 : Int) (w0 : Nat) (w1 : Nat → Me73) (w2 : Nat) (w3 : Nat → Insn) (w4 : BitVec 64) (w5 : BitVec 64) (c0_0 : Nat) (c0_1 : Nat → Me73) (c0_2 : BitVec 64) (c0_3 : BitVec 64), mr0 y0 w0 w1 w2 w3 w4 w5 = some (.e0 c0_0 c0_1 c0_2 c0_3) → SpcG Try.prog M B0 S ⟨fun ls => .call 34 #[.int .i64 (y0), .pointer (some ⟨(lget ls 0).n, 0, none⟩), .pointer (some ⟨(lget ls 2).n, 0, none⟩), .pointer (some ⟨(lget ls 5).n, 0, none⟩)], fun ls => [.cells #[.map (some (lget ls 1).n)] 73, mapG kv_Me73 vv_Me73 w0 w1, .cells #[.pointer (some ⟨(lget ls 3).n, 0, none⟩)] 54, .cells #[(rowV (lget ls 4) w2 5), .func (.func 34) #[] #[.pointer (some ⟨(lget ls 0).n, 0, none⟩), .pointer (some ⟨(lget ls 2).n, 0, none⟩), .pointer (some ⟨(lget ls 5).n, 0, none⟩)]] 62, rowO (lget ls 4) (esG c_Insn w2 w3) 25 w2 5, .cells #[.int .u64 (nn w4), .int .u64 (nn w5), .int .u64 (nn w4), .int .u64 (nn w4), .func (.func 14) #[] #[], .func (.func 15) #[] #[]] 52], 0, .normal, fun ls => [.agg #[.int .u64 (nn c0_2), .int .u64 (nn c0_3)]], fun ls => [.cells #[.map (some (lget ls 1).n)] 73, mapG kv_Me73 vv_Me73 c0_0 c0_1, .cells #[.pointer (some ⟨(lget ls 3).n, 0, none⟩)] 54, .cells #[(rowV (lget ls 4) w2 5), .func (.func 34) #[] #[.pointer (some ⟨(lget ls 0).n, 0, none⟩), .pointer (some ⟨(lget ls 2).n, 0, none⟩), .pointer (some ⟨(lget ls 5).n, 0, none⟩)]] 62, rowO (lget ls 4) (esG c_Insn w2 w3) 25 w2 5, .cells #[.int .u64 (nn w4), .int .u64 (nn w5), .int .u64 (nn w4), .int .u64 (nn w4), .func (.func 14) #[] #[], .func (.func 15) #[] #[]] 52], fun ls => []⟩) (g0_0 : Nat) (g0_1 : Nat → Int) (r : Ex_cost_walk_reckon_v12_L0) : List L1 → List Value := mrgF (mk_cost_walk_reckon_v12_L0 r) (vl_cost_walk_reckon_v12_L0 y1 w0 w1 w2 w3 w4 w5 mr0 ih0 g0_0 g0_1 r) 10
def Hf_cost_walk_reckon_v12_L0 (y1 : Int) (w0 : BitVec 64) (w1 : BitVec 64) (w2 : Nat) (w3 : Nat → Insn) (w4 : Nat) (w5 : Nat → Me73) (mr0 : (Int) → (Nat) → (Nat → Me73) → (Nat) → (Nat → Insn) → (BitVec 64) → (BitVec 64) → Option R_cost_newWalk_1_v15) (ih0 : ∀ {M : Nat → Prop} {B0 : Nat} {S : World → Prop} (hU : Up M B0 S) (y0 : Int) (w0 : Nat) (w1 : Nat → Me73) (w2 : Nat) (w3 : Nat → Insn) (w4 : BitVec 64) (w5 : BitVec 64) (c0_0 : Nat) (c0_1 : Nat → Me73) (c0_2 : BitVec 64) (c0_3 : BitVec 64), mr0 y0 w0 w1 w2 w3 w4 w5 = some (.e0 c0_0 c0_1 c0_2 c0_3) → SpcG Try.prog M B0 S ⟨fun ls => .call 34 #[.int .i64 (y0), .pointer (some ⟨(lget ls 0).n, 0, none⟩), .pointer (some ⟨(lget ls 2).n, 0, none⟩), .pointer (some ⟨(lget ls 5).n, 0, none⟩)], fun ls => [.cells #[.map (some (lget ls 1).n)] 73, mapG kv_Me73 vv_Me73 w0 w1, .cells #[.pointer (some ⟨(lget ls 3).n, 0, none⟩)] 54, .cells #[(rowV (lget ls 4) w2 5), .func (.func 34) #[] #[.pointer (some ⟨(lget ls 0).n, 0, none⟩), .pointer (some ⟨(lget ls 2).n, 0, none⟩), .pointer (some ⟨(lget ls 5).n, 0, none⟩)]] 62, rowO (lget ls 4) (esG c_Insn w2 w3) 25 w2 5, .cells #[.int .u64 (nn w4), .int .u64 (nn w5), .int .u64 (nn w4), .int .u64 (nn w4), .func (.func 14) #[] #[], .func (.func 15) #[] #[]] 52], 0, .normal, fun ls => [.agg #[.int .u64 (nn c0_2), .int .u64 (nn c0_3)]], fun ls => [.cells #[.map (some (lget ls 1).n)] 73, mapG kv_Me73 vv_Me73 c0_0 c0_1, .cells #[.pointer (some ⟨(lget ls 3).n, 0, none⟩)] 54, .cells #[(rowV (lget ls 4) w2 5), .func (.func 34) #[] #[.pointer (some ⟨(lget ls 0).n, 0, none⟩), .pointer (some ⟨(lget ls 2).n, 0, none⟩), .pointer (some ⟨(lget ls 5).n, 0, none⟩)]] 62, rowO (lget ls 4) (esG c_Insn w2 w3) 25 w2 5, .cells #[.int .u64 (nn w4), .int .u64 (nn w5), .int .u64 (nn w4), .int .u64 (nn w4), .func (.func 14) #[] #[], .func (.func 15) #[] #[]] 52], fun ls => []⟩) (g0_0 : Nat) (g0_1 : Nat → Int) : Ex_cost_walk_reckon_v12_L0 → List L1 → List Obj
  | .e0 c0_0 c0_1 c0_2 c0_3, ls => [.cells #[(rowV (lget ls 1) w2 5), .func (.func 34) #[] #[.pointer (some ⟨(lget ls 2).n, 0, none⟩), .pointer (some ⟨(lget ls 4).n, 0, none⟩), .pointer (some ⟨(lget ls 5).n, 0, none⟩)]] 62, rowO (lget ls 1) (esG c_Insn w2 w3) 25 w2 5, .cells #[.map (some (lget ls 3).n)] 73, mapG kv_Me73 vv_Me73 c0_0 c0_1, .cells #[.pointer (some ⟨(lget ls 0).n, 0, none⟩)] 54, .cells #[.int .u64 (nn w0), .int .u64 (nn w1), .int .u64 (nn w0), .int .u64 (nn w0), .func (.func 14) #[] #[], .func (.func 15) #[] #[]] 52, .cells #[.int .u64 (nn w0), .int .u64 (nn w1), .int .u64 (nn w0), .int .u64 (nn w0), .func (.func 14) #[] #[], .func (.func 15) #[] #[]] 52, .cells #[.int .u64 (0), .int .u64 (0)] 48, rowO (lget ls 8) (esG cZ g0_0 g0_1) 3 g0_0 1, .cells #[.int .u64 (nn c0_2), .int .u64 (nn c0_3)] 48, unb]
def ex_cost_walk_reckon_v12_L0 : Ex_cost_walk_reckon_v12_L0 → Ex
  | .e0 _ _ _ _ => (.exit 0)
end
section
variable {M : Nat → Prop} {B0 : Nat} {S : World → Prop} (hU : Up M B0 S) (y1 : Int) (w0 : BitVec 64) (w1 : BitVec 64) (w2 : Nat) (w3 : Nat → Insn) (w4 : Nat) (w5 : Nat → Me73) (mr0 : (Int) → (Nat) → (Nat → Me73) → (Nat) → (Nat → Insn) → (BitVec 64) → (BitVec 64) → Option R_cost_newWalk_1_v15) (ih0 : ∀ {M : Nat → Prop} {B0 : Nat} {S : World → Prop} (hU : Up M B0 S) (y0 : Int) (w0 : Nat) (w1 : Nat → Me73) (w2 : Nat) (w3 : Nat → Insn) (w4 : BitVec 64) (w5 : BitVec 64) (c0_0 : Nat) (c0_1 : Nat → Me73) (c0_2 : BitVec 64) (c0_3 : BitVec 64), mr0 y0 w0 w1 w2 w3 w4 w5 = some (.e0 c0_0 c0_1 c0_2 c0_3) → SpcG Try.prog M B0 S ⟨fun ls => .call 34 #[.int .i64 (y0), .pointer (some ⟨(lget ls 0).n, 0, none⟩), .pointer (some ⟨(lget ls 2).n, 0, none⟩), .pointer (some ⟨(lget ls 5).n, 0, none⟩)], fun ls => [.cells #[.map (some (lget ls 1).n)] 73, mapG kv_Me73 vv_Me73 w0 w1, .cells #[.pointer (some ⟨(lget ls 3).n, 0, none⟩)] 54, .cells #[(rowV (lget ls 4) w2 5), .func (.func 34) #[] #[.pointer (some ⟨(lget ls 0).n, 0, none⟩), .pointer (some ⟨(lget ls 2).n, 0, none⟩), .pointer (some ⟨(lget ls 5).n, 0, none⟩)]] 62, rowO (lget ls 4) (esG c_Insn w2 w3) 25 w2 5, .cells #[.int .u64 (nn w4), .int .u64 (nn w5), .int .u64 (nn w4), .int .u64 (nn w4), .func (.func 14) #[] #[], .func (.func 15) #[] #[]] 52], 0, .normal, fun ls => [.agg #[.int .u64 (nn c0_2), .int .u64 (nn c0_3)]], fun ls => [.cells #[.map (some (lget ls 1).n)] 73, mapG kv_Me73 vv_Me73 c0_0 c0_1, .cells #[.pointer (some ⟨(lget ls 3).n, 0, none⟩)] 54, .cells #[(rowV (lget ls 4) w2 5), .func (.func 34) #[] #[.pointer (some ⟨(lget ls 0).n, 0, none⟩), .pointer (some ⟨(lget ls 2).n, 0, none⟩), .pointer (some ⟨(lget ls 5).n, 0, none⟩)]] 62, rowO (lget ls 4) (esG c_Insn w2 w3) 25 w2 5, .cells #[.int .u64 (nn w4), .int .u64 (nn w5), .int .u64 (nn w4), .int .u64 (nn w4), .func (.func 14) #[] #[], .func (.func 15) #[] #[]] 52], fun ls => []⟩) (g0_0 : Nat) (g0_1 : Nat → Int)
include hU y1 w0 w1 w2 w3 w4 w5 mr0 ih0 g0_0 g0_1
theorem go_cost_walk_reckon_v12_L0 (s : Sh_cost_walk_reckon_v12_L0) (r : Ex_cost_walk_reckon_v12_L0) (h : lpO (st_cost_walk_reckon_v12_L0 w0 w1 w2 w3 mr0 g0_0 g0_1) s = some r) : GoesG Try.prog M B0 S (.loop bd_cost_walk_reckon_v12_L0) 11 (fr_cost_walk_reckon_v12_L0 y1 w0 w1 w2 w3 w4 w5 mr0 ih0 g0_0 g0_1 s) (Hs_cost_walk_reckon_v12_L0 y1 w0 w1 w2 w3 w4 w5 mr0 ih0 g0_0 g0_1 s) (ex_cost_walk_reckon_v12_L0 r) 10 (vf_cost_walk_reckon_v12_L0 y1 w0 w1 w2 w3 w4 w5 mr0 ih0 g0_0 g0_1 r) (Hf_cost_walk_reckon_v12_L0 y1 w0 w1 w2 w3 w4 w5 mr0 ih0 g0_0 g0_1 r) 11 :=
  goes_lpO (fun s q e => by
    cases s with
    | c0 s0_0 s0_1 s0_2 s0_3 s0_4 =>
      unfold st_cost_walk_reckon_v12_L0 at e
      dsimp only at e
      replace e := cond_eq_or e
      rcases e with ⟨hq0, e⟩ | ⟨hq0, e⟩
      · replace e := cond_eq_or e
        rcases e with ⟨hq1, e⟩ | ⟨hq1, e⟩
        · replace e := bindO_eq e
          obtain ⟨gb0, e_gb0, e⟩ := e
          obtain ⟨gb0_0, gb0_1, gb0_2, gb0_3⟩ := gb0
          try dsimp only at e
          replace e := cond_eq_or e
          let P1 : List (PG Try.prog M B0 S) := [.b (z_lssT hq0), .o, .q (ixM_ok (kd := .i64) (T := 32) (x := s0_4) (N := g0_0) (sz := 1) rfl (fun w => by kernel_rfl) hq1), .l (accG (i := 8) (f := cZ) (A := g0_1) (k := (s0_4).toNat) 0 [.int .i64 ((g0_1 (s0_4).toNat))] cZ_len (inR_nat hq1) rfl), .o, .o, .o, .o, .o, .a 0, .o, .xg (ih0 hU (g0_1 (s0_4).toNat) s0_0 s0_1 w2 w3 w0 w1 gb0_0 gb0_1 gb0_2 gb0_3 e_gb0) [2, 3, 4, 0, 1, 5], .o, .a 11, .o]
          rcases e with ⟨hq2, e⟩ | ⟨hq2, e⟩
          · cases e; exact goes_runM hU (P1 ++ [.b (z_eqlT hq2), .a 11, .a 9, .o, .o]) [0, 1, 2, 3, 4, 5, 6, 7, 8, 9] (fun b => rfl) (by decide) rfl rfl (fun b => by kernel_rfl)
          · replace e := bindT_eq e
            obtain ⟨rb1, e_rb1, e⟩ := e
            try dsimp only at e
            cases e; exact goes_runM hU (P1 ++ [.b (z_eqlF hq2), .o, .a 6, .a 9, .a 11, .cg (ok_cost_greater_v1 hU (⟨s0_2, s0_3⟩ : Amount) (⟨gb0_2, gb0_3⟩ : Amount) rb1 e_rb1), .a 9, .o, .o]) [0, 1, 2, 3, 4, 5, 6, 7, 8, 9] (fun b => rfl) (by decide) rfl rfl (fun b => by kernel_rfl)
        · exact none_some e
      · cases e; exact ⟨ne_exit 0, goes_runM hU [.b (z_lssF hq0)] [0, 1, 2, 3, 4, 5, 6, 7, 8, 9] (fun b => rfl) (by decide) rfl rfl (fun b => by kernel_rfl)⟩) s r h
noncomputable def t0_cost_walk_reckon_v12_L0_0 (y1 : Int) (w0 : BitVec 64) (w1 : BitVec 64) (w2 : Nat) (w3 : Nat → Insn) (w4 : Nat) (w5 : Nat → Me73) (mr0 : (Int) → (Nat) → (Nat → Me73) → (Nat) → (Nat → Insn) → (BitVec 64) → (BitVec 64) → Option R_cost_newWalk_1_v15) (ih0 : ∀ {M : Nat → Prop} {B0 : Nat} {S : World → Prop} (hU : Up M B0 S) (y0 : Int) (w0 : Nat) (w1 : Nat → Me73) (w2 : Nat) (w3 : Nat → Insn) (w4 : BitVec 64) (w5 : BitVec 64) (c0_0 : Nat) (c0_1 : Nat → Me73) (c0_2 : BitVec 64) (c0_3 : BitVec 64), mr0 y0 w0 w1 w2 w3 w4 w5 = some (.e0 c0_0 c0_1 c0_2 c0_3) → SpcG Try.prog M B0 S ⟨fun ls => .call 34 #[.int .i64 (y0), .pointer (some ⟨(lget ls 0).n, 0, none⟩), .pointer (some ⟨(lget ls 2).n, 0, none⟩), .pointer (some ⟨(lget ls 5).n, 0, none⟩)], fun ls => [.cells #[.map (some (lget ls 1).n)] 73, mapG kv_Me73 vv_Me73 w0 w1, .cells #[.pointer (some ⟨(lget ls 3).n, 0, none⟩)] 54, .cells #[(rowV (lget ls 4) w2 5), .func (.func 34) #[] #[.pointer (some ⟨(lget ls 0).n, 0, none⟩), .pointer (some ⟨(lget ls 2).n, 0, none⟩), .pointer (some ⟨(lget ls 5).n, 0, none⟩)]] 62, rowO (lget ls 4) (esG c_Insn w2 w3) 25 w2 5, .cells #[.int .u64 (nn w4), .int .u64 (nn w5), .int .u64 (nn w4), .int .u64 (nn w4), .func (.func 14) #[] #[], .func (.func 15) #[] #[]] 52], 0, .normal, fun ls => [.agg #[.int .u64 (nn c0_2), .int .u64 (nn c0_3)]], fun ls => [.cells #[.map (some (lget ls 1).n)] 73, mapG kv_Me73 vv_Me73 c0_0 c0_1, .cells #[.pointer (some ⟨(lget ls 3).n, 0, none⟩)] 54, .cells #[(rowV (lget ls 4) w2 5), .func (.func 34) #[] #[.pointer (some ⟨(lget ls 0).n, 0, none⟩), .pointer (some ⟨(lget ls 2).n, 0, none⟩), .pointer (some ⟨(lget ls 5).n, 0, none⟩)]] 62, rowO (lget ls 4) (esG c_Insn w2 w3) 25 w2 5, .cells #[.int .u64 (nn w4), .int .u64 (nn w5), .int .u64 (nn w4), .int .u64 (nn w4), .func (.func 14) #[] #[], .func (.func 15) #[] #[]] 52], fun ls => []⟩) (g0_0 : Nat) (g0_1 : Nat → Int) (s0_0 : Nat) (s0_1 : Nat → Me73) (s0_2 : BitVec 64) (s0_3 : BitVec 64) (s0_4 : Int) (ls : List L1) : List Value := List.append [.pointer (some ⟨(lget ls 0).n, 0, none⟩), .int .i64 (y1), .agg #[.int .u64 (nn w0), .int .u64 (nn w1), .int .u64 (nn w0), .int .u64 (nn w0), .func (.func 14) #[] #[], .func (.func 15) #[] #[]], undef, undef, .pointer (some ⟨(lget ls 6).n, 0, none⟩), .pointer (some ⟨(lget ls 7).n, 0, none⟩), (rowV (lget ls 8) g0_0 1), .int .i64 (0), .pointer (some ⟨(lget ls 9).n, 0, none⟩)] (List.append (und 5) (List.append [.tuple #[(rowV (lget ls 8) g0_0 1), .int .i64 (0)], .pointer (some ⟨(lget ls 0).n, 0, none⟩), .pointer (some ⟨(lget ls 0).n, 0, none⟩), .pointer (some ⟨(lget ls 0).n, 0, none⟩), (rowV (lget ls 1) w2 5), .int .i64 (y1), .tuple #[(rowV (lget ls 8) g0_0 1), .int .i64 (0)], (rowV (lget ls 8) g0_0 1), .int .i64 (0), .pointer (some ⟨(lget ls 6).n, 2, none⟩), .agg #[.int .u64 (nn w0), .int .u64 (nn w0)], (rowV (lget ls 8) g0_0 1), .int .i64 ((g0_0 : Int)), .int .i64 (s0_4)] (und 62)))
def pre_cost_walk_reckon_v12_L0_0 (y1 : Int) (w0 : BitVec 64) (w1 : BitVec 64) (w2 : Nat) (w3 : Nat → Insn) (w4 : Nat) (w5 : Nat → Me73) (mr0 : (Int) → (Nat) → (Nat → Me73) → (Nat) → (Nat → Insn) → (BitVec 64) → (BitVec 64) → Option R_cost_newWalk_1_v15) (ih0 : ∀ {M : Nat → Prop} {B0 : Nat} {S : World → Prop} (hU : Up M B0 S) (y0 : Int) (w0 : Nat) (w1 : Nat → Me73) (w2 : Nat) (w3 : Nat → Insn) (w4 : BitVec 64) (w5 : BitVec 64) (c0_0 : Nat) (c0_1 : Nat → Me73) (c0_2 : BitVec 64) (c0_3 : BitVec 64), mr0 y0 w0 w1 w2 w3 w4 w5 = some (.e0 c0_0 c0_1 c0_2 c0_3) → SpcG Try.prog M B0 S ⟨fun ls => .call 34 #[.int .i64 (y0), .pointer (some ⟨(lget ls 0).n, 0, none⟩), .pointer (some ⟨(lget ls 2).n, 0, none⟩), .pointer (some ⟨(lget ls 5).n, 0, none⟩)], fun ls => [.cells #[.map (some (lget ls 1).n)] 73, mapG kv_Me73 vv_Me73 w0 w1, .cells #[.pointer (some ⟨(lget ls 3).n, 0, none⟩)] 54, .cells #[(rowV (lget ls 4) w2 5), .func (.func 34) #[] #[.pointer (some ⟨(lget ls 0).n, 0, none⟩), .pointer (some ⟨(lget ls 2).n, 0, none⟩), .pointer (some ⟨(lget ls 5).n, 0, none⟩)]] 62, rowO (lget ls 4) (esG c_Insn w2 w3) 25 w2 5, .cells #[.int .u64 (nn w4), .int .u64 (nn w5), .int .u64 (nn w4), .int .u64 (nn w4), .func (.func 14) #[] #[], .func (.func 15) #[] #[]] 52], 0, .normal, fun ls => [.agg #[.int .u64 (nn c0_2), .int .u64 (nn c0_3)]], fun ls => [.cells #[.map (some (lget ls 1).n)] 73, mapG kv_Me73 vv_Me73 c0_0 c0_1, .cells #[.pointer (some ⟨(lget ls 3).n, 0, none⟩)] 54, .cells #[(rowV (lget ls 4) w2 5), .func (.func 34) #[] #[.pointer (some ⟨(lget ls 0).n, 0, none⟩), .pointer (some ⟨(lget ls 2).n, 0, none⟩), .pointer (some ⟨(lget ls 5).n, 0, none⟩)]] 62, rowO (lget ls 4) (esG c_Insn w2 w3) 25 w2 5, .cells #[.int .u64 (nn w4), .int .u64 (nn w5), .int .u64 (nn w4), .int .u64 (nn w4), .func (.func 14) #[] #[], .func (.func 15) #[] #[]] 52], fun ls => []⟩) (g0_0 : Nat) (g0_1 : Nat → Int) (s0_0 : Nat) (s0_1 : Nat → Me73) (s0_2 : BitVec 64) (s0_3 : BitVec 64) (s0_4 : Int) (ls : List L1) : List Obj := [.cells #[(rowV (lget ls 1) w2 5), .func (.func 34) #[] #[.pointer (some ⟨(lget ls 2).n, 0, none⟩), .pointer (some ⟨(lget ls 4).n, 0, none⟩), .pointer (some ⟨(lget ls 5).n, 0, none⟩)]] 62, rowO (lget ls 1) (esG c_Insn w2 w3) 25 w2 5, .cells #[.map (some (lget ls 3).n)] 73, mapG kv_Me73 vv_Me73 s0_0 s0_1, .cells #[.pointer (some ⟨(lget ls 0).n, 0, none⟩)] 54, .cells #[.int .u64 (nn w0), .int .u64 (nn w1), .int .u64 (nn w0), .int .u64 (nn w0), .func (.func 14) #[] #[], .func (.func 15) #[] #[]] 52, .cells #[.int .u64 (nn w0), .int .u64 (nn w1), .int .u64 (nn w0), .int .u64 (nn w0), .func (.func 14) #[] #[], .func (.func 15) #[] #[]] 52, .cells #[.int .u64 (0), .int .u64 (0)] 48, rowO (lget ls 8) (esG cZ g0_0 g0_1) 3 g0_0 1, .cells #[.int .u64 (nn s0_2), .int .u64 (nn s0_3)] 48]
theorem sp0_cost_walk_reckon_v12_L0_0_ok (s0_0 : Nat) (s0_1 : Nat → Me73) (s0_2 : BitVec 64) (s0_3 : BitVec 64) (s0_4 : Int) (c0_0 : Nat) (c0_1 : Nat → Me73) (c0_2 : BitVec 64) (c0_3 : BitVec 64) (h : lpO (st_cost_walk_reckon_v12_L0 w0 w1 w2 w3 mr0 g0_0 g0_1) (.c0 s0_0 s0_1 s0_2 s0_3 s0_4) = some (.e0 c0_0 c0_1 c0_2 c0_3)) : SpcG Try.prog M B0 S ⟨fun ls => .code (.loop bd_cost_walk_reckon_v12_L0) (t0_cost_walk_reckon_v12_L0_0 y1 w0 w1 w2 w3 w4 w5 mr0 ih0 g0_0 g0_1 s0_0 s0_1 s0_2 s0_3 s0_4 ls), pre_cost_walk_reckon_v12_L0_0 y1 w0 w1 w2 w3 w4 w5 mr0 ih0 g0_0 g0_1 s0_0 s0_1 s0_2 s0_3 s0_4, 1, (.exit 0), fun ls => vf_cost_walk_reckon_v12_L0 y1 w0 w1 w2 w3 w4 w5 mr0 ih0 g0_0 g0_1 (.e0 c0_0 c0_1 c0_2 c0_3) (ls.take 10 ++ ls.drop 10), fun ls => (Hf_cost_walk_reckon_v12_L0 y1 w0 w1 w2 w3 w4 w5 mr0 ih0 g0_0 g0_1 (.e0 c0_0 c0_1 c0_2 c0_3) (ls.take 10 ++ ls.drop 10)).take 10 ++ List.replicate 0 unb, fun ls => (Hf_cost_walk_reckon_v12_L0 y1 w0 w1 w2 w3 w4 w5 mr0 ih0 g0_0 g0_1 (.e0 c0_0 c0_1 c0_2 c0_3) (ls.take 10 ++ ls.drop 10)).drop 10⟩ :=
  spc_of_goesM hU 0 (k0 := 10) (go_cost_walk_reckon_v12_L0 hU y1 w0 w1 w2 w3 w4 w5 mr0 ih0 g0_0 g0_1 _ _ h) (t0_cost_walk_reckon_v12_L0_0 y1 w0 w1 w2 w3 w4 w5 mr0 ih0 g0_0 g0_1 s0_0 s0_1 s0_2 s0_3 s0_4) (pre_cost_walk_reckon_v12_L0_0 y1 w0 w1 w2 w3 w4 w5 mr0 ih0 g0_0 g0_1 s0_0 s0_1 s0_2 s0_3 s0_4) (fun _ => rfl) (fun ls h => by match ls, h with | [l0, l1, l2, l3, l4, l5, l6, l7, l8, l9], _ => exact ⟨by kernel_rfl, by kernel_rfl⟩) (fun ls h => by match ls, h with | [l0, l1, l2, l3, l4, l5, l6, l7, l8, l9], _ => rfl) (by decide) (by decide) (fun ls => rfl)
inductive R_cost_walk_reckon_v12 where
  | e0 (c0_0 : Nat) (c0_1 : Nat → Me73) (c0_2 : BitVec 64) (c0_3 : BitVec 64)
noncomputable def m_cost_walk_reckon_v12 (y1 : Int) (w0 : BitVec 64) (w1 : BitVec 64) (w2 : Nat) (w3 : Nat → Insn) (w4 : Nat) (w5 : Nat → Me73) (mr0 : (Int) → (Nat) → (Nat → Me73) → (Nat) → (Nat → Insn) → (BitVec 64) → (BitVec 64) → Option R_cost_newWalk_1_v15) : Option R_cost_walk_reckon_v12 :=
  (m_flow_Next w2 w3 y1).bind fun g0 => match g0 with
  | .e0 g0_0 => (bif inR y1 w2 then
      (bif ((w3 (y1).toNat)).fOp == 133#8 then
        (none)
      else (bindT (m_cost_amount_plus_v6 (⟨w0, w0⟩ : Amount) (⟨w0, w1⟩ : Amount)) fun r1 =>
      some (.e0 w4 w5 r1.fhi r1.flo)))
    else (none))
  | .e1 g0_0 g0_1 => ((lpO (st_cost_walk_reckon_v12_L0 w0 w1 w2 w3 mr0 g0_0 g0_1) (.c0 w4 w5 w0 w0 0)).bind fun g1 => match g1 with
    | .e0 g1_0 g1_1 g1_2 g1_3 =>
    bif inR y1 w2 then
      (bif ((w3 (y1).toNat)).fOp == 133#8 then
        (none)
      else (bindT (m_cost_amount_plus_v6 (⟨g1_2, g1_3⟩ : Amount) (⟨w0, w1⟩ : Amount)) fun r2 =>
      some (.e0 g1_0 g1_1 r2.fhi r2.flo)))
    else (none))
def sq0_cost_walk_reckon_v12 (y1 : Int) (w0 : BitVec 64) (w1 : BitVec 64) (w2 : Nat) (w3 : Nat → Insn) (w4 : Nat) (w5 : Nat → Me73) (mr0 : (Int) → (Nat) → (Nat → Me73) → (Nat) → (Nat → Insn) → (BitVec 64) → (BitVec 64) → Option R_cost_newWalk_1_v15) (ih0 : ∀ {M : Nat → Prop} {B0 : Nat} {S : World → Prop} (hU : Up M B0 S) (y0 : Int) (w0 : Nat) (w1 : Nat → Me73) (w2 : Nat) (w3 : Nat → Insn) (w4 : BitVec 64) (w5 : BitVec 64) (c0_0 : Nat) (c0_1 : Nat → Me73) (c0_2 : BitVec 64) (c0_3 : BitVec 64), mr0 y0 w0 w1 w2 w3 w4 w5 = some (.e0 c0_0 c0_1 c0_2 c0_3) → SpcG Try.prog M B0 S ⟨fun ls => .call 34 #[.int .i64 (y0), .pointer (some ⟨(lget ls 0).n, 0, none⟩), .pointer (some ⟨(lget ls 2).n, 0, none⟩), .pointer (some ⟨(lget ls 5).n, 0, none⟩)], fun ls => [.cells #[.map (some (lget ls 1).n)] 73, mapG kv_Me73 vv_Me73 w0 w1, .cells #[.pointer (some ⟨(lget ls 3).n, 0, none⟩)] 54, .cells #[(rowV (lget ls 4) w2 5), .func (.func 34) #[] #[.pointer (some ⟨(lget ls 0).n, 0, none⟩), .pointer (some ⟨(lget ls 2).n, 0, none⟩), .pointer (some ⟨(lget ls 5).n, 0, none⟩)]] 62, rowO (lget ls 4) (esG c_Insn w2 w3) 25 w2 5, .cells #[.int .u64 (nn w4), .int .u64 (nn w5), .int .u64 (nn w4), .int .u64 (nn w4), .func (.func 14) #[] #[], .func (.func 15) #[] #[]] 52], 0, .normal, fun ls => [.agg #[.int .u64 (nn c0_2), .int .u64 (nn c0_3)]], fun ls => [.cells #[.map (some (lget ls 1).n)] 73, mapG kv_Me73 vv_Me73 c0_0 c0_1, .cells #[.pointer (some ⟨(lget ls 3).n, 0, none⟩)] 54, .cells #[(rowV (lget ls 4) w2 5), .func (.func 34) #[] #[.pointer (some ⟨(lget ls 0).n, 0, none⟩), .pointer (some ⟨(lget ls 2).n, 0, none⟩), .pointer (some ⟨(lget ls 5).n, 0, none⟩)]] 62, rowO (lget ls 4) (esG c_Insn w2 w3) 25 w2 5, .cells #[.int .u64 (nn w4), .int .u64 (nn w5), .int .u64 (nn w4), .int .u64 (nn w4), .func (.func 14) #[] #[], .func (.func 15) #[] #[]] 52], fun ls => []⟩) (c0_0 : Nat) (c0_1 : Nat → Me73) (c0_2 : BitVec 64) (c0_3 : BitVec 64) : Spc := ⟨fun ls => .call 35 #[.pointer (some ⟨(lget ls 0).n, 0, none⟩), .int .i64 (y1), .agg #[.int .u64 (nn w0), .int .u64 (nn w1), .int .u64 (nn w0), .int .u64 (nn w0), .func (.func 14) #[] #[], .func (.func 15) #[] #[]]], fun ls => [.cells #[(rowV (lget ls 1) w2 5), .func (.func 34) #[] #[.pointer (some ⟨(lget ls 2).n, 0, none⟩), .pointer (some ⟨(lget ls 4).n, 0, none⟩), .pointer (some ⟨(lget ls 5).n, 0, none⟩)]] 62, rowO (lget ls 1) (esG c_Insn w2 w3) 25 w2 5, .cells #[.map (some (lget ls 3).n)] 73, mapG kv_Me73 vv_Me73 w4 w5, .cells #[.pointer (some ⟨(lget ls 0).n, 0, none⟩)] 54, .cells #[.int .u64 (nn w0), .int .u64 (nn w1), .int .u64 (nn w0), .int .u64 (nn w0), .func (.func 14) #[] #[], .func (.func 15) #[] #[]] 52], 0, .normal, fun ls => [.agg #[.int .u64 (nn c0_2), .int .u64 (nn c0_3)]], fun ls => [.cells #[(rowV (lget ls 1) w2 5), .func (.func 34) #[] #[.pointer (some ⟨(lget ls 2).n, 0, none⟩), .pointer (some ⟨(lget ls 4).n, 0, none⟩), .pointer (some ⟨(lget ls 5).n, 0, none⟩)]] 62, rowO (lget ls 1) (esG c_Insn w2 w3) 25 w2 5, .cells #[.map (some (lget ls 3).n)] 73, mapG kv_Me73 vv_Me73 c0_0 c0_1, .cells #[.pointer (some ⟨(lget ls 0).n, 0, none⟩)] 54, .cells #[.int .u64 (nn w0), .int .u64 (nn w1), .int .u64 (nn w0), .int .u64 (nn w0), .func (.func 14) #[] #[], .func (.func 15) #[] #[]] 52], fun ls => []⟩
end
section
variable {M : Nat → Prop} {B0 : Nat} {S : World → Prop} (hU : Up M B0 S)
include hU
theorem ok0_cost_walk_reckon_v12 (y1 : Int) (w0 : BitVec 64) (w1 : BitVec 64) (w2 : Nat) (w3 : Nat → Insn) (w4 : Nat) (w5 : Nat → Me73) (mr0 : (Int) → (Nat) → (Nat → Me73) → (Nat) → (Nat → Insn) → (BitVec 64) → (BitVec 64) → Option R_cost_newWalk_1_v15) (ih0 : ∀ {M : Nat → Prop} {B0 : Nat} {S : World → Prop} (hU : Up M B0 S) (y0 : Int) (w0 : Nat) (w1 : Nat → Me73) (w2 : Nat) (w3 : Nat → Insn) (w4 : BitVec 64) (w5 : BitVec 64) (c0_0 : Nat) (c0_1 : Nat → Me73) (c0_2 : BitVec 64) (c0_3 : BitVec 64), mr0 y0 w0 w1 w2 w3 w4 w5 = some (.e0 c0_0 c0_1 c0_2 c0_3) → SpcG Try.prog M B0 S ⟨fun ls => .call 34 #[.int .i64 (y0), .pointer (some ⟨(lget ls 0).n, 0, none⟩), .pointer (some ⟨(lget ls 2).n, 0, none⟩), .pointer (some ⟨(lget ls 5).n, 0, none⟩)], fun ls => [.cells #[.map (some (lget ls 1).n)] 73, mapG kv_Me73 vv_Me73 w0 w1, .cells #[.pointer (some ⟨(lget ls 3).n, 0, none⟩)] 54, .cells #[(rowV (lget ls 4) w2 5), .func (.func 34) #[] #[.pointer (some ⟨(lget ls 0).n, 0, none⟩), .pointer (some ⟨(lget ls 2).n, 0, none⟩), .pointer (some ⟨(lget ls 5).n, 0, none⟩)]] 62, rowO (lget ls 4) (esG c_Insn w2 w3) 25 w2 5, .cells #[.int .u64 (nn w4), .int .u64 (nn w5), .int .u64 (nn w4), .int .u64 (nn w4), .func (.func 14) #[] #[], .func (.func 15) #[] #[]] 52], 0, .normal, fun ls => [.agg #[.int .u64 (nn c0_2), .int .u64 (nn c0_3)]], fun ls => [.cells #[.map (some (lget ls 1).n)] 73, mapG kv_Me73 vv_Me73 c0_0 c0_1, .cells #[.pointer (some ⟨(lget ls 3).n, 0, none⟩)] 54, .cells #[(rowV (lget ls 4) w2 5), .func (.func 34) #[] #[.pointer (some ⟨(lget ls 0).n, 0, none⟩), .pointer (some ⟨(lget ls 2).n, 0, none⟩), .pointer (some ⟨(lget ls 5).n, 0, none⟩)]] 62, rowO (lget ls 4) (esG c_Insn w2 w3) 25 w2 5, .cells #[.int .u64 (nn w4), .int .u64 (nn w5), .int .u64 (nn w4), .int .u64 (nn w4), .func (.func 14) #[] #[], .func (.func 15) #[] #[]] 52], fun ls => []⟩) (c0_0 : Nat) (c0_1 : Nat → Me73) (c0_2 : BitVec 64) (c0_3 : BitVec 64) (e : m_cost_walk_reckon_v12 y1 w0 w1 w2 w3 w4 w5 mr0 = some (.e0 c0_0 c0_1 c0_2 c0_3)) : SpcG Try.prog M B0 S (sq0_cost_walk_reckon_v12 y1 w0 w1 w2 w3 w4 w5 mr0 ih0 c0_0 c0_1 c0_2 c0_3) := by
  unfold m_cost_walk_reckon_v12 at e
  replace e := bindO_eq e
  obtain ⟨g0, e_g0, e⟩ := e
  rcases g0 with ⟨g0_0⟩ | ⟨g0_0, g0_1⟩
  · try dsimp only at e
    replace e := cond_eq_or e
    rcases e with ⟨hq0, e⟩ | ⟨hq0, e⟩
    · replace e := cond_eq_or e
      rcases e with ⟨hq1, e⟩ | ⟨hq1, e⟩
      · exact none_some e
      · replace e := bindT_eq e
        obtain ⟨r1, e_r1, e⟩ := e
        try dsimp only at e
        injection e with e; injection e with i0 i1 i2 i3; subst i0 i1 i2 i3; exact fn_specG hU (P := Try.prog) Try.func35 (fun xs w => by kernel_rfl) 6 _ _ (fun _ => rfl) _ _ _ [] [.o, .o, .o, .o, .o, .a 0, .o, .xg (SpcG.own hU (f := c_Insn) c_Insn_len w2 w3 25 (fun l => padL l w2 5) (fun l => (padL l w2 5).length / 5) _ 0 .normal (by intros; rfl) (by intros; rfl) (by intros; rfl) (fun M0 B0 S0 x0 u0 v0 z0 hU0 hs0 hr0 => ok0_flow_Next hU0 x0 u0 v0 w2 z0 w3 hr0 y1 g0_0 e_g0)) [1], .o, .o, .o, .o, .o, .o, .a 6, .o, .a 8, .o, .o, .o, .o, .o, .o, .o, .a 0, .o, .q (ixM_ok (kd := .i64) (T := 26) (x := y1) (N := w2) (sz := 5) rfl (fun w => by kernel_rfl) hq0), .o, .l (accG (i := 1) (f := c_Insn) (A := w3) (k := (y1).toNat) 0 [.int .u8 (nn ((w3 (y1).toNat)).fOp)] c_Insn_len (inR_nat hq0) rfl), .t (u_eq ((w3 (y1).toNat)).fOp (133#8)) hq1, .o, .o, .a 8, .o, .a 6, .cg (ok_cost_amount_plus_v6 hU (⟨w0, w0⟩ : Amount) (⟨w0, w1⟩ : Amount) r1 e_r1), .a 7] [7, 7] (fun b => by kernel_rfl)
    · exact none_some e
  · try dsimp only at e
    replace e := bindO_eq e
    obtain ⟨g1, e_g1, e⟩ := e
    obtain ⟨g1_0, g1_1, g1_2, g1_3⟩ := g1
    try dsimp only at e
    replace e := cond_eq_or e
    rcases e with ⟨hq0, e⟩ | ⟨hq0, e⟩
    · replace e := cond_eq_or e
      rcases e with ⟨hq1, e⟩ | ⟨hq1, e⟩
      · exact none_some e
      · replace e := bindT_eq e
        obtain ⟨r2, e_r2, e⟩ := e
        try dsimp only at e
        injection e with e; injection e with i0 i1 i2 i3; subst i0 i1 i2 i3; exact fn_specG hU (P := Try.prog) Try.func35 (fun xs w => by kernel_rfl) 6 _ _ (fun _ => rfl) _ _ _ [] [.o, .o, .o, .o, .o, .a 0, .o, .xg (SpcG.own hU (f := c_Insn) c_Insn_len w2 w3 25 (fun l => padL l w2 5) (fun l => (padL l w2 5).length / 5) _ 1 .normal (by intros; rfl) (by intros; rfl) (by intros; rfl) (fun M0 B0 S0 x0 u0 v0 z0 hU0 hs0 hr0 => ok1_flow_Next hU0 x0 u0 v0 w2 z0 w3 hr0 y1 g0_0 g0_1 e_g0)) [1], .o, .o, .o, .o, .o, .o, .a 6, .o, .a 9, .o, .o, .o, .cp, .cx (sp0_cost_walk_reckon_v12_L0_0_ok hU y1 w0 w1 w2 w3 w4 w5 mr0 ih0 g0_0 g0_1 w4 w5 w0 w0 0 g1_0 g1_1 g1_2 g1_3 e_g1) [0, 1, 2, 3, 4, 5, 6, 7, 8, 9], .o, .o, .o, .a 0, .o, .q (ixM_ok (kd := .i64) (T := 26) (x := y1) (N := w2) (sz := 5) rfl (fun w => by kernel_rfl) hq0), .o, .l (accG (i := 1) (f := c_Insn) (A := w3) (k := (y1).toNat) 0 [.int .u8 (nn ((w3 (y1).toNat)).fOp)] c_Insn_len (inR_nat hq0) rfl), .t (u_eq ((w3 (y1).toNat)).fOp (133#8)) hq1, .o, .o, .a 9, .o, .a 6, .cg (ok_cost_amount_plus_v6 hU (⟨g1_2, g1_3⟩ : Amount) (⟨w0, w1⟩ : Amount) r2 e_r2), .a 7] [7, 7] (fun b => by kernel_rfl)
    · exact none_some e
noncomputable def m_cost_newWalk_1_v15 (y0 : Int) (w0 : Nat) (w1 : Nat → Me73) (w2 : Nat) (w3 : Nat → Insn) (w4 : BitVec 64) (w5 : BitVec 64) (mr0 : (Int) → (Nat) → (Nat → Me73) → (Nat) → (Nat → Insn) → (BitVec 64) → (BitVec 64) → Option R_cost_newWalk_1_v15) : Option R_cost_newWalk_1_v15 :=
  bif decide ((fdx (fun j => (y0 == (w1 j).fk)) w0) < w0) then
    (some (.e0 w0 w1 ((w1 (fdx (fun j => (y0 == (w1 j).fk)) w0)).fv).fhi ((w1 (fdx (fun j => (y0 == (w1 j).fk)) w0)).fv).flo))
  else ((m_cost_walk_reckon_v12 y0 w4 w5 w2 w3 w0 w1 mr0).bind fun g0 => match g0 with
  | .e0 g0_0 g0_1 g0_2 g0_3 =>
  bif decide ((fdx (fun j => (y0 == (g0_1 j).fk)) g0_0) < g0_0) then
    (some (.e0 g0_0 (updF g0_1 (fdx (fun j => (y0 == (g0_1 j).fk)) g0_0) (⟨y0, (⟨g0_2, g0_3⟩ : Amount)⟩ : Me73)) g0_2 g0_3))
  else (some (.e0 (g0_0 + 1) (updF g0_1 g0_0 (⟨y0, (⟨g0_2, g0_3⟩ : Amount)⟩ : Me73)) g0_2 g0_3)))
def sq0_cost_newWalk_1_v15 (y0 : Int) (w0 : Nat) (w1 : Nat → Me73) (w2 : Nat) (w3 : Nat → Insn) (w4 : BitVec 64) (w5 : BitVec 64) (mr0 : (Int) → (Nat) → (Nat → Me73) → (Nat) → (Nat → Insn) → (BitVec 64) → (BitVec 64) → Option R_cost_newWalk_1_v15) (ih0 : ∀ {M : Nat → Prop} {B0 : Nat} {S : World → Prop} (hU : Up M B0 S) (y0 : Int) (w0 : Nat) (w1 : Nat → Me73) (w2 : Nat) (w3 : Nat → Insn) (w4 : BitVec 64) (w5 : BitVec 64) (c0_0 : Nat) (c0_1 : Nat → Me73) (c0_2 : BitVec 64) (c0_3 : BitVec 64), mr0 y0 w0 w1 w2 w3 w4 w5 = some (.e0 c0_0 c0_1 c0_2 c0_3) → SpcG Try.prog M B0 S ⟨fun ls => .call 34 #[.int .i64 (y0), .pointer (some ⟨(lget ls 0).n, 0, none⟩), .pointer (some ⟨(lget ls 2).n, 0, none⟩), .pointer (some ⟨(lget ls 5).n, 0, none⟩)], fun ls => [.cells #[.map (some (lget ls 1).n)] 73, mapG kv_Me73 vv_Me73 w0 w1, .cells #[.pointer (some ⟨(lget ls 3).n, 0, none⟩)] 54, .cells #[(rowV (lget ls 4) w2 5), .func (.func 34) #[] #[.pointer (some ⟨(lget ls 0).n, 0, none⟩), .pointer (some ⟨(lget ls 2).n, 0, none⟩), .pointer (some ⟨(lget ls 5).n, 0, none⟩)]] 62, rowO (lget ls 4) (esG c_Insn w2 w3) 25 w2 5, .cells #[.int .u64 (nn w4), .int .u64 (nn w5), .int .u64 (nn w4), .int .u64 (nn w4), .func (.func 14) #[] #[], .func (.func 15) #[] #[]] 52], 0, .normal, fun ls => [.agg #[.int .u64 (nn c0_2), .int .u64 (nn c0_3)]], fun ls => [.cells #[.map (some (lget ls 1).n)] 73, mapG kv_Me73 vv_Me73 c0_0 c0_1, .cells #[.pointer (some ⟨(lget ls 3).n, 0, none⟩)] 54, .cells #[(rowV (lget ls 4) w2 5), .func (.func 34) #[] #[.pointer (some ⟨(lget ls 0).n, 0, none⟩), .pointer (some ⟨(lget ls 2).n, 0, none⟩), .pointer (some ⟨(lget ls 5).n, 0, none⟩)]] 62, rowO (lget ls 4) (esG c_Insn w2 w3) 25 w2 5, .cells #[.int .u64 (nn w4), .int .u64 (nn w5), .int .u64 (nn w4), .int .u64 (nn w4), .func (.func 14) #[] #[], .func (.func 15) #[] #[]] 52], fun ls => []⟩) (c0_0 : Nat) (c0_1 : Nat → Me73) (c0_2 : BitVec 64) (c0_3 : BitVec 64) : Spc := ⟨fun ls => .call 34 #[.int .i64 (y0), .pointer (some ⟨(lget ls 0).n, 0, none⟩), .pointer (some ⟨(lget ls 2).n, 0, none⟩), .pointer (some ⟨(lget ls 5).n, 0, none⟩)], fun ls => [.cells #[.map (some (lget ls 1).n)] 73, mapG kv_Me73 vv_Me73 w0 w1, .cells #[.pointer (some ⟨(lget ls 3).n, 0, none⟩)] 54, .cells #[(rowV (lget ls 4) w2 5), .func (.func 34) #[] #[.pointer (some ⟨(lget ls 0).n, 0, none⟩), .pointer (some ⟨(lget ls 2).n, 0, none⟩), .pointer (some ⟨(lget ls 5).n, 0, none⟩)]] 62, rowO (lget ls 4) (esG c_Insn w2 w3) 25 w2 5, .cells #[.int .u64 (nn w4), .int .u64 (nn w5), .int .u64 (nn w4), .int .u64 (nn w4), .func (.func 14) #[] #[], .func (.func 15) #[] #[]] 52], 0, .normal, fun ls => [.agg #[.int .u64 (nn c0_2), .int .u64 (nn c0_3)]], fun ls => [.cells #[.map (some (lget ls 1).n)] 73, mapG kv_Me73 vv_Me73 c0_0 c0_1, .cells #[.pointer (some ⟨(lget ls 3).n, 0, none⟩)] 54, .cells #[(rowV (lget ls 4) w2 5), .func (.func 34) #[] #[.pointer (some ⟨(lget ls 0).n, 0, none⟩), .pointer (some ⟨(lget ls 2).n, 0, none⟩), .pointer (some ⟨(lget ls 5).n, 0, none⟩)]] 62, rowO (lget ls 4) (esG c_Insn w2 w3) 25 w2 5, .cells #[.int .u64 (nn w4), .int .u64 (nn w5), .int .u64 (nn w4), .int .u64 (nn w4), .func (.func 14) #[] #[], .func (.func 15) #[] #[]] 52], fun ls => []⟩
theorem ok0_cost_newWalk_1_v15 (y0 : Int) (w0 : Nat) (w1 : Nat → Me73) (w2 : Nat) (w3 : Nat → Insn) (w4 : BitVec 64) (w5 : BitVec 64) (mr0 : (Int) → (Nat) → (Nat → Me73) → (Nat) → (Nat → Insn) → (BitVec 64) → (BitVec 64) → Option R_cost_newWalk_1_v15) (ih0 : ∀ {M : Nat → Prop} {B0 : Nat} {S : World → Prop} (hU : Up M B0 S) (y0 : Int) (w0 : Nat) (w1 : Nat → Me73) (w2 : Nat) (w3 : Nat → Insn) (w4 : BitVec 64) (w5 : BitVec 64) (c0_0 : Nat) (c0_1 : Nat → Me73) (c0_2 : BitVec 64) (c0_3 : BitVec 64), mr0 y0 w0 w1 w2 w3 w4 w5 = some (.e0 c0_0 c0_1 c0_2 c0_3) → SpcG Try.prog M B0 S ⟨fun ls => .call 34 #[.int .i64 (y0), .pointer (some ⟨(lget ls 0).n, 0, none⟩), .pointer (some ⟨(lget ls 2).n, 0, none⟩), .pointer (some ⟨(lget ls 5).n, 0, none⟩)], fun ls => [.cells #[.map (some (lget ls 1).n)] 73, mapG kv_Me73 vv_Me73 w0 w1, .cells #[.pointer (some ⟨(lget ls 3).n, 0, none⟩)] 54, .cells #[(rowV (lget ls 4) w2 5), .func (.func 34) #[] #[.pointer (some ⟨(lget ls 0).n, 0, none⟩), .pointer (some ⟨(lget ls 2).n, 0, none⟩), .pointer (some ⟨(lget ls 5).n, 0, none⟩)]] 62, rowO (lget ls 4) (esG c_Insn w2 w3) 25 w2 5, .cells #[.int .u64 (nn w4), .int .u64 (nn w5), .int .u64 (nn w4), .int .u64 (nn w4), .func (.func 14) #[] #[], .func (.func 15) #[] #[]] 52], 0, .normal, fun ls => [.agg #[.int .u64 (nn c0_2), .int .u64 (nn c0_3)]], fun ls => [.cells #[.map (some (lget ls 1).n)] 73, mapG kv_Me73 vv_Me73 c0_0 c0_1, .cells #[.pointer (some ⟨(lget ls 3).n, 0, none⟩)] 54, .cells #[(rowV (lget ls 4) w2 5), .func (.func 34) #[] #[.pointer (some ⟨(lget ls 0).n, 0, none⟩), .pointer (some ⟨(lget ls 2).n, 0, none⟩), .pointer (some ⟨(lget ls 5).n, 0, none⟩)]] 62, rowO (lget ls 4) (esG c_Insn w2 w3) 25 w2 5, .cells #[.int .u64 (nn w4), .int .u64 (nn w5), .int .u64 (nn w4), .int .u64 (nn w4), .func (.func 14) #[] #[], .func (.func 15) #[] #[]] 52], fun ls => []⟩) (c0_0 : Nat) (c0_1 : Nat → Me73) (c0_2 : BitVec 64) (c0_3 : BitVec 64) (e : m_cost_newWalk_1_v15 y0 w0 w1 w2 w3 w4 w5 mr0 = some (.e0 c0_0 c0_1 c0_2 c0_3)) : SpcG Try.prog M B0 S (sq0_cost_newWalk_1_v15 y0 w0 w1 w2 w3 w4 w5 mr0 ih0 c0_0 c0_1 c0_2 c0_3) := by
  unfold m_cost_newWalk_1_v15 at e
  replace e := cond_eq_or e
  rcases e with ⟨hq0, e⟩ | ⟨hq0, e⟩
  · injection e with e; injection e with i0 i1 i2 i3; subst i0 i1 i2 i3; exact fn_specG hU (P := Try.prog) Try.func34 (fun xs w => by kernel_rfl) 6 _ _ (fun _ => rfl) _ _ _ [] [.o, .a 0, .o, .xg (lkG_has (T := 73) (kf := kv_Me73) (vf := vv_Me73) (N := w0) (A := w1) (e := (fun j => (y0 == (w1 j).fk))) (kt := 3) (el := 48) (d := .int .i64) true (x := .int .i64 (y0)) (by kernel_rfl) (by kernel_rfl) rfl (fun _ => rfl) (of_decide_eq_true hq0)) [1], .o, .o, .o, .o, .a 7, .o, .o, .a 7, .a 6] [6, 6] (fun b => by kernel_rfl)
  · replace e := bindO_eq e
    obtain ⟨g0, e_g0, e⟩ := e
    obtain ⟨g0_0, g0_1, g0_2, g0_3⟩ := g0
    try dsimp only at e
    replace e := cond_eq_or e
    let P1 : List (PG Try.prog M B0 S) := [.o, .a 0, .o, .xg (lkG_none (T := 73) (kf := kv_Me73) (vf := vv_Me73) (N := w0) (A := w1) (e := (fun j => (y0 == (w1 j).fk))) (kt := 3) (el := 48) (d := .int .i64) true (.agg #[.int .u64 (0), .int .u64 (0)]) (x := .int .i64 (y0)) (by kernel_rfl) (by kernel_rfl) rfl (fun w => by kernel_rfl) (fun _ => rfl) (of_decide_eq_false hq0)) [1], .o, .o, .o, .o, .a 7, .o, .o, .a 2, .o, .a 5, .xg (ok0_cost_walk_reckon_v12 hU y0 w4 w5 w2 w3 w0 w1 mr0 ih0 g0_0 g0_1 g0_2 g0_3 e_g0) [3, 4, 0, 1, 2, 5], .o, .a 8, .a 0, .o, .a 8]
    rcases e with ⟨hq1, e⟩ | ⟨hq1, e⟩
    · injection e with e; injection e with i0 i1 i2 i3; subst i0 i1 i2 i3; exact fn_specG hU (P := Try.prog) Try.func34 (fun xs w => by kernel_rfl) 6 _ _ (fun _ => rfl) _ _ _ [] (P1 ++ [.xg (upG_has (T := 73) (kf := kv_Me73) (vf := vv_Me73) (N := g0_0) (A := g0_1) (e := (fun j => (y0 == (g0_1 j).fk))) (kt := 3) (el := 48) (d := .int .i64) (⟨y0, (⟨g0_2, g0_3⟩ : Amount)⟩ : Me73) (by kernel_rfl) (by kernel_rfl) (fun _ => rfl) (fun _ => rfl) (of_decide_eq_true hq1)) [1], .a 8, .a 6]) [6, 6] (fun b => by kernel_rfl)
    · injection e with e; injection e with i0 i1 i2 i3; subst i0 i1 i2 i3; exact fn_specG hU (P := Try.prog) Try.func34 (fun xs w => by kernel_rfl) 6 _ _ (fun _ => rfl) _ _ _ [] (P1 ++ [.xg (upG_new (T := 73) (kf := kv_Me73) (vf := vv_Me73) (N := g0_0) (A := g0_1) (e := (fun j => (y0 == (g0_1 j).fk))) (kt := 3) (el := 48) (d := .int .i64) (⟨y0, (⟨g0_2, g0_3⟩ : Amount)⟩ : Me73) (by kernel_rfl) (by kernel_rfl) rfl (fun _ => rfl) (of_decide_eq_false hq1)) [1], .a 8, .a 6]) [6, 6] (fun b => by kernel_rfl)
noncomputable def m_cost_newWalk_1_v15_F : Nat → (Int) → (Nat) → (Nat → Me73) → (Nat) → (Nat → Insn) → (BitVec 64) → (BitVec 64) → Option R_cost_newWalk_1_v15
  | 0 => fun _ _ _ _ _ _ _ => none
  | k + 1 => fun y0 w0 w1 w2 w3 w4 w5 => m_cost_newWalk_1_v15 y0 w0 w1 w2 w3 w4 w5 (m_cost_newWalk_1_v15_F k)
end
theorem okA_cost_newWalk_1_v15_F (k : Nat) : (∀ {M : Nat → Prop} {B0 : Nat} {S : World → Prop} (hU : Up M B0 S) (y0 : Int) (w0 : Nat) (w1 : Nat → Me73) (w2 : Nat) (w3 : Nat → Insn) (w4 : BitVec 64) (w5 : BitVec 64) (c0_0 : Nat) (c0_1 : Nat → Me73) (c0_2 : BitVec 64) (c0_3 : BitVec 64) (e : m_cost_newWalk_1_v15_F k y0 w0 w1 w2 w3 w4 w5 = some (.e0 c0_0 c0_1 c0_2 c0_3)), SpcG Try.prog M B0 S ⟨fun ls => .call 34 #[.int .i64 (y0), .pointer (some ⟨(lget ls 0).n, 0, none⟩), .pointer (some ⟨(lget ls 2).n, 0, none⟩), .pointer (some ⟨(lget ls 5).n, 0, none⟩)], fun ls => [.cells #[.map (some (lget ls 1).n)] 73, mapG kv_Me73 vv_Me73 w0 w1, .cells #[.pointer (some ⟨(lget ls 3).n, 0, none⟩)] 54, .cells #[(rowV (lget ls 4) w2 5), .func (.func 34) #[] #[.pointer (some ⟨(lget ls 0).n, 0, none⟩), .pointer (some ⟨(lget ls 2).n, 0, none⟩), .pointer (some ⟨(lget ls 5).n, 0, none⟩)]] 62, rowO (lget ls 4) (esG c_Insn w2 w3) 25 w2 5, .cells #[.int .u64 (nn w4), .int .u64 (nn w5), .int .u64 (nn w4), .int .u64 (nn w4), .func (.func 14) #[] #[], .func (.func 15) #[] #[]] 52], 0, .normal, fun ls => [.agg #[.int .u64 (nn c0_2), .int .u64 (nn c0_3)]], fun ls => [.cells #[.map (some (lget ls 1).n)] 73, mapG kv_Me73 vv_Me73 c0_0 c0_1, .cells #[.pointer (some ⟨(lget ls 3).n, 0, none⟩)] 54, .cells #[(rowV (lget ls 4) w2 5), .func (.func 34) #[] #[.pointer (some ⟨(lget ls 0).n, 0, none⟩), .pointer (some ⟨(lget ls 2).n, 0, none⟩), .pointer (some ⟨(lget ls 5).n, 0, none⟩)]] 62, rowO (lget ls 4) (esG c_Insn w2 w3) 25 w2 5, .cells #[.int .u64 (nn w4), .int .u64 (nn w5), .int .u64 (nn w4), .int .u64 (nn w4), .func (.func 14) #[] #[], .func (.func 15) #[] #[]] 52], fun ls => []⟩) := by
  induction k with
  | zero => exact fun {M} {B0} {S} hU y0 w0 w1 w2 w3 w4 w5 c0_0 c0_1 c0_2 c0_3 e => by cases e
  | succ k ih => exact fun {M} {B0} {S} hU y0 w0 w1 w2 w3 w4 w5 c0_0 c0_1 c0_2 c0_3 e => ok0_cost_newWalk_1_v15 hU y0 w0 w1 w2 w3 w4 w5 (m_cost_newWalk_1_v15_F k) (fun hU y0 w0 w1 w2 w3 w4 w5 c0_0 c0_1 c0_2 c0_3 e => ih hU y0 w0 w1 w2 w3 w4 w5 c0_0 c0_1 c0_2 c0_3 e) c0_0 c0_1 c0_2 c0_3 e
theorem ok0_cost_newWalk_1_v15_F (k : Nat) : ∀ {M : Nat → Prop} {B0 : Nat} {S : World → Prop} (hU : Up M B0 S) (y0 : Int) (w0 : Nat) (w1 : Nat → Me73) (w2 : Nat) (w3 : Nat → Insn) (w4 : BitVec 64) (w5 : BitVec 64) (c0_0 : Nat) (c0_1 : Nat → Me73) (c0_2 : BitVec 64) (c0_3 : BitVec 64) (e : m_cost_newWalk_1_v15_F k y0 w0 w1 w2 w3 w4 w5 = some (.e0 c0_0 c0_1 c0_2 c0_3)), SpcG Try.prog M B0 S ⟨fun ls => .call 34 #[.int .i64 (y0), .pointer (some ⟨(lget ls 0).n, 0, none⟩), .pointer (some ⟨(lget ls 2).n, 0, none⟩), .pointer (some ⟨(lget ls 5).n, 0, none⟩)], fun ls => [.cells #[.map (some (lget ls 1).n)] 73, mapG kv_Me73 vv_Me73 w0 w1, .cells #[.pointer (some ⟨(lget ls 3).n, 0, none⟩)] 54, .cells #[(rowV (lget ls 4) w2 5), .func (.func 34) #[] #[.pointer (some ⟨(lget ls 0).n, 0, none⟩), .pointer (some ⟨(lget ls 2).n, 0, none⟩), .pointer (some ⟨(lget ls 5).n, 0, none⟩)]] 62, rowO (lget ls 4) (esG c_Insn w2 w3) 25 w2 5, .cells #[.int .u64 (nn w4), .int .u64 (nn w5), .int .u64 (nn w4), .int .u64 (nn w4), .func (.func 14) #[] #[], .func (.func 15) #[] #[]] 52], 0, .normal, fun ls => [.agg #[.int .u64 (nn c0_2), .int .u64 (nn c0_3)]], fun ls => [.cells #[.map (some (lget ls 1).n)] 73, mapG kv_Me73 vv_Me73 c0_0 c0_1, .cells #[.pointer (some ⟨(lget ls 3).n, 0, none⟩)] 54, .cells #[(rowV (lget ls 4) w2 5), .func (.func 34) #[] #[.pointer (some ⟨(lget ls 0).n, 0, none⟩), .pointer (some ⟨(lget ls 2).n, 0, none⟩), .pointer (some ⟨(lget ls 5).n, 0, none⟩)]] 62, rowO (lget ls 4) (esG c_Insn w2 w3) 25 w2 5, .cells #[.int .u64 (nn w4), .int .u64 (nn w5), .int .u64 (nn w4), .int .u64 (nn w4), .func (.func 14) #[] #[], .func (.func 15) #[] #[]] 52], fun ls => []⟩ := (okA_cost_newWalk_1_v15_F k)
noncomputable def m_cost_amount_cut_v3 (y0 : Amount) : BitVec 64 :=
  bif BitVec.ult (0#64) y0.fhi then
    (9223372036854775807#64)
  else ((minU y0.flo (9223372036854775807#64)))
section
variable {M : Nat → Prop} {B0 : Nat} {S : World → Prop} (hU : Up M B0 S)
include hU
theorem ok_cost_amount_cut_v3 (y0 : Amount) (r : BitVec 64) (e : m_cost_amount_cut_v3 y0 = r) : ConG Try.prog S 27 #[(v_Amount y0)] (.int .u64 (nn r)) := by
  unfold m_cost_amount_cut_v3 at e
  replace e := cond_eq_or e
  rcases e with ⟨hq0, e⟩ | ⟨hq0, e⟩
  · subst e; exact fn_conG hU (P := Try.prog) Try.func27 (fun xs w => by kernel_rfl) _ _ [.o, .o, .o, .a 0, .t (u_gt y0.fhi (0#64)) hq0, .o] [] (fun b => by kernel_rfl)
  · subst e; exact fn_conG hU (P := Try.prog) Try.func27 (fun xs w => by kernel_rfl) _ _ [.o, .o, .o, .a 0, .t (u_gt y0.fhi (0#64)) hq0, .o, .a 0, .ov (minU_ok (k := .u64) y0.flo (9223372036854775807#64) #[27, 27] 27 #[false, true]), .o] [] (fun b => by kernel_rfl)
inductive R_cost_reckoned_v4 where
  | e0 (c0_0 : BitVec 64)
noncomputable def m_cost_reckoned_v4 (w0 : Nat) (w1 : Nat → Insn) : Option R_cost_reckoned_v4 :=
  (m_cost_check_v2 w0 w1).bind fun r0 =>
  bif r0 == 0 then
    ((m_cost_newWalk_1_v15_F 450 0 0 (fun _ => (⟨0, (⟨0#64, 0#64⟩ : Amount)⟩ : Me73)) w0 w1 (0#64) (1#64)).bind fun g1 => match g1 with
    | .e0 g1_0 g1_1 g1_2 g1_3 =>
    bindT (m_cost_amount_cut_v3 (⟨g1_2, g1_3⟩ : Amount)) fun r2 =>
    some (.e0 r2))
  else (none)
def sq0_cost_reckoned_v4 (w0 : Nat) (w1 : Nat → Insn) (c0_0 : BitVec 64) : Spc := ⟨fun ls => .call 13 #[(rowV (lget ls 0) w0 5), .agg #[.int .u64 (0), .int .u64 (1), .int .u64 (0), .int .u64 (0), .func (.func 14) #[] #[], .func (.func 15) #[] #[]]], fun ls => [rowO (lget ls 0) (esG c_Insn w0 w1) 25 w0 5], 0, .normal, fun ls => [.tuple #[.int .u64 (nn c0_0), .int .i64 (0)]], fun ls => [rowO (lget ls 0) (esG c_Insn w0 w1) 25 w0 5], fun ls => []⟩
end
section
variable {M : Nat → Prop} {B0 : Nat} {S : World → Prop} (hU : Up M B0 S) (w0 : Nat) (w1 : Nat → Insn) (c0_0 : BitVec 64)
include hU w0 w1 c0_0
theorem ok0_cost_reckoned_v4 (e : m_cost_reckoned_v4 w0 w1 = some (.e0 c0_0)) : SpcG Try.prog M B0 S (sq0_cost_reckoned_v4 w0 w1 c0_0) := by
  unfold m_cost_reckoned_v4 at e
  replace e := bindO_eq e
  obtain ⟨r0, e_r0, e⟩ := e
  try dsimp only at e
  replace e := cond_eq_or e
  rcases e with ⟨hq0, e⟩ | ⟨hq0, e⟩
  · replace e := bindO_eq e
    obtain ⟨g1, e_g1, e⟩ := e
    obtain ⟨g1_0, g1_1, g1_2, g1_3⟩ := g1
    try dsimp only at e
    replace e := bindT_eq e
    obtain ⟨r2, e_r2, e⟩ := e
    try dsimp only at e
    injection e with e; injection e with i0; subst i0; exact fn_specG hU (P := Try.prog) Try.func13 (fun xs w => by kernel_rfl) 1 _ _ (fun _ => rfl) _ _ _ [] [.o, .o, .o, .o, .xg (SpcG.ownC hU c_Insn_len w0 w1 25 fun hU x u v z hr => ok_cost_check_v2 hU x u v w0 z w1 hr r0 e_r0) [0], .o, .o, .b (z_neqT hq0), .o, .a 1, .xg (p0_cost_newWalk_v3 hU w0 w1 ) [0], .o, .o, .a 2, .xg (ok0_cost_newWalk_1_v15_F 450 hU 0 0 (fun _ => (⟨0, (⟨0#64, 0#64⟩ : Amount)⟩ : Me73)) w0 w1 (0#64) (1#64) g1_0 g1_1 g1_2 g1_3 e_g1) [3, 4, 5, 2, 0, 6], .cg (ok_cost_amount_cut_v3 hU (⟨g1_2, g1_3⟩ : Amount) r2 e_r2), .o, .o] [] (fun b => by kernel_rfl)
  · exact none_some e
inductive R_cost_Longest_v1 where
  | e0 (c0_0 : BitVec 64)
noncomputable def m_cost_Longest_v1 (w0 : Nat) (w1 : Nat → Insn) : Option R_cost_Longest_v1 :=
  (m_cost_reckoned_v4 w0 w1).bind fun g0 => match g0 with
  | .e0 g0_0 =>
  some (.e0 g0_0)
def sq0_cost_Longest_v1 (w0 : Nat) (w1 : Nat → Insn) (c0_0 : BitVec 64) : Spc := ⟨fun ls => .call 6 #[(rowV (lget ls 0) w0 5)], fun ls => [rowO (lget ls 0) (esG c_Insn w0 w1) 25 w0 5], 0, .normal, fun ls => [.tuple #[.int .u64 (nn c0_0), .int .i64 (0)]], fun ls => [rowO (lget ls 0) (esG c_Insn w0 w1) 25 w0 5], fun ls => []⟩
theorem ok0_cost_Longest_v1 (e : m_cost_Longest_v1 w0 w1 = some (.e0 c0_0)) : SpcG Try.prog M B0 S (sq0_cost_Longest_v1 w0 w1 c0_0) := by
  unfold m_cost_Longest_v1 at e
  replace e := bindO_eq e
  obtain ⟨g0, e_g0, e⟩ := e
  obtain ⟨g0_0⟩ := g0
  try dsimp only at e
  injection e with e; injection e with i0; subst i0; exact fn_specG hU (P := Try.prog) Try.func6 (fun xs w => by kernel_rfl) 1 _ _ (fun _ => rfl) _ _ _ [] [.o, .o, .o, .o, .o, .o, .xg (ok0_cost_reckoned_v4 hU w0 w1 g0_0 e_g0) [0], .o, .o, .o, .o] [] (fun b => by kernel_rfl)
def sq0_cost_newWalk_v4 (w0 : Nat) (w1 : Nat → Insn)  : Spc := ⟨fun ls => .call 20 #[(rowV (lget ls 0) w0 5), .agg #[.int .u64 (0), .int .u64 (1), .int .u64 (0), .int .u64 (0), .func (.func 16) #[] #[], .func (.func 15) #[] #[]]], fun ls => [rowO (lget ls 0) (esG c_Insn w0 w1) 25 w0 5], 5, .normal, fun ls => [.pointer (some ⟨(lget ls 1).n, 0, none⟩)], fun ls => [rowO (lget ls 0) (esG c_Insn w0 w1) 25 w0 5], fun ls => [.cells #[(rowV (lget ls 0) w0 5), .func (.func 34) #[] #[.pointer (some ⟨(lget ls 2).n, 0, none⟩), .pointer (some ⟨(lget ls 4).n, 0, none⟩), .pointer (some ⟨(lget ls 5).n, 0, none⟩)]] 62, .cells #[.map (some (lget ls 3).n)] 73, mapG kv_Me73 vv_Me73 0 (fun _ => (⟨0, (⟨0#64, 0#64⟩ : Amount)⟩ : Me73)), .cells #[.pointer (some ⟨(lget ls 1).n, 0, none⟩)] 54, .cells #[.int .u64 (0), .int .u64 (1), .int .u64 (0), .int .u64 (0), .func (.func 16) #[] #[], .func (.func 15) #[] #[]] 52]⟩
end
section
variable {M : Nat → Prop} {B0 : Nat} {S : World → Prop} (hU : Up M B0 S)
include hU
theorem p0_cost_newWalk_v4 (w0 : Nat) (w1 : Nat → Insn) : SpcG Try.prog M B0 S (sq0_cost_newWalk_v4 w0 w1 ) :=
  fn_specG hU (P := Try.prog) Try.func20 (fun xs w => by kernel_rfl) 1 _ _ (fun _ => rfl) _ _ _ [2, 5, 4, 3, 1]
    [.o, .o, .o, .o, .o, .o, .a 3, .o, .o, .a 5, .a 3, .o, .o, .o, .a 2, .a 3, .o]
    [] (fun b => by kernel_rfl)
inductive R_cost_newWalk_1_v16 where
  | e0 (c0_0 : Nat) (c0_1 : Nat → Me73) (c0_2 : BitVec 64) (c0_3 : BitVec 64)
noncomputable def m_cost_lesser_v1 (y0 : Amount) (y1 : Amount) : Amount :=
  bif m_cost_amount_less_v2 y1 y0 then
    (y1)
  else (y0)
theorem ok_cost_lesser_v1 (y0 : Amount) (y1 : Amount) (r : Amount) (e : m_cost_lesser_v1 y0 y1 = r) : ConG Try.prog S 16 #[(v_Amount y0), (v_Amount y1)] ((v_Amount r)) := by
  unfold m_cost_lesser_v1 at e
  replace e := cond_eq_or e
  rcases e with ⟨hq0, e⟩ | ⟨hq0, e⟩
  · subst e; exact fn_conG hU (P := Try.prog) Try.func16 (fun xs w => by kernel_rfl) _ _ [.o, .o, .o, .a 1, .a 0, .cg (ok_cost_amount_less_v2 hU y1 y0 true hq0), .a 1, .a 2] [2, 2] (fun b => by kernel_rfl)
  · subst e; exact fn_conG hU (P := Try.prog) Try.func16 (fun xs w => by kernel_rfl) _ _ [.o, .o, .o, .a 1, .a 0, .cg (ok_cost_amount_less_v2 hU y1 y0 false hq0), .a 0, .a 2] [2, 2] (fun b => by kernel_rfl)
inductive Sh_cost_walk_reckon_v13_L0 where
  | c0 (s0_0 : Nat) (s0_1 : Nat → Me73) (s0_2 : BitVec 64) (s0_3 : BitVec 64) (s0_4 : Int)
inductive Ex_cost_walk_reckon_v13_L0 where
  | e0 (c0_0 : Nat) (c0_1 : Nat → Me73) (c0_2 : BitVec 64) (c0_3 : BitVec 64)
noncomputable def st_cost_walk_reckon_v13_L0 (w0 : BitVec 64) (w1 : BitVec 64) (w2 : Nat) (w3 : Nat → Insn) (mr0 : (Int) → (Nat) → (Nat → Me73) → (Nat) → (Nat → Insn) → (BitVec 64) → (BitVec 64) → Option R_cost_newWalk_1_v16) (g0_0 : Nat) (g0_1 : Nat → Int) : Sh_cost_walk_reckon_v13_L0 → Option (Sh_cost_walk_reckon_v13_L0 ⊕ Ex_cost_walk_reckon_v13_L0)
  | .c0 s0_0 s0_1 s0_2 s0_3 s0_4 =>
    bif decide (s0_4 < (g0_0 : Int)) then
      (bif inR s0_4 g0_0 then
        ((mr0 (g0_1 (s0_4).toNat) s0_0 s0_1 w2 w3 w0 w1).bind fun gb0 => match gb0 with
        | .e0 gb0_0 gb0_1 gb0_2 gb0_3 =>
        bif s0_4 == 0 then
          (some (.inl (.c0 gb0_0 gb0_1 gb0_2 gb0_3 (IntKind.i64.wrap (s0_4 + 1)))))
        else (bindT (m_cost_lesser_v1 (⟨s0_2, s0_3⟩ : Amount) (⟨gb0_2, gb0_3⟩ : Amount)) fun rb1 =>
        some (.inl (.c0 gb0_0 gb0_1 rb1.fhi rb1.flo (IntKind.i64.wrap (s0_4 + 1))))))
      else (none))
    else (some (.inr (.e0 s0_0 s0_1 s0_2 s0_3)))
noncomputable def bd_cost_walk_reckon_v13_L0 : Code := codeOf Try.f35 [1, 1, 1, 0, 1, 0, 0]
def fl_cost_walk_reckon_v13_L0 (y1 : Int) (w0 : BitVec 64) (w1 : BitVec 64) (w2 : Nat) (w3 : Nat → Insn) (w4 : Nat) (w5 : Nat → Me73) (mr0 : (Int) → (Nat) → (Nat → Me73) → (Nat) → (Nat → Insn) → (BitVec 64) → (BitVec 64) → Option R_cost_newWalk_1_v16) (ih0 : ∀ {M : Nat → Prop} {B0 : Nat} {S : World → Prop} (hU : Up M B0 S) (y0 : Int) (w0 : Nat) (w1 : Nat → Me73) (w2 : Nat) (w3 : Nat → Insn) (w4 : BitVec 64) (w5 : BitVec 64) (c0_0 : Nat) (c0_1 : Nat → Me73) (c0_2 : BitVec 64) (c0_3 : BitVec 64), mr0 y0 w0 w1 w2 w3 w4 w5 = some (.e0 c0_0 c0_1 c0_2 c0_3) → SpcG Try.prog M B0 S ⟨fun ls => .call 34 #[.int .i64 (y0), .pointer (some ⟨(lget ls 0).n, 0, none⟩), .pointer (some ⟨(lget ls 2).n, 0, none⟩), .pointer (some ⟨(lget ls 5).n, 0, none⟩)], fun ls => [.cells #[.map (some (lget ls 1).n)] 73, mapG kv_Me73 vv_Me73 w0 w1, .cells #[.pointer (some ⟨(lget ls 3).n, 0, none⟩)] 54, .cells #[(rowV (lget ls 4) w2 5), .func (.func 34) #[] #[.pointer (some ⟨(lget ls 0).n, 0, none⟩), .pointer (some ⟨(lget ls 2).n, 0, none⟩), .pointer (some ⟨(lget ls 5).n, 0, none⟩)]] 62, rowO (lget ls 4) (esG c_Insn w2 w3) 25 w2 5, .cells #[.int .u64 (nn w4), .int .u64 (nn w5), .int .u64 (nn w4), .int .u64 (nn w4), .func (.func 16) #[] #[], .func (.func 15) #[] #[]] 52], 0, .normal, fun ls => [.agg #[.int .u64 (nn c0_2), .int .u64 (nn c0_3)]], fun ls => [.cells #[.map (some (lget ls 1).n)] 73, mapG kv_Me73 vv_Me73 c0_0 c0_1, .cells #[.pointer (some ⟨(lget ls 3).n, 0, none⟩)] 54, .cells #[(rowV (lget ls 4) w2 5), .func (.func 34) #[] #[.pointer (some ⟨(lget ls 0).n, 0, none⟩), .pointer (some ⟨(lget ls 2).n, 0, none⟩), .pointer (some ⟨(lget ls 5).n, 0, none⟩)]] 62, rowO (lget ls 4) (esG c_Insn w2 w3) 25 w2 5, .cells #[.int .u64 (nn w4), .int .u64 (nn w5), .int .u64 (nn w4), .int .u64 (nn w4), .func (.func 16) #[] #[], .func (.func 15) #[] #[]] 52], fun ls => []⟩) (g0_0 : Nat) (g0_1 : Nat → Int) : Sh_cost_walk_reckon_v13_L0 → List L1 → List Value
  | .c0 s0_0 s0_1 s0_2 s0_3 s0_4, ls => [.pointer (some ⟨(lget ls 0).n, 0, none⟩), .int .i64 (y1), .pointer (some ⟨(lget ls 6).n, 0, none⟩), .pointer (some ⟨(lget ls 7).n, 0, none⟩), .pointer (some ⟨(lget ls 9).n, 0, none⟩), (rowV (lget ls 8) g0_0 1), .int .i64 ((g0_0 : Int)), .int .i64 (s0_4)]
def mf_cost_walk_reckon_v13_L0 : Sh_cost_walk_reckon_v13_L0 → List (Nat × Nat)
  | .c0 _ _ _ _ _ => [(2, 3), (2, 2), (1, 16), (3, 62)]
noncomputable def fr_cost_walk_reckon_v13_L0 (y1 : Int) (w0 : BitVec 64) (w1 : BitVec 64) (w2 : Nat) (w3 : Nat → Insn) (w4 : Nat) (w5 : Nat → Me73) (mr0 : (Int) → (Nat) → (Nat → Me73) → (Nat) → (Nat → Insn) → (BitVec 64) → (BitVec 64) → Option R_cost_newWalk_1_v16) (ih0 : ∀ {M : Nat → Prop} {B0 : Nat} {S : World → Prop} (hU : Up M B0 S) (y0 : Int) (w0 : Nat) (w1 : Nat → Me73) (w2 : Nat) (w3 : Nat → Insn) (w4 : BitVec 64) (w5 : BitVec 64) (c0_0 : Nat) (c0_1 : Nat → Me73) (c0_2 : BitVec 64) (c0_3 : BitVec 64), mr0 y0 w0 w1 w2 w3 w4 w5 = some (.e0 c0_0 c0_1 c0_2 c0_3) → SpcG Try.prog M B0 S ⟨fun ls => .call 34 #[.int .i64 (y0), .pointer (some ⟨(lget ls 0).n, 0, none⟩), .pointer (some ⟨(lget ls 2).n, 0, none⟩), .pointer (some ⟨(lget ls 5).n, 0, none⟩)], fun ls => [.cells #[.map (some (lget ls 1).n)] 73, mapG kv_Me73 vv_Me73 w0 w1, .cells #[.pointer (some ⟨(lget ls 3).n, 0, none⟩)] 54, .cells #[(rowV (lget ls 4) w2 5), .func (.func 34) #[] #[.pointer (some ⟨(lget ls 0).n, 0, none⟩), .pointer (some ⟨(lget ls 2).n, 0, none⟩), .pointer (some ⟨(lget ls 5).n, 0, none⟩)]] 62, rowO (lget ls 4) (esG c_Insn w2 w3) 25 w2 5, .cells #[.int .u64 (nn w4), .int .u64 (nn w5), .int .u64 (nn w4), .int .u64 (nn w4), .func (.func 16) #[] #[], .func (.func 15) #[] #[]] 52], 0, .normal, fun ls => [.agg #[.int .u64 (nn c0_2), .int .u64 (nn c0_3)]], fun ls => [.cells #[.map (some (lget ls 1).n)] 73, mapG kv_Me73 vv_Me73 c0_0 c0_1, .cells #[.pointer (some ⟨(lget ls 3).n, 0, none⟩)] 54, .cells #[(rowV (lget ls 4) w2 5), .func (.func 34) #[] #[.pointer (some ⟨(lget ls 0).n, 0, none⟩), .pointer (some ⟨(lget ls 2).n, 0, none⟩), .pointer (some ⟨(lget ls 5).n, 0, none⟩)]] 62, rowO (lget ls 4) (esG c_Insn w2 w3) 25 w2 5, .cells #[.int .u64 (nn w4), .int .u64 (nn w5), .int .u64 (nn w4), .int .u64 (nn w4), .func (.func 16) #[] #[], .func (.func 15) #[] #[]] 52], fun ls => []⟩) (g0_0 : Nat) (g0_1 : Nat → Int) (s : Sh_cost_walk_reckon_v13_L0) : List L1 → List Value := mrgF (mf_cost_walk_reckon_v13_L0 s) (fl_cost_walk_reckon_v13_L0 y1 w0 w1 w2 w3 w4 w5 mr0 ih0 g0_0 g0_1 s) 10
def Hs_cost_walk_reckon_v13_L0 (y1 : Int) (w0 : BitVec 64) (w1 : BitVec 64) (w2 : Nat) (w3 : Nat → Insn) (w4 : Nat) (w5 : Nat → Me73) (mr0 : (Int) → (Nat) → (Nat → Me73) → (Nat) → (Nat → Insn) → (BitVec 64) → (BitVec 64) → Option R_cost_newWalk_1_v16) (ih0 : ∀ {M : Nat → Prop} {B0 : Nat} {S : World → Prop} (hU : Up M B0 S) (y0 : Int) (w0 : Nat) (w1 : Nat → Me73) (w2 : Nat) (w3 : Nat → Insn) (w4 : BitVec 64) (w5 : BitVec 64) (c0_0 : Nat) (c0_1 : Nat → Me73) (c0_2 : BitVec 64) (c0_3 : BitVec 64), mr0 y0 w0 w1 w2 w3 w4 w5 = some (.e0 c0_0 c0_1 c0_2 c0_3) → SpcG Try.prog M B0 S ⟨fun ls => .call 34 #[.int .i64 (y0), .pointer (some ⟨(lget ls 0).n, 0, none⟩), .pointer (some ⟨(lget ls 2).n, 0, none⟩), .pointer (some ⟨(lget ls 5).n, 0, none⟩)], fun ls => [.cells #[.map (some (lget ls 1).n)] 73, mapG kv_Me73 vv_Me73 w0 w1, .cells #[.pointer (some ⟨(lget ls 3).n, 0, none⟩)] 54, .cells #[(rowV (lget ls 4) w2 5), .func (.func 34) #[] #[.pointer (some ⟨(lget ls 0).n, 0, none⟩), .pointer (some ⟨(lget ls 2).n, 0, none⟩), .pointer (some ⟨(lget ls 5).n, 0, none⟩)]] 62, rowO (lget ls 4) (esG c_Insn w2 w3) 25 w2 5, .cells #[.int .u64 (nn w4), .int .u64 (nn w5), .int .u64 (nn w4), .int .u64 (nn w4), .func (.func 16) #[] #[], .func (.func 15) #[] #[]] 52], 0, .normal, fun ls => [.agg #[.int .u64 (nn c0_2), .int .u64 (nn c0_3)]], fun ls => [.cells #[.map (some (lget ls 1).n)] 73, mapG kv_Me73 vv_Me73 c0_0 c0_1, .cells #[.pointer (some ⟨(lget ls 3).n, 0, none⟩)] 54, .cells #[(rowV (lget ls 4) w2 5), .func (.func 34) #[] #[.pointer (some ⟨(lget ls 0).n, 0, none⟩), .pointer (some ⟨(lget ls 2).n, 0, none⟩), .pointer (some ⟨(lget ls 5).n, 0, none⟩)]] 62, rowO (lget ls 4) (esG c_Insn w2 w3) 25 w2 5, .cells #[.int .u64 (nn w4), .int .u64 (nn w5), .int .u64 (nn w4), .int .u64 (nn w4), .func (.func 16) #[] #[], .func (.func 15) #[] #[]] 52], fun ls => []⟩) (g0_0 : Nat) (g0_1 : Nat → Int) : Sh_cost_walk_reckon_v13_L0 → List L1 → List Obj
  | .c0 s0_0 s0_1 s0_2 s0_3 s0_4, ls => [.cells #[(rowV (lget ls 1) w2 5), .func (.func 34) #[] #[.pointer (some ⟨(lget ls 2).n, 0, none⟩), .pointer (some ⟨(lget ls 4).n, 0, none⟩), .pointer (some ⟨(lget ls 5).n, 0, none⟩)]] 62, rowO (lget ls 1) (esG c_Insn w2 w3) 25 w2 5, .cells #[.map (some (lget ls 3).n)] 73, mapG kv_Me73 vv_Me73 s0_0 s0_1, .cells #[.pointer (some ⟨(lget ls 0).n, 0, none⟩)] 54, .cells #[.int .u64 (nn w0), .int .u64 (nn w1), .int .u64 (nn w0), .int .u64 (nn w0), .func (.func 16) #[] #[], .func (.func 15) #[] #[]] 52, .cells #[.int .u64 (nn w0), .int .u64 (nn w1), .int .u64 (nn w0), .int .u64 (nn w0), .func (.func 16) #[] #[], .func (.func 15) #[] #[]] 52, .cells #[.int .u64 (0), .int .u64 (0)] 48, rowO (lget ls 8) (esG cZ g0_0 g0_1) 3 g0_0 1, .cells #[.int .u64 (nn s0_2), .int .u64 (nn s0_3)] 48, unb]
def vl_cost_walk_reckon_v13_L0 (y1 : Int) (w0 : BitVec 64) (w1 : BitVec 64) (w2 : Nat) (w3 : Nat → Insn) (w4 : Nat) (w5 : Nat → Me73) (mr0 : (Int) → (Nat) → (Nat → Me73) → (Nat) → (Nat → Insn) → (BitVec 64) → (BitVec 64) → Option R_cost_newWalk_1_v16) (ih0 : ∀ {M : Nat → Prop} {B0 : Nat} {S : World → Prop} (hU : Up M B0 S) (y0 : Int) (w0 : Nat) (w1 : Nat → Me73) (w2 : Nat) (w3 : Nat → Insn) (w4 : BitVec 64) (w5 : BitVec 64) (c0_0 : Nat) (c0_1 : Nat → Me73) (c0_2 : BitVec 64) (c0_3 : BitVec 64), mr0 y0 w0 w1 w2 w3 w4 w5 = some (.e0 c0_0 c0_1 c0_2 c0_3) → SpcG Try.prog M B0 S ⟨fun ls => .call 34 #[.int .i64 (y0), .pointer (some ⟨(lget ls 0).n, 0, none⟩), .pointer (some ⟨(lget ls 2).n, 0, none⟩), .pointer (some ⟨(lget ls 5).n, 0, none⟩)], fun ls => [.cells #[.map (some (lget ls 1).n)] 73, mapG kv_Me73 vv_Me73 w0 w1, .cells #[.pointer (some ⟨(lget ls 3).n, 0, none⟩)] 54, .cells #[(rowV (lget ls 4) w2 5), .func (.func 34) #[] #[.pointer (some ⟨(lget ls 0).n, 0, none⟩), .pointer (some ⟨(lget ls 2).n, 0, none⟩), .pointer (some ⟨(lget ls 5).n, 0, none⟩)]] 62, rowO (lget ls 4) (esG c_Insn w2 w3) 25 w2 5, .cells #[.int .u64 (nn w4), .int .u64 (nn w5), .int .u64 (nn w4), .int .u64 (nn w4), .func (.func 16) #[] #[], .func (.func 15) #[] #[]] 52], 0, .normal, fun ls => [.agg #[.int .u64 (nn c0_2), .int .u64 (nn c0_3)]], fun ls => [.cells #[.map (some (lget ls 1).n)] 73, mapG kv_Me73 vv_Me73 c0_0 c0_1, .cells #[.pointer (some ⟨(lget ls 3).n, 0, none⟩)] 54, .cells #[(rowV (lget ls 4) w2 5), .func (.func 34) #[] #[.pointer (some ⟨(lget ls 0).n, 0, none⟩), .pointer (some ⟨(lget ls 2).n, 0, none⟩), .pointer (some ⟨(lget ls 5).n, 0, none⟩)]] 62, rowO (lget ls 4) (esG c_Insn w2 w3) 25 w2 5, .cells #[.int .u64 (nn w4), .int .u64 (nn w5), .int .u64 (nn w4), .int .u64 (nn w4), .func (.func 16) #[] #[], .func (.func 15) #[] #[]] 52], fun ls => []⟩) (g0_0 : Nat) (g0_1 : Nat → Int) : Ex_cost_walk_reckon_v13_L0 → List L1 → List Value
  | .e0 c0_0 c0_1 c0_2 c0_3, ls => [.pointer (some ⟨(lget ls 0).n, 0, none⟩), .int .i64 (y1), .pointer (some ⟨(lget ls 6).n, 0, none⟩), .pointer (some ⟨(lget ls 7).n, 0, none⟩), .pointer (some ⟨(lget ls 9).n, 0, none⟩), (rowV (lget ls 8) g0_0 1), .int .i64 ((g0_0 : Int))]
def mk_cost_walk_reckon_v13_L0 : Ex_cost_walk_reckon_v13_L0 → List (Nat × Nat)
  | .e0 _ _ _ _ => [(2, 3), (2, 2), (1, 16), (2, 63)]
noncomputable def vf_cost_walk_reckon_v13_L0 (y1 : Int) (w0 : BitVec 64) (w1 : BitVec 64) (w2 : Nat) (w3 : Nat → Insn) (w4 : Nat) (w5 : Nat → Me73) (mr0 : (Int) → (Nat) → (Nat → Me73) → (Nat) → (Nat → Insn) → (BitVec 64) → (BitVec 64) → Option R_cost_newWalk_1_v16) (ih0 : ∀ {M : Nat → Prop} {B0 : Nat} {S : World → Prop} (hU : Up M B0 S) (y0 : Int) (w0 : Nat) (w1 : Nat → Me73) (w2 : Nat) (w3 : Nat → Insn) (w4 : BitVec 64) (w5 : BitVec 64) (c0_0 : Nat) (c0_1 : Nat → Me73) (c0_2 : BitVec 64) (c0_3 : BitVec 64), mr0 y0 w0 w1 w2 w3 w4 w5 = some (.e0 c0_0 c0_1 c0_2 c0_3) → SpcG Try.prog M B0 S ⟨fun ls => .call 34 #[.int .i64 (y0), .pointer (some ⟨(lget ls 0).n, 0, none⟩), .pointer (some ⟨(lget ls 2).n, 0, none⟩), .pointer (some ⟨(lget ls 5).n, 0, none⟩)], fun ls => [.cells #[.map (some (lget ls 1).n)] 73, mapG kv_Me73 vv_Me73 w0 w1, .cells #[.pointer (some ⟨(lget ls 3).n, 0, none⟩)] 54, .cells #[(rowV (lget ls 4) w2 5), .func (.func 34) #[] #[.pointer (some ⟨(lget ls 0).n, 0, none⟩), .pointer (some ⟨(lget ls 2).n, 0, none⟩), .pointer (some ⟨(lget ls 5).n, 0, none⟩)]] 62, rowO (lget ls 4) (esG c_Insn w2 w3) 25 w2 5, .cells #[.int .u64 (nn w4), .int .u64 (nn w5), .int .u64 (nn w4), .int .u64 (nn w4), .func (.func 16) #[] #[], .func (.func 15) #[] #[]] 52], 0, .normal, fun ls => [.agg #[.int .u64 (nn c0_2), .int .u64 (nn c0_3)]], fun ls => [.cells #[.map (some (lget ls 1).n)] 73, mapG kv_Me73 vv_Me73 c0_0 c0_1, .cells #[.pointer (some ⟨(lget ls 3).n, 0, none⟩)] 54, .cells #[(rowV (lget ls 4) w2 5), .func (.func 34) #[] #[.pointer (some ⟨(lget ls 0).n, 0, none⟩), .pointer (some ⟨(lget ls 2).n, 0, none⟩), .pointer (some ⟨(lget ls 5).n, 0, none⟩)]] 62, rowO (lget ls 4) (esG c_Insn w2 w3) 25 w2 5, .cells #[.int .u64 (nn w4), .int .u64 (nn w5), .int .u64 (nn w4), .int .u64 (nn w4), .func (.func 16) #[] #[], .func (.func 15) #[] #[]] 52], fun ls => []⟩) (g0_0 : Nat) (g0_1 : Nat → Int) (r : Ex_cost_walk_reckon_v13_L0) : List L1 → List Value := mrgF (mk_cost_walk_reckon_v13_L0 r) (vl_cost_walk_reckon_v13_L0 y1 w0 w1 w2 w3 w4 w5 mr0 ih0 g0_0 g0_1 r) 10
def Hf_cost_walk_reckon_v13_L0 (y1 : Int) (w0 : BitVec 64) (w1 : BitVec 64) (w2 : Nat) (w3 : Nat → Insn) (w4 : Nat) (w5 : Nat → Me73) (mr0 : (Int) → (Nat) → (Nat → Me73) → (Nat) → (Nat → Insn) → (BitVec 64) → (BitVec 64) → Option R_cost_newWalk_1_v16) (ih0 : ∀ {M : Nat → Prop} {B0 : Nat} {S : World → Prop} (hU : Up M B0 S) (y0 : Int) (w0 : Nat) (w1 : Nat → Me73) (w2 : Nat) (w3 : Nat → Insn) (w4 : BitVec 64) (w5 : BitVec 64) (c0_0 : Nat) (c0_1 : Nat → Me73) (c0_2 : BitVec 64) (c0_3 : BitVec 64), mr0 y0 w0 w1 w2 w3 w4 w5 = some (.e0 c0_0 c0_1 c0_2 c0_3) → SpcG Try.prog M B0 S ⟨fun ls => .call 34 #[.int .i64 (y0), .pointer (some ⟨(lget ls 0).n, 0, none⟩), .pointer (some ⟨(lget ls 2).n, 0, none⟩), .pointer (some ⟨(lget ls 5).n, 0, none⟩)], fun ls => [.cells #[.map (some (lget ls 1).n)] 73, mapG kv_Me73 vv_Me73 w0 w1, .cells #[.pointer (some ⟨(lget ls 3).n, 0, none⟩)] 54, .cells #[(rowV (lget ls 4) w2 5), .func (.func 34) #[] #[.pointer (some ⟨(lget ls 0).n, 0, none⟩), .pointer (some ⟨(lget ls 2).n, 0, none⟩), .pointer (some ⟨(lget ls 5).n, 0, none⟩)]] 62, rowO (lget ls 4) (esG c_Insn w2 w3) 25 w2 5, .cells #[.int .u64 (nn w4), .int .u64 (nn w5), .int .u64 (nn w4), .int .u64 (nn w4), .func (.func 16) #[] #[], .func (.func 15) #[] #[]] 52], 0, .normal, fun ls => [.agg #[.int .u64 (nn c0_2), .int .u64 (nn c0_3)]], fun ls => [.cells #[.map (some (lget ls 1).n)] 73, mapG kv_Me73 vv_Me73 c0_0 c0_1, .cells #[.pointer (some ⟨(lget ls 3).n, 0, none⟩)] 54, .cells #[(rowV (lget ls 4) w2 5), .func (.func 34) #[] #[.pointer (some ⟨(lget ls 0).n, 0, none⟩), .pointer (some ⟨(lget ls 2).n, 0, none⟩), .pointer (some ⟨(lget ls 5).n, 0, none⟩)]] 62, rowO (lget ls 4) (esG c_Insn w2 w3) 25 w2 5, .cells #[.int .u64 (nn w4), .int .u64 (nn w5), .int .u64 (nn w4), .int .u64 (nn w4), .func (.func 16) #[] #[], .func (.func 15) #[] #[]] 52], fun ls => []⟩) (g0_0 : Nat) (g0_1 : Nat → Int) : Ex_cost_walk_reckon_v13_L0 → List L1 → List Obj
  | .e0 c0_0 c0_1 c0_2 c0_3, ls => [.cells #[(rowV (lget ls 1) w2 5), .func (.func 34) #[] #[.pointer (some ⟨(lget ls 2).n, 0, none⟩), .pointer (some ⟨(lget ls 4).n, 0, none⟩), .pointer (some ⟨(lget ls 5).n, 0, none⟩)]] 62, rowO (lget ls 1) (esG c_Insn w2 w3) 25 w2 5, .cells #[.map (some (lget ls 3).n)] 73, mapG kv_Me73 vv_Me73 c0_0 c0_1, .cells #[.pointer (some ⟨(lget ls 0).n, 0, none⟩)] 54, .cells #[.int .u64 (nn w0), .int .u64 (nn w1), .int .u64 (nn w0), .int .u64 (nn w0), .func (.func 16) #[] #[], .func (.func 15) #[] #[]] 52, .cells #[.int .u64 (nn w0), .int .u64 (nn w1), .int .u64 (nn w0), .int .u64 (nn w0), .func (.func 16) #[] #[], .func (.func 15) #[] #[]] 52, .cells #[.int .u64 (0), .int .u64 (0)] 48, rowO (lget ls 8) (esG cZ g0_0 g0_1) 3 g0_0 1, .cells #[.int .u64 (nn c0_2), .int .u64 (nn c0_3)] 48, unb]
def ex_cost_walk_reckon_v13_L0 : Ex_cost_walk_reckon_v13_L0 → Ex
  | .e0 _ _ _ _ => (.exit 0)
end
section
variable {M : Nat → Prop} {B0 : Nat} {S : World → Prop} (hU : Up M B0 S) (y1 : Int) (w0 : BitVec 64) (w1 : BitVec 64) (w2 : Nat) (w3 : Nat → Insn) (w4 : Nat) (w5 : Nat → Me73) (mr0 : (Int) → (Nat) → (Nat → Me73) → (Nat) → (Nat → Insn) → (BitVec 64) → (BitVec 64) → Option R_cost_newWalk_1_v16) (ih0 : ∀ {M : Nat → Prop} {B0 : Nat} {S : World → Prop} (hU : Up M B0 S) (y0 : Int) (w0 : Nat) (w1 : Nat → Me73) (w2 : Nat) (w3 : Nat → Insn) (w4 : BitVec 64) (w5 : BitVec 64) (c0_0 : Nat) (c0_1 : Nat → Me73) (c0_2 : BitVec 64) (c0_3 : BitVec 64), mr0 y0 w0 w1 w2 w3 w4 w5 = some (.e0 c0_0 c0_1 c0_2 c0_3) → SpcG Try.prog M B0 S ⟨fun ls => .call 34 #[.int .i64 (y0), .pointer (some ⟨(lget ls 0).n, 0, none⟩), .pointer (some ⟨(lget ls 2).n, 0, none⟩), .pointer (some ⟨(lget ls 5).n, 0, none⟩)], fun ls => [.cells #[.map (some (lget ls 1).n)] 73, mapG kv_Me73 vv_Me73 w0 w1, .cells #[.pointer (some ⟨(lget ls 3).n, 0, none⟩)] 54, .cells #[(rowV (lget ls 4) w2 5), .func (.func 34) #[] #[.pointer (some ⟨(lget ls 0).n, 0, none⟩), .pointer (some ⟨(lget ls 2).n, 0, none⟩), .pointer (some ⟨(lget ls 5).n, 0, none⟩)]] 62, rowO (lget ls 4) (esG c_Insn w2 w3) 25 w2 5, .cells #[.int .u64 (nn w4), .int .u64 (nn w5), .int .u64 (nn w4), .int .u64 (nn w4), .func (.func 16) #[] #[], .func (.func 15) #[] #[]] 52], 0, .normal, fun ls => [.agg #[.int .u64 (nn c0_2), .int .u64 (nn c0_3)]], fun ls => [.cells #[.map (some (lget ls 1).n)] 73, mapG kv_Me73 vv_Me73 c0_0 c0_1, .cells #[.pointer (some ⟨(lget ls 3).n, 0, none⟩)] 54, .cells #[(rowV (lget ls 4) w2 5), .func (.func 34) #[] #[.pointer (some ⟨(lget ls 0).n, 0, none⟩), .pointer (some ⟨(lget ls 2).n, 0, none⟩), .pointer (some ⟨(lget ls 5).n, 0, none⟩)]] 62, rowO (lget ls 4) (esG c_Insn w2 w3) 25 w2 5, .cells #[.int .u64 (nn w4), .int .u64 (nn w5), .int .u64 (nn w4), .int .u64 (nn w4), .func (.func 16) #[] #[], .func (.func 15) #[] #[]] 52], fun ls => []⟩) (g0_0 : Nat) (g0_1 : Nat → Int)
include hU y1 w0 w1 w2 w3 w4 w5 mr0 ih0 g0_0 g0_1
theorem go_cost_walk_reckon_v13_L0 (s : Sh_cost_walk_reckon_v13_L0) (r : Ex_cost_walk_reckon_v13_L0) (h : lpO (st_cost_walk_reckon_v13_L0 w0 w1 w2 w3 mr0 g0_0 g0_1) s = some r) : GoesG Try.prog M B0 S (.loop bd_cost_walk_reckon_v13_L0) 11 (fr_cost_walk_reckon_v13_L0 y1 w0 w1 w2 w3 w4 w5 mr0 ih0 g0_0 g0_1 s) (Hs_cost_walk_reckon_v13_L0 y1 w0 w1 w2 w3 w4 w5 mr0 ih0 g0_0 g0_1 s) (ex_cost_walk_reckon_v13_L0 r) 10 (vf_cost_walk_reckon_v13_L0 y1 w0 w1 w2 w3 w4 w5 mr0 ih0 g0_0 g0_1 r) (Hf_cost_walk_reckon_v13_L0 y1 w0 w1 w2 w3 w4 w5 mr0 ih0 g0_0 g0_1 r) 11 :=
  goes_lpO (fun s q e => by
    cases s with
    | c0 s0_0 s0_1 s0_2 s0_3 s0_4 =>
      unfold st_cost_walk_reckon_v13_L0 at e
      dsimp only at e
      replace e := cond_eq_or e
      rcases e with ⟨hq0, e⟩ | ⟨hq0, e⟩
      · replace e := cond_eq_or e
        rcases e with ⟨hq1, e⟩ | ⟨hq1, e⟩
        · replace e := bindO_eq e
          obtain ⟨gb0, e_gb0, e⟩ := e
          obtain ⟨gb0_0, gb0_1, gb0_2, gb0_3⟩ := gb0
          try dsimp only at e
          replace e := cond_eq_or e
          let P1 : List (PG Try.prog M B0 S) := [.b (z_lssT hq0), .o, .q (ixM_ok (kd := .i64) (T := 32) (x := s0_4) (N := g0_0) (sz := 1) rfl (fun w => by kernel_rfl) hq1), .l (accG (i := 8) (f := cZ) (A := g0_1) (k := (s0_4).toNat) 0 [.int .i64 ((g0_1 (s0_4).toNat))] cZ_len (inR_nat hq1) rfl), .o, .o, .o, .o, .o, .a 0, .o, .xg (ih0 hU (g0_1 (s0_4).toNat) s0_0 s0_1 w2 w3 w0 w1 gb0_0 gb0_1 gb0_2 gb0_3 e_gb0) [2, 3, 4, 0, 1, 5], .o, .a 11, .o]
          rcases e with ⟨hq2, e⟩ | ⟨hq2, e⟩
          · cases e; exact goes_runM hU (P1 ++ [.b (z_eqlT hq2), .a 11, .a 9, .o, .o]) [0, 1, 2, 3, 4, 5, 6, 7, 8, 9] (fun b => rfl) (by decide) rfl rfl (fun b => by kernel_rfl)
          · replace e := bindT_eq e
            obtain ⟨rb1, e_rb1, e⟩ := e
            try dsimp only at e
            cases e; exact goes_runM hU (P1 ++ [.b (z_eqlF hq2), .o, .a 6, .a 9, .a 11, .cg (ok_cost_lesser_v1 hU (⟨s0_2, s0_3⟩ : Amount) (⟨gb0_2, gb0_3⟩ : Amount) rb1 e_rb1), .a 9, .o, .o]) [0, 1, 2, 3, 4, 5, 6, 7, 8, 9] (fun b => rfl) (by decide) rfl rfl (fun b => by kernel_rfl)
        · exact none_some e
      · cases e; exact ⟨ne_exit 0, goes_runM hU [.b (z_lssF hq0)] [0, 1, 2, 3, 4, 5, 6, 7, 8, 9] (fun b => rfl) (by decide) rfl rfl (fun b => by kernel_rfl)⟩) s r h
noncomputable def t0_cost_walk_reckon_v13_L0_0 (y1 : Int) (w0 : BitVec 64) (w1 : BitVec 64) (w2 : Nat) (w3 : Nat → Insn) (w4 : Nat) (w5 : Nat → Me73) (mr0 : (Int) → (Nat) → (Nat → Me73) → (Nat) → (Nat → Insn) → (BitVec 64) → (BitVec 64) → Option R_cost_newWalk_1_v16) (ih0 : ∀ {M : Nat → Prop} {B0 : Nat} {S : World → Prop} (hU : Up M B0 S) (y0 : Int) (w0 : Nat) (w1 : Nat → Me73) (w2 : Nat) (w3 : Nat → Insn) (w4 : BitVec 64) (w5 : BitVec 64) (c0_0 : Nat) (c0_1 : Nat → Me73) (c0_2 : BitVec 64) (c0_3 : BitVec 64), mr0 y0 w0 w1 w2 w3 w4 w5 = some (.e0 c0_0 c0_1 c0_2 c0_3) → SpcG Try.prog M B0 S ⟨fun ls => .call 34 #[.int .i64 (y0), .pointer (some ⟨(lget ls 0).n, 0, none⟩), .pointer (some ⟨(lget ls 2).n, 0, none⟩), .pointer (some ⟨(lget ls 5).n, 0, none⟩)], fun ls => [.cells #[.map (some (lget ls 1).n)] 73, mapG kv_Me73 vv_Me73 w0 w1, .cells #[.pointer (some ⟨(lget ls 3).n, 0, none⟩)] 54, .cells #[(rowV (lget ls 4) w2 5), .func (.func 34) #[] #[.pointer (some ⟨(lget ls 0).n, 0, none⟩), .pointer (some ⟨(lget ls 2).n, 0, none⟩), .pointer (some ⟨(lget ls 5).n, 0, none⟩)]] 62, rowO (lget ls 4) (esG c_Insn w2 w3) 25 w2 5, .cells #[.int .u64 (nn w4), .int .u64 (nn w5), .int .u64 (nn w4), .int .u64 (nn w4), .func (.func 16) #[] #[], .func (.func 15) #[] #[]] 52], 0, .normal, fun ls => [.agg #[.int .u64 (nn c0_2), .int .u64 (nn c0_3)]], fun ls => [.cells #[.map (some (lget ls 1).n)] 73, mapG kv_Me73 vv_Me73 c0_0 c0_1, .cells #[.pointer (some ⟨(lget ls 3).n, 0, none⟩)] 54, .cells #[(rowV (lget ls 4) w2 5), .func (.func 34) #[] #[.pointer (some ⟨(lget ls 0).n, 0, none⟩), .pointer (some ⟨(lget ls 2).n, 0, none⟩), .pointer (some ⟨(lget ls 5).n, 0, none⟩)]] 62, rowO (lget ls 4) (esG c_Insn w2 w3) 25 w2 5, .cells #[.int .u64 (nn w4), .int .u64 (nn w5), .int .u64 (nn w4), .int .u64 (nn w4), .func (.func 16) #[] #[], .func (.func 15) #[] #[]] 52], fun ls => []⟩) (g0_0 : Nat) (g0_1 : Nat → Int) (s0_0 : Nat) (s0_1 : Nat → Me73) (s0_2 : BitVec 64) (s0_3 : BitVec 64) (s0_4 : Int) (ls : List L1) : List Value := List.append [.pointer (some ⟨(lget ls 0).n, 0, none⟩), .int .i64 (y1), .agg #[.int .u64 (nn w0), .int .u64 (nn w1), .int .u64 (nn w0), .int .u64 (nn w0), .func (.func 16) #[] #[], .func (.func 15) #[] #[]], undef, undef, .pointer (some ⟨(lget ls 6).n, 0, none⟩), .pointer (some ⟨(lget ls 7).n, 0, none⟩), (rowV (lget ls 8) g0_0 1), .int .i64 (0), .pointer (some ⟨(lget ls 9).n, 0, none⟩)] (List.append (und 5) (List.append [.tuple #[(rowV (lget ls 8) g0_0 1), .int .i64 (0)], .pointer (some ⟨(lget ls 0).n, 0, none⟩), .pointer (some ⟨(lget ls 0).n, 0, none⟩), .pointer (some ⟨(lget ls 0).n, 0, none⟩), (rowV (lget ls 1) w2 5), .int .i64 (y1), .tuple #[(rowV (lget ls 8) g0_0 1), .int .i64 (0)], (rowV (lget ls 8) g0_0 1), .int .i64 (0), .pointer (some ⟨(lget ls 6).n, 2, none⟩), .agg #[.int .u64 (nn w0), .int .u64 (nn w0)], (rowV (lget ls 8) g0_0 1), .int .i64 ((g0_0 : Int)), .int .i64 (s0_4)] (und 62)))
def pre_cost_walk_reckon_v13_L0_0 (y1 : Int) (w0 : BitVec 64) (w1 : BitVec 64) (w2 : Nat) (w3 : Nat → Insn) (w4 : Nat) (w5 : Nat → Me73) (mr0 : (Int) → (Nat) → (Nat → Me73) → (Nat) → (Nat → Insn) → (BitVec 64) → (BitVec 64) → Option R_cost_newWalk_1_v16) (ih0 : ∀ {M : Nat → Prop} {B0 : Nat} {S : World → Prop} (hU : Up M B0 S) (y0 : Int) (w0 : Nat) (w1 : Nat → Me73) (w2 : Nat) (w3 : Nat → Insn) (w4 : BitVec 64) (w5 : BitVec 64) (c0_0 : Nat) (c0_1 : Nat → Me73) (c0_2 : BitVec 64) (c0_3 : BitVec 64), mr0 y0 w0 w1 w2 w3 w4 w5 = some (.e0 c0_0 c0_1 c0_2 c0_3) → SpcG Try.prog M B0 S ⟨fun ls => .call 34 #[.int .i64 (y0), .pointer (some ⟨(lget ls 0).n, 0, none⟩), .pointer (some ⟨(lget ls 2).n, 0, none⟩), .pointer (some ⟨(lget ls 5).n, 0, none⟩)], fun ls => [.cells #[.map (some (lget ls 1).n)] 73, mapG kv_Me73 vv_Me73 w0 w1, .cells #[.pointer (some ⟨(lget ls 3).n, 0, none⟩)] 54, .cells #[(rowV (lget ls 4) w2 5), .func (.func 34) #[] #[.pointer (some ⟨(lget ls 0).n, 0, none⟩), .pointer (some ⟨(lget ls 2).n, 0, none⟩), .pointer (some ⟨(lget ls 5).n, 0, none⟩)]] 62, rowO (lget ls 4) (esG c_Insn w2 w3) 25 w2 5, .cells #[.int .u64 (nn w4), .int .u64 (nn w5), .int .u64 (nn w4), .int .u64 (nn w4), .func (.func 16) #[] #[], .func (.func 15) #[] #[]] 52], 0, .normal, fun ls => [.agg #[.int .u64 (nn c0_2), .int .u64 (nn c0_3)]], fun ls => [.cells #[.map (some (lget ls 1).n)] 73, mapG kv_Me73 vv_Me73 c0_0 c0_1, .cells #[.pointer (some ⟨(lget ls 3).n, 0, none⟩)] 54, .cells #[(rowV (lget ls 4) w2 5), .func (.func 34) #[] #[.pointer (some ⟨(lget ls 0).n, 0, none⟩), .pointer (some ⟨(lget ls 2).n, 0, none⟩), .pointer (some ⟨(lget ls 5).n, 0, none⟩)]] 62, rowO (lget ls 4) (esG c_Insn w2 w3) 25 w2 5, .cells #[.int .u64 (nn w4), .int .u64 (nn w5), .int .u64 (nn w4), .int .u64 (nn w4), .func (.func 16) #[] #[], .func (.func 15) #[] #[]] 52], fun ls => []⟩) (g0_0 : Nat) (g0_1 : Nat → Int) (s0_0 : Nat) (s0_1 : Nat → Me73) (s0_2 : BitVec 64) (s0_3 : BitVec 64) (s0_4 : Int) (ls : List L1) : List Obj := [.cells #[(rowV (lget ls 1) w2 5), .func (.func 34) #[] #[.pointer (some ⟨(lget ls 2).n, 0, none⟩), .pointer (some ⟨(lget ls 4).n, 0, none⟩), .pointer (some ⟨(lget ls 5).n, 0, none⟩)]] 62, rowO (lget ls 1) (esG c_Insn w2 w3) 25 w2 5, .cells #[.map (some (lget ls 3).n)] 73, mapG kv_Me73 vv_Me73 s0_0 s0_1, .cells #[.pointer (some ⟨(lget ls 0).n, 0, none⟩)] 54, .cells #[.int .u64 (nn w0), .int .u64 (nn w1), .int .u64 (nn w0), .int .u64 (nn w0), .func (.func 16) #[] #[], .func (.func 15) #[] #[]] 52, .cells #[.int .u64 (nn w0), .int .u64 (nn w1), .int .u64 (nn w0), .int .u64 (nn w0), .func (.func 16) #[] #[], .func (.func 15) #[] #[]] 52, .cells #[.int .u64 (0), .int .u64 (0)] 48, rowO (lget ls 8) (esG cZ g0_0 g0_1) 3 g0_0 1, .cells #[.int .u64 (nn s0_2), .int .u64 (nn s0_3)] 48]
theorem sp0_cost_walk_reckon_v13_L0_0_ok (s0_0 : Nat) (s0_1 : Nat → Me73) (s0_2 : BitVec 64) (s0_3 : BitVec 64) (s0_4 : Int) (c0_0 : Nat) (c0_1 : Nat → Me73) (c0_2 : BitVec 64) (c0_3 : BitVec 64) (h : lpO (st_cost_walk_reckon_v13_L0 w0 w1 w2 w3 mr0 g0_0 g0_1) (.c0 s0_0 s0_1 s0_2 s0_3 s0_4) = some (.e0 c0_0 c0_1 c0_2 c0_3)) : SpcG Try.prog M B0 S ⟨fun ls => .code (.loop bd_cost_walk_reckon_v13_L0) (t0_cost_walk_reckon_v13_L0_0 y1 w0 w1 w2 w3 w4 w5 mr0 ih0 g0_0 g0_1 s0_0 s0_1 s0_2 s0_3 s0_4 ls), pre_cost_walk_reckon_v13_L0_0 y1 w0 w1 w2 w3 w4 w5 mr0 ih0 g0_0 g0_1 s0_0 s0_1 s0_2 s0_3 s0_4, 1, (.exit 0), fun ls => vf_cost_walk_reckon_v13_L0 y1 w0 w1 w2 w3 w4 w5 mr0 ih0 g0_0 g0_1 (.e0 c0_0 c0_1 c0_2 c0_3) (ls.take 10 ++ ls.drop 10), fun ls => (Hf_cost_walk_reckon_v13_L0 y1 w0 w1 w2 w3 w4 w5 mr0 ih0 g0_0 g0_1 (.e0 c0_0 c0_1 c0_2 c0_3) (ls.take 10 ++ ls.drop 10)).take 10 ++ List.replicate 0 unb, fun ls => (Hf_cost_walk_reckon_v13_L0 y1 w0 w1 w2 w3 w4 w5 mr0 ih0 g0_0 g0_1 (.e0 c0_0 c0_1 c0_2 c0_3) (ls.take 10 ++ ls.drop 10)).drop 10⟩ :=
  spc_of_goesM hU 0 (k0 := 10) (go_cost_walk_reckon_v13_L0 hU y1 w0 w1 w2 w3 w4 w5 mr0 ih0 g0_0 g0_1 _ _ h) (t0_cost_walk_reckon_v13_L0_0 y1 w0 w1 w2 w3 w4 w5 mr0 ih0 g0_0 g0_1 s0_0 s0_1 s0_2 s0_3 s0_4) (pre_cost_walk_reckon_v13_L0_0 y1 w0 w1 w2 w3 w4 w5 mr0 ih0 g0_0 g0_1 s0_0 s0_1 s0_2 s0_3 s0_4) (fun _ => rfl) (fun ls h => by match ls, h with | [l0, l1, l2, l3, l4, l5, l6, l7, l8, l9], _ => exact ⟨by kernel_rfl, by kernel_rfl⟩) (fun ls h => by match ls, h with | [l0, l1, l2, l3, l4, l5, l6, l7, l8, l9], _ => rfl) (by decide) (by decide) (fun ls => rfl)
inductive R_cost_walk_reckon_v13 where
  | e0 (c0_0 : Nat) (c0_1 : Nat → Me73) (c0_2 : BitVec 64) (c0_3 : BitVec 64)
noncomputable def m_cost_walk_reckon_v13 (y1 : Int) (w0 : BitVec 64) (w1 : BitVec 64) (w2 : Nat) (w3 : Nat → Insn) (w4 : Nat) (w5 : Nat → Me73) (mr0 : (Int) → (Nat) → (Nat → Me73) → (Nat) → (Nat → Insn) → (BitVec 64) → (BitVec 64) → Option R_cost_newWalk_1_v16) : Option R_cost_walk_reckon_v13 :=
  (m_flow_Next w2 w3 y1).bind fun g0 => match g0 with
  | .e0 g0_0 => (bif inR y1 w2 then
      (bif ((w3 (y1).toNat)).fOp == 133#8 then
        (none)
      else (bindT (m_cost_amount_plus_v6 (⟨w0, w0⟩ : Amount) (⟨w0, w1⟩ : Amount)) fun r1 =>
      some (.e0 w4 w5 r1.fhi r1.flo)))
    else (none))
  | .e1 g0_0 g0_1 => ((lpO (st_cost_walk_reckon_v13_L0 w0 w1 w2 w3 mr0 g0_0 g0_1) (.c0 w4 w5 w0 w0 0)).bind fun g1 => match g1 with
    | .e0 g1_0 g1_1 g1_2 g1_3 =>
    bif inR y1 w2 then
      (bif ((w3 (y1).toNat)).fOp == 133#8 then
        (none)
      else (bindT (m_cost_amount_plus_v6 (⟨g1_2, g1_3⟩ : Amount) (⟨w0, w1⟩ : Amount)) fun r2 =>
      some (.e0 g1_0 g1_1 r2.fhi r2.flo)))
    else (none))
def sq0_cost_walk_reckon_v13 (y1 : Int) (w0 : BitVec 64) (w1 : BitVec 64) (w2 : Nat) (w3 : Nat → Insn) (w4 : Nat) (w5 : Nat → Me73) (mr0 : (Int) → (Nat) → (Nat → Me73) → (Nat) → (Nat → Insn) → (BitVec 64) → (BitVec 64) → Option R_cost_newWalk_1_v16) (ih0 : ∀ {M : Nat → Prop} {B0 : Nat} {S : World → Prop} (hU : Up M B0 S) (y0 : Int) (w0 : Nat) (w1 : Nat → Me73) (w2 : Nat) (w3 : Nat → Insn) (w4 : BitVec 64) (w5 : BitVec 64) (c0_0 : Nat) (c0_1 : Nat → Me73) (c0_2 : BitVec 64) (c0_3 : BitVec 64), mr0 y0 w0 w1 w2 w3 w4 w5 = some (.e0 c0_0 c0_1 c0_2 c0_3) → SpcG Try.prog M B0 S ⟨fun ls => .call 34 #[.int .i64 (y0), .pointer (some ⟨(lget ls 0).n, 0, none⟩), .pointer (some ⟨(lget ls 2).n, 0, none⟩), .pointer (some ⟨(lget ls 5).n, 0, none⟩)], fun ls => [.cells #[.map (some (lget ls 1).n)] 73, mapG kv_Me73 vv_Me73 w0 w1, .cells #[.pointer (some ⟨(lget ls 3).n, 0, none⟩)] 54, .cells #[(rowV (lget ls 4) w2 5), .func (.func 34) #[] #[.pointer (some ⟨(lget ls 0).n, 0, none⟩), .pointer (some ⟨(lget ls 2).n, 0, none⟩), .pointer (some ⟨(lget ls 5).n, 0, none⟩)]] 62, rowO (lget ls 4) (esG c_Insn w2 w3) 25 w2 5, .cells #[.int .u64 (nn w4), .int .u64 (nn w5), .int .u64 (nn w4), .int .u64 (nn w4), .func (.func 16) #[] #[], .func (.func 15) #[] #[]] 52], 0, .normal, fun ls => [.agg #[.int .u64 (nn c0_2), .int .u64 (nn c0_3)]], fun ls => [.cells #[.map (some (lget ls 1).n)] 73, mapG kv_Me73 vv_Me73 c0_0 c0_1, .cells #[.pointer (some ⟨(lget ls 3).n, 0, none⟩)] 54, .cells #[(rowV (lget ls 4) w2 5), .func (.func 34) #[] #[.pointer (some ⟨(lget ls 0).n, 0, none⟩), .pointer (some ⟨(lget ls 2).n, 0, none⟩), .pointer (some ⟨(lget ls 5).n, 0, none⟩)]] 62, rowO (lget ls 4) (esG c_Insn w2 w3) 25 w2 5, .cells #[.int .u64 (nn w4), .int .u64 (nn w5), .int .u64 (nn w4), .int .u64 (nn w4), .func (.func 16) #[] #[], .func (.func 15) #[] #[]] 52], fun ls => []⟩) (c0_0 : Nat) (c0_1 : Nat → Me73) (c0_2 : BitVec 64) (c0_3 : BitVec 64) : Spc := ⟨fun ls => .call 35 #[.pointer (some ⟨(lget ls 0).n, 0, none⟩), .int .i64 (y1), .agg #[.int .u64 (nn w0), .int .u64 (nn w1), .int .u64 (nn w0), .int .u64 (nn w0), .func (.func 16) #[] #[], .func (.func 15) #[] #[]]], fun ls => [.cells #[(rowV (lget ls 1) w2 5), .func (.func 34) #[] #[.pointer (some ⟨(lget ls 2).n, 0, none⟩), .pointer (some ⟨(lget ls 4).n, 0, none⟩), .pointer (some ⟨(lget ls 5).n, 0, none⟩)]] 62, rowO (lget ls 1) (esG c_Insn w2 w3) 25 w2 5, .cells #[.map (some (lget ls 3).n)] 73, mapG kv_Me73 vv_Me73 w4 w5, .cells #[.pointer (some ⟨(lget ls 0).n, 0, none⟩)] 54, .cells #[.int .u64 (nn w0), .int .u64 (nn w1), .int .u64 (nn w0), .int .u64 (nn w0), .func (.func 16) #[] #[], .func (.func 15) #[] #[]] 52], 0, .normal, fun ls => [.agg #[.int .u64 (nn c0_2), .int .u64 (nn c0_3)]], fun ls => [.cells #[(rowV (lget ls 1) w2 5), .func (.func 34) #[] #[.pointer (some ⟨(lget ls 2).n, 0, none⟩), .pointer (some ⟨(lget ls 4).n, 0, none⟩), .pointer (some ⟨(lget ls 5).n, 0, none⟩)]] 62, rowO (lget ls 1) (esG c_Insn w2 w3) 25 w2 5, .cells #[.map (some (lget ls 3).n)] 73, mapG kv_Me73 vv_Me73 c0_0 c0_1, .cells #[.pointer (some ⟨(lget ls 0).n, 0, none⟩)] 54, .cells #[.int .u64 (nn w0), .int .u64 (nn w1), .int .u64 (nn w0), .int .u64 (nn w0), .func (.func 16) #[] #[], .func (.func 15) #[] #[]] 52], fun ls => []⟩
end
section
variable {M : Nat → Prop} {B0 : Nat} {S : World → Prop} (hU : Up M B0 S)
include hU
theorem ok0_cost_walk_reckon_v13 (y1 : Int) (w0 : BitVec 64) (w1 : BitVec 64) (w2 : Nat) (w3 : Nat → Insn) (w4 : Nat) (w5 : Nat → Me73) (mr0 : (Int) → (Nat) → (Nat → Me73) → (Nat) → (Nat → Insn) → (BitVec 64) → (BitVec 64) → Option R_cost_newWalk_1_v16) (ih0 : ∀ {M : Nat → Prop} {B0 : Nat} {S : World → Prop} (hU : Up M B0 S) (y0 : Int) (w0 : Nat) (w1 : Nat → Me73) (w2 : Nat) (w3 : Nat → Insn) (w4 : BitVec 64) (w5 : BitVec 64) (c0_0 : Nat) (c0_1 : Nat → Me73) (c0_2 : BitVec 64) (c0_3 : BitVec 64), mr0 y0 w0 w1 w2 w3 w4 w5 = some (.e0 c0_0 c0_1 c0_2 c0_3) → SpcG Try.prog M B0 S ⟨fun ls => .call 34 #[.int .i64 (y0), .pointer (some ⟨(lget ls 0).n, 0, none⟩), .pointer (some ⟨(lget ls 2).n, 0, none⟩), .pointer (some ⟨(lget ls 5).n, 0, none⟩)], fun ls => [.cells #[.map (some (lget ls 1).n)] 73, mapG kv_Me73 vv_Me73 w0 w1, .cells #[.pointer (some ⟨(lget ls 3).n, 0, none⟩)] 54, .cells #[(rowV (lget ls 4) w2 5), .func (.func 34) #[] #[.pointer (some ⟨(lget ls 0).n, 0, none⟩), .pointer (some ⟨(lget ls 2).n, 0, none⟩), .pointer (some ⟨(lget ls 5).n, 0, none⟩)]] 62, rowO (lget ls 4) (esG c_Insn w2 w3) 25 w2 5, .cells #[.int .u64 (nn w4), .int .u64 (nn w5), .int .u64 (nn w4), .int .u64 (nn w4), .func (.func 16) #[] #[], .func (.func 15) #[] #[]] 52], 0, .normal, fun ls => [.agg #[.int .u64 (nn c0_2), .int .u64 (nn c0_3)]], fun ls => [.cells #[.map (some (lget ls 1).n)] 73, mapG kv_Me73 vv_Me73 c0_0 c0_1, .cells #[.pointer (some ⟨(lget ls 3).n, 0, none⟩)] 54, .cells #[(rowV (lget ls 4) w2 5), .func (.func 34) #[] #[.pointer (some ⟨(lget ls 0).n, 0, none⟩), .pointer (some ⟨(lget ls 2).n, 0, none⟩), .pointer (some ⟨(lget ls 5).n, 0, none⟩)]] 62, rowO (lget ls 4) (esG c_Insn w2 w3) 25 w2 5, .cells #[.int .u64 (nn w4), .int .u64 (nn w5), .int .u64 (nn w4), .int .u64 (nn w4), .func (.func 16) #[] #[], .func (.func 15) #[] #[]] 52], fun ls => []⟩) (c0_0 : Nat) (c0_1 : Nat → Me73) (c0_2 : BitVec 64) (c0_3 : BitVec 64) (e : m_cost_walk_reckon_v13 y1 w0 w1 w2 w3 w4 w5 mr0 = some (.e0 c0_0 c0_1 c0_2 c0_3)) : SpcG Try.prog M B0 S (sq0_cost_walk_reckon_v13 y1 w0 w1 w2 w3 w4 w5 mr0 ih0 c0_0 c0_1 c0_2 c0_3) := by
  unfold m_cost_walk_reckon_v13 at e
  replace e := bindO_eq e
  obtain ⟨g0, e_g0, e⟩ := e
  rcases g0 with ⟨g0_0⟩ | ⟨g0_0, g0_1⟩
  · try dsimp only at e
    replace e := cond_eq_or e
    rcases e with ⟨hq0, e⟩ | ⟨hq0, e⟩
    · replace e := cond_eq_or e
      rcases e with ⟨hq1, e⟩ | ⟨hq1, e⟩
      · exact none_some e
      · replace e := bindT_eq e
        obtain ⟨r1, e_r1, e⟩ := e
        try dsimp only at e
        injection e with e; injection e with i0 i1 i2 i3; subst i0 i1 i2 i3; exact fn_specG hU (P := Try.prog) Try.func35 (fun xs w => by kernel_rfl) 6 _ _ (fun _ => rfl) _ _ _ [] [.o, .o, .o, .o, .o, .a 0, .o, .xg (SpcG.own hU (f := c_Insn) c_Insn_len w2 w3 25 (fun l => padL l w2 5) (fun l => (padL l w2 5).length / 5) _ 0 .normal (by intros; rfl) (by intros; rfl) (by intros; rfl) (fun M0 B0 S0 x0 u0 v0 z0 hU0 hs0 hr0 => ok0_flow_Next hU0 x0 u0 v0 w2 z0 w3 hr0 y1 g0_0 e_g0)) [1], .o, .o, .o, .o, .o, .o, .a 6, .o, .a 8, .o, .o, .o, .o, .o, .o, .o, .a 0, .o, .q (ixM_ok (kd := .i64) (T := 26) (x := y1) (N := w2) (sz := 5) rfl (fun w => by kernel_rfl) hq0), .o, .l (accG (i := 1) (f := c_Insn) (A := w3) (k := (y1).toNat) 0 [.int .u8 (nn ((w3 (y1).toNat)).fOp)] c_Insn_len (inR_nat hq0) rfl), .t (u_eq ((w3 (y1).toNat)).fOp (133#8)) hq1, .o, .o, .a 8, .o, .a 6, .cg (ok_cost_amount_plus_v6 hU (⟨w0, w0⟩ : Amount) (⟨w0, w1⟩ : Amount) r1 e_r1), .a 7] [7, 7] (fun b => by kernel_rfl)
    · exact none_some e
  · try dsimp only at e
    replace e := bindO_eq e
    obtain ⟨g1, e_g1, e⟩ := e
    obtain ⟨g1_0, g1_1, g1_2, g1_3⟩ := g1
    try dsimp only at e
    replace e := cond_eq_or e
    rcases e with ⟨hq0, e⟩ | ⟨hq0, e⟩
    · replace e := cond_eq_or e
      rcases e with ⟨hq1, e⟩ | ⟨hq1, e⟩
      · exact none_some e
      · replace e := bindT_eq e
        obtain ⟨r2, e_r2, e⟩ := e
        try dsimp only at e
        injection e with e; injection e with i0 i1 i2 i3; subst i0 i1 i2 i3; exact fn_specG hU (P := Try.prog) Try.func35 (fun xs w => by kernel_rfl) 6 _ _ (fun _ => rfl) _ _ _ [] [.o, .o, .o, .o, .o, .a 0, .o, .xg (SpcG.own hU (f := c_Insn) c_Insn_len w2 w3 25 (fun l => padL l w2 5) (fun l => (padL l w2 5).length / 5) _ 1 .normal (by intros; rfl) (by intros; rfl) (by intros; rfl) (fun M0 B0 S0 x0 u0 v0 z0 hU0 hs0 hr0 => ok1_flow_Next hU0 x0 u0 v0 w2 z0 w3 hr0 y1 g0_0 g0_1 e_g0)) [1], .o, .o, .o, .o, .o, .o, .a 6, .o, .a 9, .o, .o, .o, .cp, .cx (sp0_cost_walk_reckon_v13_L0_0_ok hU y1 w0 w1 w2 w3 w4 w5 mr0 ih0 g0_0 g0_1 w4 w5 w0 w0 0 g1_0 g1_1 g1_2 g1_3 e_g1) [0, 1, 2, 3, 4, 5, 6, 7, 8, 9], .o, .o, .o, .a 0, .o, .q (ixM_ok (kd := .i64) (T := 26) (x := y1) (N := w2) (sz := 5) rfl (fun w => by kernel_rfl) hq0), .o, .l (accG (i := 1) (f := c_Insn) (A := w3) (k := (y1).toNat) 0 [.int .u8 (nn ((w3 (y1).toNat)).fOp)] c_Insn_len (inR_nat hq0) rfl), .t (u_eq ((w3 (y1).toNat)).fOp (133#8)) hq1, .o, .o, .a 9, .o, .a 6, .cg (ok_cost_amount_plus_v6 hU (⟨g1_2, g1_3⟩ : Amount) (⟨w0, w1⟩ : Amount) r2 e_r2), .a 7] [7, 7] (fun b => by kernel_rfl)
    · exact none_some e
noncomputable def m_cost_newWalk_1_v16 (y0 : Int) (w0 : Nat) (w1 : Nat → Me73) (w2 : Nat) (w3 : Nat → Insn) (w4 : BitVec 64) (w5 : BitVec 64) (mr0 : (Int) → (Nat) → (Nat → Me73) → (Nat) → (Nat → Insn) → (BitVec 64) → (BitVec 64) → Option R_cost_newWalk_1_v16) : Option R_cost_newWalk_1_v16 :=
  bif decide ((fdx (fun j => (y0 == (w1 j).fk)) w0) < w0) then
    (some (.e0 w0 w1 ((w1 (fdx (fun j => (y0 == (w1 j).fk)) w0)).fv).fhi ((w1 (fdx (fun j => (y0 == (w1 j).fk)) w0)).fv).flo))
  else ((m_cost_walk_reckon_v13 y0 w4 w5 w2 w3 w0 w1 mr0).bind fun g0 => match g0 with
  | .e0 g0_0 g0_1 g0_2 g0_3 =>
  bif decide ((fdx (fun j => (y0 == (g0_1 j).fk)) g0_0) < g0_0) then
    (some (.e0 g0_0 (updF g0_1 (fdx (fun j => (y0 == (g0_1 j).fk)) g0_0) (⟨y0, (⟨g0_2, g0_3⟩ : Amount)⟩ : Me73)) g0_2 g0_3))
  else (some (.e0 (g0_0 + 1) (updF g0_1 g0_0 (⟨y0, (⟨g0_2, g0_3⟩ : Amount)⟩ : Me73)) g0_2 g0_3)))
def sq0_cost_newWalk_1_v16 (y0 : Int) (w0 : Nat) (w1 : Nat → Me73) (w2 : Nat) (w3 : Nat → Insn) (w4 : BitVec 64) (w5 : BitVec 64) (mr0 : (Int) → (Nat) → (Nat → Me73) → (Nat) → (Nat → Insn) → (BitVec 64) → (BitVec 64) → Option R_cost_newWalk_1_v16) (ih0 : ∀ {M : Nat → Prop} {B0 : Nat} {S : World → Prop} (hU : Up M B0 S) (y0 : Int) (w0 : Nat) (w1 : Nat → Me73) (w2 : Nat) (w3 : Nat → Insn) (w4 : BitVec 64) (w5 : BitVec 64) (c0_0 : Nat) (c0_1 : Nat → Me73) (c0_2 : BitVec 64) (c0_3 : BitVec 64), mr0 y0 w0 w1 w2 w3 w4 w5 = some (.e0 c0_0 c0_1 c0_2 c0_3) → SpcG Try.prog M B0 S ⟨fun ls => .call 34 #[.int .i64 (y0), .pointer (some ⟨(lget ls 0).n, 0, none⟩), .pointer (some ⟨(lget ls 2).n, 0, none⟩), .pointer (some ⟨(lget ls 5).n, 0, none⟩)], fun ls => [.cells #[.map (some (lget ls 1).n)] 73, mapG kv_Me73 vv_Me73 w0 w1, .cells #[.pointer (some ⟨(lget ls 3).n, 0, none⟩)] 54, .cells #[(rowV (lget ls 4) w2 5), .func (.func 34) #[] #[.pointer (some ⟨(lget ls 0).n, 0, none⟩), .pointer (some ⟨(lget ls 2).n, 0, none⟩), .pointer (some ⟨(lget ls 5).n, 0, none⟩)]] 62, rowO (lget ls 4) (esG c_Insn w2 w3) 25 w2 5, .cells #[.int .u64 (nn w4), .int .u64 (nn w5), .int .u64 (nn w4), .int .u64 (nn w4), .func (.func 16) #[] #[], .func (.func 15) #[] #[]] 52], 0, .normal, fun ls => [.agg #[.int .u64 (nn c0_2), .int .u64 (nn c0_3)]], fun ls => [.cells #[.map (some (lget ls 1).n)] 73, mapG kv_Me73 vv_Me73 c0_0 c0_1, .cells #[.pointer (some ⟨(lget ls 3).n, 0, none⟩)] 54, .cells #[(rowV (lget ls 4) w2 5), .func (.func 34) #[] #[.pointer (some ⟨(lget ls 0).n, 0, none⟩), .pointer (some ⟨(lget ls 2).n, 0, none⟩), .pointer (some ⟨(lget ls 5).n, 0, none⟩)]] 62, rowO (lget ls 4) (esG c_Insn w2 w3) 25 w2 5, .cells #[.int .u64 (nn w4), .int .u64 (nn w5), .int .u64 (nn w4), .int .u64 (nn w4), .func (.func 16) #[] #[], .func (.func 15) #[] #[]] 52], fun ls => []⟩) (c0_0 : Nat) (c0_1 : Nat → Me73) (c0_2 : BitVec 64) (c0_3 : BitVec 64) : Spc := ⟨fun ls => .call 34 #[.int .i64 (y0), .pointer (some ⟨(lget ls 0).n, 0, none⟩), .pointer (some ⟨(lget ls 2).n, 0, none⟩), .pointer (some ⟨(lget ls 5).n, 0, none⟩)], fun ls => [.cells #[.map (some (lget ls 1).n)] 73, mapG kv_Me73 vv_Me73 w0 w1, .cells #[.pointer (some ⟨(lget ls 3).n, 0, none⟩)] 54, .cells #[(rowV (lget ls 4) w2 5), .func (.func 34) #[] #[.pointer (some ⟨(lget ls 0).n, 0, none⟩), .pointer (some ⟨(lget ls 2).n, 0, none⟩), .pointer (some ⟨(lget ls 5).n, 0, none⟩)]] 62, rowO (lget ls 4) (esG c_Insn w2 w3) 25 w2 5, .cells #[.int .u64 (nn w4), .int .u64 (nn w5), .int .u64 (nn w4), .int .u64 (nn w4), .func (.func 16) #[] #[], .func (.func 15) #[] #[]] 52], 0, .normal, fun ls => [.agg #[.int .u64 (nn c0_2), .int .u64 (nn c0_3)]], fun ls => [.cells #[.map (some (lget ls 1).n)] 73, mapG kv_Me73 vv_Me73 c0_0 c0_1, .cells #[.pointer (some ⟨(lget ls 3).n, 0, none⟩)] 54, .cells #[(rowV (lget ls 4) w2 5), .func (.func 34) #[] #[.pointer (some ⟨(lget ls 0).n, 0, none⟩), .pointer (some ⟨(lget ls 2).n, 0, none⟩), .pointer (some ⟨(lget ls 5).n, 0, none⟩)]] 62, rowO (lget ls 4) (esG c_Insn w2 w3) 25 w2 5, .cells #[.int .u64 (nn w4), .int .u64 (nn w5), .int .u64 (nn w4), .int .u64 (nn w4), .func (.func 16) #[] #[], .func (.func 15) #[] #[]] 52], fun ls => []⟩
theorem ok0_cost_newWalk_1_v16 (y0 : Int) (w0 : Nat) (w1 : Nat → Me73) (w2 : Nat) (w3 : Nat → Insn) (w4 : BitVec 64) (w5 : BitVec 64) (mr0 : (Int) → (Nat) → (Nat → Me73) → (Nat) → (Nat → Insn) → (BitVec 64) → (BitVec 64) → Option R_cost_newWalk_1_v16) (ih0 : ∀ {M : Nat → Prop} {B0 : Nat} {S : World → Prop} (hU : Up M B0 S) (y0 : Int) (w0 : Nat) (w1 : Nat → Me73) (w2 : Nat) (w3 : Nat → Insn) (w4 : BitVec 64) (w5 : BitVec 64) (c0_0 : Nat) (c0_1 : Nat → Me73) (c0_2 : BitVec 64) (c0_3 : BitVec 64), mr0 y0 w0 w1 w2 w3 w4 w5 = some (.e0 c0_0 c0_1 c0_2 c0_3) → SpcG Try.prog M B0 S ⟨fun ls => .call 34 #[.int .i64 (y0), .pointer (some ⟨(lget ls 0).n, 0, none⟩), .pointer (some ⟨(lget ls 2).n, 0, none⟩), .pointer (some ⟨(lget ls 5).n, 0, none⟩)], fun ls => [.cells #[.map (some (lget ls 1).n)] 73, mapG kv_Me73 vv_Me73 w0 w1, .cells #[.pointer (some ⟨(lget ls 3).n, 0, none⟩)] 54, .cells #[(rowV (lget ls 4) w2 5), .func (.func 34) #[] #[.pointer (some ⟨(lget ls 0).n, 0, none⟩), .pointer (some ⟨(lget ls 2).n, 0, none⟩), .pointer (some ⟨(lget ls 5).n, 0, none⟩)]] 62, rowO (lget ls 4) (esG c_Insn w2 w3) 25 w2 5, .cells #[.int .u64 (nn w4), .int .u64 (nn w5), .int .u64 (nn w4), .int .u64 (nn w4), .func (.func 16) #[] #[], .func (.func 15) #[] #[]] 52], 0, .normal, fun ls => [.agg #[.int .u64 (nn c0_2), .int .u64 (nn c0_3)]], fun ls => [.cells #[.map (some (lget ls 1).n)] 73, mapG kv_Me73 vv_Me73 c0_0 c0_1, .cells #[.pointer (some ⟨(lget ls 3).n, 0, none⟩)] 54, .cells #[(rowV (lget ls 4) w2 5), .func (.func 34) #[] #[.pointer (some ⟨(lget ls 0).n, 0, none⟩), .pointer (some ⟨(lget ls 2).n, 0, none⟩), .pointer (some ⟨(lget ls 5).n, 0, none⟩)]] 62, rowO (lget ls 4) (esG c_Insn w2 w3) 25 w2 5, .cells #[.int .u64 (nn w4), .int .u64 (nn w5), .int .u64 (nn w4), .int .u64 (nn w4), .func (.func 16) #[] #[], .func (.func 15) #[] #[]] 52], fun ls => []⟩) (c0_0 : Nat) (c0_1 : Nat → Me73) (c0_2 : BitVec 64) (c0_3 : BitVec 64) (e : m_cost_newWalk_1_v16 y0 w0 w1 w2 w3 w4 w5 mr0 = some (.e0 c0_0 c0_1 c0_2 c0_3)) : SpcG Try.prog M B0 S (sq0_cost_newWalk_1_v16 y0 w0 w1 w2 w3 w4 w5 mr0 ih0 c0_0 c0_1 c0_2 c0_3) := by
  unfold m_cost_newWalk_1_v16 at e
  replace e := cond_eq_or e
  rcases e with ⟨hq0, e⟩ | ⟨hq0, e⟩
  · injection e with e; injection e with i0 i1 i2 i3; subst i0 i1 i2 i3; exact fn_specG hU (P := Try.prog) Try.func34 (fun xs w => by kernel_rfl) 6 _ _ (fun _ => rfl) _ _ _ [] [.o, .a 0, .o, .xg (lkG_has (T := 73) (kf := kv_Me73) (vf := vv_Me73) (N := w0) (A := w1) (e := (fun j => (y0 == (w1 j).fk))) (kt := 3) (el := 48) (d := .int .i64) true (x := .int .i64 (y0)) (by kernel_rfl) (by kernel_rfl) rfl (fun _ => rfl) (of_decide_eq_true hq0)) [1], .o, .o, .o, .o, .a 7, .o, .o, .a 7, .a 6] [6, 6] (fun b => by kernel_rfl)
  · replace e := bindO_eq e
    obtain ⟨g0, e_g0, e⟩ := e
    obtain ⟨g0_0, g0_1, g0_2, g0_3⟩ := g0
    try dsimp only at e
    replace e := cond_eq_or e
    let P1 : List (PG Try.prog M B0 S) := [.o, .a 0, .o, .xg (lkG_none (T := 73) (kf := kv_Me73) (vf := vv_Me73) (N := w0) (A := w1) (e := (fun j => (y0 == (w1 j).fk))) (kt := 3) (el := 48) (d := .int .i64) true (.agg #[.int .u64 (0), .int .u64 (0)]) (x := .int .i64 (y0)) (by kernel_rfl) (by kernel_rfl) rfl (fun w => by kernel_rfl) (fun _ => rfl) (of_decide_eq_false hq0)) [1], .o, .o, .o, .o, .a 7, .o, .o, .a 2, .o, .a 5, .xg (ok0_cost_walk_reckon_v13 hU y0 w4 w5 w2 w3 w0 w1 mr0 ih0 g0_0 g0_1 g0_2 g0_3 e_g0) [3, 4, 0, 1, 2, 5], .o, .a 8, .a 0, .o, .a 8]
    rcases e with ⟨hq1, e⟩ | ⟨hq1, e⟩
    · injection e with e; injection e with i0 i1 i2 i3; subst i0 i1 i2 i3; exact fn_specG hU (P := Try.prog) Try.func34 (fun xs w => by kernel_rfl) 6 _ _ (fun _ => rfl) _ _ _ [] (P1 ++ [.xg (upG_has (T := 73) (kf := kv_Me73) (vf := vv_Me73) (N := g0_0) (A := g0_1) (e := (fun j => (y0 == (g0_1 j).fk))) (kt := 3) (el := 48) (d := .int .i64) (⟨y0, (⟨g0_2, g0_3⟩ : Amount)⟩ : Me73) (by kernel_rfl) (by kernel_rfl) (fun _ => rfl) (fun _ => rfl) (of_decide_eq_true hq1)) [1], .a 8, .a 6]) [6, 6] (fun b => by kernel_rfl)
    · injection e with e; injection e with i0 i1 i2 i3; subst i0 i1 i2 i3; exact fn_specG hU (P := Try.prog) Try.func34 (fun xs w => by kernel_rfl) 6 _ _ (fun _ => rfl) _ _ _ [] (P1 ++ [.xg (upG_new (T := 73) (kf := kv_Me73) (vf := vv_Me73) (N := g0_0) (A := g0_1) (e := (fun j => (y0 == (g0_1 j).fk))) (kt := 3) (el := 48) (d := .int .i64) (⟨y0, (⟨g0_2, g0_3⟩ : Amount)⟩ : Me73) (by kernel_rfl) (by kernel_rfl) rfl (fun _ => rfl) (of_decide_eq_false hq1)) [1], .a 8, .a 6]) [6, 6] (fun b => by kernel_rfl)
noncomputable def m_cost_newWalk_1_v16_F : Nat → (Int) → (Nat) → (Nat → Me73) → (Nat) → (Nat → Insn) → (BitVec 64) → (BitVec 64) → Option R_cost_newWalk_1_v16
  | 0 => fun _ _ _ _ _ _ _ => none
  | k + 1 => fun y0 w0 w1 w2 w3 w4 w5 => m_cost_newWalk_1_v16 y0 w0 w1 w2 w3 w4 w5 (m_cost_newWalk_1_v16_F k)
end
theorem okA_cost_newWalk_1_v16_F (k : Nat) : (∀ {M : Nat → Prop} {B0 : Nat} {S : World → Prop} (hU : Up M B0 S) (y0 : Int) (w0 : Nat) (w1 : Nat → Me73) (w2 : Nat) (w3 : Nat → Insn) (w4 : BitVec 64) (w5 : BitVec 64) (c0_0 : Nat) (c0_1 : Nat → Me73) (c0_2 : BitVec 64) (c0_3 : BitVec 64) (e : m_cost_newWalk_1_v16_F k y0 w0 w1 w2 w3 w4 w5 = some (.e0 c0_0 c0_1 c0_2 c0_3)), SpcG Try.prog M B0 S ⟨fun ls => .call 34 #[.int .i64 (y0), .pointer (some ⟨(lget ls 0).n, 0, none⟩), .pointer (some ⟨(lget ls 2).n, 0, none⟩), .pointer (some ⟨(lget ls 5).n, 0, none⟩)], fun ls => [.cells #[.map (some (lget ls 1).n)] 73, mapG kv_Me73 vv_Me73 w0 w1, .cells #[.pointer (some ⟨(lget ls 3).n, 0, none⟩)] 54, .cells #[(rowV (lget ls 4) w2 5), .func (.func 34) #[] #[.pointer (some ⟨(lget ls 0).n, 0, none⟩), .pointer (some ⟨(lget ls 2).n, 0, none⟩), .pointer (some ⟨(lget ls 5).n, 0, none⟩)]] 62, rowO (lget ls 4) (esG c_Insn w2 w3) 25 w2 5, .cells #[.int .u64 (nn w4), .int .u64 (nn w5), .int .u64 (nn w4), .int .u64 (nn w4), .func (.func 16) #[] #[], .func (.func 15) #[] #[]] 52], 0, .normal, fun ls => [.agg #[.int .u64 (nn c0_2), .int .u64 (nn c0_3)]], fun ls => [.cells #[.map (some (lget ls 1).n)] 73, mapG kv_Me73 vv_Me73 c0_0 c0_1, .cells #[.pointer (some ⟨(lget ls 3).n, 0, none⟩)] 54, .cells #[(rowV (lget ls 4) w2 5), .func (.func 34) #[] #[.pointer (some ⟨(lget ls 0).n, 0, none⟩), .pointer (some ⟨(lget ls 2).n, 0, none⟩), .pointer (some ⟨(lget ls 5).n, 0, none⟩)]] 62, rowO (lget ls 4) (esG c_Insn w2 w3) 25 w2 5, .cells #[.int .u64 (nn w4), .int .u64 (nn w5), .int .u64 (nn w4), .int .u64 (nn w4), .func (.func 16) #[] #[], .func (.func 15) #[] #[]] 52], fun ls => []⟩) := by
  induction k with
  | zero => exact fun {M} {B0} {S} hU y0 w0 w1 w2 w3 w4 w5 c0_0 c0_1 c0_2 c0_3 e => by cases e
  | succ k ih => exact fun {M} {B0} {S} hU y0 w0 w1 w2 w3 w4 w5 c0_0 c0_1 c0_2 c0_3 e => ok0_cost_newWalk_1_v16 hU y0 w0 w1 w2 w3 w4 w5 (m_cost_newWalk_1_v16_F k) (fun hU y0 w0 w1 w2 w3 w4 w5 c0_0 c0_1 c0_2 c0_3 e => ih hU y0 w0 w1 w2 w3 w4 w5 c0_0 c0_1 c0_2 c0_3 e) c0_0 c0_1 c0_2 c0_3 e
theorem ok0_cost_newWalk_1_v16_F (k : Nat) : ∀ {M : Nat → Prop} {B0 : Nat} {S : World → Prop} (hU : Up M B0 S) (y0 : Int) (w0 : Nat) (w1 : Nat → Me73) (w2 : Nat) (w3 : Nat → Insn) (w4 : BitVec 64) (w5 : BitVec 64) (c0_0 : Nat) (c0_1 : Nat → Me73) (c0_2 : BitVec 64) (c0_3 : BitVec 64) (e : m_cost_newWalk_1_v16_F k y0 w0 w1 w2 w3 w4 w5 = some (.e0 c0_0 c0_1 c0_2 c0_3)), SpcG Try.prog M B0 S ⟨fun ls => .call 34 #[.int .i64 (y0), .pointer (some ⟨(lget ls 0).n, 0, none⟩), .pointer (some ⟨(lget ls 2).n, 0, none⟩), .pointer (some ⟨(lget ls 5).n, 0, none⟩)], fun ls => [.cells #[.map (some (lget ls 1).n)] 73, mapG kv_Me73 vv_Me73 w0 w1, .cells #[.pointer (some ⟨(lget ls 3).n, 0, none⟩)] 54, .cells #[(rowV (lget ls 4) w2 5), .func (.func 34) #[] #[.pointer (some ⟨(lget ls 0).n, 0, none⟩), .pointer (some ⟨(lget ls 2).n, 0, none⟩), .pointer (some ⟨(lget ls 5).n, 0, none⟩)]] 62, rowO (lget ls 4) (esG c_Insn w2 w3) 25 w2 5, .cells #[.int .u64 (nn w4), .int .u64 (nn w5), .int .u64 (nn w4), .int .u64 (nn w4), .func (.func 16) #[] #[], .func (.func 15) #[] #[]] 52], 0, .normal, fun ls => [.agg #[.int .u64 (nn c0_2), .int .u64 (nn c0_3)]], fun ls => [.cells #[.map (some (lget ls 1).n)] 73, mapG kv_Me73 vv_Me73 c0_0 c0_1, .cells #[.pointer (some ⟨(lget ls 3).n, 0, none⟩)] 54, .cells #[(rowV (lget ls 4) w2 5), .func (.func 34) #[] #[.pointer (some ⟨(lget ls 0).n, 0, none⟩), .pointer (some ⟨(lget ls 2).n, 0, none⟩), .pointer (some ⟨(lget ls 5).n, 0, none⟩)]] 62, rowO (lget ls 4) (esG c_Insn w2 w3) 25 w2 5, .cells #[.int .u64 (nn w4), .int .u64 (nn w5), .int .u64 (nn w4), .int .u64 (nn w4), .func (.func 16) #[] #[], .func (.func 15) #[] #[]] 52], fun ls => []⟩ := (okA_cost_newWalk_1_v16_F k)
inductive R_cost_reckoned_v5 where
  | e0 (c0_0 : BitVec 64)
noncomputable def m_cost_reckoned_v5 (w0 : Nat) (w1 : Nat → Insn) : Option R_cost_reckoned_v5 :=
  (m_cost_check_v2 w0 w1).bind fun r0 =>
  bif r0 == 0 then
    ((m_cost_newWalk_1_v16_F 450 0 0 (fun _ => (⟨0, (⟨0#64, 0#64⟩ : Amount)⟩ : Me73)) w0 w1 (0#64) (1#64)).bind fun g1 => match g1 with
    | .e0 g1_0 g1_1 g1_2 g1_3 =>
    bindT (m_cost_amount_cut_v3 (⟨g1_2, g1_3⟩ : Amount)) fun r2 =>
    some (.e0 r2))
  else (none)
def sq0_cost_reckoned_v5 (w0 : Nat) (w1 : Nat → Insn) (c0_0 : BitVec 64) : Spc := ⟨fun ls => .call 13 #[(rowV (lget ls 0) w0 5), .agg #[.int .u64 (0), .int .u64 (1), .int .u64 (0), .int .u64 (0), .func (.func 16) #[] #[], .func (.func 15) #[] #[]]], fun ls => [rowO (lget ls 0) (esG c_Insn w0 w1) 25 w0 5], 0, .normal, fun ls => [.tuple #[.int .u64 (nn c0_0), .int .i64 (0)]], fun ls => [rowO (lget ls 0) (esG c_Insn w0 w1) 25 w0 5], fun ls => []⟩
section
variable {M : Nat → Prop} {B0 : Nat} {S : World → Prop} (hU : Up M B0 S) (w0 : Nat) (w1 : Nat → Insn) (c0_0 : BitVec 64)
include hU w0 w1 c0_0
theorem ok0_cost_reckoned_v5 (e : m_cost_reckoned_v5 w0 w1 = some (.e0 c0_0)) : SpcG Try.prog M B0 S (sq0_cost_reckoned_v5 w0 w1 c0_0) := by
  unfold m_cost_reckoned_v5 at e
  replace e := bindO_eq e
  obtain ⟨r0, e_r0, e⟩ := e
  try dsimp only at e
  replace e := cond_eq_or e
  rcases e with ⟨hq0, e⟩ | ⟨hq0, e⟩
  · replace e := bindO_eq e
    obtain ⟨g1, e_g1, e⟩ := e
    obtain ⟨g1_0, g1_1, g1_2, g1_3⟩ := g1
    try dsimp only at e
    replace e := bindT_eq e
    obtain ⟨r2, e_r2, e⟩ := e
    try dsimp only at e
    injection e with e; injection e with i0; subst i0; exact fn_specG hU (P := Try.prog) Try.func13 (fun xs w => by kernel_rfl) 1 _ _ (fun _ => rfl) _ _ _ [] [.o, .o, .o, .o, .xg (SpcG.ownC hU c_Insn_len w0 w1 25 fun hU x u v z hr => ok_cost_check_v2 hU x u v w0 z w1 hr r0 e_r0) [0], .o, .o, .b (z_neqT hq0), .o, .a 1, .xg (p0_cost_newWalk_v4 hU w0 w1 ) [0], .o, .o, .a 2, .xg (ok0_cost_newWalk_1_v16_F 450 hU 0 0 (fun _ => (⟨0, (⟨0#64, 0#64⟩ : Amount)⟩ : Me73)) w0 w1 (0#64) (1#64) g1_0 g1_1 g1_2 g1_3 e_g1) [3, 4, 5, 2, 0, 6], .cg (ok_cost_amount_cut_v3 hU (⟨g1_2, g1_3⟩ : Amount) r2 e_r2), .o, .o] [] (fun b => by kernel_rfl)
  · exact none_some e
inductive R_cost_Shortest_v1 where
  | e0 (c0_0 : BitVec 64)
noncomputable def m_cost_Shortest_v1 (w0 : Nat) (w1 : Nat → Insn) : Option R_cost_Shortest_v1 :=
  (m_cost_reckoned_v5 w0 w1).bind fun g0 => match g0 with
  | .e0 g0_0 =>
  some (.e0 g0_0)
def sq0_cost_Shortest_v1 (w0 : Nat) (w1 : Nat → Insn) (c0_0 : BitVec 64) : Spc := ⟨fun ls => .call 7 #[(rowV (lget ls 0) w0 5)], fun ls => [rowO (lget ls 0) (esG c_Insn w0 w1) 25 w0 5], 0, .normal, fun ls => [.tuple #[.int .u64 (nn c0_0), .int .i64 (0)]], fun ls => [rowO (lget ls 0) (esG c_Insn w0 w1) 25 w0 5], fun ls => []⟩
theorem ok0_cost_Shortest_v1 (e : m_cost_Shortest_v1 w0 w1 = some (.e0 c0_0)) : SpcG Try.prog M B0 S (sq0_cost_Shortest_v1 w0 w1 c0_0) := by
  unfold m_cost_Shortest_v1 at e
  replace e := bindO_eq e
  obtain ⟨g0, e_g0, e⟩ := e
  obtain ⟨g0_0⟩ := g0
  try dsimp only at e
  injection e with e; injection e with i0; subst i0; exact fn_specG hU (P := Try.prog) Try.func7 (fun xs w => by kernel_rfl) 1 _ _ (fun _ => rfl) _ _ _ [] [.o, .o, .o, .o, .o, .o, .xg (ok0_cost_reckoned_v5 hU w0 w1 g0_0 e_g0) [0], .o, .o, .o, .o] [] (fun b => by kernel_rfl)
def sq0_cost_newWalk_v5 (w0 : Nat) (w1 : Nat → Insn)  : Spc := ⟨fun ls => .call 20 #[(rowV (lget ls 0) w0 5), .agg #[.int .u64 (0), .int .u64 (0), .int .u64 (0), .int .u64 (1), .func (.func 17) #[] #[], .func (.func 18) #[] #[]]], fun ls => [rowO (lget ls 0) (esG c_Insn w0 w1) 25 w0 5], 5, .normal, fun ls => [.pointer (some ⟨(lget ls 1).n, 0, none⟩)], fun ls => [rowO (lget ls 0) (esG c_Insn w0 w1) 25 w0 5], fun ls => [.cells #[(rowV (lget ls 0) w0 5), .func (.func 34) #[] #[.pointer (some ⟨(lget ls 2).n, 0, none⟩), .pointer (some ⟨(lget ls 4).n, 0, none⟩), .pointer (some ⟨(lget ls 5).n, 0, none⟩)]] 62, .cells #[.map (some (lget ls 3).n)] 73, mapG kv_Me73 vv_Me73 0 (fun _ => (⟨0, (⟨0#64, 0#64⟩ : Amount)⟩ : Me73)), .cells #[.pointer (some ⟨(lget ls 1).n, 0, none⟩)] 54, .cells #[.int .u64 (0), .int .u64 (0), .int .u64 (0), .int .u64 (1), .func (.func 17) #[] #[], .func (.func 18) #[] #[]] 52]⟩
end
section
variable {M : Nat → Prop} {B0 : Nat} {S : World → Prop} (hU : Up M B0 S)
include hU
theorem p0_cost_newWalk_v5 (w0 : Nat) (w1 : Nat → Insn) : SpcG Try.prog M B0 S (sq0_cost_newWalk_v5 w0 w1 ) :=
  fn_specG hU (P := Try.prog) Try.func20 (fun xs w => by kernel_rfl) 1 _ _ (fun _ => rfl) _ _ _ [2, 5, 4, 3, 1]
    [.o, .o, .o, .o, .o, .o, .a 3, .o, .o, .a 5, .a 3, .o, .o, .o, .a 2, .a 3, .o]
    [] (fun b => by kernel_rfl)
inductive R_cost_newWalk_1_v17 where
  | e0 (c0_0 : Nat) (c0_1 : Nat → Me73) (c0_2 : BitVec 64) (c0_3 : BitVec 64)
noncomputable def m_cost_sum_v1 (y0 : Amount) (y1 : Amount) : Amount :=
  bindT (m_cost_amount_plus_v6 y0 y1) fun r0 =>
  bindT (m_cost_amount_cut_v3 r0) fun r1 =>
  (⟨0#64, r1⟩ : Amount)
theorem ok_cost_sum_v1 (y0 : Amount) (y1 : Amount) (r : Amount) (e : m_cost_sum_v1 y0 y1 = r) : ConG Try.prog S 17 #[(v_Amount y0), (v_Amount y1)] ((v_Amount r)) := by
  unfold m_cost_sum_v1 at e
  replace e := bindT_eq e
  obtain ⟨r0, e_r0, e⟩ := e
  try dsimp only at e
  replace e := bindT_eq e
  obtain ⟨r1, e_r1, e⟩ := e
  try dsimp only at e
  subst e; exact fn_conG hU (P := Try.prog) Try.func17 (fun xs w => by kernel_rfl) _ _ [.o, .o, .o, .a 0, .a 1, .cg (ok_cost_amount_plus_v6 hU y0 y1 r0 e_r0), .cg (ok_cost_amount_cut_v3 hU r0 r1 e_r1), .o, .a 2] [2, 2] (fun b => by kernel_rfl)
inductive Sh_cost_walk_reckon_v14_L0 where
  | c0 (s0_0 : Nat) (s0_1 : Nat → Me73) (s0_2 : BitVec 64) (s0_3 : BitVec 64) (s0_4 : Int)
inductive Ex_cost_walk_reckon_v14_L0 where
  | e0 (c0_0 : Nat) (c0_1 : Nat → Me73) (c0_2 : BitVec 64) (c0_3 : BitVec 64)
noncomputable def st_cost_walk_reckon_v14_L0 (w0 : BitVec 64) (w1 : BitVec 64) (w2 : Nat) (w3 : Nat → Insn) (mr0 : (Int) → (Nat) → (Nat → Me73) → (Nat) → (Nat → Insn) → (BitVec 64) → (BitVec 64) → Option R_cost_newWalk_1_v17) (g0_0 : Nat) (g0_1 : Nat → Int) : Sh_cost_walk_reckon_v14_L0 → Option (Sh_cost_walk_reckon_v14_L0 ⊕ Ex_cost_walk_reckon_v14_L0)
  | .c0 s0_0 s0_1 s0_2 s0_3 s0_4 =>
    bif decide (s0_4 < (g0_0 : Int)) then
      (bif inR s0_4 g0_0 then
        ((mr0 (g0_1 (s0_4).toNat) s0_0 s0_1 w2 w3 w0 w1).bind fun gb0 => match gb0 with
        | .e0 gb0_0 gb0_1 gb0_2 gb0_3 =>
        bif s0_4 == 0 then
          (some (.inl (.c0 gb0_0 gb0_1 gb0_2 gb0_3 (IntKind.i64.wrap (s0_4 + 1)))))
        else (bindT (m_cost_sum_v1 (⟨s0_2, s0_3⟩ : Amount) (⟨gb0_2, gb0_3⟩ : Amount)) fun rb1 =>
        some (.inl (.c0 gb0_0 gb0_1 rb1.fhi rb1.flo (IntKind.i64.wrap (s0_4 + 1))))))
      else (none))
    else (some (.inr (.e0 s0_0 s0_1 s0_2 s0_3)))
noncomputable def bd_cost_walk_reckon_v14_L0 : Code := codeOf Try.f35 [1, 1, 1, 0, 1, 0, 0]
def fl_cost_walk_reckon_v14_L0 (y1 : Int) (w0 : BitVec 64) (w1 : BitVec 64) (w2 : Nat) (w3 : Nat → Insn) (w4 : Nat) (w5 : Nat → Me73) (mr0 : (Int) → (Nat) → (Nat → Me73) → (Nat) → (Nat → Insn) → (BitVec 64) → (BitVec 64) → Option R_cost_newWalk_1_v17) (ih0 : ∀ {M : Nat → Prop} {B0 : Nat} {S : World → Prop} (hU : Up M B0 S) (y0 : Int) (w0 : Nat) (w1 : Nat → Me73) (w2 : Nat) (w3 : Nat → Insn) (w4 : BitVec 64) (w5 : BitVec 64) (c0_0 : Nat) (c0_1 : Nat → Me73) (c0_2 : BitVec 64) (c0_3 : BitVec 64), mr0 y0 w0 w1 w2 w3 w4 w5 = some (.e0 c0_0 c0_1 c0_2 c0_3) → SpcG Try.prog M B0 S ⟨fun ls => .call 34 #[.int .i64 (y0), .pointer (some ⟨(lget ls 0).n, 0, none⟩), .pointer (some ⟨(lget ls 2).n, 0, none⟩), .pointer (some ⟨(lget ls 5).n, 0, none⟩)], fun ls => [.cells #[.map (some (lget ls 1).n)] 73, mapG kv_Me73 vv_Me73 w0 w1, .cells #[.pointer (some ⟨(lget ls 3).n, 0, none⟩)] 54, .cells #[(rowV (lget ls 4) w2 5), .func (.func 34) #[] #[.pointer (some ⟨(lget ls 0).n, 0, none⟩), .pointer (some ⟨(lget ls 2).n, 0, none⟩), .pointer (some ⟨(lget ls 5).n, 0, none⟩)]] 62, rowO (lget ls 4) (esG c_Insn w2 w3) 25 w2 5, .cells #[.int .u64 (nn w4), .int .u64 (nn w4), .int .u64 (nn w4), .int .u64 (nn w5), .func (.func 17) #[] #[], .func (.func 18) #[] #[]] 52], 0, .normal, fun ls => [.agg #[.int .u64 (nn c0_2), .int .u64 (nn c0_3)]], fun ls => [.cells #[.map (some (lget ls 1).n)] 73, mapG kv_Me73 vv_Me73 c0_0 c0_1, .cells #[.pointer (some ⟨(lget ls 3).n, 0, none⟩)] 54, .cells #[(rowV (lget ls 4) w2 5), .func (.func 34) #[] #[.pointer (some ⟨(lget ls 0).n, 0, none⟩), .pointer (some ⟨(lget ls 2).n, 0, none⟩), .pointer (some ⟨(lget ls 5).n, 0, none⟩)]] 62, rowO (lget ls 4) (esG c_Insn w2 w3) 25 w2 5, .cells #[.int .u64 (nn w4), .int .u64 (nn w4), .int .u64 (nn w4), .int .u64 (nn w5), .func (.func 17) #[] #[], .func (.func 18) #[] #[]] 52], fun ls => []⟩) (g0_0 : Nat) (g0_1 : Nat → Int) : Sh_cost_walk_reckon_v14_L0 → List L1 → List Value
  | .c0 s0_0 s0_1 s0_2 s0_3 s0_4, ls => [.pointer (some ⟨(lget ls 0).n, 0, none⟩), .int .i64 (y1), .pointer (some ⟨(lget ls 6).n, 0, none⟩), .pointer (some ⟨(lget ls 7).n, 0, none⟩), .pointer (some ⟨(lget ls 9).n, 0, none⟩), (rowV (lget ls 8) g0_0 1), .int .i64 ((g0_0 : Int)), .int .i64 (s0_4)]
def mf_cost_walk_reckon_v14_L0 : Sh_cost_walk_reckon_v14_L0 → List (Nat × Nat)
  | .c0 _ _ _ _ _ => [(2, 3), (2, 2), (1, 16), (3, 62)]
noncomputable def fr_cost_walk_reckon_v14_L0 (y1 : Int) (w0 : BitVec 64) (w1 : BitVec 64) (w2 : Nat) (w3 : Nat → Insn) (w4 : Nat) (w5 : Nat → Me73) (mr0 : (Int) → (Nat) → (Nat → Me73) → (Nat) → (Nat → Insn) → (BitVec 64) → (BitVec 64) → Option R_cost_newWalk_1_v17) (ih0 : ∀ {M : Nat → Prop} {B0 : Nat} {S : World → Prop} (hU : Up M B0 S) (y0 : Int) (w0 : Nat) (w1 : Nat → Me73) (w2 : Nat) (w3 : Nat → Insn) (w4 : BitVec 64) (w5 : BitVec 64) (c0_0 : Nat) (c0_1 : Nat → Me73) (c0_2 : BitVec 64) (c0_3 : BitVec 64), mr0 y0 w0 w1 w2 w3 w4 w5 = some (.e0 c0_0 c0_1 c0_2 c0_3) → SpcG Try.prog M B0 S ⟨fun ls => .call 34 #[.int .i64 (y0), .pointer (some ⟨(lget ls 0).n, 0, none⟩), .pointer (some ⟨(lget ls 2).n, 0, none⟩), .pointer (some ⟨(lget ls 5).n, 0, none⟩)], fun ls => [.cells #[.map (some (lget ls 1).n)] 73, mapG kv_Me73 vv_Me73 w0 w1, .cells #[.pointer (some ⟨(lget ls 3).n, 0, none⟩)] 54, .cells #[(rowV (lget ls 4) w2 5), .func (.func 34) #[] #[.pointer (some ⟨(lget ls 0).n, 0, none⟩), .pointer (some ⟨(lget ls 2).n, 0, none⟩), .pointer (some ⟨(lget ls 5).n, 0, none⟩)]] 62, rowO (lget ls 4) (esG c_Insn w2 w3) 25 w2 5, .cells #[.int .u64 (nn w4), .int .u64 (nn w4), .int .u64 (nn w4), .int .u64 (nn w5), .func (.func 17) #[] #[], .func (.func 18) #[] #[]] 52], 0, .normal, fun ls => [.agg #[.int .u64 (nn c0_2), .int .u64 (nn c0_3)]], fun ls => [.cells #[.map (some (lget ls 1).n)] 73, mapG kv_Me73 vv_Me73 c0_0 c0_1, .cells #[.pointer (some ⟨(lget ls 3).n, 0, none⟩)] 54, .cells #[(rowV (lget ls 4) w2 5), .func (.func 34) #[] #[.pointer (some ⟨(lget ls 0).n, 0, none⟩), .pointer (some ⟨(lget ls 2).n, 0, none⟩), .pointer (some ⟨(lget ls 5).n, 0, none⟩)]] 62, rowO (lget ls 4) (esG c_Insn w2 w3) 25 w2 5, .cells #[.int .u64 (nn w4), .int .u64 (nn w4), .int .u64 (nn w4), .int .u64 (nn w5), .func (.func 17) #[] #[], .func (.func 18) #[] #[]] 52], fun ls => []⟩) (g0_0 : Nat) (g0_1 : Nat → Int) (s : Sh_cost_walk_reckon_v14_L0) : List L1 → List Value := mrgF (mf_cost_walk_reckon_v14_L0 s) (fl_cost_walk_reckon_v14_L0 y1 w0 w1 w2 w3 w4 w5 mr0 ih0 g0_0 g0_1 s) 10
def Hs_cost_walk_reckon_v14_L0 (y1 : Int) (w0 : BitVec 64) (w1 : BitVec 64) (w2 : Nat) (w3 : Nat → Insn) (w4 : Nat) (w5 : Nat → Me73) (mr0 : (Int) → (Nat) → (Nat → Me73) → (Nat) → (Nat → Insn) → (BitVec 64) → (BitVec 64) → Option R_cost_newWalk_1_v17) (ih0 : ∀ {M : Nat → Prop} {B0 : Nat} {S : World → Prop} (hU : Up M B0 S) (y0 : Int) (w0 : Nat) (w1 : Nat → Me73) (w2 : Nat) (w3 : Nat → Insn) (w4 : BitVec 64) (w5 : BitVec 64) (c0_0 : Nat) (c0_1 : Nat → Me73) (c0_2 : BitVec 64) (c0_3 : BitVec 64), mr0 y0 w0 w1 w2 w3 w4 w5 = some (.e0 c0_0 c0_1 c0_2 c0_3) → SpcG Try.prog M B0 S ⟨fun ls => .call 34 #[.int .i64 (y0), .pointer (some ⟨(lget ls 0).n, 0, none⟩), .pointer (some ⟨(lget ls 2).n, 0, none⟩), .pointer (some ⟨(lget ls 5).n, 0, none⟩)], fun ls => [.cells #[.map (some (lget ls 1).n)] 73, mapG kv_Me73 vv_Me73 w0 w1, .cells #[.pointer (some ⟨(lget ls 3).n, 0, none⟩)] 54, .cells #[(rowV (lget ls 4) w2 5), .func (.func 34) #[] #[.pointer (some ⟨(lget ls 0).n, 0, none⟩), .pointer (some ⟨(lget ls 2).n, 0, none⟩), .pointer (some ⟨(lget ls 5).n, 0, none⟩)]] 62, rowO (lget ls 4) (esG c_Insn w2 w3) 25 w2 5, .cells #[.int .u64 (nn w4), .int .u64 (nn w4), .int .u64 (nn w4), .int .u64 (nn w5), .func (.func 17) #[] #[], .func (.func 18) #[] #[]] 52], 0, .normal, fun ls => [.agg #[.int .u64 (nn c0_2), .int .u64 (nn c0_3)]], fun ls => [.cells #[.map (some (lget ls 1).n)] 73, mapG kv_Me73 vv_Me73 c0_0 c0_1, .cells #[.pointer (some ⟨(lget ls 3).n, 0, none⟩)] 54, .cells #[(rowV (lget ls 4) w2 5), .func (.func 34) #[] #[.pointer (some ⟨(lget ls 0).n, 0, none⟩), .pointer (some ⟨(lget ls 2).n, 0, none⟩), .pointer (some ⟨(lget ls 5).n, 0, none⟩)]] 62, rowO (lget ls 4) (esG c_Insn w2 w3) 25 w2 5, .cells #[.int .u64 (nn w4), .int .u64 (nn w4), .int .u64 (nn w4), .int .u64 (nn w5), .func (.func 17) #[] #[], .func (.func 18) #[] #[]] 52], fun ls => []⟩) (g0_0 : Nat) (g0_1 : Nat → Int) : Sh_cost_walk_reckon_v14_L0 → List L1 → List Obj
  | .c0 s0_0 s0_1 s0_2 s0_3 s0_4, ls => [.cells #[(rowV (lget ls 1) w2 5), .func (.func 34) #[] #[.pointer (some ⟨(lget ls 2).n, 0, none⟩), .pointer (some ⟨(lget ls 4).n, 0, none⟩), .pointer (some ⟨(lget ls 5).n, 0, none⟩)]] 62, rowO (lget ls 1) (esG c_Insn w2 w3) 25 w2 5, .cells #[.map (some (lget ls 3).n)] 73, mapG kv_Me73 vv_Me73 s0_0 s0_1, .cells #[.pointer (some ⟨(lget ls 0).n, 0, none⟩)] 54, .cells #[.int .u64 (nn w0), .int .u64 (nn w0), .int .u64 (nn w0), .int .u64 (nn w1), .func (.func 17) #[] #[], .func (.func 18) #[] #[]] 52, .cells #[.int .u64 (nn w0), .int .u64 (nn w0), .int .u64 (nn w0), .int .u64 (nn w1), .func (.func 17) #[] #[], .func (.func 18) #[] #[]] 52, .cells #[.int .u64 (0), .int .u64 (0)] 48, rowO (lget ls 8) (esG cZ g0_0 g0_1) 3 g0_0 1, .cells #[.int .u64 (nn s0_2), .int .u64 (nn s0_3)] 48, unb]
def vl_cost_walk_reckon_v14_L0 (y1 : Int) (w0 : BitVec 64) (w1 : BitVec 64) (w2 : Nat) (w3 : Nat → Insn) (w4 : Nat) (w5 : Nat → Me73) (mr0 : (Int) → (Nat) → (Nat → Me73) → (Nat) → (Nat → Insn) → (BitVec 64) → (BitVec 64) → Option R_cost_newWalk_1_v17) (ih0 : ∀ {M : Nat → Prop} {B0 : Nat} {S : World → Prop} (hU : Up M B0 S) (y0 : Int) (w0 : Nat) (w1 : Nat → Me73) (w2 : Nat) (w3 : Nat → Insn) (w4 : BitVec 64) (w5 : BitVec 64) (c0_0 : Nat) (c0_1 : Nat → Me73) (c0_2 : BitVec 64) (c0_3 : BitVec 64), mr0 y0 w0 w1 w2 w3 w4 w5 = some (.e0 c0_0 c0_1 c0_2 c0_3) → SpcG Try.prog M B0 S ⟨fun ls => .call 34 #[.int .i64 (y0), .pointer (some ⟨(lget ls 0).n, 0, none⟩), .pointer (some ⟨(lget ls 2).n, 0, none⟩), .pointer (some ⟨(lget ls 5).n, 0, none⟩)], fun ls => [.cells #[.map (some (lget ls 1).n)] 73, mapG kv_Me73 vv_Me73 w0 w1, .cells #[.pointer (some ⟨(lget ls 3).n, 0, none⟩)] 54, .cells #[(rowV (lget ls 4) w2 5), .func (.func 34) #[] #[.pointer (some ⟨(lget ls 0).n, 0, none⟩), .pointer (some ⟨(lget ls 2).n, 0, none⟩), .pointer (some ⟨(lget ls 5).n, 0, none⟩)]] 62, rowO (lget ls 4) (esG c_Insn w2 w3) 25 w2 5, .cells #[.int .u64 (nn w4), .int .u64 (nn w4), .int .u64 (nn w4), .int .u64 (nn w5), .func (.func 17) #[] #[], .func (.func 18) #[] #[]] 52], 0, .normal, fun ls => [.agg #[.int .u64 (nn c0_2), .int .u64 (nn c0_3)]], fun ls => [.cells #[.map (some (lget ls 1).n)] 73, mapG kv_Me73 vv_Me73 c0_0 c0_1, .cells #[.pointer (some ⟨(lget ls 3).n, 0, none⟩)] 54, .cells #[(rowV (lget ls 4) w2 5), .func (.func 34) #[] #[.pointer (some ⟨(lget ls 0).n, 0, none⟩), .pointer (some ⟨(lget ls 2).n, 0, none⟩), .pointer (some ⟨(lget ls 5).n, 0, none⟩)]] 62, rowO (lget ls 4) (esG c_Insn w2 w3) 25 w2 5, .cells #[.int .u64 (nn w4), .int .u64 (nn w4), .int .u64 (nn w4), .int .u64 (nn w5), .func (.func 17) #[] #[], .func (.func 18) #[] #[]] 52], fun ls => []⟩) (g0_0 : Nat) (g0_1 : Nat → Int) : Ex_cost_walk_reckon_v14_L0 → List L1 → List Value
  | .e0 c0_0 c0_1 c0_2 c0_3, ls => [.pointer (some ⟨(lget ls 0).n, 0, none⟩), .int .i64 (y1), .pointer (some ⟨(lget ls 6).n, 0, none⟩), .pointer (some ⟨(lget ls 7).n, 0, none⟩), .pointer (some ⟨(lget ls 9).n, 0, none⟩), (rowV (lget ls 8) g0_0 1), .int .i64 ((g0_0 : Int))]
def mk_cost_walk_reckon_v14_L0 : Ex_cost_walk_reckon_v14_L0 → List (Nat × Nat)
  | .e0 _ _ _ _ => [(2, 3), (2, 2), (1, 16), (2, 63)]
noncomputable def vf_cost_walk_reckon_v14_L0 (y1 : Int) (w0 : BitVec 64) (w1 : BitVec 64) (w2 : Nat) (w3 : Nat → Insn) (w4 : Nat) (w5 : Nat → Me73) (mr0 : (Int) → (Nat) → (Nat → Me73) → (Nat) → (Nat → Insn) → (BitVec 64) → (BitVec 64) → Option R_cost_newWalk_1_v17) (ih0 : ∀ {M : Nat → Prop} {B0 : Nat} {S : World → Prop} (hU : Up M B0 S) (y0 : Int) (w0 : Nat) (w1 : Nat → Me73) (w2 : Nat) (w3 : Nat → Insn) (w4 : BitVec 64) (w5 : BitVec 64) (c0_0 : Nat) (c0_1 : Nat → Me73) (c0_2 : BitVec 64) (c0_3 : BitVec 64), mr0 y0 w0 w1 w2 w3 w4 w5 = some (.e0 c0_0 c0_1 c0_2 c0_3) → SpcG Try.prog M B0 S ⟨fun ls => .call 34 #[.int .i64 (y0), .pointer (some ⟨(lget ls 0).n, 0, none⟩), .pointer (some ⟨(lget ls 2).n, 0, none⟩), .pointer (some ⟨(lget ls 5).n, 0, none⟩)], fun ls => [.cells #[.map (some (lget ls 1).n)] 73, mapG kv_Me73 vv_Me73 w0 w1, .cells #[.pointer (some ⟨(lget ls 3).n, 0, none⟩)] 54, .cells #[(rowV (lget ls 4) w2 5), .func (.func 34) #[] #[.pointer (some ⟨(lget ls 0).n, 0, none⟩), .pointer (some ⟨(lget ls 2).n, 0, none⟩), .pointer (some ⟨(lget ls 5).n, 0, none⟩)]] 62, rowO (lget ls 4) (esG c_Insn w2 w3) 25 w2 5, .cells #[.int .u64 (nn w4), .int .u64 (nn w4), .int .u64 (nn w4), .int .u64 (nn w5), .func (.func 17) #[] #[], .func (.func 18) #[] #[]] 52], 0, .normal, fun ls => [.agg #[.int .u64 (nn c0_2), .int .u64 (nn c0_3)]], fun ls => [.cells #[.map (some (lget ls 1).n)] 73, mapG kv_Me73 vv_Me73 c0_0 c0_1, .cells #[.pointer (some ⟨(lget ls 3).n, 0, none⟩)] 54, .cells #[(rowV (lget ls 4) w2 5), .func (.func 34) #[] #[.pointer (some ⟨(lget ls 0).n, 0, none⟩), .pointer (some ⟨(lget ls 2).n, 0, none⟩), .pointer (some ⟨(lget ls 5).n, 0, none⟩)]] 62, rowO (lget ls 4) (esG c_Insn w2 w3) 25 w2 5, .cells #[.int .u64 (nn w4), .int .u64 (nn w4), .int .u64 (nn w4), .int .u64 (nn w5), .func (.func 17) #[] #[], .func (.func 18) #[] #[]] 52], fun ls => []⟩) (g0_0 : Nat) (g0_1 : Nat → Int) (r : Ex_cost_walk_reckon_v14_L0) : List L1 → List Value := mrgF (mk_cost_walk_reckon_v14_L0 r) (vl_cost_walk_reckon_v14_L0 y1 w0 w1 w2 w3 w4 w5 mr0 ih0 g0_0 g0_1 r) 10
def Hf_cost_walk_reckon_v14_L0 (y1 : Int) (w0 : BitVec 64) (w1 : BitVec 64) (w2 : Nat) (w3 : Nat → Insn) (w4 : Nat) (w5 : Nat → Me73) (mr0 : (Int) → (Nat) → (Nat → Me73) → (Nat) → (Nat → Insn) → (BitVec 64) → (BitVec 64) → Option R_cost_newWalk_1_v17) (ih0 : ∀ {M : Nat → Prop} {B0 : Nat} {S : World → Prop} (hU : Up M B0 S) (y0 : Int) (w0 : Nat) (w1 : Nat → Me73) (w2 : Nat) (w3 : Nat → Insn) (w4 : BitVec 64) (w5 : BitVec 64) (c0_0 : Nat) (c0_1 : Nat → Me73) (c0_2 : BitVec 64) (c0_3 : BitVec 64), mr0 y0 w0 w1 w2 w3 w4 w5 = some (.e0 c0_0 c0_1 c0_2 c0_3) → SpcG Try.prog M B0 S ⟨fun ls => .call 34 #[.int .i64 (y0), .pointer (some ⟨(lget ls 0).n, 0, none⟩), .pointer (some ⟨(lget ls 2).n, 0, none⟩), .pointer (some ⟨(lget ls 5).n, 0, none⟩)], fun ls => [.cells #[.map (some (lget ls 1).n)] 73, mapG kv_Me73 vv_Me73 w0 w1, .cells #[.pointer (some ⟨(lget ls 3).n, 0, none⟩)] 54, .cells #[(rowV (lget ls 4) w2 5), .func (.func 34) #[] #[.pointer (some ⟨(lget ls 0).n, 0, none⟩), .pointer (some ⟨(lget ls 2).n, 0, none⟩), .pointer (some ⟨(lget ls 5).n, 0, none⟩)]] 62, rowO (lget ls 4) (esG c_Insn w2 w3) 25 w2 5, .cells #[.int .u64 (nn w4), .int .u64 (nn w4), .int .u64 (nn w4), .int .u64 (nn w5), .func (.func 17) #[] #[], .func (.func 18) #[] #[]] 52], 0, .normal, fun ls => [.agg #[.int .u64 (nn c0_2), .int .u64 (nn c0_3)]], fun ls => [.cells #[.map (some (lget ls 1).n)] 73, mapG kv_Me73 vv_Me73 c0_0 c0_1, .cells #[.pointer (some ⟨(lget ls 3).n, 0, none⟩)] 54, .cells #[(rowV (lget ls 4) w2 5), .func (.func 34) #[] #[.pointer (some ⟨(lget ls 0).n, 0, none⟩), .pointer (some ⟨(lget ls 2).n, 0, none⟩), .pointer (some ⟨(lget ls 5).n, 0, none⟩)]] 62, rowO (lget ls 4) (esG c_Insn w2 w3) 25 w2 5, .cells #[.int .u64 (nn w4), .int .u64 (nn w4), .int .u64 (nn w4), .int .u64 (nn w5), .func (.func 17) #[] #[], .func (.func 18) #[] #[]] 52], fun ls => []⟩) (g0_0 : Nat) (g0_1 : Nat → Int) : Ex_cost_walk_reckon_v14_L0 → List L1 → List Obj
  | .e0 c0_0 c0_1 c0_2 c0_3, ls => [.cells #[(rowV (lget ls 1) w2 5), .func (.func 34) #[] #[.pointer (some ⟨(lget ls 2).n, 0, none⟩), .pointer (some ⟨(lget ls 4).n, 0, none⟩), .pointer (some ⟨(lget ls 5).n, 0, none⟩)]] 62, rowO (lget ls 1) (esG c_Insn w2 w3) 25 w2 5, .cells #[.map (some (lget ls 3).n)] 73, mapG kv_Me73 vv_Me73 c0_0 c0_1, .cells #[.pointer (some ⟨(lget ls 0).n, 0, none⟩)] 54, .cells #[.int .u64 (nn w0), .int .u64 (nn w0), .int .u64 (nn w0), .int .u64 (nn w1), .func (.func 17) #[] #[], .func (.func 18) #[] #[]] 52, .cells #[.int .u64 (nn w0), .int .u64 (nn w0), .int .u64 (nn w0), .int .u64 (nn w1), .func (.func 17) #[] #[], .func (.func 18) #[] #[]] 52, .cells #[.int .u64 (0), .int .u64 (0)] 48, rowO (lget ls 8) (esG cZ g0_0 g0_1) 3 g0_0 1, .cells #[.int .u64 (nn c0_2), .int .u64 (nn c0_3)] 48, unb]
def ex_cost_walk_reckon_v14_L0 : Ex_cost_walk_reckon_v14_L0 → Ex
  | .e0 _ _ _ _ => (.exit 0)
end
section
variable {M : Nat → Prop} {B0 : Nat} {S : World → Prop} (hU : Up M B0 S) (y1 : Int) (w0 : BitVec 64) (w1 : BitVec 64) (w2 : Nat) (w3 : Nat → Insn) (w4 : Nat) (w5 : Nat → Me73) (mr0 : (Int) → (Nat) → (Nat → Me73) → (Nat) → (Nat → Insn) → (BitVec 64) → (BitVec 64) → Option R_cost_newWalk_1_v17) (ih0 : ∀ {M : Nat → Prop} {B0 : Nat} {S : World → Prop} (hU : Up M B0 S) (y0 : Int) (w0 : Nat) (w1 : Nat → Me73) (w2 : Nat) (w3 : Nat → Insn) (w4 : BitVec 64) (w5 : BitVec 64) (c0_0 : Nat) (c0_1 : Nat → Me73) (c0_2 : BitVec 64) (c0_3 : BitVec 64), mr0 y0 w0 w1 w2 w3 w4 w5 = some (.e0 c0_0 c0_1 c0_2 c0_3) → SpcG Try.prog M B0 S ⟨fun ls => .call 34 #[.int .i64 (y0), .pointer (some ⟨(lget ls 0).n, 0, none⟩), .pointer (some ⟨(lget ls 2).n, 0, none⟩), .pointer (some ⟨(lget ls 5).n, 0, none⟩)], fun ls => [.cells #[.map (some (lget ls 1).n)] 73, mapG kv_Me73 vv_Me73 w0 w1, .cells #[.pointer (some ⟨(lget ls 3).n, 0, none⟩)] 54, .cells #[(rowV (lget ls 4) w2 5), .func (.func 34) #[] #[.pointer (some ⟨(lget ls 0).n, 0, none⟩), .pointer (some ⟨(lget ls 2).n, 0, none⟩), .pointer (some ⟨(lget ls 5).n, 0, none⟩)]] 62, rowO (lget ls 4) (esG c_Insn w2 w3) 25 w2 5, .cells #[.int .u64 (nn w4), .int .u64 (nn w4), .int .u64 (nn w4), .int .u64 (nn w5), .func (.func 17) #[] #[], .func (.func 18) #[] #[]] 52], 0, .normal, fun ls => [.agg #[.int .u64 (nn c0_2), .int .u64 (nn c0_3)]], fun ls => [.cells #[.map (some (lget ls 1).n)] 73, mapG kv_Me73 vv_Me73 c0_0 c0_1, .cells #[.pointer (some ⟨(lget ls 3).n, 0, none⟩)] 54, .cells #[(rowV (lget ls 4) w2 5), .func (.func 34) #[] #[.pointer (some ⟨(lget ls 0).n, 0, none⟩), .pointer (some ⟨(lget ls 2).n, 0, none⟩), .pointer (some ⟨(lget ls 5).n, 0, none⟩)]] 62, rowO (lget ls 4) (esG c_Insn w2 w3) 25 w2 5, .cells #[.int .u64 (nn w4), .int .u64 (nn w4), .int .u64 (nn w4), .int .u64 (nn w5), .func (.func 17) #[] #[], .func (.func 18) #[] #[]] 52], fun ls => []⟩) (g0_0 : Nat) (g0_1 : Nat → Int)
include hU y1 w0 w1 w2 w3 w4 w5 mr0 ih0 g0_0 g0_1
theorem go_cost_walk_reckon_v14_L0 (s : Sh_cost_walk_reckon_v14_L0) (r : Ex_cost_walk_reckon_v14_L0) (h : lpO (st_cost_walk_reckon_v14_L0 w0 w1 w2 w3 mr0 g0_0 g0_1) s = some r) : GoesG Try.prog M B0 S (.loop bd_cost_walk_reckon_v14_L0) 11 (fr_cost_walk_reckon_v14_L0 y1 w0 w1 w2 w3 w4 w5 mr0 ih0 g0_0 g0_1 s) (Hs_cost_walk_reckon_v14_L0 y1 w0 w1 w2 w3 w4 w5 mr0 ih0 g0_0 g0_1 s) (ex_cost_walk_reckon_v14_L0 r) 10 (vf_cost_walk_reckon_v14_L0 y1 w0 w1 w2 w3 w4 w5 mr0 ih0 g0_0 g0_1 r) (Hf_cost_walk_reckon_v14_L0 y1 w0 w1 w2 w3 w4 w5 mr0 ih0 g0_0 g0_1 r) 11 :=
  goes_lpO (fun s q e => by
    cases s with
    | c0 s0_0 s0_1 s0_2 s0_3 s0_4 =>
      unfold st_cost_walk_reckon_v14_L0 at e
      dsimp only at e
      replace e := cond_eq_or e
      rcases e with ⟨hq0, e⟩ | ⟨hq0, e⟩
      · replace e := cond_eq_or e
        rcases e with ⟨hq1, e⟩ | ⟨hq1, e⟩
        · replace e := bindO_eq e
          obtain ⟨gb0, e_gb0, e⟩ := e
          obtain ⟨gb0_0, gb0_1, gb0_2, gb0_3⟩ := gb0
          try dsimp only at e
          replace e := cond_eq_or e
          let P1 : List (PG Try.prog M B0 S) := [.b (z_lssT hq0), .o, .q (ixM_ok (kd := .i64) (T := 32) (x := s0_4) (N := g0_0) (sz := 1) rfl (fun w => by kernel_rfl) hq1), .l (accG (i := 8) (f := cZ) (A := g0_1) (k := (s0_4).toNat) 0 [.int .i64 ((g0_1 (s0_4).toNat))] cZ_len (inR_nat hq1) rfl), .o, .o, .o, .o, .o, .a 0, .o, .xg (ih0 hU (g0_1 (s0_4).toNat) s0_0 s0_1 w2 w3 w0 w1 gb0_0 gb0_1 gb0_2 gb0_3 e_gb0) [2, 3, 4, 0, 1, 5], .o, .a 11, .o]
          rcases e with ⟨hq2, e⟩ | ⟨hq2, e⟩
          · cases e; exact goes_runM hU (P1 ++ [.b (z_eqlT hq2), .a 11, .a 9, .o, .o]) [0, 1, 2, 3, 4, 5, 6, 7, 8, 9] (fun b => rfl) (by decide) rfl rfl (fun b => by kernel_rfl)
          · replace e := bindT_eq e
            obtain ⟨rb1, e_rb1, e⟩ := e
            try dsimp only at e
            cases e; exact goes_runM hU (P1 ++ [.b (z_eqlF hq2), .o, .a 6, .a 9, .a 11, .cg (ok_cost_sum_v1 hU (⟨s0_2, s0_3⟩ : Amount) (⟨gb0_2, gb0_3⟩ : Amount) rb1 e_rb1), .a 9, .o, .o]) [0, 1, 2, 3, 4, 5, 6, 7, 8, 9] (fun b => rfl) (by decide) rfl rfl (fun b => by kernel_rfl)
        · exact none_some e
      · cases e; exact ⟨ne_exit 0, goes_runM hU [.b (z_lssF hq0)] [0, 1, 2, 3, 4, 5, 6, 7, 8, 9] (fun b => rfl) (by decide) rfl rfl (fun b => by kernel_rfl)⟩) s r h
noncomputable def t0_cost_walk_reckon_v14_L0_0 (y1 : Int) (w0 : BitVec 64) (w1 : BitVec 64) (w2 : Nat) (w3 : Nat → Insn) (w4 : Nat) (w5 : Nat → Me73) (mr0 : (Int) → (Nat) → (Nat → Me73) → (Nat) → (Nat → Insn) → (BitVec 64) → (BitVec 64) → Option R_cost_newWalk_1_v17) (ih0 : ∀ {M : Nat → Prop} {B0 : Nat} {S : World → Prop} (hU : Up M B0 S) (y0 : Int) (w0 : Nat) (w1 : Nat → Me73) (w2 : Nat) (w3 : Nat → Insn) (w4 : BitVec 64) (w5 : BitVec 64) (c0_0 : Nat) (c0_1 : Nat → Me73) (c0_2 : BitVec 64) (c0_3 : BitVec 64), mr0 y0 w0 w1 w2 w3 w4 w5 = some (.e0 c0_0 c0_1 c0_2 c0_3) → SpcG Try.prog M B0 S ⟨fun ls => .call 34 #[.int .i64 (y0), .pointer (some ⟨(lget ls 0).n, 0, none⟩), .pointer (some ⟨(lget ls 2).n, 0, none⟩), .pointer (some ⟨(lget ls 5).n, 0, none⟩)], fun ls => [.cells #[.map (some (lget ls 1).n)] 73, mapG kv_Me73 vv_Me73 w0 w1, .cells #[.pointer (some ⟨(lget ls 3).n, 0, none⟩)] 54, .cells #[(rowV (lget ls 4) w2 5), .func (.func 34) #[] #[.pointer (some ⟨(lget ls 0).n, 0, none⟩), .pointer (some ⟨(lget ls 2).n, 0, none⟩), .pointer (some ⟨(lget ls 5).n, 0, none⟩)]] 62, rowO (lget ls 4) (esG c_Insn w2 w3) 25 w2 5, .cells #[.int .u64 (nn w4), .int .u64 (nn w4), .int .u64 (nn w4), .int .u64 (nn w5), .func (.func 17) #[] #[], .func (.func 18) #[] #[]] 52], 0, .normal, fun ls => [.agg #[.int .u64 (nn c0_2), .int .u64 (nn c0_3)]], fun ls => [.cells #[.map (some (lget ls 1).n)] 73, mapG kv_Me73 vv_Me73 c0_0 c0_1, .cells #[.pointer (some ⟨(lget ls 3).n, 0, none⟩)] 54, .cells #[(rowV (lget ls 4) w2 5), .func (.func 34) #[] #[.pointer (some ⟨(lget ls 0).n, 0, none⟩), .pointer (some ⟨(lget ls 2).n, 0, none⟩), .pointer (some ⟨(lget ls 5).n, 0, none⟩)]] 62, rowO (lget ls 4) (esG c_Insn w2 w3) 25 w2 5, .cells #[.int .u64 (nn w4), .int .u64 (nn w4), .int .u64 (nn w4), .int .u64 (nn w5), .func (.func 17) #[] #[], .func (.func 18) #[] #[]] 52], fun ls => []⟩) (g0_0 : Nat) (g0_1 : Nat → Int) (s0_0 : Nat) (s0_1 : Nat → Me73) (s0_2 : BitVec 64) (s0_3 : BitVec 64) (s0_4 : Int) (ls : List L1) : List Value := List.append [.pointer (some ⟨(lget ls 0).n, 0, none⟩), .int .i64 (y1), .agg #[.int .u64 (nn w0), .int .u64 (nn w0), .int .u64 (nn w0), .int .u64 (nn w1), .func (.func 17) #[] #[], .func (.func 18) #[] #[]], undef, undef, .pointer (some ⟨(lget ls 6).n, 0, none⟩), .pointer (some ⟨(lget ls 7).n, 0, none⟩), (rowV (lget ls 8) g0_0 1), .int .i64 (0), .pointer (some ⟨(lget ls 9).n, 0, none⟩)] (List.append (und 5) (List.append [.tuple #[(rowV (lget ls 8) g0_0 1), .int .i64 (0)], .pointer (some ⟨(lget ls 0).n, 0, none⟩), .pointer (some ⟨(lget ls 0).n, 0, none⟩), .pointer (some ⟨(lget ls 0).n, 0, none⟩), (rowV (lget ls 1) w2 5), .int .i64 (y1), .tuple #[(rowV (lget ls 8) g0_0 1), .int .i64 (0)], (rowV (lget ls 8) g0_0 1), .int .i64 (0), .pointer (some ⟨(lget ls 6).n, 2, none⟩), .agg #[.int .u64 (nn w0), .int .u64 (nn w1)], (rowV (lget ls 8) g0_0 1), .int .i64 ((g0_0 : Int)), .int .i64 (s0_4)] (und 62)))
def pre_cost_walk_reckon_v14_L0_0 (y1 : Int) (w0 : BitVec 64) (w1 : BitVec 64) (w2 : Nat) (w3 : Nat → Insn) (w4 : Nat) (w5 : Nat → Me73) (mr0 : (Int) → (Nat) → (Nat → Me73) → (Nat) → (Nat → Insn) → (BitVec 64) → (BitVec 64) → Option R_cost_newWalk_1_v17) (ih0 : ∀ {M : Nat → Prop} {B0 : Nat} {S : World → Prop} (hU : Up M B0 S) (y0 : Int) (w0 : Nat) (w1 : Nat → Me73) (w2 : Nat) (w3 : Nat → Insn) (w4 : BitVec 64) (w5 : BitVec 64) (c0_0 : Nat) (c0_1 : Nat → Me73) (c0_2 : BitVec 64) (c0_3 : BitVec 64), mr0 y0 w0 w1 w2 w3 w4 w5 = some (.e0 c0_0 c0_1 c0_2 c0_3) → SpcG Try.prog M B0 S ⟨fun ls => .call 34 #[.int .i64 (y0), .pointer (some ⟨(lget ls 0).n, 0, none⟩), .pointer (some ⟨(lget ls 2).n, 0, none⟩), .pointer (some ⟨(lget ls 5).n, 0, none⟩)], fun ls => [.cells #[.map (some (lget ls 1).n)] 73, mapG kv_Me73 vv_Me73 w0 w1, .cells #[.pointer (some ⟨(lget ls 3).n, 0, none⟩)] 54, .cells #[(rowV (lget ls 4) w2 5), .func (.func 34) #[] #[.pointer (some ⟨(lget ls 0).n, 0, none⟩), .pointer (some ⟨(lget ls 2).n, 0, none⟩), .pointer (some ⟨(lget ls 5).n, 0, none⟩)]] 62, rowO (lget ls 4) (esG c_Insn w2 w3) 25 w2 5, .cells #[.int .u64 (nn w4), .int .u64 (nn w4), .int .u64 (nn w4), .int .u64 (nn w5), .func (.func 17) #[] #[], .func (.func 18) #[] #[]] 52], 0, .normal, fun ls => [.agg #[.int .u64 (nn c0_2), .int .u64 (nn c0_3)]], fun ls => [.cells #[.map (some (lget ls 1).n)] 73, mapG kv_Me73 vv_Me73 c0_0 c0_1, .cells #[.pointer (some ⟨(lget ls 3).n, 0, none⟩)] 54, .cells #[(rowV (lget ls 4) w2 5), .func (.func 34) #[] #[.pointer (some ⟨(lget ls 0).n, 0, none⟩), .pointer (some ⟨(lget ls 2).n, 0, none⟩), .pointer (some ⟨(lget ls 5).n, 0, none⟩)]] 62, rowO (lget ls 4) (esG c_Insn w2 w3) 25 w2 5, .cells #[.int .u64 (nn w4), .int .u64 (nn w4), .int .u64 (nn w4), .int .u64 (nn w5), .func (.func 17) #[] #[], .func (.func 18) #[] #[]] 52], fun ls => []⟩) (g0_0 : Nat) (g0_1 : Nat → Int) (s0_0 : Nat) (s0_1 : Nat → Me73) (s0_2 : BitVec 64) (s0_3 : BitVec 64) (s0_4 : Int) (ls : List L1) : List Obj := [.cells #[(rowV (lget ls 1) w2 5), .func (.func 34) #[] #[.pointer (some ⟨(lget ls 2).n, 0, none⟩), .pointer (some ⟨(lget ls 4).n, 0, none⟩), .pointer (some ⟨(lget ls 5).n, 0, none⟩)]] 62, rowO (lget ls 1) (esG c_Insn w2 w3) 25 w2 5, .cells #[.map (some (lget ls 3).n)] 73, mapG kv_Me73 vv_Me73 s0_0 s0_1, .cells #[.pointer (some ⟨(lget ls 0).n, 0, none⟩)] 54, .cells #[.int .u64 (nn w0), .int .u64 (nn w0), .int .u64 (nn w0), .int .u64 (nn w1), .func (.func 17) #[] #[], .func (.func 18) #[] #[]] 52, .cells #[.int .u64 (nn w0), .int .u64 (nn w0), .int .u64 (nn w0), .int .u64 (nn w1), .func (.func 17) #[] #[], .func (.func 18) #[] #[]] 52, .cells #[.int .u64 (0), .int .u64 (0)] 48, rowO (lget ls 8) (esG cZ g0_0 g0_1) 3 g0_0 1, .cells #[.int .u64 (nn s0_2), .int .u64 (nn s0_3)] 48]
theorem sp0_cost_walk_reckon_v14_L0_0_ok (s0_0 : Nat) (s0_1 : Nat → Me73) (s0_2 : BitVec 64) (s0_3 : BitVec 64) (s0_4 : Int) (c0_0 : Nat) (c0_1 : Nat → Me73) (c0_2 : BitVec 64) (c0_3 : BitVec 64) (h : lpO (st_cost_walk_reckon_v14_L0 w0 w1 w2 w3 mr0 g0_0 g0_1) (.c0 s0_0 s0_1 s0_2 s0_3 s0_4) = some (.e0 c0_0 c0_1 c0_2 c0_3)) : SpcG Try.prog M B0 S ⟨fun ls => .code (.loop bd_cost_walk_reckon_v14_L0) (t0_cost_walk_reckon_v14_L0_0 y1 w0 w1 w2 w3 w4 w5 mr0 ih0 g0_0 g0_1 s0_0 s0_1 s0_2 s0_3 s0_4 ls), pre_cost_walk_reckon_v14_L0_0 y1 w0 w1 w2 w3 w4 w5 mr0 ih0 g0_0 g0_1 s0_0 s0_1 s0_2 s0_3 s0_4, 1, (.exit 0), fun ls => vf_cost_walk_reckon_v14_L0 y1 w0 w1 w2 w3 w4 w5 mr0 ih0 g0_0 g0_1 (.e0 c0_0 c0_1 c0_2 c0_3) (ls.take 10 ++ ls.drop 10), fun ls => (Hf_cost_walk_reckon_v14_L0 y1 w0 w1 w2 w3 w4 w5 mr0 ih0 g0_0 g0_1 (.e0 c0_0 c0_1 c0_2 c0_3) (ls.take 10 ++ ls.drop 10)).take 10 ++ List.replicate 0 unb, fun ls => (Hf_cost_walk_reckon_v14_L0 y1 w0 w1 w2 w3 w4 w5 mr0 ih0 g0_0 g0_1 (.e0 c0_0 c0_1 c0_2 c0_3) (ls.take 10 ++ ls.drop 10)).drop 10⟩ :=
  spc_of_goesM hU 0 (k0 := 10) (go_cost_walk_reckon_v14_L0 hU y1 w0 w1 w2 w3 w4 w5 mr0 ih0 g0_0 g0_1 _ _ h) (t0_cost_walk_reckon_v14_L0_0 y1 w0 w1 w2 w3 w4 w5 mr0 ih0 g0_0 g0_1 s0_0 s0_1 s0_2 s0_3 s0_4) (pre_cost_walk_reckon_v14_L0_0 y1 w0 w1 w2 w3 w4 w5 mr0 ih0 g0_0 g0_1 s0_0 s0_1 s0_2 s0_3 s0_4) (fun _ => rfl) (fun ls h => by match ls, h with | [l0, l1, l2, l3, l4, l5, l6, l7, l8, l9], _ => exact ⟨by kernel_rfl, by kernel_rfl⟩) (fun ls h => by match ls, h with | [l0, l1, l2, l3, l4, l5, l6, l7, l8, l9], _ => rfl) (by decide) (by decide) (fun ls => rfl)
inductive R_cost_walk_reckon_v14 where
  | e0 (c0_0 : Nat) (c0_1 : Nat → Me73) (c0_2 : BitVec 64) (c0_3 : BitVec 64)
noncomputable def m_cost_walk_reckon_v14 (y1 : Int) (w0 : BitVec 64) (w1 : BitVec 64) (w2 : Nat) (w3 : Nat → Insn) (w4 : Nat) (w5 : Nat → Me73) (mr0 : (Int) → (Nat) → (Nat → Me73) → (Nat) → (Nat → Insn) → (BitVec 64) → (BitVec 64) → Option R_cost_newWalk_1_v17) : Option R_cost_walk_reckon_v14 :=
  (m_flow_Next w2 w3 y1).bind fun g0 => match g0 with
  | .e0 g0_0 => (bif inR y1 w2 then
      (bif ((w3 (y1).toNat)).fOp == 133#8 then
        (none)
      else (bindT (m_cost_amount_plus_v6 (⟨w0, w1⟩ : Amount) (⟨w0, w0⟩ : Amount)) fun r1 =>
      some (.e0 w4 w5 r1.fhi r1.flo)))
    else (none))
  | .e1 g0_0 g0_1 => ((lpO (st_cost_walk_reckon_v14_L0 w0 w1 w2 w3 mr0 g0_0 g0_1) (.c0 w4 w5 w0 w1 0)).bind fun g1 => match g1 with
    | .e0 g1_0 g1_1 g1_2 g1_3 =>
    bif inR y1 w2 then
      (bif ((w3 (y1).toNat)).fOp == 133#8 then
        (none)
      else (bindT (m_cost_amount_plus_v6 (⟨g1_2, g1_3⟩ : Amount) (⟨w0, w0⟩ : Amount)) fun r2 =>
      some (.e0 g1_0 g1_1 r2.fhi r2.flo)))
    else (none))
def sq0_cost_walk_reckon_v14 (y1 : Int) (w0 : BitVec 64) (w1 : BitVec 64) (w2 : Nat) (w3 : Nat → Insn) (w4 : Nat) (w5 : Nat → Me73) (mr0 : (Int) → (Nat) → (Nat → Me73) → (Nat) → (Nat → Insn) → (BitVec 64) → (BitVec 64) → Option R_cost_newWalk_1_v17) (ih0 : ∀ {M : Nat → Prop} {B0 : Nat} {S : World → Prop} (hU : Up M B0 S) (y0 : Int) (w0 : Nat) (w1 : Nat → Me73) (w2 : Nat) (w3 : Nat → Insn) (w4 : BitVec 64) (w5 : BitVec 64) (c0_0 : Nat) (c0_1 : Nat → Me73) (c0_2 : BitVec 64) (c0_3 : BitVec 64), mr0 y0 w0 w1 w2 w3 w4 w5 = some (.e0 c0_0 c0_1 c0_2 c0_3) → SpcG Try.prog M B0 S ⟨fun ls => .call 34 #[.int .i64 (y0), .pointer (some ⟨(lget ls 0).n, 0, none⟩), .pointer (some ⟨(lget ls 2).n, 0, none⟩), .pointer (some ⟨(lget ls 5).n, 0, none⟩)], fun ls => [.cells #[.map (some (lget ls 1).n)] 73, mapG kv_Me73 vv_Me73 w0 w1, .cells #[.pointer (some ⟨(lget ls 3).n, 0, none⟩)] 54, .cells #[(rowV (lget ls 4) w2 5), .func (.func 34) #[] #[.pointer (some ⟨(lget ls 0).n, 0, none⟩), .pointer (some ⟨(lget ls 2).n, 0, none⟩), .pointer (some ⟨(lget ls 5).n, 0, none⟩)]] 62, rowO (lget ls 4) (esG c_Insn w2 w3) 25 w2 5, .cells #[.int .u64 (nn w4), .int .u64 (nn w4), .int .u64 (nn w4), .int .u64 (nn w5), .func (.func 17) #[] #[], .func (.func 18) #[] #[]] 52], 0, .normal, fun ls => [.agg #[.int .u64 (nn c0_2), .int .u64 (nn c0_3)]], fun ls => [.cells #[.map (some (lget ls 1).n)] 73, mapG kv_Me73 vv_Me73 c0_0 c0_1, .cells #[.pointer (some ⟨(lget ls 3).n, 0, none⟩)] 54, .cells #[(rowV (lget ls 4) w2 5), .func (.func 34) #[] #[.pointer (some ⟨(lget ls 0).n, 0, none⟩), .pointer (some ⟨(lget ls 2).n, 0, none⟩), .pointer (some ⟨(lget ls 5).n, 0, none⟩)]] 62, rowO (lget ls 4) (esG c_Insn w2 w3) 25 w2 5, .cells #[.int .u64 (nn w4), .int .u64 (nn w4), .int .u64 (nn w4), .int .u64 (nn w5), .func (.func 17) #[] #[], .func (.func 18) #[] #[]] 52], fun ls => []⟩) (c0_0 : Nat) (c0_1 : Nat → Me73) (c0_2 : BitVec 64) (c0_3 : BitVec 64) : Spc := ⟨fun ls => .call 35 #[.pointer (some ⟨(lget ls 0).n, 0, none⟩), .int .i64 (y1), .agg #[.int .u64 (nn w0), .int .u64 (nn w0), .int .u64 (nn w0), .int .u64 (nn w1), .func (.func 17) #[] #[], .func (.func 18) #[] #[]]], fun ls => [.cells #[(rowV (lget ls 1) w2 5), .func (.func 34) #[] #[.pointer (some ⟨(lget ls 2).n, 0, none⟩), .pointer (some ⟨(lget ls 4).n, 0, none⟩), .pointer (some ⟨(lget ls 5).n, 0, none⟩)]] 62, rowO (lget ls 1) (esG c_Insn w2 w3) 25 w2 5, .cells #[.map (some (lget ls 3).n)] 73, mapG kv_Me73 vv_Me73 w4 w5, .cells #[.pointer (some ⟨(lget ls 0).n, 0, none⟩)] 54, .cells #[.int .u64 (nn w0), .int .u64 (nn w0), .int .u64 (nn w0), .int .u64 (nn w1), .func (.func 17) #[] #[], .func (.func 18) #[] #[]] 52], 0, .normal, fun ls => [.agg #[.int .u64 (nn c0_2), .int .u64 (nn c0_3)]], fun ls => [.cells #[(rowV (lget ls 1) w2 5), .func (.func 34) #[] #[.pointer (some ⟨(lget ls 2).n, 0, none⟩), .pointer (some ⟨(lget ls 4).n, 0, none⟩), .pointer (some ⟨(lget ls 5).n, 0, none⟩)]] 62, rowO (lget ls 1) (esG c_Insn w2 w3) 25 w2 5, .cells #[.map (some (lget ls 3).n)] 73, mapG kv_Me73 vv_Me73 c0_0 c0_1, .cells #[.pointer (some ⟨(lget ls 0).n, 0, none⟩)] 54, .cells #[.int .u64 (nn w0), .int .u64 (nn w0), .int .u64 (nn w0), .int .u64 (nn w1), .func (.func 17) #[] #[], .func (.func 18) #[] #[]] 52], fun ls => []⟩
end
section
variable {M : Nat → Prop} {B0 : Nat} {S : World → Prop} (hU : Up M B0 S)
include hU
theorem ok0_cost_walk_reckon_v14 (y1 : Int) (w0 : BitVec 64) (w1 : BitVec 64) (w2 : Nat) (w3 : Nat → Insn) (w4 : Nat) (w5 : Nat → Me73) (mr0 : (Int) → (Nat) → (Nat → Me73) → (Nat) → (Nat → Insn) → (BitVec 64) → (BitVec 64) → Option R_cost_newWalk_1_v17) (ih0 : ∀ {M : Nat → Prop} {B0 : Nat} {S : World → Prop} (hU : Up M B0 S) (y0 : Int) (w0 : Nat) (w1 : Nat → Me73) (w2 : Nat) (w3 : Nat → Insn) (w4 : BitVec 64) (w5 : BitVec 64) (c0_0 : Nat) (c0_1 : Nat → Me73) (c0_2 : BitVec 64) (c0_3 : BitVec 64), mr0 y0 w0 w1 w2 w3 w4 w5 = some (.e0 c0_0 c0_1 c0_2 c0_3) → SpcG Try.prog M B0 S ⟨fun ls => .call 34 #[.int .i64 (y0), .pointer (some ⟨(lget ls 0).n, 0, none⟩), .pointer (some ⟨(lget ls 2).n, 0, none⟩), .pointer (some ⟨(lget ls 5).n, 0, none⟩)], fun ls => [.cells #[.map (some (lget ls 1).n)] 73, mapG kv_Me73 vv_Me73 w0 w1, .cells #[.pointer (some ⟨(lget ls 3).n, 0, none⟩)] 54, .cells #[(rowV (lget ls 4) w2 5), .func (.func 34) #[] #[.pointer (some ⟨(lget ls 0).n, 0, none⟩), .pointer (some ⟨(lget ls 2).n, 0, none⟩), .pointer (some ⟨(lget ls 5).n, 0, none⟩)]] 62, rowO (lget ls 4) (esG c_Insn w2 w3) 25 w2 5, .cells #[.int .u64 (nn w4), .int .u64 (nn w4), .int .u64 (nn w4), .int .u64 (nn w5), .func (.func 17) #[] #[], .func (.func 18) #[] #[]] 52], 0, .normal, fun ls => [.agg #[.int .u64 (nn c0_2), .int .u64 (nn c0_3)]], fun ls => [.cells #[.map (some (lget ls 1).n)] 73, mapG kv_Me73 vv_Me73 c0_0 c0_1, .cells #[.pointer (some ⟨(lget ls 3).n, 0, none⟩)] 54, .cells #[(rowV (lget ls 4) w2 5), .func (.func 34) #[] #[.pointer (some ⟨(lget ls 0).n, 0, none⟩), .pointer (some ⟨(lget ls 2).n, 0, none⟩), .pointer (some ⟨(lget ls 5).n, 0, none⟩)]] 62, rowO (lget ls 4) (esG c_Insn w2 w3) 25 w2 5, .cells #[.int .u64 (nn w4), .int .u64 (nn w4), .int .u64 (nn w4), .int .u64 (nn w5), .func (.func 17) #[] #[], .func (.func 18) #[] #[]] 52], fun ls => []⟩) (c0_0 : Nat) (c0_1 : Nat → Me73) (c0_2 : BitVec 64) (c0_3 : BitVec 64) (e : m_cost_walk_reckon_v14 y1 w0 w1 w2 w3 w4 w5 mr0 = some (.e0 c0_0 c0_1 c0_2 c0_3)) : SpcG Try.prog M B0 S (sq0_cost_walk_reckon_v14 y1 w0 w1 w2 w3 w4 w5 mr0 ih0 c0_0 c0_1 c0_2 c0_3) := by
  unfold m_cost_walk_reckon_v14 at e
  replace e := bindO_eq e
  obtain ⟨g0, e_g0, e⟩ := e
  rcases g0 with ⟨g0_0⟩ | ⟨g0_0, g0_1⟩
  · try dsimp only at e
    replace e := cond_eq_or e
    rcases e with ⟨hq0, e⟩ | ⟨hq0, e⟩
    · replace e := cond_eq_or e
      rcases e with ⟨hq1, e⟩ | ⟨hq1, e⟩
      · exact none_some e
      · replace e := bindT_eq e
        obtain ⟨r1, e_r1, e⟩ := e
        try dsimp only at e
        injection e with e; injection e with i0 i1 i2 i3; subst i0 i1 i2 i3; exact fn_specG hU (P := Try.prog) Try.func35 (fun xs w => by kernel_rfl) 6 _ _ (fun _ => rfl) _ _ _ [] [.o, .o, .o, .o, .o, .a 0, .o, .xg (SpcG.own hU (f := c_Insn) c_Insn_len w2 w3 25 (fun l => padL l w2 5) (fun l => (padL l w2 5).length / 5) _ 0 .normal (by intros; rfl) (by intros; rfl) (by intros; rfl) (fun M0 B0 S0 x0 u0 v0 z0 hU0 hs0 hr0 => ok0_flow_Next hU0 x0 u0 v0 w2 z0 w3 hr0 y1 g0_0 e_g0)) [1], .o, .o, .o, .o, .o, .o, .a 6, .o, .a 8, .o, .o, .o, .o, .o, .o, .o, .a 0, .o, .q (ixM_ok (kd := .i64) (T := 26) (x := y1) (N := w2) (sz := 5) rfl (fun w => by kernel_rfl) hq0), .o, .l (accG (i := 1) (f := c_Insn) (A := w3) (k := (y1).toNat) 0 [.int .u8 (nn ((w3 (y1).toNat)).fOp)] c_Insn_len (inR_nat hq0) rfl), .t (u_eq ((w3 (y1).toNat)).fOp (133#8)) hq1, .o, .o, .a 8, .o, .a 6, .cg (ok_cost_amount_plus_v6 hU (⟨w0, w1⟩ : Amount) (⟨w0, w0⟩ : Amount) r1 e_r1), .a 7] [7, 7] (fun b => by kernel_rfl)
    · exact none_some e
  · try dsimp only at e
    replace e := bindO_eq e
    obtain ⟨g1, e_g1, e⟩ := e
    obtain ⟨g1_0, g1_1, g1_2, g1_3⟩ := g1
    try dsimp only at e
    replace e := cond_eq_or e
    rcases e with ⟨hq0, e⟩ | ⟨hq0, e⟩
    · replace e := cond_eq_or e
      rcases e with ⟨hq1, e⟩ | ⟨hq1, e⟩
      · exact none_some e
      · replace e := bindT_eq e
        obtain ⟨r2, e_r2, e⟩ := e
        try dsimp only at e
        injection e with e; injection e with i0 i1 i2 i3; subst i0 i1 i2 i3; exact fn_specG hU (P := Try.prog) Try.func35 (fun xs w => by kernel_rfl) 6 _ _ (fun _ => rfl) _ _ _ [] [.o, .o, .o, .o, .o, .a 0, .o, .xg (SpcG.own hU (f := c_Insn) c_Insn_len w2 w3 25 (fun l => padL l w2 5) (fun l => (padL l w2 5).length / 5) _ 1 .normal (by intros; rfl) (by intros; rfl) (by intros; rfl) (fun M0 B0 S0 x0 u0 v0 z0 hU0 hs0 hr0 => ok1_flow_Next hU0 x0 u0 v0 w2 z0 w3 hr0 y1 g0_0 g0_1 e_g0)) [1], .o, .o, .o, .o, .o, .o, .a 6, .o, .a 9, .o, .o, .o, .cp, .cx (sp0_cost_walk_reckon_v14_L0_0_ok hU y1 w0 w1 w2 w3 w4 w5 mr0 ih0 g0_0 g0_1 w4 w5 w0 w1 0 g1_0 g1_1 g1_2 g1_3 e_g1) [0, 1, 2, 3, 4, 5, 6, 7, 8, 9], .o, .o, .o, .a 0, .o, .q (ixM_ok (kd := .i64) (T := 26) (x := y1) (N := w2) (sz := 5) rfl (fun w => by kernel_rfl) hq0), .o, .l (accG (i := 1) (f := c_Insn) (A := w3) (k := (y1).toNat) 0 [.int .u8 (nn ((w3 (y1).toNat)).fOp)] c_Insn_len (inR_nat hq0) rfl), .t (u_eq ((w3 (y1).toNat)).fOp (133#8)) hq1, .o, .o, .a 9, .o, .a 6, .cg (ok_cost_amount_plus_v6 hU (⟨g1_2, g1_3⟩ : Amount) (⟨w0, w0⟩ : Amount) r2 e_r2), .a 7] [7, 7] (fun b => by kernel_rfl)
    · exact none_some e
noncomputable def m_cost_newWalk_1_v17 (y0 : Int) (w0 : Nat) (w1 : Nat → Me73) (w2 : Nat) (w3 : Nat → Insn) (w4 : BitVec 64) (w5 : BitVec 64) (mr0 : (Int) → (Nat) → (Nat → Me73) → (Nat) → (Nat → Insn) → (BitVec 64) → (BitVec 64) → Option R_cost_newWalk_1_v17) : Option R_cost_newWalk_1_v17 :=
  bif decide ((fdx (fun j => (y0 == (w1 j).fk)) w0) < w0) then
    (some (.e0 w0 w1 ((w1 (fdx (fun j => (y0 == (w1 j).fk)) w0)).fv).fhi ((w1 (fdx (fun j => (y0 == (w1 j).fk)) w0)).fv).flo))
  else ((m_cost_walk_reckon_v14 y0 w4 w5 w2 w3 w0 w1 mr0).bind fun g0 => match g0 with
  | .e0 g0_0 g0_1 g0_2 g0_3 =>
  bif decide ((fdx (fun j => (y0 == (g0_1 j).fk)) g0_0) < g0_0) then
    (some (.e0 g0_0 (updF g0_1 (fdx (fun j => (y0 == (g0_1 j).fk)) g0_0) (⟨y0, (⟨g0_2, g0_3⟩ : Amount)⟩ : Me73)) g0_2 g0_3))
  else (some (.e0 (g0_0 + 1) (updF g0_1 g0_0 (⟨y0, (⟨g0_2, g0_3⟩ : Amount)⟩ : Me73)) g0_2 g0_3)))
def sq0_cost_newWalk_1_v17 (y0 : Int) (w0 : Nat) (w1 : Nat → Me73) (w2 : Nat) (w3 : Nat → Insn) (w4 : BitVec 64) (w5 : BitVec 64) (mr0 : (Int) → (Nat) → (Nat → Me73) → (Nat) → (Nat → Insn) → (BitVec 64) → (BitVec 64) → Option R_cost_newWalk_1_v17) (ih0 : ∀ {M : Nat → Prop} {B0 : Nat} {S : World → Prop} (hU : Up M B0 S) (y0 : Int) (w0 : Nat) (w1 : Nat → Me73) (w2 : Nat) (w3 : Nat → Insn) (w4 : BitVec 64) (w5 : BitVec 64) (c0_0 : Nat) (c0_1 : Nat → Me73) (c0_2 : BitVec 64) (c0_3 : BitVec 64), mr0 y0 w0 w1 w2 w3 w4 w5 = some (.e0 c0_0 c0_1 c0_2 c0_3) → SpcG Try.prog M B0 S ⟨fun ls => .call 34 #[.int .i64 (y0), .pointer (some ⟨(lget ls 0).n, 0, none⟩), .pointer (some ⟨(lget ls 2).n, 0, none⟩), .pointer (some ⟨(lget ls 5).n, 0, none⟩)], fun ls => [.cells #[.map (some (lget ls 1).n)] 73, mapG kv_Me73 vv_Me73 w0 w1, .cells #[.pointer (some ⟨(lget ls 3).n, 0, none⟩)] 54, .cells #[(rowV (lget ls 4) w2 5), .func (.func 34) #[] #[.pointer (some ⟨(lget ls 0).n, 0, none⟩), .pointer (some ⟨(lget ls 2).n, 0, none⟩), .pointer (some ⟨(lget ls 5).n, 0, none⟩)]] 62, rowO (lget ls 4) (esG c_Insn w2 w3) 25 w2 5, .cells #[.int .u64 (nn w4), .int .u64 (nn w4), .int .u64 (nn w4), .int .u64 (nn w5), .func (.func 17) #[] #[], .func (.func 18) #[] #[]] 52], 0, .normal, fun ls => [.agg #[.int .u64 (nn c0_2), .int .u64 (nn c0_3)]], fun ls => [.cells #[.map (some (lget ls 1).n)] 73, mapG kv_Me73 vv_Me73 c0_0 c0_1, .cells #[.pointer (some ⟨(lget ls 3).n, 0, none⟩)] 54, .cells #[(rowV (lget ls 4) w2 5), .func (.func 34) #[] #[.pointer (some ⟨(lget ls 0).n, 0, none⟩), .pointer (some ⟨(lget ls 2).n, 0, none⟩), .pointer (some ⟨(lget ls 5).n, 0, none⟩)]] 62, rowO (lget ls 4) (esG c_Insn w2 w3) 25 w2 5, .cells #[.int .u64 (nn w4), .int .u64 (nn w4), .int .u64 (nn w4), .int .u64 (nn w5), .func (.func 17) #[] #[], .func (.func 18) #[] #[]] 52], fun ls => []⟩) (c0_0 : Nat) (c0_1 : Nat → Me73) (c0_2 : BitVec 64) (c0_3 : BitVec 64) : Spc := ⟨fun ls => .call 34 #[.int .i64 (y0), .pointer (some ⟨(lget ls 0).n, 0, none⟩), .pointer (some ⟨(lget ls 2).n, 0, none⟩), .pointer (some ⟨(lget ls 5).n, 0, none⟩)], fun ls => [.cells #[.map (some (lget ls 1).n)] 73, mapG kv_Me73 vv_Me73 w0 w1, .cells #[.pointer (some ⟨(lget ls 3).n, 0, none⟩)] 54, .cells #[(rowV (lget ls 4) w2 5), .func (.func 34) #[] #[.pointer (some ⟨(lget ls 0).n, 0, none⟩), .pointer (some ⟨(lget ls 2).n, 0, none⟩), .pointer (some ⟨(lget ls 5).n, 0, none⟩)]] 62, rowO (lget ls 4) (esG c_Insn w2 w3) 25 w2 5, .cells #[.int .u64 (nn w4), .int .u64 (nn w4), .int .u64 (nn w4), .int .u64 (nn w5), .func (.func 17) #[] #[], .func (.func 18) #[] #[]] 52], 0, .normal, fun ls => [.agg #[.int .u64 (nn c0_2), .int .u64 (nn c0_3)]], fun ls => [.cells #[.map (some (lget ls 1).n)] 73, mapG kv_Me73 vv_Me73 c0_0 c0_1, .cells #[.pointer (some ⟨(lget ls 3).n, 0, none⟩)] 54, .cells #[(rowV (lget ls 4) w2 5), .func (.func 34) #[] #[.pointer (some ⟨(lget ls 0).n, 0, none⟩), .pointer (some ⟨(lget ls 2).n, 0, none⟩), .pointer (some ⟨(lget ls 5).n, 0, none⟩)]] 62, rowO (lget ls 4) (esG c_Insn w2 w3) 25 w2 5, .cells #[.int .u64 (nn w4), .int .u64 (nn w4), .int .u64 (nn w4), .int .u64 (nn w5), .func (.func 17) #[] #[], .func (.func 18) #[] #[]] 52], fun ls => []⟩
theorem ok0_cost_newWalk_1_v17 (y0 : Int) (w0 : Nat) (w1 : Nat → Me73) (w2 : Nat) (w3 : Nat → Insn) (w4 : BitVec 64) (w5 : BitVec 64) (mr0 : (Int) → (Nat) → (Nat → Me73) → (Nat) → (Nat → Insn) → (BitVec 64) → (BitVec 64) → Option R_cost_newWalk_1_v17) (ih0 : ∀ {M : Nat → Prop} {B0 : Nat} {S : World → Prop} (hU : Up M B0 S) (y0 : Int) (w0 : Nat) (w1 : Nat → Me73) (w2 : Nat) (w3 : Nat → Insn) (w4 : BitVec 64) (w5 : BitVec 64) (c0_0 : Nat) (c0_1 : Nat → Me73) (c0_2 : BitVec 64) (c0_3 : BitVec 64), mr0 y0 w0 w1 w2 w3 w4 w5 = some (.e0 c0_0 c0_1 c0_2 c0_3) → SpcG Try.prog M B0 S ⟨fun ls => .call 34 #[.int .i64 (y0), .pointer (some ⟨(lget ls 0).n, 0, none⟩), .pointer (some ⟨(lget ls 2).n, 0, none⟩), .pointer (some ⟨(lget ls 5).n, 0, none⟩)], fun ls => [.cells #[.map (some (lget ls 1).n)] 73, mapG kv_Me73 vv_Me73 w0 w1, .cells #[.pointer (some ⟨(lget ls 3).n, 0, none⟩)] 54, .cells #[(rowV (lget ls 4) w2 5), .func (.func 34) #[] #[.pointer (some ⟨(lget ls 0).n, 0, none⟩), .pointer (some ⟨(lget ls 2).n, 0, none⟩), .pointer (some ⟨(lget ls 5).n, 0, none⟩)]] 62, rowO (lget ls 4) (esG c_Insn w2 w3) 25 w2 5, .cells #[.int .u64 (nn w4), .int .u64 (nn w4), .int .u64 (nn w4), .int .u64 (nn w5), .func (.func 17) #[] #[], .func (.func 18) #[] #[]] 52], 0, .normal, fun ls => [.agg #[.int .u64 (nn c0_2), .int .u64 (nn c0_3)]], fun ls => [.cells #[.map (some (lget ls 1).n)] 73, mapG kv_Me73 vv_Me73 c0_0 c0_1, .cells #[.pointer (some ⟨(lget ls 3).n, 0, none⟩)] 54, .cells #[(rowV (lget ls 4) w2 5), .func (.func 34) #[] #[.pointer (some ⟨(lget ls 0).n, 0, none⟩), .pointer (some ⟨(lget ls 2).n, 0, none⟩), .pointer (some ⟨(lget ls 5).n, 0, none⟩)]] 62, rowO (lget ls 4) (esG c_Insn w2 w3) 25 w2 5, .cells #[.int .u64 (nn w4), .int .u64 (nn w4), .int .u64 (nn w4), .int .u64 (nn w5), .func (.func 17) #[] #[], .func (.func 18) #[] #[]] 52], fun ls => []⟩) (c0_0 : Nat) (c0_1 : Nat → Me73) (c0_2 : BitVec 64) (c0_3 : BitVec 64) (e : m_cost_newWalk_1_v17 y0 w0 w1 w2 w3 w4 w5 mr0 = some (.e0 c0_0 c0_1 c0_2 c0_3)) : SpcG Try.prog M B0 S (sq0_cost_newWalk_1_v17 y0 w0 w1 w2 w3 w4 w5 mr0 ih0 c0_0 c0_1 c0_2 c0_3) := by
  unfold m_cost_newWalk_1_v17 at e
  replace e := cond_eq_or e
  rcases e with ⟨hq0, e⟩ | ⟨hq0, e⟩
  · injection e with e; injection e with i0 i1 i2 i3; subst i0 i1 i2 i3; exact fn_specG hU (P := Try.prog) Try.func34 (fun xs w => by kernel_rfl) 6 _ _ (fun _ => rfl) _ _ _ [] [.o, .a 0, .o, .xg (lkG_has (T := 73) (kf := kv_Me73) (vf := vv_Me73) (N := w0) (A := w1) (e := (fun j => (y0 == (w1 j).fk))) (kt := 3) (el := 48) (d := .int .i64) true (x := .int .i64 (y0)) (by kernel_rfl) (by kernel_rfl) rfl (fun _ => rfl) (of_decide_eq_true hq0)) [1], .o, .o, .o, .o, .a 7, .o, .o, .a 7, .a 6] [6, 6] (fun b => by kernel_rfl)
  · replace e := bindO_eq e
    obtain ⟨g0, e_g0, e⟩ := e
    obtain ⟨g0_0, g0_1, g0_2, g0_3⟩ := g0
    try dsimp only at e
    replace e := cond_eq_or e
    let P1 : List (PG Try.prog M B0 S) := [.o, .a 0, .o, .xg (lkG_none (T := 73) (kf := kv_Me73) (vf := vv_Me73) (N := w0) (A := w1) (e := (fun j => (y0 == (w1 j).fk))) (kt := 3) (el := 48) (d := .int .i64) true (.agg #[.int .u64 (0), .int .u64 (0)]) (x := .int .i64 (y0)) (by kernel_rfl) (by kernel_rfl) rfl (fun w => by kernel_rfl) (fun _ => rfl) (of_decide_eq_false hq0)) [1], .o, .o, .o, .o, .a 7, .o, .o, .a 2, .o, .a 5, .xg (ok0_cost_walk_reckon_v14 hU y0 w4 w5 w2 w3 w0 w1 mr0 ih0 g0_0 g0_1 g0_2 g0_3 e_g0) [3, 4, 0, 1, 2, 5], .o, .a 8, .a 0, .o, .a 8]
    rcases e with ⟨hq1, e⟩ | ⟨hq1, e⟩
    · injection e with e; injection e with i0 i1 i2 i3; subst i0 i1 i2 i3; exact fn_specG hU (P := Try.prog) Try.func34 (fun xs w => by kernel_rfl) 6 _ _ (fun _ => rfl) _ _ _ [] (P1 ++ [.xg (upG_has (T := 73) (kf := kv_Me73) (vf := vv_Me73) (N := g0_0) (A := g0_1) (e := (fun j => (y0 == (g0_1 j).fk))) (kt := 3) (el := 48) (d := .int .i64) (⟨y0, (⟨g0_2, g0_3⟩ : Amount)⟩ : Me73) (by kernel_rfl) (by kernel_rfl) (fun _ => rfl) (fun _ => rfl) (of_decide_eq_true hq1)) [1], .a 8, .a 6]) [6, 6] (fun b => by kernel_rfl)
    · injection e with e; injection e with i0 i1 i2 i3; subst i0 i1 i2 i3; exact fn_specG hU (P := Try.prog) Try.func34 (fun xs w => by kernel_rfl) 6 _ _ (fun _ => rfl) _ _ _ [] (P1 ++ [.xg (upG_new (T := 73) (kf := kv_Me73) (vf := vv_Me73) (N := g0_0) (A := g0_1) (e := (fun j => (y0 == (g0_1 j).fk))) (kt := 3) (el := 48) (d := .int .i64) (⟨y0, (⟨g0_2, g0_3⟩ : Amount)⟩ : Me73) (by kernel_rfl) (by kernel_rfl) rfl (fun _ => rfl) (of_decide_eq_false hq1)) [1], .a 8, .a 6]) [6, 6] (fun b => by kernel_rfl)
noncomputable def m_cost_newWalk_1_v17_F : Nat → (Int) → (Nat) → (Nat → Me73) → (Nat) → (Nat → Insn) → (BitVec 64) → (BitVec 64) → Option R_cost_newWalk_1_v17
  | 0 => fun _ _ _ _ _ _ _ => none
  | k + 1 => fun y0 w0 w1 w2 w3 w4 w5 => m_cost_newWalk_1_v17 y0 w0 w1 w2 w3 w4 w5 (m_cost_newWalk_1_v17_F k)
end
theorem okA_cost_newWalk_1_v17_F (k : Nat) : (∀ {M : Nat → Prop} {B0 : Nat} {S : World → Prop} (hU : Up M B0 S) (y0 : Int) (w0 : Nat) (w1 : Nat → Me73) (w2 : Nat) (w3 : Nat → Insn) (w4 : BitVec 64) (w5 : BitVec 64) (c0_0 : Nat) (c0_1 : Nat → Me73) (c0_2 : BitVec 64) (c0_3 : BitVec 64) (e : m_cost_newWalk_1_v17_F k y0 w0 w1 w2 w3 w4 w5 = some (.e0 c0_0 c0_1 c0_2 c0_3)), SpcG Try.prog M B0 S ⟨fun ls => .call 34 #[.int .i64 (y0), .pointer (some ⟨(lget ls 0).n, 0, none⟩), .pointer (some ⟨(lget ls 2).n, 0, none⟩), .pointer (some ⟨(lget ls 5).n, 0, none⟩)], fun ls => [.cells #[.map (some (lget ls 1).n)] 73, mapG kv_Me73 vv_Me73 w0 w1, .cells #[.pointer (some ⟨(lget ls 3).n, 0, none⟩)] 54, .cells #[(rowV (lget ls 4) w2 5), .func (.func 34) #[] #[.pointer (some ⟨(lget ls 0).n, 0, none⟩), .pointer (some ⟨(lget ls 2).n, 0, none⟩), .pointer (some ⟨(lget ls 5).n, 0, none⟩)]] 62, rowO (lget ls 4) (esG c_Insn w2 w3) 25 w2 5, .cells #[.int .u64 (nn w4), .int .u64 (nn w4), .int .u64 (nn w4), .int .u64 (nn w5), .func (.func 17) #[] #[], .func (.func 18) #[] #[]] 52], 0, .normal, fun ls => [.agg #[.int .u64 (nn c0_2), .int .u64 (nn c0_3)]], fun ls => [.cells #[.map (some (lget ls 1).n)] 73, mapG kv_Me73 vv_Me73 c0_0 c0_1, .cells #[.pointer (some ⟨(lget ls 3).n, 0, none⟩)] 54, .cells #[(rowV (lget ls 4) w2 5), .func (.func 34) #[] #[.pointer (some ⟨(lget ls 0).n, 0, none⟩), .pointer (some ⟨(lget ls 2).n, 0, none⟩), .pointer (some ⟨(lget ls 5).n, 0, none⟩)]] 62, rowO (lget ls 4) (esG c_Insn w2 w3) 25 w2 5, .cells #[.int .u64 (nn w4), .int .u64 (nn w4), .int .u64 (nn w4), .int .u64 (nn w5), .func (.func 17) #[] #[], .func (.func 18) #[] #[]] 52], fun ls => []⟩) := by
  induction k with
  | zero => exact fun {M} {B0} {S} hU y0 w0 w1 w2 w3 w4 w5 c0_0 c0_1 c0_2 c0_3 e => by cases e
  | succ k ih => exact fun {M} {B0} {S} hU y0 w0 w1 w2 w3 w4 w5 c0_0 c0_1 c0_2 c0_3 e => ok0_cost_newWalk_1_v17 hU y0 w0 w1 w2 w3 w4 w5 (m_cost_newWalk_1_v17_F k) (fun hU y0 w0 w1 w2 w3 w4 w5 c0_0 c0_1 c0_2 c0_3 e => ih hU y0 w0 w1 w2 w3 w4 w5 c0_0 c0_1 c0_2 c0_3 e) c0_0 c0_1 c0_2 c0_3 e
theorem ok0_cost_newWalk_1_v17_F (k : Nat) : ∀ {M : Nat → Prop} {B0 : Nat} {S : World → Prop} (hU : Up M B0 S) (y0 : Int) (w0 : Nat) (w1 : Nat → Me73) (w2 : Nat) (w3 : Nat → Insn) (w4 : BitVec 64) (w5 : BitVec 64) (c0_0 : Nat) (c0_1 : Nat → Me73) (c0_2 : BitVec 64) (c0_3 : BitVec 64) (e : m_cost_newWalk_1_v17_F k y0 w0 w1 w2 w3 w4 w5 = some (.e0 c0_0 c0_1 c0_2 c0_3)), SpcG Try.prog M B0 S ⟨fun ls => .call 34 #[.int .i64 (y0), .pointer (some ⟨(lget ls 0).n, 0, none⟩), .pointer (some ⟨(lget ls 2).n, 0, none⟩), .pointer (some ⟨(lget ls 5).n, 0, none⟩)], fun ls => [.cells #[.map (some (lget ls 1).n)] 73, mapG kv_Me73 vv_Me73 w0 w1, .cells #[.pointer (some ⟨(lget ls 3).n, 0, none⟩)] 54, .cells #[(rowV (lget ls 4) w2 5), .func (.func 34) #[] #[.pointer (some ⟨(lget ls 0).n, 0, none⟩), .pointer (some ⟨(lget ls 2).n, 0, none⟩), .pointer (some ⟨(lget ls 5).n, 0, none⟩)]] 62, rowO (lget ls 4) (esG c_Insn w2 w3) 25 w2 5, .cells #[.int .u64 (nn w4), .int .u64 (nn w4), .int .u64 (nn w4), .int .u64 (nn w5), .func (.func 17) #[] #[], .func (.func 18) #[] #[]] 52], 0, .normal, fun ls => [.agg #[.int .u64 (nn c0_2), .int .u64 (nn c0_3)]], fun ls => [.cells #[.map (some (lget ls 1).n)] 73, mapG kv_Me73 vv_Me73 c0_0 c0_1, .cells #[.pointer (some ⟨(lget ls 3).n, 0, none⟩)] 54, .cells #[(rowV (lget ls 4) w2 5), .func (.func 34) #[] #[.pointer (some ⟨(lget ls 0).n, 0, none⟩), .pointer (some ⟨(lget ls 2).n, 0, none⟩), .pointer (some ⟨(lget ls 5).n, 0, none⟩)]] 62, rowO (lget ls 4) (esG c_Insn w2 w3) 25 w2 5, .cells #[.int .u64 (nn w4), .int .u64 (nn w4), .int .u64 (nn w4), .int .u64 (nn w5), .func (.func 17) #[] #[], .func (.func 18) #[] #[]] 52], fun ls => []⟩ := (okA_cost_newWalk_1_v17_F k)
inductive R_cost_reckoned_v6 where
  | e0 (c0_0 : BitVec 64)
noncomputable def m_cost_reckoned_v6 (w0 : Nat) (w1 : Nat → Insn) : Option R_cost_reckoned_v6 :=
  (m_cost_check_v2 w0 w1).bind fun r0 =>
  bif r0 == 0 then
    ((m_cost_newWalk_1_v17_F 450 0 0 (fun _ => (⟨0, (⟨0#64, 0#64⟩ : Amount)⟩ : Me73)) w0 w1 (0#64) (1#64)).bind fun g1 => match g1 with
    | .e0 g1_0 g1_1 g1_2 g1_3 =>
    bindT (m_cost_amount_cut_v3 (⟨g1_2, g1_3⟩ : Amount)) fun r2 =>
    some (.e0 r2))
  else (none)
def sq0_cost_reckoned_v6 (w0 : Nat) (w1 : Nat → Insn) (c0_0 : BitVec 64) : Spc := ⟨fun ls => .call 13 #[(rowV (lget ls 0) w0 5), .agg #[.int .u64 (0), .int .u64 (0), .int .u64 (0), .int .u64 (1), .func (.func 17) #[] #[], .func (.func 18) #[] #[]]], fun ls => [rowO (lget ls 0) (esG c_Insn w0 w1) 25 w0 5], 0, .normal, fun ls => [.tuple #[.int .u64 (nn c0_0), .int .i64 (0)]], fun ls => [rowO (lget ls 0) (esG c_Insn w0 w1) 25 w0 5], fun ls => []⟩
section
variable {M : Nat → Prop} {B0 : Nat} {S : World → Prop} (hU : Up M B0 S) (w0 : Nat) (w1 : Nat → Insn) (c0_0 : BitVec 64)
include hU w0 w1 c0_0
theorem ok0_cost_reckoned_v6 (e : m_cost_reckoned_v6 w0 w1 = some (.e0 c0_0)) : SpcG Try.prog M B0 S (sq0_cost_reckoned_v6 w0 w1 c0_0) := by
  unfold m_cost_reckoned_v6 at e
  replace e := bindO_eq e
  obtain ⟨r0, e_r0, e⟩ := e
  try dsimp only at e
  replace e := cond_eq_or e
  rcases e with ⟨hq0, e⟩ | ⟨hq0, e⟩
  · replace e := bindO_eq e
    obtain ⟨g1, e_g1, e⟩ := e
    obtain ⟨g1_0, g1_1, g1_2, g1_3⟩ := g1
    try dsimp only at e
    replace e := bindT_eq e
    obtain ⟨r2, e_r2, e⟩ := e
    try dsimp only at e
    injection e with e; injection e with i0; subst i0; exact fn_specG hU (P := Try.prog) Try.func13 (fun xs w => by kernel_rfl) 1 _ _ (fun _ => rfl) _ _ _ [] [.o, .o, .o, .o, .xg (SpcG.ownC hU c_Insn_len w0 w1 25 fun hU x u v z hr => ok_cost_check_v2 hU x u v w0 z w1 hr r0 e_r0) [0], .o, .o, .b (z_neqT hq0), .o, .a 1, .xg (p0_cost_newWalk_v5 hU w0 w1 ) [0], .o, .o, .a 2, .xg (ok0_cost_newWalk_1_v17_F 450 hU 0 0 (fun _ => (⟨0, (⟨0#64, 0#64⟩ : Amount)⟩ : Me73)) w0 w1 (0#64) (1#64) g1_0 g1_1 g1_2 g1_3 e_g1) [3, 4, 5, 2, 0, 6], .cg (ok_cost_amount_cut_v3 hU (⟨g1_2, g1_3⟩ : Amount) r2 e_r2), .o, .o] [] (fun b => by kernel_rfl)
  · exact none_some e
inductive R_cost_Ways_v2 where
  | e0 (c0_0 : BitVec 64)
noncomputable def m_cost_Ways_v2 (w0 : Nat) (w1 : Nat → Insn) : Option R_cost_Ways_v2 :=
  (m_cost_reckoned_v6 w0 w1).bind fun g0 => match g0 with
  | .e0 g0_0 =>
  some (.e0 g0_0)
def sq0_cost_Ways_v2 (w0 : Nat) (w1 : Nat → Insn) (c0_0 : BitVec 64) : Spc := ⟨fun ls => .call 8 #[(rowV (lget ls 0) w0 5)], fun ls => [rowO (lget ls 0) (esG c_Insn w0 w1) 25 w0 5], 0, .normal, fun ls => [.tuple #[.int .u64 (nn c0_0), .int .i64 (0)]], fun ls => [rowO (lget ls 0) (esG c_Insn w0 w1) 25 w0 5], fun ls => []⟩
theorem ok0_cost_Ways_v2 (e : m_cost_Ways_v2 w0 w1 = some (.e0 c0_0)) : SpcG Try.prog M B0 S (sq0_cost_Ways_v2 w0 w1 c0_0) := by
  unfold m_cost_Ways_v2 at e
  replace e := bindO_eq e
  obtain ⟨g0, e_g0, e⟩ := e
  obtain ⟨g0_0⟩ := g0
  try dsimp only at e
  injection e with e; injection e with i0; subst i0; exact fn_specG hU (P := Try.prog) Try.func8 (fun xs w => by kernel_rfl) 1 _ _ (fun _ => rfl) _ _ _ [] [.o, .o, .o, .o, .o, .o, .xg (ok0_cost_reckoned_v6 hU w0 w1 g0_0 e_g0) [0], .o, .o, .o, .o] [] (fun b => by kernel_rfl)
inductive Sh_barbicanlaw24_CostDouble_L0 where
  | c0 
  | c1 (s0_0 : Nat) (s0_1 : Nat → Insn) (s0_2 : Int)
inductive Ex_barbicanlaw24_CostDouble_L0 where
  | e0 
  | e1 (c1_0 : Nat) (c1_1 : Nat → Insn)
noncomputable def st_barbicanlaw24_CostDouble_L0 (y0 : Int) : Sh_barbicanlaw24_CostDouble_L0 → Option (Sh_barbicanlaw24_CostDouble_L0 ⊕ Ex_barbicanlaw24_CostDouble_L0)
  | .c0  =>
    bif decide (0 < y0) then
      (bindT (appL (fun _ => (⟨183#8, 0#8, 0#8, 0#16, 0#32⟩ : Insn)) 1 [(⟨21#8, 0#8, 0#8, 1#16, 0#32⟩ : Insn), (⟨7#8, 0#8, 0#8, 0#16, 1#32⟩ : Insn)]) fun rb0 =>
      some (.inl (.c1 3 rb0 1)))
    else (some (.inr (.e0 )))
  | .c1 s0_0 s0_1 s0_2 =>
    bif decide (s0_2 < y0) then
      (bif decide (s0_0 ≤ 1000000) then
        (bindT (appL s0_1 s0_0 [(⟨21#8, 0#8, 0#8, 1#16, 0#32⟩ : Insn), (⟨7#8, 0#8, 0#8, 0#16, 1#32⟩ : Insn)]) fun rb0 =>
        some (.inl (.c1 (s0_0 + 2) rb0 (IntKind.i64.wrap (s0_2 + 1)))))
      else (none))
    else (some (.inr (.e1 s0_0 s0_1)))
noncomputable def bd_barbicanlaw24_CostDouble_L0 : Code := codeOf Try.f3 [1, 1, 1, 1, 0, 1, 0, 0]
def fl_barbicanlaw24_CostDouble_L0 (y0 : Int) : Sh_barbicanlaw24_CostDouble_L0 → List L1 → List Value
  | .c0 , ls => [.int .i64 (y0), .slice (some ⟨(lget ls 0).n, 0, none⟩) 1 1, .int .i64 (0)]
  | .c1 s0_0 s0_1 s0_2, ls => [.int .i64 (y0), (rowV (lget ls 0) s0_0 5), .int .i64 (s0_2)]
def mf_barbicanlaw24_CostDouble_L0 : Sh_barbicanlaw24_CostDouble_L0 → List (Nat × Nat)
  | .c0  => [(1, 2), (2, 80)]
  | .c1 _ _ _ => [(1, 2), (2, 80)]
noncomputable def fr_barbicanlaw24_CostDouble_L0 (y0 : Int) (s : Sh_barbicanlaw24_CostDouble_L0) : List L1 → List Value := mrgF (mf_barbicanlaw24_CostDouble_L0 s) (fl_barbicanlaw24_CostDouble_L0 y0 s) 1
def Hs_barbicanlaw24_CostDouble_L0 (y0 : Int) : Sh_barbicanlaw24_CostDouble_L0 → List L1 → List Obj
  | .c0 , ls => [.cells #[.int .u8 (183), .int .u8 (0), .int .u8 (0), .int .i16 (0), .int .i32 (0)] 25, unb]
  | .c1 s0_0 s0_1 s0_2, ls => [rowO (lget ls 0) (esG c_Insn s0_0 s0_1) 25 s0_0 5, unb]
def vl_barbicanlaw24_CostDouble_L0 (y0 : Int) : Ex_barbicanlaw24_CostDouble_L0 → List L1 → List Value
  | .e0 , ls => [.int .i64 (y0), .slice (some ⟨(lget ls 0).n, 0, none⟩) 1 1]
  | .e1 c1_0 c1_1, ls => [.int .i64 (y0), (rowV (lget ls 0) c1_0 5)]
def mk_barbicanlaw24_CostDouble_L0 : Ex_barbicanlaw24_CostDouble_L0 → List (Nat × Nat)
  | .e0  => [(1, 2), (1, 81)]
  | .e1 _ _ => [(1, 2), (1, 81)]
noncomputable def vf_barbicanlaw24_CostDouble_L0 (y0 : Int) (r : Ex_barbicanlaw24_CostDouble_L0) : List L1 → List Value := mrgF (mk_barbicanlaw24_CostDouble_L0 r) (vl_barbicanlaw24_CostDouble_L0 y0 r) 1
def Hf_barbicanlaw24_CostDouble_L0 (y0 : Int) : Ex_barbicanlaw24_CostDouble_L0 → List L1 → List Obj
  | .e0 , ls => [.cells #[.int .u8 (183), .int .u8 (0), .int .u8 (0), .int .i16 (0), .int .i32 (0)] 25, unb]
  | .e1 c1_0 c1_1, ls => [rowO (lget ls 0) (esG c_Insn c1_0 c1_1) 25 c1_0 5, unb]
def ex_barbicanlaw24_CostDouble_L0 : Ex_barbicanlaw24_CostDouble_L0 → Ex
  | .e0  => (.exit 0)
  | .e1 _ _ => (.exit 0)
end
section
variable {M : Nat → Prop} {B0 : Nat} {S : World → Prop} (hU : Up M B0 S) (y0 : Int)
include hU y0
theorem go_barbicanlaw24_CostDouble_L0 (s : Sh_barbicanlaw24_CostDouble_L0) (r : Ex_barbicanlaw24_CostDouble_L0) (h : lpO (st_barbicanlaw24_CostDouble_L0 y0) s = some r) : GoesG Try.prog M B0 S (.loop bd_barbicanlaw24_CostDouble_L0) 2 (fr_barbicanlaw24_CostDouble_L0 y0 s) (Hs_barbicanlaw24_CostDouble_L0 y0 s) (ex_barbicanlaw24_CostDouble_L0 r) 0 (vf_barbicanlaw24_CostDouble_L0 y0 r) (Hf_barbicanlaw24_CostDouble_L0 y0 r) 2 :=
  goes_lpO (fun s q e => by
    cases s with
    | c0  =>
      unfold st_barbicanlaw24_CostDouble_L0 at e
      dsimp only at e
      replace e := cond_eq_or e
      rcases e with ⟨hq0, e⟩ | ⟨hq0, e⟩
      · replace e := bindT_eq e
        obtain ⟨rb0, e_rb0, e⟩ := e
        try dsimp only at e
        cases e; exact goes_runM hU [.o, .o, .b (z_lssT hq0), .o, .o, .o, .o, .x (sqAppLr_ok (ty := 26) rt26 #[false, false] (f := c_Insn) (N := 1) (A := (fun _ => (⟨183#8, 0#8, 0#8, 0#16, 0#32⟩ : Insn))) (c := 2) [(⟨21#8, 0#8, 0#8, 1#16, 0#32⟩ : Insn), (⟨7#8, 0#8, 0#8, 0#16, 1#32⟩ : Insn)] (T' := 25) .plain c_Insn_len c_Insn_one (by decide) rfl (by decide) e_rb0) [0, 2], .o, .o, .o, .o] [3] (fun b => rfl) (by decide) rfl rfl (fun b => by kernel_rfl)
      · cases e; exact ⟨ne_exit 0, goes_runM hU [.o, .o, .b (z_lssF hq0)] [0] (fun b => rfl) (by decide) rfl rfl (fun b => by kernel_rfl)⟩
    | c1 s0_0 s0_1 s0_2 =>
      unfold st_barbicanlaw24_CostDouble_L0 at e
      dsimp only at e
      replace e := cond_eq_or e
      rcases e with ⟨hq0, e⟩ | ⟨hq0, e⟩
      · replace e := cond_eq_or e
        rcases e with ⟨hq1, e⟩ | ⟨hq1, e⟩
        · replace e := bindT_eq e
          obtain ⟨rb0, e_rb0, e⟩ := e
          try dsimp only at e
          cases e; exact goes_runM hU [.o, .o, .b (z_lssT hq0), .o, .o, .o, .o, .x (sqAppLr_ok (ty := 26) rt26 #[false, false] (f := c_Insn) (N := s0_0) (A := s0_1) (c := 2) [(⟨21#8, 0#8, 0#8, 1#16, 0#32⟩ : Insn), (⟨7#8, 0#8, 0#8, 0#16, 1#32⟩ : Insn)] (T' := 25) .row c_Insn_len c_Insn_one hq1 rfl (by decide) e_rb0) [0, 2], .o, .o, .o, .o] [3] (fun b => rfl) (by decide) rfl rfl (fun b => by kernel_rfl)
        · exact none_some e
      · cases e; exact ⟨ne_exit 0, goes_runM hU [.o, .o, .b (z_lssF hq0)] [0] (fun b => rfl) (by decide) rfl rfl (fun b => by kernel_rfl)⟩) s r h
noncomputable def t0_barbicanlaw24_CostDouble_L0_0 (y0 : Int)  (ls : List L1) : List Value := List.append [.int .i64 (y0), undef, .bool false, .slice (some ⟨(lget ls 0).n, 0, none⟩) 1 1, .int .i64 (0)] (List.append (und 7) (List.append [.bool true, .bool false, .int .i64 (y0), .bool false, .bool false, .int .i64 (y0), .bool false, .bool false, .agg #[.int .u8 (183), .int .u8 (0), .int .u8 (0), .int .i16 (0), .int .i32 (0)], .slice (some ⟨(lget ls 0).n, 0, none⟩) 1 1] (und 63)))
def pre_barbicanlaw24_CostDouble_L0_0 (y0 : Int)  (ls : List L1) : List Obj := [.cells #[.int .u8 (183), .int .u8 (0), .int .u8 (0), .int .i16 (0), .int .i32 (0)] 25]
theorem sp0_barbicanlaw24_CostDouble_L0_0_ok (h : lpO (st_barbicanlaw24_CostDouble_L0 y0) (.c0) = some (.e0 )) : SpcG Try.prog M B0 S ⟨fun ls => .code (.loop bd_barbicanlaw24_CostDouble_L0) (t0_barbicanlaw24_CostDouble_L0_0 y0  ls), pre_barbicanlaw24_CostDouble_L0_0 y0 , 2, (.exit 0), fun ls => vf_barbicanlaw24_CostDouble_L0 y0 (.e0 ) (ls.take 0 ++ ls.drop 1), fun ls => (Hf_barbicanlaw24_CostDouble_L0 y0 (.e0 ) (ls.take 0 ++ ls.drop 1)).take 0 ++ List.replicate 1 unb, fun ls => (Hf_barbicanlaw24_CostDouble_L0 y0 (.e0 ) (ls.take 0 ++ ls.drop 1)).drop 0⟩ :=
  spc_of_goesM hU 0 (k0 := 1) (go_barbicanlaw24_CostDouble_L0 hU y0 _ _ h) (t0_barbicanlaw24_CostDouble_L0_0 y0 ) (pre_barbicanlaw24_CostDouble_L0_0 y0 ) (fun _ => rfl) (fun ls h => by match ls, h with | [l0], _ => exact ⟨by kernel_rfl, by kernel_rfl⟩) (fun ls h => by match ls, h with | [l0], _ => rfl) (by decide) (by decide) (fun ls => rfl)
theorem sp1_barbicanlaw24_CostDouble_L0_0_ok (c1_0 : Nat) (c1_1 : Nat → Insn) (h : lpO (st_barbicanlaw24_CostDouble_L0 y0) (.c0) = some (.e1 c1_0 c1_1)) : SpcG Try.prog M B0 S ⟨fun ls => .code (.loop bd_barbicanlaw24_CostDouble_L0) (t0_barbicanlaw24_CostDouble_L0_0 y0  ls), pre_barbicanlaw24_CostDouble_L0_0 y0 , 2, (.exit 0), fun ls => vf_barbicanlaw24_CostDouble_L0 y0 (.e1 c1_0 c1_1) (ls.take 0 ++ ls.drop 1), fun ls => (Hf_barbicanlaw24_CostDouble_L0 y0 (.e1 c1_0 c1_1) (ls.take 0 ++ ls.drop 1)).take 0 ++ List.replicate 1 unb, fun ls => (Hf_barbicanlaw24_CostDouble_L0 y0 (.e1 c1_0 c1_1) (ls.take 0 ++ ls.drop 1)).drop 0⟩ :=
  spc_of_goesM hU 0 (k0 := 1) (go_barbicanlaw24_CostDouble_L0 hU y0 _ _ h) (t0_barbicanlaw24_CostDouble_L0_0 y0 ) (pre_barbicanlaw24_CostDouble_L0_0 y0 ) (fun _ => rfl) (fun ls h => by match ls, h with | [l0], _ => exact ⟨by kernel_rfl, by kernel_rfl⟩) (fun ls h => by match ls, h with | [l0], _ => rfl) (by decide) (by decide) (fun ls => rfl)
noncomputable def m_barbicanlaw24_CostDouble (y0 : Int) : Option (Bool) :=
  bif decide (y0 < 0) then
    (some true)
  else (bif decide (200 < y0) then
    (some true)
  else ((lpO (st_barbicanlaw24_CostDouble_L0 y0) (.c0)).bind fun g0 => match g0 with
  | .e0  => (bindT (updF (fun _ => (⟨183#8, 0#8, 0#8, 0#16, 0#32⟩ : Insn)) 1 (⟨149#8, 0#8, 0#8, 0#16, 0#32⟩ : Insn)) fun r1 =>
    (m_cost_Longest_v1 2 r1).bind fun g2 => match g2 with
    | .e0 g2_0 =>
    (m_cost_Shortest_v1 2 r1).bind fun g3 => match g3 with
    | .e0 g3_0 =>
    (m_cost_Ways_v2 2 r1).bind fun g4 => match g4 with
    | .e0 g4_0 =>
    bif decide (y0 < 63) then
      (bif decide (0 ≤ y0) then
        (bif g2_0 == (BitVec.ofInt 64 (IntKind.i64.wrap (2 + (IntKind.i64.wrap (2 * y0))))) then
          (bif g3_0 == (BitVec.ofInt 64 (IntKind.i64.wrap (2 + y0))) then
            (some (g4_0 == (1#64 <<< (y0).toNat)))
          else (none))
        else (none))
      else (none))
    else (bif g2_0 == (BitVec.ofInt 64 (IntKind.i64.wrap (2 + (IntKind.i64.wrap (2 * y0))))) then
      (bif g3_0 == (BitVec.ofInt 64 (IntKind.i64.wrap (2 + y0))) then
        (some (g4_0 == 9223372036854775807#64))
      else (none))
    else (none)))
  | .e1 g0_0 g0_1 => (bif decide (g0_0 ≤ 1000000) then
      ((m_cost_Longest_v1 (g0_0 + 1) (updF g0_1 g0_0 (⟨149#8, 0#8, 0#8, 0#16, 0#32⟩ : Insn))).bind fun g1 => match g1 with
      | .e0 g1_0 =>
      (m_cost_Shortest_v1 (g0_0 + 1) (updF g0_1 g0_0 (⟨149#8, 0#8, 0#8, 0#16, 0#32⟩ : Insn))).bind fun g2 => match g2 with
      | .e0 g2_0 =>
      (m_cost_Ways_v2 (g0_0 + 1) (updF g0_1 g0_0 (⟨149#8, 0#8, 0#8, 0#16, 0#32⟩ : Insn))).bind fun g3 => match g3 with
      | .e0 g3_0 =>
      bif decide (y0 < 63) then
        (bif decide (0 ≤ y0) then
          (bif g1_0 == (BitVec.ofInt 64 (IntKind.i64.wrap (2 + (IntKind.i64.wrap (2 * y0))))) then
            (bif g2_0 == (BitVec.ofInt 64 (IntKind.i64.wrap (2 + y0))) then
              (some (g3_0 == (1#64 <<< (y0).toNat)))
            else (none))
          else (none))
        else (none))
      else (bif g1_0 == (BitVec.ofInt 64 (IntKind.i64.wrap (2 + (IntKind.i64.wrap (2 * y0))))) then
        (bif g2_0 == (BitVec.ofInt 64 (IntKind.i64.wrap (2 + y0))) then
          (some (g3_0 == 9223372036854775807#64))
        else (none))
      else (none)))
    else (none))))
theorem ok_barbicanlaw24_CostDouble (r : Bool) (e : m_barbicanlaw24_CostDouble y0 = some r) : ConG Try.prog S 3 #[.int .i64 (y0)] (.bool (r)) := by
  unfold m_barbicanlaw24_CostDouble at e
  replace e := cond_eq_or e
  let P1 : List (PG Try.prog M B0 S) := [.o, .cg (ok_barbicanlaw24_known hU  ), .o, .o]
  rcases e with ⟨hq0, e⟩ | ⟨hq0, e⟩
  · injection e with e; subst e; exact fn_conG hU (P := Try.prog) Try.func3 (fun xs w => by kernel_rfl) _ _ (P1 ++ [.b (z_lssT hq0), .o, .o, .o]) [] (fun b => by kernel_rfl)
  · replace e := cond_eq_or e
    let P2 : List (PG Try.prog M B0 S) := P1 ++ [.b (z_lssF hq0), .o, .o]
    rcases e with ⟨hq1, e⟩ | ⟨hq1, e⟩
    · injection e with e; subst e; exact fn_conG hU (P := Try.prog) Try.func3 (fun xs w => by kernel_rfl) _ _ (P2 ++ [.b (z_gtrT hq1), .o, .o]) [] (fun b => by kernel_rfl)
    · replace e := bindO_eq e
      obtain ⟨g0, e_g0, e⟩ := e
      let P3 : List (PG Try.prog M B0 S) := P2 ++ [.b (z_gtrF hq1), .o, .o, .o, .o, .o, .cp]
      rcases g0 with _ | ⟨g0_0, g0_1⟩
      · try dsimp only at e
        replace e := bindT_eq e
        obtain ⟨r1, e_r1, e⟩ := e
        try dsimp only at e
        replace e := bindO_eq e
        obtain ⟨g2, e_g2, e⟩ := e
        obtain ⟨g2_0⟩ := g2
        try dsimp only at e
        replace e := bindO_eq e
        obtain ⟨g3, e_g3, e⟩ := e
        obtain ⟨g3_0⟩ := g3
        try dsimp only at e
        replace e := bindO_eq e
        obtain ⟨g4, e_g4, e⟩ := e
        obtain ⟨g4_0⟩ := g4
        try dsimp only at e
        replace e := cond_eq_or e
        let P4 : List (PG Try.prog M B0 S) := P3 ++ [.cx (sp0_barbicanlaw24_CostDouble_L0_0_ok hU y0   e_g0) [0], .o, .o, .o, .x (sqAppLr_ok (ty := 26) rt26 #[false, false] (f := c_Insn) (N := 1) (A := (fun _ => (⟨183#8, 0#8, 0#8, 0#16, 0#32⟩ : Insn))) (c := 1) [(⟨149#8, 0#8, 0#8, 0#16, 0#32⟩ : Insn)] (T' := 25) .plain c_Insn_len c_Insn_one (by decide) rfl (by decide) e_r1) [1, 3], .o, .o, .xg (ok0_cost_Longest_v1 hU 2 r1 g2_0 e_g2) [4], .o, .o, .o, .o, .o, .o, .xg (ok0_cost_Shortest_v1 hU 2 r1 g3_0 e_g3) [4], .o, .o, .o, .o, .o, .o, .xg (ok0_cost_Ways_v2 hU 2 r1 g4_0 e_g4) [4], .o, .o, .o, .o, .o, .o, .o]
        rcases e with ⟨hq2, e⟩ | ⟨hq2, e⟩
        · replace e := cond_eq_or e
          rcases e with ⟨hq3, e⟩ | ⟨hq3, e⟩
          · replace e := cond_eq_or e
            rcases e with ⟨hq4, e⟩ | ⟨hq4, e⟩
            · replace e := cond_eq_or e
              rcases e with ⟨hq5, e⟩ | ⟨hq5, e⟩
              · injection e with e; subst e; exact fn_conG hU (P := Try.prog) Try.func3 (fun xs w => by kernel_rfl) _ _ (P4 ++ [.b (z_lssT hq2), .o, .ov (u64_shl Try.prog 27 (.const (.int .u64 (1))) (.tmp 53) (1#64) (y0).toNat .i64 (z_pos hq3)), .o, .o, .o, .o, .o, .o, .o, .o, .o, .o, .o, .o, .o, .o, .o, .o, .v .u64 (u64_of_z (IntKind.i64.wrap (2 + (IntKind.i64.wrap (2 * y0))))), .t (u_eq g2_0 (BitVec.ofInt 64 (IntKind.i64.wrap (2 + (IntKind.i64.wrap (2 * y0)))))) hq4, .o, .o, .o, .o, .o, .v .u64 (u64_of_z (IntKind.i64.wrap (2 + y0))), .t (u_eq g3_0 (BitVec.ofInt 64 (IntKind.i64.wrap (2 + y0)))) hq5, .o, .o, .o, .o, .t (u_eq g4_0 (1#64 <<< (y0).toNat)) rfl, .o, .o]) [] (fun b => by kernel_rfl)
              · exact none_some e
            · exact none_some e
          · exact none_some e
        · replace e := cond_eq_or e
          rcases e with ⟨hq3, e⟩ | ⟨hq3, e⟩
          · replace e := cond_eq_or e
            rcases e with ⟨hq4, e⟩ | ⟨hq4, e⟩
            · injection e with e; subst e; exact fn_conG hU (P := Try.prog) Try.func3 (fun xs w => by kernel_rfl) _ _ (P4 ++ [.b (z_lssF hq2), .o, .o, .o, .o, .o, .o, .o, .o, .o, .o, .o, .o, .o, .o, .o, .v .u64 (u64_of_z (IntKind.i64.wrap (2 + (IntKind.i64.wrap (2 * y0))))), .t (u_eq g2_0 (BitVec.ofInt 64 (IntKind.i64.wrap (2 + (IntKind.i64.wrap (2 * y0)))))) hq3, .o, .o, .o, .o, .o, .v .u64 (u64_of_z (IntKind.i64.wrap (2 + y0))), .t (u_eq g3_0 (BitVec.ofInt 64 (IntKind.i64.wrap (2 + y0)))) hq4, .o, .o, .o, .o, .t (u_eq g4_0 (9223372036854775807#64)) rfl, .o, .o]) [] (fun b => by kernel_rfl)
            · exact none_some e
          · exact none_some e
      · try dsimp only at e
        replace e := cond_eq_or e
        rcases e with ⟨hq2, e⟩ | ⟨hq2, e⟩
        · replace e := bindO_eq e
          obtain ⟨g1, e_g1, e⟩ := e
          obtain ⟨g1_0⟩ := g1
          try dsimp only at e
          replace e := bindO_eq e
          obtain ⟨g2, e_g2, e⟩ := e
          obtain ⟨g2_0⟩ := g2
          try dsimp only at e
          replace e := bindO_eq e
          obtain ⟨g3, e_g3, e⟩ := e
          obtain ⟨g3_0⟩ := g3
          try dsimp only at e
          replace e := cond_eq_or e
          let P5 : List (PG Try.prog M B0 S) := P3 ++ [.cx (sp1_barbicanlaw24_CostDouble_L0_0_ok hU y0  g0_0 g0_1 e_g0) [0], .o, .o, .o, .x (sqAppL_ok (ty := 26) rt26 #[false, false] (f := c_Insn) (N := g0_0) (A := g0_1) (c := 1) [(⟨149#8, 0#8, 0#8, 0#16, 0#32⟩ : Insn)] (T' := 25) .row c_Insn_len c_Insn_one hq2 rfl (by decide)) [1, 3], .o, .o, .xg (ok0_cost_Longest_v1 hU (g0_0 + 1) (updF g0_1 g0_0 (⟨149#8, 0#8, 0#8, 0#16, 0#32⟩ : Insn)) g1_0 e_g1) [4], .o, .o, .o, .o, .o, .o, .xg (ok0_cost_Shortest_v1 hU (g0_0 + 1) (updF g0_1 g0_0 (⟨149#8, 0#8, 0#8, 0#16, 0#32⟩ : Insn)) g2_0 e_g2) [4], .o, .o, .o, .o, .o, .o, .xg (ok0_cost_Ways_v2 hU (g0_0 + 1) (updF g0_1 g0_0 (⟨149#8, 0#8, 0#8, 0#16, 0#32⟩ : Insn)) g3_0 e_g3) [4], .o, .o, .o, .o, .o, .o, .o]
          rcases e with ⟨hq3, e⟩ | ⟨hq3, e⟩
          · replace e := cond_eq_or e
            rcases e with ⟨hq4, e⟩ | ⟨hq4, e⟩
            · replace e := cond_eq_or e
              rcases e with ⟨hq5, e⟩ | ⟨hq5, e⟩
              · replace e := cond_eq_or e
                rcases e with ⟨hq6, e⟩ | ⟨hq6, e⟩
                · injection e with e; subst e; exact fn_conG hU (P := Try.prog) Try.func3 (fun xs w => by kernel_rfl) _ _ (P5 ++ [.b (z_lssT hq3), .o, .ov (u64_shl Try.prog 27 (.const (.int .u64 (1))) (.tmp 53) (1#64) (y0).toNat .i64 (z_pos hq4)), .o, .o, .o, .o, .o, .o, .o, .o, .o, .o, .o, .o, .o, .o, .o, .o, .v .u64 (u64_of_z (IntKind.i64.wrap (2 + (IntKind.i64.wrap (2 * y0))))), .t (u_eq g1_0 (BitVec.ofInt 64 (IntKind.i64.wrap (2 + (IntKind.i64.wrap (2 * y0)))))) hq5, .o, .o, .o, .o, .o, .v .u64 (u64_of_z (IntKind.i64.wrap (2 + y0))), .t (u_eq g2_0 (BitVec.ofInt 64 (IntKind.i64.wrap (2 + y0)))) hq6, .o, .o, .o, .o, .t (u_eq g3_0 (1#64 <<< (y0).toNat)) rfl, .o, .o]) [] (fun b => by kernel_rfl)
                · exact none_some e
              · exact none_some e
            · exact none_some e
          · replace e := cond_eq_or e
            rcases e with ⟨hq4, e⟩ | ⟨hq4, e⟩
            · replace e := cond_eq_or e
              rcases e with ⟨hq5, e⟩ | ⟨hq5, e⟩
              · injection e with e; subst e; exact fn_conG hU (P := Try.prog) Try.func3 (fun xs w => by kernel_rfl) _ _ (P5 ++ [.b (z_lssF hq3), .o, .o, .o, .o, .o, .o, .o, .o, .o, .o, .o, .o, .o, .o, .o, .v .u64 (u64_of_z (IntKind.i64.wrap (2 + (IntKind.i64.wrap (2 * y0))))), .t (u_eq g1_0 (BitVec.ofInt 64 (IntKind.i64.wrap (2 + (IntKind.i64.wrap (2 * y0)))))) hq4, .o, .o, .o, .o, .o, .v .u64 (u64_of_z (IntKind.i64.wrap (2 + y0))), .t (u_eq g2_0 (BitVec.ofInt 64 (IntKind.i64.wrap (2 + y0)))) hq5, .o, .o, .o, .o, .t (u_eq g3_0 (9223372036854775807#64)) rfl, .o, .o]) [] (fun b => by kernel_rfl)
              · exact none_some e
            · exact none_some e
        · exact none_some e
end

end Go.Proofs.Ytdgehbjiphahhaa


