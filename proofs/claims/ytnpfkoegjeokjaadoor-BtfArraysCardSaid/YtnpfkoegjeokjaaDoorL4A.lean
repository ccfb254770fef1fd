/-
  Types: what is asked of one of them.
-/
import Derived.Test.YtnpfkoegjeokjaaDoorL4K
namespace Go.Proofs.YtnpfkoegjeokjaaDoor
open Go.RowKit
set_option linter.unusedVariables false
set_option linter.unusedSimpArgs false
set_option linter.unusedSectionVars false
set_option maxRecDepth 100000
set_option maxHeartbeats 4000000
structure Type0 where
  fKind : Int
  fName : ByteArray
  fSize : Int
  fSigned : Bool
  fTo : Int
  fCount : Int
  fMembers : Unit
abbrev c_Type0 (x : Type0) : List Value := [.int .i64 (x.fKind), .string x.fName, .int .i64 (x.fSize), .bool (x.fSigned), .int .i64 (x.fTo), .int .i64 (x.fCount), .slice none 0 0]
def v_Type0 (x : Type0) : Value := .agg #[.int .i64 (x.fKind), .string x.fName, .int .i64 (x.fSize), .bool (x.fSigned), .int .i64 (x.fTo), .int .i64 (x.fCount), .slice none 0 0]
theorem c_Type0_len (x : Type0) : (c_Type0 x).length = 7 := rfl
theorem c_Type0_one (x : Type0) : ((c_Type0 x).all fun u => u.oneCell') = true := rfl
inductive Sh_btf_tooMany_v1_L0 where
  | c0 (s0_0 : Int)
inductive Ex_btf_tooMany_v1_L0 where
  | e0 
noncomputable def st_btf_tooMany_v1_L0 (n0 : Nat) : Sh_btf_tooMany_v1_L0 → Option (Sh_btf_tooMany_v1_L0 ⊕ Ex_btf_tooMany_v1_L0)
  | .c0 s0_0 =>
    bif decide (s0_0 < (n0 : Int)) then
      (bif inR s0_0 n0 then
        (some (.inl (.c0 (IntKind.i64.wrap (s0_0 + 1)))))
      else (none))
    else (some (.inr (.e0 )))
noncomputable def bd_btf_tooMany_v1_L0 : Code := codeOf Tryd.f9 [1, 1, 0, 1, 0, 0]
def fl_btf_tooMany_v1_L0 (a0 : Option Addr) (p0 : Nat) (q0 : Nat) (n0 : Nat) (k0 : Nat) (A0 : Nat → Type0) : Sh_btf_tooMany_v1_L0 → List L1 → List Value
  | .c0 s0_0, ls => [.bool false, .slice a0 n0 (n0 + k0), .int .i64 ((n0 : Int)), .int .i64 (s0_0)]
def mf_btf_tooMany_v1_L0 : Sh_btf_tooMany_v1_L0 → List (Nat × Nat)
  | .c0 _ => [(0, 2), (1, 5), (3, 8)]
noncomputable def fr_btf_tooMany_v1_L0 (a0 : Option Addr) (p0 : Nat) (q0 : Nat) (n0 : Nat) (k0 : Nat) (A0 : Nat → Type0) (s : Sh_btf_tooMany_v1_L0) : List L1 → List Value := mrgF (mf_btf_tooMany_v1_L0 s) (fl_btf_tooMany_v1_L0 a0 p0 q0 n0 k0 A0 s) 0
def Hs_btf_tooMany_v1_L0 (a0 : Option Addr) (p0 : Nat) (q0 : Nat) (n0 : Nat) (k0 : Nat) (A0 : Nat → Type0) : Sh_btf_tooMany_v1_L0 → List L1 → List Obj
  | .c0 s0_0, ls => [unb]
def vl_btf_tooMany_v1_L0 (a0 : Option Addr) (p0 : Nat) (q0 : Nat) (n0 : Nat) (k0 : Nat) (A0 : Nat → Type0) : Ex_btf_tooMany_v1_L0 → List L1 → List Value
  | .e0 , ls => [.bool false, .slice a0 n0 (n0 + k0), .int .i64 ((n0 : Int))]
def mk_btf_tooMany_v1_L0 : Ex_btf_tooMany_v1_L0 → List (Nat × Nat)
  | .e0  => [(0, 2), (1, 5), (2, 9)]
noncomputable def vf_btf_tooMany_v1_L0 (a0 : Option Addr) (p0 : Nat) (q0 : Nat) (n0 : Nat) (k0 : Nat) (A0 : Nat → Type0) (r : Ex_btf_tooMany_v1_L0) : List L1 → List Value := mrgF (mk_btf_tooMany_v1_L0 r) (vl_btf_tooMany_v1_L0 a0 p0 q0 n0 k0 A0 r) 0
def Hf_btf_tooMany_v1_L0 (a0 : Option Addr) (p0 : Nat) (q0 : Nat) (n0 : Nat) (k0 : Nat) (A0 : Nat → Type0) : Ex_btf_tooMany_v1_L0 → List L1 → List Obj
  | .e0 , ls => [unb]
def ex_btf_tooMany_v1_L0 : Ex_btf_tooMany_v1_L0 → Ex
  | .e0  => (.exit 0)
section
variable {M : Nat → Prop} {B0 : Nat} {S : World → Prop} (hU : Up M B0 S) (a0 : Option Addr) (p0 : Nat) (q0 : Nat) (n0 : Nat) (k0 : Nat) (A0 : Nat → Type0) (hR0 : Ro S c_Type0 7 a0 p0 q0 n0 A0)
include hU a0 p0 q0 n0 k0 A0 hR0
theorem go_btf_tooMany_v1_L0 (s : Sh_btf_tooMany_v1_L0) (r : Ex_btf_tooMany_v1_L0) (h : lpO (st_btf_tooMany_v1_L0 n0) s = some r) : GoesG Tryd.prog M B0 S (.loop bd_btf_tooMany_v1_L0) 1 (fr_btf_tooMany_v1_L0 a0 p0 q0 n0 k0 A0 s) (Hs_btf_tooMany_v1_L0 a0 p0 q0 n0 k0 A0 s) (ex_btf_tooMany_v1_L0 r) 0 (vf_btf_tooMany_v1_L0 a0 p0 q0 n0 k0 A0 r) (Hf_btf_tooMany_v1_L0 a0 p0 q0 n0 k0 A0 r) 1 :=
  goes_lpO (fun s q e => by
    cases s with
    | c0 s0_0 =>
      unfold st_btf_tooMany_v1_L0 at e
      dsimp only at e
      replace e := cond_eq_or e
      rcases e with ⟨hq0, e⟩ | ⟨hq0, e⟩
      · replace e := cond_eq_or e
        rcases e with ⟨hq1, e⟩ | ⟨hq1, e⟩
        · cases e; exact goes_runM hU [.b (z_lssT hq0), .q (ixRo_ok (kd := .i64) (T := 27) (x := s0_0) (sz := 7) rfl (fun w => by kernel_rfl) hR0 hq1), .l (accRo hR0 c_Type0_len (inR_nat hq1) 0 [.int .i64 (((A0 (s0_0).toNat)).fKind), .string ((A0 (s0_0).toNat)).fName, .int .i64 (((A0 (s0_0).toNat)).fSize), .bool (((A0 (s0_0).toNat)).fSigned), .int .i64 (((A0 (s0_0).toNat)).fTo), .int .i64 (((A0 (s0_0).toNat)).fCount), .slice none 0 0] rfl), .o, .a 1, .o, .a 1, .o, .o, .o, .o] [] (fun b => rfl) (by decide) rfl rfl (fun b => by kernel_rfl)
        · exact none_some e
      · cases e; exact ⟨ne_exit 0, goes_runM hU [.b (z_lssF hq0)] [] (fun b => rfl) (by decide) rfl rfl (fun b => by kernel_rfl)⟩) s r h
noncomputable def t0_btf_tooMany_v1_L0_0 (a0 : Option Addr) (p0 : Nat) (q0 : Nat) (n0 : Nat) (k0 : Nat) (A0 : Nat → Type0) (s0_0 : Int) (ls : List L1) : List Value := List.append [.slice a0 n0 (n0 + k0), undef, .bool false, undef, undef, .slice a0 n0 (n0 + k0), .int .i64 ((n0 : Int)), .bool false, .slice a0 n0 (n0 + k0), .int .i64 ((n0 : Int)), .int .i64 (s0_0)] (und 8)
def pre_btf_tooMany_v1_L0_0 (a0 : Option Addr) (p0 : Nat) (q0 : Nat) (n0 : Nat) (k0 : Nat) (A0 : Nat → Type0) (s0_0 : Int) (ls : List L1) : List Obj := []
theorem sp0_btf_tooMany_v1_L0_0_ok (s0_0 : Int) (h : lpO (st_btf_tooMany_v1_L0 n0) (.c0 s0_0) = some (.e0 )) : SpcG Tryd.prog M B0 S ⟨fun ls => .code (.loop bd_btf_tooMany_v1_L0) (t0_btf_tooMany_v1_L0_0 a0 p0 q0 n0 k0 A0 s0_0 ls), pre_btf_tooMany_v1_L0_0 a0 p0 q0 n0 k0 A0 s0_0, 1, (.exit 0), fun ls => vf_btf_tooMany_v1_L0 a0 p0 q0 n0 k0 A0 (.e0 ) (ls.take 0 ++ ls.drop 0), fun ls => (Hf_btf_tooMany_v1_L0 a0 p0 q0 n0 k0 A0 (.e0 ) (ls.take 0 ++ ls.drop 0)).take 0 ++ List.replicate 0 unb, fun ls => (Hf_btf_tooMany_v1_L0 a0 p0 q0 n0 k0 A0 (.e0 ) (ls.take 0 ++ ls.drop 0)).drop 0⟩ :=
  spc_of_goesM hU 0 (k0 := 0) (go_btf_tooMany_v1_L0 hU a0 p0 q0 n0 k0 A0 hR0 _ _ h) (t0_btf_tooMany_v1_L0_0 a0 p0 q0 n0 k0 A0 s0_0) (pre_btf_tooMany_v1_L0_0 a0 p0 q0 n0 k0 A0 s0_0) (fun _ => rfl) (fun ls h => by match ls, h with | [], _ => exact ⟨by kernel_rfl, by kernel_rfl⟩) (fun ls h => by match ls, h with | [], _ => rfl) (by decide) (by decide) (fun ls => rfl)
noncomputable def m_btf_tooMany_v1 (n0 : Nat) (A0 : Nat → Type0) : Option (Bool) :=
  bif decide (256 < (n0 : Int)) then
    (some true)
  else ((lpO (st_btf_tooMany_v1_L0 n0) (.c0 0)).bind fun g0 => match g0 with
  | .e0 =>
  some false)
theorem ok_btf_tooMany_v1 (r : Bool) (e : m_btf_tooMany_v1 n0 A0 = some r) : ConG Tryd.prog S 9 #[.slice a0 n0 (n0 + k0)] (.bool (r)) := by
  unfold m_btf_tooMany_v1 at e
  replace e := cond_eq_or e
  rcases e with ⟨hq0, e⟩ | ⟨hq0, e⟩
  · injection e with e; subst e; exact fn_conG hU (P := Tryd.prog) Tryd.func9 (fun xs w => by kernel_rfl) _ _ [.o, .o, .o, .b (z_gtrT hq0), .o] [] (fun b => by kernel_rfl)
  · replace e := bindO_eq e
    obtain ⟨g0, e_g0, e⟩ := e
    cases g0
    try dsimp only at e
    injection e with e; subst e; exact fn_conG hU (P := Tryd.prog) Tryd.func9 (fun xs w => by kernel_rfl) _ _ [.o, .o, .o, .b (z_gtrF hq0), .o, .o, .o, .cp, .cx (sp0_btf_tooMany_v1_L0_0_ok hU a0 p0 q0 n0 k0 A0 hR0 0  e_g0) [], .o] [] (fun b => by kernel_rfl)
noncomputable def m_btf_rightSize_v2 (y0 : Type0) : Bool :=
  bif y0.fKind == 1 then
    (bif y0.fSize == 1 then
      (true)
    else (bif y0.fSize == 2 then
      (true)
    else (bif y0.fSize == 4 then
      (true)
    else ((y0.fSize == 8)))))
  else (bif y0.fKind == 3 then
    (bif decide (0 ≤ y0.fCount) then
      ((decide (y0.fCount ≤ 65536)))
    else (false))
  else (bif y0.fKind == 4 then
    (bif decide (0 ≤ y0.fSize) then
      ((decide (y0.fSize ≤ 65536)))
    else (false))
  else (true)))
end
section
variable {M : Nat → Prop} {B0 : Nat} {S : World → Prop} (hU : Up M B0 S) (y0 : Type0)
include hU y0
theorem ok_btf_rightSize_v2 (r : Bool) (e : m_btf_rightSize_v2 y0 = r) : ConG Tryd.prog S 18 #[(v_Type0 y0)] (.bool (r)) := by
  unfold m_btf_rightSize_v2 at e
  replace e := cond_eq_or e
  rcases e with ⟨hq0, e⟩ | ⟨hq0, e⟩
  · replace e := cond_eq_or e
    rcases e with ⟨hq1, e⟩ | ⟨hq1, e⟩
    · subst e; exact fn_conG hU (P := Tryd.prog) Tryd.func18 (fun xs w => by kernel_rfl) _ _ [.o, .o, .o, .a 0, .b (z_eqlT hq0), .o, .o, .a 0, .b (z_eqlT hq1), .o, .o, .o, .o, .o, .o, .o] [] (fun b => by kernel_rfl)
    · replace e := cond_eq_or e
      rcases e with ⟨hq2, e⟩ | ⟨hq2, e⟩
      · subst e; exact fn_conG hU (P := Tryd.prog) Tryd.func18 (fun xs w => by kernel_rfl) _ _ [.o, .o, .o, .a 0, .b (z_eqlT hq0), .o, .o, .a 0, .b (z_eqlF hq1), .o, .o, .a 0, .b (z_eqlT hq2), .o, .o, .o, .o, .o, .o] [] (fun b => by kernel_rfl)
      · replace e := cond_eq_or e
        rcases e with ⟨hq3, e⟩ | ⟨hq3, e⟩
        · subst e; exact fn_conG hU (P := Tryd.prog) Tryd.func18 (fun xs w => by kernel_rfl) _ _ [.o, .o, .o, .a 0, .b (z_eqlT hq0), .o, .o, .a 0, .b (z_eqlF hq1), .o, .o, .a 0, .b (z_eqlF hq2), .o, .o, .o, .a 0, .b (z_eqlT hq3), .o, .o, .o, .o] [] (fun b => by kernel_rfl)
        · subst e; exact fn_conG hU (P := Tryd.prog) Tryd.func18 (fun xs w => by kernel_rfl) _ _ [.o, .o, .o, .a 0, .b (z_eqlT hq0), .o, .o, .a 0, .b (z_eqlF hq1), .o, .o, .a 0, .b (z_eqlF hq2), .o, .o, .o, .a 0, .b (z_eqlF hq3), .o, .o, .o, .a 0, .o, .o, .o] [] (fun b => by kernel_rfl)
  · replace e := cond_eq_or e
    rcases e with ⟨hq1, e⟩ | ⟨hq1, e⟩
    · replace e := cond_eq_or e
      rcases e with ⟨hq2, e⟩ | ⟨hq2, e⟩
      · subst e; exact fn_conG hU (P := Tryd.prog) Tryd.func18 (fun xs w => by kernel_rfl) _ _ [.o, .o, .o, .a 0, .b (z_eqlF hq0), .o, .b (z_eqlT hq1), .o, .o, .a 0, .b (z_geqT hq2), .o, .o, .a 0, .o, .o, .o] [] (fun b => by kernel_rfl)
      · subst e; exact fn_conG hU (P := Tryd.prog) Tryd.func18 (fun xs w => by kernel_rfl) _ _ [.o, .o, .o, .a 0, .b (z_eqlF hq0), .o, .b (z_eqlT hq1), .o, .o, .a 0, .b (z_geqF hq2), .o, .o, .o] [] (fun b => by kernel_rfl)
    · replace e := cond_eq_or e
      rcases e with ⟨hq2, e⟩ | ⟨hq2, e⟩
      · replace e := cond_eq_or e
        rcases e with ⟨hq3, e⟩ | ⟨hq3, e⟩
        · subst e; exact fn_conG hU (P := Tryd.prog) Tryd.func18 (fun xs w => by kernel_rfl) _ _ [.o, .o, .o, .a 0, .b (z_eqlF hq0), .o, .b (z_eqlF hq1), .o, .b (z_eqlT hq2), .o, .o, .a 0, .b (z_geqT hq3), .o, .o, .a 0, .o, .o, .o] [] (fun b => by kernel_rfl)
        · subst e; exact fn_conG hU (P := Tryd.prog) Tryd.func18 (fun xs w => by kernel_rfl) _ _ [.o, .o, .o, .a 0, .b (z_eqlF hq0), .o, .b (z_eqlF hq1), .o, .b (z_eqlT hq2), .o, .o, .a 0, .b (z_geqF hq3), .o, .o, .o] [] (fun b => by kernel_rfl)
      · subst e; exact fn_conG hU (P := Tryd.prog) Tryd.func18 (fun xs w => by kernel_rfl) _ _ [.o, .o, .o, .a 0, .b (z_eqlF hq0), .o, .b (z_eqlF hq1), .o, .b (z_eqlF hq2), .o, .o] [] (fun b => by kernel_rfl)
noncomputable def m_btf_rightReferences_v2 (y0 : Type0) (y1 : Int) : Bool :=
  bif y0.fKind == 1 then
    (bif decide (y0.fTo < 0) then
      (false)
    else (bif decide (0 < y0.fTo) then
      (false)
    else (true)))
  else (bif y0.fKind == 4 then
    (bif decide (y0.fTo < 0) then
      (false)
    else (bif decide (0 < y0.fTo) then
      (false)
    else (true)))
  else (bif y0.fKind == 2 then
    (bif decide (y0.fTo < 0) then
      (false)
    else (bif decide (y1 < y0.fTo) then
      (false)
    else (true)))
  else (bif y0.fKind == 6 then
    (bif decide (y0.fTo < 0) then
      (false)
    else (bif decide (y1 < y0.fTo) then
      (false)
    else (true)))
  else (bif decide (y0.fTo < 1) then
    (false)
  else (bif decide (y1 < y0.fTo) then
    (false)
  else (true))))))
theorem ok_btf_rightReferences_v2 (y1 : Int) (r : Bool) (e : m_btf_rightReferences_v2 y0 y1 = r) : ConG Tryd.prog S 20 #[(v_Type0 y0), .int .i64 (y1)] (.bool (r)) := by
  unfold m_btf_rightReferences_v2 at e
  replace e := cond_eq_or e
  rcases e with ⟨hq0, e⟩ | ⟨hq0, e⟩
  · replace e := cond_eq_or e
    rcases e with ⟨hq1, e⟩ | ⟨hq1, e⟩
    · subst e; exact fn_conG hU (P := Tryd.prog) Tryd.func20 (fun xs w => by kernel_rfl) _ _ [.o, .o, .o, .o, .o, .o, .a 0, .b (z_eqlT hq0), .o, .o, .o, .o, .a 0, .o, .b (z_lssT hq1), .o, .o, .o] [] (fun b => by kernel_rfl)
    · replace e := cond_eq_or e
      rcases e with ⟨hq2, e⟩ | ⟨hq2, e⟩
      · subst e; exact fn_conG hU (P := Tryd.prog) Tryd.func20 (fun xs w => by kernel_rfl) _ _ [.o, .o, .o, .o, .o, .o, .a 0, .b (z_eqlT hq0), .o, .o, .o, .o, .a 0, .o, .b (z_lssF hq1), .o, .o, .a 0, .o, .b (z_gtrT hq2), .o, .o] [] (fun b => by kernel_rfl)
      · subst e; exact fn_conG hU (P := Tryd.prog) Tryd.func20 (fun xs w => by kernel_rfl) _ _ [.o, .o, .o, .o, .o, .o, .a 0, .b (z_eqlT hq0), .o, .o, .o, .o, .a 0, .o, .b (z_lssF hq1), .o, .o, .a 0, .o, .b (z_gtrF hq2), .o, .o, .a 0, .o, .o, .o, .o] [] (fun b => by kernel_rfl)
  · replace e := cond_eq_or e
    rcases e with ⟨hq1, e⟩ | ⟨hq1, e⟩
    · replace e := cond_eq_or e
      rcases e with ⟨hq2, e⟩ | ⟨hq2, e⟩
      · subst e; exact fn_conG hU (P := Tryd.prog) Tryd.func20 (fun xs w => by kernel_rfl) _ _ [.o, .o, .o, .o, .o, .o, .a 0, .b (z_eqlF hq0), .o, .b (z_eqlT hq1), .o, .o, .o, .o, .a 0, .o, .b (z_lssT hq2), .o, .o, .o] [] (fun b => by kernel_rfl)
      · replace e := cond_eq_or e
        rcases e with ⟨hq3, e⟩ | ⟨hq3, e⟩
        · subst e; exact fn_conG hU (P := Tryd.prog) Tryd.func20 (fun xs w => by kernel_rfl) _ _ [.o, .o, .o, .o, .o, .o, .a 0, .b (z_eqlF hq0), .o, .b (z_eqlT hq1), .o, .o, .o, .o, .a 0, .o, .b (z_lssF hq2), .o, .o, .a 0, .o, .b (z_gtrT hq3), .o, .o] [] (fun b => by kernel_rfl)
        · subst e; exact fn_conG hU (P := Tryd.prog) Tryd.func20 (fun xs w => by kernel_rfl) _ _ [.o, .o, .o, .o, .o, .o, .a 0, .b (z_eqlF hq0), .o, .b (z_eqlT hq1), .o, .o, .o, .o, .a 0, .o, .b (z_lssF hq2), .o, .o, .a 0, .o, .b (z_gtrF hq3), .o, .o, .a 0, .o, .o, .o, .o] [] (fun b => by kernel_rfl)
    · replace e := cond_eq_or e
      rcases e with ⟨hq2, e⟩ | ⟨hq2, e⟩
      · replace e := cond_eq_or e
        rcases e with ⟨hq3, e⟩ | ⟨hq3, e⟩
        · subst e; exact fn_conG hU (P := Tryd.prog) Tryd.func20 (fun xs w => by kernel_rfl) _ _ [.o, .o, .o, .o, .o, .o, .a 0, .b (z_eqlF hq0), .o, .b (z_eqlF hq1), .o, .b (z_eqlT hq2), .o, .o, .o, .a 0, .o, .b (z_lssT hq3), .o, .o, .o] [] (fun b => by kernel_rfl)
        · replace e := cond_eq_or e
          rcases e with ⟨hq4, e⟩ | ⟨hq4, e⟩
          · subst e; exact fn_conG hU (P := Tryd.prog) Tryd.func20 (fun xs w => by kernel_rfl) _ _ [.o, .o, .o, .o, .o, .o, .a 0, .b (z_eqlF hq0), .o, .b (z_eqlF hq1), .o, .b (z_eqlT hq2), .o, .o, .o, .a 0, .o, .b (z_lssF hq3), .o, .o, .a 0, .o, .b (z_gtrT hq4), .o, .o] [] (fun b => by kernel_rfl)
          · subst e; exact fn_conG hU (P := Tryd.prog) Tryd.func20 (fun xs w => by kernel_rfl) _ _ [.o, .o, .o, .o, .o, .o, .a 0, .b (z_eqlF hq0), .o, .b (z_eqlF hq1), .o, .b (z_eqlT hq2), .o, .o, .o, .a 0, .o, .b (z_lssF hq3), .o, .o, .a 0, .o, .b (z_gtrF hq4), .o, .o, .a 0, .o, .o, .o, .o] [] (fun b => by kernel_rfl)
      · replace e := cond_eq_or e
        rcases e with ⟨hq3, e⟩ | ⟨hq3, e⟩
        · replace e := cond_eq_or e
          rcases e with ⟨hq4, e⟩ | ⟨hq4, e⟩
          · subst e; exact fn_conG hU (P := Tryd.prog) Tryd.func20 (fun xs w => by kernel_rfl) _ _ [.o, .o, .o, .o, .o, .o, .a 0, .b (z_eqlF hq0), .o, .b (z_eqlF hq1), .o, .b (z_eqlF hq2), .o, .b (z_eqlT hq3), .o, .o, .o, .a 0, .o, .b (z_lssT hq4), .o, .o, .o] [] (fun b => by kernel_rfl)
          · replace e := cond_eq_or e
            rcases e with ⟨hq5, e⟩ | ⟨hq5, e⟩
            · subst e; exact fn_conG hU (P := Tryd.prog) Tryd.func20 (fun xs w => by kernel_rfl) _ _ [.o, .o, .o, .o, .o, .o, .a 0, .b (z_eqlF hq0), .o, .b (z_eqlF hq1), .o, .b (z_eqlF hq2), .o, .b (z_eqlT hq3), .o, .o, .o, .a 0, .o, .b (z_lssF hq4), .o, .o, .a 0, .o, .b (z_gtrT hq5), .o, .o] [] (fun b => by kernel_rfl)
            · subst e; exact fn_conG hU (P := Tryd.prog) Tryd.func20 (fun xs w => by kernel_rfl) _ _ [.o, .o, .o, .o, .o, .o, .a 0, .b (z_eqlF hq0), .o, .b (z_eqlF hq1), .o, .b (z_eqlF hq2), .o, .b (z_eqlT hq3), .o, .o, .o, .a 0, .o, .b (z_lssF hq4), .o, .o, .a 0, .o, .b (z_gtrF hq5), .o, .o, .a 0, .o, .o, .o, .o] [] (fun b => by kernel_rfl)
        · replace e := cond_eq_or e
          rcases e with ⟨hq4, e⟩ | ⟨hq4, e⟩
          · subst e; exact fn_conG hU (P := Tryd.prog) Tryd.func20 (fun xs w => by kernel_rfl) _ _ [.o, .o, .o, .o, .o, .o, .a 0, .b (z_eqlF hq0), .o, .b (z_eqlF hq1), .o, .b (z_eqlF hq2), .o, .b (z_eqlF hq3), .o, .o, .a 0, .o, .b (z_lssT hq4), .o, .o, .o] [] (fun b => by kernel_rfl)
          · replace e := cond_eq_or e
            rcases e with ⟨hq5, e⟩ | ⟨hq5, e⟩
            · subst e; exact fn_conG hU (P := Tryd.prog) Tryd.func20 (fun xs w => by kernel_rfl) _ _ [.o, .o, .o, .o, .o, .o, .a 0, .b (z_eqlF hq0), .o, .b (z_eqlF hq1), .o, .b (z_eqlF hq2), .o, .b (z_eqlF hq3), .o, .o, .a 0, .o, .b (z_lssF hq4), .o, .o, .a 0, .o, .b (z_gtrT hq5), .o, .o] [] (fun b => by kernel_rfl)
            · subst e; exact fn_conG hU (P := Tryd.prog) Tryd.func20 (fun xs w => by kernel_rfl) _ _ [.o, .o, .o, .o, .o, .o, .a 0, .b (z_eqlF hq0), .o, .b (z_eqlF hq1), .o, .b (z_eqlF hq2), .o, .b (z_eqlF hq3), .o, .o, .a 0, .o, .b (z_lssF hq4), .o, .o, .a 0, .o, .b (z_gtrF hq5), .o, .o, .a 0, .o, .o, .o, .o] [] (fun b => by kernel_rfl)
noncomputable def m_btf_onlyOwnFields_v2 (y0 : Type0) : Bool :=
  bif y0.fKind == 1 then
    (bif y0.fKind == 3 then
      (true)
    else (bif y0.fCount == 0 then
      (true)
    else (false)))
  else (bif y0.fSigned then
    (false)
  else (bif y0.fKind == 3 then
    (bif y0.fKind == 4 then
      (true)
    else (bif y0.fKind == 6 then
      ((y0.fSize == 0))
    else (bif y0.fSize == 0 then
      (true)
    else (false))))
  else (bif y0.fCount == 0 then
    (bif y0.fKind == 4 then
      (true)
    else (bif y0.fKind == 6 then
      ((y0.fSize == 0))
    else (bif y0.fSize == 0 then
      (true)
    else (false))))
  else (false))))
theorem ok_btf_onlyOwnFields_v2 (r : Bool) (e : m_btf_onlyOwnFields_v2 y0 = r) : ConG Tryd.prog S 21 #[(v_Type0 y0)] (.bool (r)) := by
  unfold m_btf_onlyOwnFields_v2 at e
  replace e := cond_eq_or e
  rcases e with ⟨hq0, e⟩ | ⟨hq0, e⟩
  · replace e := cond_eq_or e
    rcases e with ⟨hq1, e⟩ | ⟨hq1, e⟩
    · subst e; exact fn_conG hU (P := Tryd.prog) Tryd.func21 (fun xs w => by kernel_rfl) _ _ [.o, .o, .o, .a 0, .b (z_neqT hq0), .o, .o, .o, .o, .a 0, .b (z_neqT hq1), .o, .o, .o, .o, .a 0, .b (z_eqlT hq0), .o, .o, .a 0, .o, .o, .o] [] (fun b => by kernel_rfl)
    · replace e := cond_eq_or e
      rcases e with ⟨hq2, e⟩ | ⟨hq2, e⟩
      · subst e; exact fn_conG hU (P := Tryd.prog) Tryd.func21 (fun xs w => by kernel_rfl) _ _ [.o, .o, .o, .a 0, .b (z_neqT hq0), .o, .o, .o, .o, .a 0, .b (z_neqF hq1), .o, .o, .a 0, .b (z_neqT hq2), .o, .o, .o, .a 0, .b (z_eqlT hq0), .o, .o, .a 0, .o, .o, .o] [] (fun b => by kernel_rfl)
      · subst e; exact fn_conG hU (P := Tryd.prog) Tryd.func21 (fun xs w => by kernel_rfl) _ _ [.o, .o, .o, .a 0, .b (z_neqT hq0), .o, .o, .o, .o, .a 0, .b (z_neqF hq1), .o, .o, .a 0, .b (z_neqF hq2), .o, .o, .o] [] (fun b => by kernel_rfl)
  · replace e := cond_eq_or e
    rcases e with ⟨hq1, e⟩ | ⟨hq1, e⟩
    · subst e; exact fn_conG hU (P := Tryd.prog) Tryd.func21 (fun xs w => by kernel_rfl) _ _ [.o, .o, .o, .a 0, .b (z_neqF hq0), .o, .o, .l (accKn (i := 0) (c := #[.int .i64 (y0.fKind), .string y0.fName, .int .i64 (y0.fSize), .bool (y0.fSigned), .int .i64 (y0.fTo), .int .i64 (y0.fCount), .slice none 0 0]) 3 (congrArg (fun b => some (Value.bool b)) hq1)), .o, .o, .o, .o] [] (fun b => by kernel_rfl)
    · replace e := cond_eq_or e
      rcases e with ⟨hq2, e⟩ | ⟨hq2, e⟩
      · replace e := cond_eq_or e
        rcases e with ⟨hq3, e⟩ | ⟨hq3, e⟩
        · subst e; exact fn_conG hU (P := Tryd.prog) Tryd.func21 (fun xs w => by kernel_rfl) _ _ [.o, .o, .o, .a 0, .b (z_neqF hq0), .o, .o, .l (accKn (i := 0) (c := #[.int .i64 (y0.fKind), .string y0.fName, .int .i64 (y0.fSize), .bool (y0.fSigned), .int .i64 (y0.fTo), .int .i64 (y0.fCount), .slice none 0 0]) 3 (congrArg (fun b => some (Value.bool b)) hq1)), .o, .o, .o, .a 0, .b (z_neqT hq2), .o, .o, .o, .o, .a 0, .b (z_eqlF hq0), .o, .b (z_eqlT hq3), .o, .o] [] (fun b => by kernel_rfl)
        · replace e := cond_eq_or e
          rcases e with ⟨hq4, e⟩ | ⟨hq4, e⟩
          · subst e; exact fn_conG hU (P := Tryd.prog) Tryd.func21 (fun xs w => by kernel_rfl) _ _ [.o, .o, .o, .a 0, .b (z_neqF hq0), .o, .o, .l (accKn (i := 0) (c := #[.int .i64 (y0.fKind), .string y0.fName, .int .i64 (y0.fSize), .bool (y0.fSigned), .int .i64 (y0.fTo), .int .i64 (y0.fCount), .slice none 0 0]) 3 (congrArg (fun b => some (Value.bool b)) hq1)), .o, .o, .o, .a 0, .b (z_neqT hq2), .o, .o, .o, .o, .a 0, .b (z_eqlF hq0), .o, .b (z_eqlF hq3), .o, .b (z_eqlT hq4), .o, .o, .a 0, .o, .o, .o, .o, .a 0, .o, .o] [] (fun b => by kernel_rfl)
          · replace e := cond_eq_or e
            rcases e with ⟨hq5, e⟩ | ⟨hq5, e⟩
            · subst e; exact fn_conG hU (P := Tryd.prog) Tryd.func21 (fun xs w => by kernel_rfl) _ _ [.o, .o, .o, .a 0, .b (z_neqF hq0), .o, .o, .l (accKn (i := 0) (c := #[.int .i64 (y0.fKind), .string y0.fName, .int .i64 (y0.fSize), .bool (y0.fSigned), .int .i64 (y0.fTo), .int .i64 (y0.fCount), .slice none 0 0]) 3 (congrArg (fun b => some (Value.bool b)) hq1)), .o, .o, .o, .a 0, .b (z_neqT hq2), .o, .o, .o, .o, .a 0, .b (z_eqlF hq0), .o, .b (z_eqlF hq3), .o, .b (z_eqlF hq4), .o, .o, .a 0, .b (z_eqlT hq5), .o, .o, .a 0, .o, .o, .o, .o] [] (fun b => by kernel_rfl)
            · subst e; exact fn_conG hU (P := Tryd.prog) Tryd.func21 (fun xs w => by kernel_rfl) _ _ [.o, .o, .o, .a 0, .b (z_neqF hq0), .o, .o, .l (accKn (i := 0) (c := #[.int .i64 (y0.fKind), .string y0.fName, .int .i64 (y0.fSize), .bool (y0.fSigned), .int .i64 (y0.fTo), .int .i64 (y0.fCount), .slice none 0 0]) 3 (congrArg (fun b => some (Value.bool b)) hq1)), .o, .o, .o, .a 0, .b (z_neqT hq2), .o, .o, .o, .o, .a 0, .b (z_eqlF hq0), .o, .b (z_eqlF hq3), .o, .b (z_eqlF hq4), .o, .o, .a 0, .b (z_eqlF hq5), .o, .o, .o] [] (fun b => by kernel_rfl)
      · replace e := cond_eq_or e
        rcases e with ⟨hq3, e⟩ | ⟨hq3, e⟩
        · replace e := cond_eq_or e
          rcases e with ⟨hq4, e⟩ | ⟨hq4, e⟩
          · subst e; exact fn_conG hU (P := Tryd.prog) Tryd.func21 (fun xs w => by kernel_rfl) _ _ [.o, .o, .o, .a 0, .b (z_neqF hq0), .o, .o, .l (accKn (i := 0) (c := #[.int .i64 (y0.fKind), .string y0.fName, .int .i64 (y0.fSize), .bool (y0.fSigned), .int .i64 (y0.fTo), .int .i64 (y0.fCount), .slice none 0 0]) 3 (congrArg (fun b => some (Value.bool b)) hq1)), .o, .o, .o, .a 0, .b (z_neqF hq2), .o, .o, .a 0, .b (z_neqT hq3), .o, .o, .o, .a 0, .b (z_eqlF hq0), .o, .b (z_eqlT hq4), .o, .o] [] (fun b => by kernel_rfl)
          · replace e := cond_eq_or e
            rcases e with ⟨hq5, e⟩ | ⟨hq5, e⟩
            · subst e; exact fn_conG hU (P := Tryd.prog) Tryd.func21 (fun xs w => by kernel_rfl) _ _ [.o, .o, .o, .a 0, .b (z_neqF hq0), .o, .o, .l (accKn (i := 0) (c := #[.int .i64 (y0.fKind), .string y0.fName, .int .i64 (y0.fSize), .bool (y0.fSigned), .int .i64 (y0.fTo), .int .i64 (y0.fCount), .slice none 0 0]) 3 (congrArg (fun b => some (Value.bool b)) hq1)), .o, .o, .o, .a 0, .b (z_neqF hq2), .o, .o, .a 0, .b (z_neqT hq3), .o, .o, .o, .a 0, .b (z_eqlF hq0), .o, .b (z_eqlF hq4), .o, .b (z_eqlT hq5), .o, .o, .a 0, .o, .o, .o, .o, .a 0, .o, .o] [] (fun b => by kernel_rfl)
            · replace e := cond_eq_or e
              rcases e with ⟨hq6, e⟩ | ⟨hq6, e⟩
              · subst e; exact fn_conG hU (P := Tryd.prog) Tryd.func21 (fun xs w => by kernel_rfl) _ _ [.o, .o, .o, .a 0, .b (z_neqF hq0), .o, .o, .l (accKn (i := 0) (c := #[.int .i64 (y0.fKind), .string y0.fName, .int .i64 (y0.fSize), .bool (y0.fSigned), .int .i64 (y0.fTo), .int .i64 (y0.fCount), .slice none 0 0]) 3 (congrArg (fun b => some (Value.bool b)) hq1)), .o, .o, .o, .a 0, .b (z_neqF hq2), .o, .o, .a 0, .b (z_neqT hq3), .o, .o, .o, .a 0, .b (z_eqlF hq0), .o, .b (z_eqlF hq4), .o, .b (z_eqlF hq5), .o, .o, .a 0, .b (z_eqlT hq6), .o, .o, .a 0, .o, .o, .o, .o] [] (fun b => by kernel_rfl)
              · subst e; exact fn_conG hU (P := Tryd.prog) Tryd.func21 (fun xs w => by kernel_rfl) _ _ [.o, .o, .o, .a 0, .b (z_neqF hq0), .o, .o, .l (accKn (i := 0) (c := #[.int .i64 (y0.fKind), .string y0.fName, .int .i64 (y0.fSize), .bool (y0.fSigned), .int .i64 (y0.fTo), .int .i64 (y0.fCount), .slice none 0 0]) 3 (congrArg (fun b => some (Value.bool b)) hq1)), .o, .o, .o, .a 0, .b (z_neqF hq2), .o, .o, .a 0, .b (z_neqT hq3), .o, .o, .o, .a 0, .b (z_eqlF hq0), .o, .b (z_eqlF hq4), .o, .b (z_eqlF hq5), .o, .o, .a 0, .b (z_eqlF hq6), .o, .o, .o] [] (fun b => by kernel_rfl)
        · subst e; exact fn_conG hU (P := Tryd.prog) Tryd.func21 (fun xs w => by kernel_rfl) _ _ [.o, .o, .o, .a 0, .b (z_neqF hq0), .o, .o, .l (accKn (i := 0) (c := #[.int .i64 (y0.fKind), .string y0.fName, .int .i64 (y0.fSize), .bool (y0.fSigned), .int .i64 (y0.fTo), .int .i64 (y0.fCount), .slice none 0 0]) 3 (congrArg (fun b => some (Value.bool b)) hq1)), .o, .o, .o, .a 0, .b (z_neqF hq2), .o, .o, .a 0, .b (z_neqF hq3), .o, .o, .o] [] (fun b => by kernel_rfl)
inductive R_btf_held_v2 where
  | e0 (c0_0 : Nat → Int)
  | e1 
noncomputable def m_btf_held_v2 (y0 : Type0) : Option R_btf_held_v2 :=
  bif y0.fKind == 5 then
    (some (.e0 (fun _ => y0.fTo)))
  else (bif y0.fKind == 3 then
    (some (.e0 (fun _ => y0.fTo)))
  else (bif y0.fKind == 4 then
    (some (.e1))
  else (some (.e1))))
def sq0_btf_held_v2 (y0 : Type0) (c0_0 : Nat → Int) : Spc := ⟨fun ls => .call 23 #[(v_Type0 y0)], fun ls => [], 1, .normal, fun ls => [(rowV (lget ls 0) 1 1)], fun ls => [], fun ls => [rowO (lget ls 0) (esG cZ 1 c0_0) 3 1 1]⟩
def sq1_btf_held_v2 (y0 : Type0)  : Spc := ⟨fun ls => .call 23 #[(v_Type0 y0)], fun ls => [], 0, .normal, fun ls => [.slice none 0 0], fun ls => [], fun ls => []⟩
theorem ok0_btf_held_v2 (c0_0 : Nat → Int) (e : m_btf_held_v2 y0 = some (.e0 c0_0)) : SpcG Tryd.prog M B0 S (sq0_btf_held_v2 y0 c0_0) := by
  unfold m_btf_held_v2 at e
  replace e := cond_eq_or e
  rcases e with ⟨hq0, e⟩ | ⟨hq0, e⟩
  · injection e with e; injection e with i0; subst i0; exact fn_specG hU (P := Tryd.prog) Tryd.func23 (fun xs w => by kernel_rfl) 0 _ _ (fun _ => rfl) _ _ _ [2] [.o, .o, .o, .o, .a 0, .b (z_eqlT hq0), .o, .o, .o, .a 0, .o, .x (sqAppL1_ok (ty := 52) rt52 #[false, false] (f := cZ) (c := 1) y0.fTo (T' := 3) cZ_len cZ_one (by decide)) [1], .o, .o, .o] [] (fun b => by kernel_rfl)
  · replace e := cond_eq_or e
    rcases e with ⟨hq1, e⟩ | ⟨hq1, e⟩
    · injection e with e; injection e with i0; subst i0; exact fn_specG hU (P := Tryd.prog) Tryd.func23 (fun xs w => by kernel_rfl) 0 _ _ (fun _ => rfl) _ _ _ [2] [.o, .o, .o, .o, .a 0, .b (z_eqlF hq0), .o, .b (z_eqlT hq1), .o, .o, .o, .a 0, .o, .x (sqAppL1_ok (ty := 52) rt52 #[false, false] (f := cZ) (c := 1) y0.fTo (T' := 3) cZ_len cZ_one (by decide)) [1], .o, .o, .o] [] (fun b => by kernel_rfl)
    · replace e := cond_eq_or e
      rcases e with ⟨hq2, e⟩ | ⟨hq2, e⟩
      · cases e
      · cases e
theorem ok1_btf_held_v2 (e : m_btf_held_v2 y0 = some (.e1 )) : SpcG Tryd.prog M B0 S (sq1_btf_held_v2 y0 ) := by
  unfold m_btf_held_v2 at e
  replace e := cond_eq_or e
  rcases e with ⟨hq0, e⟩ | ⟨hq0, e⟩
  · cases e
  · replace e := cond_eq_or e
    rcases e with ⟨hq1, e⟩ | ⟨hq1, e⟩
    · cases e
    · replace e := cond_eq_or e
      rcases e with ⟨hq2, e⟩ | ⟨hq2, e⟩
      · exact fn_specG hU (P := Tryd.prog) Tryd.func23 (fun xs w => by kernel_rfl) 0 _ _ (fun _ => rfl) _ _ _ [] [.o, .o, .o, .o, .a 0, .b (z_eqlF hq0), .o, .b (z_eqlF hq1), .o, .b (z_eqlT hq2), .o, .o, .a 0, .o, .o, .o, .o, .o] [] (fun b => by kernel_rfl)
      · exact fn_specG hU (P := Tryd.prog) Tryd.func23 (fun xs w => by kernel_rfl) 0 _ _ (fun _ => rfl) _ _ _ [] [.o, .o, .o, .o, .a 0, .b (z_eqlF hq0), .o, .b (z_eqlF hq1), .o, .b (z_eqlF hq2), .o, .o, .o] [] (fun b => by kernel_rfl)
inductive Sh_btf_resolve_v2_L0 where
  | c0 (s0_0 : Int)
inductive Ex_btf_resolve_v2_L0 where
  | e0 (c0_0 : Int)
noncomputable def st_btf_resolve_v2_L0 (n0 : Nat) (A0 : Nat → Type0) : Sh_btf_resolve_v2_L0 → Option (Sh_btf_resolve_v2_L0 ⊕ Ex_btf_resolve_v2_L0)
  | .c0 s0_0 =>
    bif inR (IntKind.i64.wrap (s0_0 - 1)) n0 then
      (bif ((A0 ((IntKind.i64.wrap (s0_0 - 1))).toNat)).fKind == 5 then
        (some (.inl (.c0 ((A0 ((IntKind.i64.wrap (s0_0 - 1))).toNat)).fTo)))
      else (some (.inr (.e0 s0_0))))
    else (none)
noncomputable def bd_btf_resolve_v2_L0 : Code := codeOf Tryd.f25 [1, 0, 0, 0]
def fl_btf_resolve_v2_L0 (a0 : Option Addr) (p0 : Nat) (q0 : Nat) (n0 : Nat) (k0 : Nat) (A0 : Nat → Type0) (y1 : Int) : Sh_btf_resolve_v2_L0 → List L1 → List Value
  | .c0 s0_0, ls => [.slice a0 n0 (n0 + k0), .int .i64 (s0_0)]
def mf_btf_resolve_v2_L0 : Sh_btf_resolve_v2_L0 → List (Nat × Nat)
  | .c0 _ => [(2, 17)]
noncomputable def fr_btf_resolve_v2_L0 (a0 : Option Addr) (p0 : Nat) (q0 : Nat) (n0 : Nat) (k0 : Nat) (A0 : Nat → Type0) (y1 : Int) (s : Sh_btf_resolve_v2_L0) : List L1 → List Value := mrgF (mf_btf_resolve_v2_L0 s) (fl_btf_resolve_v2_L0 a0 p0 q0 n0 k0 A0 y1 s) 0
def Hs_btf_resolve_v2_L0 (a0 : Option Addr) (p0 : Nat) (q0 : Nat) (n0 : Nat) (k0 : Nat) (A0 : Nat → Type0) (y1 : Int) : Sh_btf_resolve_v2_L0 → List L1 → List Obj
  | .c0 s0_0, ls => [unb]
def vl_btf_resolve_v2_L0 (a0 : Option Addr) (p0 : Nat) (q0 : Nat) (n0 : Nat) (k0 : Nat) (A0 : Nat → Type0) (y1 : Int) : Ex_btf_resolve_v2_L0 → List L1 → List Value
  | .e0 c0_0, ls => [.slice a0 n0 (n0 + k0), .int .i64 (c0_0)]
def mk_btf_resolve_v2_L0 : Ex_btf_resolve_v2_L0 → List (Nat × Nat)
  | .e0 _ => [(2, 17)]
noncomputable def vf_btf_resolve_v2_L0 (a0 : Option Addr) (p0 : Nat) (q0 : Nat) (n0 : Nat) (k0 : Nat) (A0 : Nat → Type0) (y1 : Int) (r : Ex_btf_resolve_v2_L0) : List L1 → List Value := mrgF (mk_btf_resolve_v2_L0 r) (vl_btf_resolve_v2_L0 a0 p0 q0 n0 k0 A0 y1 r) 0
def Hf_btf_resolve_v2_L0 (a0 : Option Addr) (p0 : Nat) (q0 : Nat) (n0 : Nat) (k0 : Nat) (A0 : Nat → Type0) (y1 : Int) : Ex_btf_resolve_v2_L0 → List L1 → List Obj
  | .e0 c0_0, ls => [unb]
def ex_btf_resolve_v2_L0 : Ex_btf_resolve_v2_L0 → Ex
  | .e0 _ => (.exit 0)
end
section
variable {M : Nat → Prop} {B0 : Nat} {S : World → Prop} (hU : Up M B0 S) (a0 : Option Addr) (p0 : Nat) (q0 : Nat) (n0 : Nat) (k0 : Nat) (A0 : Nat → Type0) (hR0 : Ro S c_Type0 7 a0 p0 q0 n0 A0) (y1 : Int)
include hU a0 p0 q0 n0 k0 A0 hR0 y1
theorem go_btf_resolve_v2_L0 (s : Sh_btf_resolve_v2_L0) (r : Ex_btf_resolve_v2_L0) (h : lpO (st_btf_resolve_v2_L0 n0 A0) s = some r) : GoesG Tryd.prog M B0 S (.loop bd_btf_resolve_v2_L0) 1 (fr_btf_resolve_v2_L0 a0 p0 q0 n0 k0 A0 y1 s) (Hs_btf_resolve_v2_L0 a0 p0 q0 n0 k0 A0 y1 s) (ex_btf_resolve_v2_L0 r) 0 (vf_btf_resolve_v2_L0 a0 p0 q0 n0 k0 A0 y1 r) (Hf_btf_resolve_v2_L0 a0 p0 q0 n0 k0 A0 y1 r) 1 :=
  goes_lpO (fun s q e => by
    cases s with
    | c0 s0_0 =>
      unfold st_btf_resolve_v2_L0 at e
      dsimp only at e
      replace e := cond_eq_or e
      rcases e with ⟨hq0, e⟩ | ⟨hq0, e⟩
      · replace e := cond_eq_or e
        rcases e with ⟨hq1, e⟩ | ⟨hq1, e⟩
        · cases e; exact goes_runM hU [.o, .o, .o, .q (ixRo_ok (kd := .i64) (T := 27) (x := (IntKind.i64.wrap (s0_0 - 1))) (sz := 7) rfl (fun w => by kernel_rfl) hR0 hq0), .o, .l (accRo hR0 c_Type0_len (inR_nat hq0) 0 [.int .i64 (((A0 ((IntKind.i64.wrap (s0_0 - 1))).toNat)).fKind)] rfl), .b (z_eqlT hq1), .o, .o, .o, .q (ixRo_ok (kd := .i64) (T := 27) (x := (IntKind.i64.wrap (s0_0 - 1))) (sz := 7) rfl (fun w => by kernel_rfl) hR0 hq0), .o, .l (accRo hR0 c_Type0_len (inR_nat hq0) 4 [.int .i64 (((A0 ((IntKind.i64.wrap (s0_0 - 1))).toNat)).fTo)] rfl), .o] [] (fun b => rfl) (by decide) rfl rfl (fun b => by kernel_rfl)
        · cases e; exact ⟨ne_exit 0, goes_runM hU [.o, .o, .o, .q (ixRo_ok (kd := .i64) (T := 27) (x := (IntKind.i64.wrap (s0_0 - 1))) (sz := 7) rfl (fun w => by kernel_rfl) hR0 hq0), .o, .l (accRo hR0 c_Type0_len (inR_nat hq0) 0 [.int .i64 (((A0 ((IntKind.i64.wrap (s0_0 - 1))).toNat)).fKind)] rfl), .b (z_eqlF hq1)] [] (fun b => rfl) (by decide) rfl rfl (fun b => by kernel_rfl)⟩
      · exact none_some e) s r h
noncomputable def t0_btf_resolve_v2_L0_0 (a0 : Option Addr) (p0 : Nat) (q0 : Nat) (n0 : Nat) (k0 : Nat) (A0 : Nat → Type0) (y1 : Int) (s0_0 : Int) (ls : List L1) : List Value := List.append [.slice a0 n0 (n0 + k0), .int .i64 (s0_0), undef, undef, .int .i64 (0)] (und 14)
def pre_btf_resolve_v2_L0_0 (a0 : Option Addr) (p0 : Nat) (q0 : Nat) (n0 : Nat) (k0 : Nat) (A0 : Nat → Type0) (y1 : Int) (s0_0 : Int) (ls : List L1) : List Obj := []
theorem sp0_btf_resolve_v2_L0_0_ok (s0_0 : Int) (c0_0 : Int) (h : lpO (st_btf_resolve_v2_L0 n0 A0) (.c0 s0_0) = some (.e0 c0_0)) : SpcG Tryd.prog M B0 S ⟨fun ls => .code (.loop bd_btf_resolve_v2_L0) (t0_btf_resolve_v2_L0_0 a0 p0 q0 n0 k0 A0 y1 s0_0 ls), pre_btf_resolve_v2_L0_0 a0 p0 q0 n0 k0 A0 y1 s0_0, 1, (.exit 0), fun ls => vf_btf_resolve_v2_L0 a0 p0 q0 n0 k0 A0 y1 (.e0 c0_0) (ls.take 0 ++ ls.drop 0), fun ls => (Hf_btf_resolve_v2_L0 a0 p0 q0 n0 k0 A0 y1 (.e0 c0_0) (ls.take 0 ++ ls.drop 0)).take 0 ++ List.replicate 0 unb, fun ls => (Hf_btf_resolve_v2_L0 a0 p0 q0 n0 k0 A0 y1 (.e0 c0_0) (ls.take 0 ++ ls.drop 0)).drop 0⟩ :=
  spc_of_goesM hU 0 (k0 := 0) (go_btf_resolve_v2_L0 hU a0 p0 q0 n0 k0 A0 hR0 y1 _ _ h) (t0_btf_resolve_v2_L0_0 a0 p0 q0 n0 k0 A0 y1 s0_0) (pre_btf_resolve_v2_L0_0 a0 p0 q0 n0 k0 A0 y1 s0_0) (fun _ => rfl) (fun ls h => by match ls, h with | [], _ => exact ⟨by kernel_rfl, by kernel_rfl⟩) (fun ls h => by match ls, h with | [], _ => rfl) (by decide) (by decide) (fun ls => rfl)
noncomputable def m_btf_resolve_v2 (n0 : Nat) (A0 : Nat → Type0) (y1 : Int) : Option (Int) :=
  (lpO (st_btf_resolve_v2_L0 n0 A0) (.c0 y1)).bind fun g0 => match g0 with
  | .e0 g0_0 =>
  some g0_0
theorem ok_btf_resolve_v2 (r : Int) (e : m_btf_resolve_v2 n0 A0 y1 = some r) : ConG Tryd.prog S 25 #[.slice a0 n0 (n0 + k0), .int .i64 (y1)] (.int .i64 (r)) := by
  unfold m_btf_resolve_v2 at e
  replace e := bindO_eq e
  obtain ⟨g0, e_g0, e⟩ := e
  obtain ⟨g0_0⟩ := g0
  try dsimp only at e
  injection e with e; subst e; exact fn_conG hU (P := Tryd.prog) Tryd.func25 (fun xs w => by kernel_rfl) _ _ [.o, .cp, .cx (sp0_btf_resolve_v2_L0_0_ok hU a0 p0 q0 n0 k0 A0 hR0 y1 y1 g0_0 e_g0) [], .o, .o] [] (fun b => by kernel_rfl)
noncomputable def m_btf_sizeOf_v2 (n0 : Nat) (A0 : Nat → Type0) (y1 : Int) (mr0 : (Nat) → (Nat → Type0) → (Int) → Option (Int)) : Option (Int) :=
  bif inR (IntKind.i64.wrap (y1 - 1)) n0 then
    (bif ((A0 ((IntKind.i64.wrap (y1 - 1))).toNat)).fKind == 5 then
      ((mr0 n0 A0 ((A0 ((IntKind.i64.wrap (y1 - 1))).toNat)).fTo).bind fun r0 =>
      some r0)
    else (bif ((A0 ((IntKind.i64.wrap (y1 - 1))).toNat)).fKind == 3 then
      ((mr0 n0 A0 ((A0 ((IntKind.i64.wrap (y1 - 1))).toNat)).fTo).bind fun r0 =>
      some (if 65537 < (IntKind.i64.wrap (((A0 ((IntKind.i64.wrap (y1 - 1))).toNat)).fCount * r0)) then 65537 else (IntKind.i64.wrap (((A0 ((IntKind.i64.wrap (y1 - 1))).toNat)).fCount * r0))))
    else (bif ((A0 ((IntKind.i64.wrap (y1 - 1))).toNat)).fKind == 2 then
      (some 8)
    else (bif ((A0 ((IntKind.i64.wrap (y1 - 1))).toNat)).fKind == 1 then
      (some ((A0 ((IntKind.i64.wrap (y1 - 1))).toNat)).fSize)
    else (bif ((A0 ((IntKind.i64.wrap (y1 - 1))).toNat)).fKind == 4 then
      (some ((A0 ((IntKind.i64.wrap (y1 - 1))).toNat)).fSize)
    else (some 0))))))
  else (none)
theorem ok_btf_sizeOf_v2 (mr0 : (Nat) → (Nat → Type0) → (Int) → Option (Int)) (ih0 : ∀ {M : Nat → Prop} {B0 : Nat} {S : World → Prop} (hU : Up M B0 S) (a0 : Option Addr) (p0 : Nat) (q0 : Nat) (n0 : Nat) (k0 : Nat) (A0 : Nat → Type0) (hR0 : Ro S c_Type0 7 a0 p0 q0 n0 A0) (y1 : Int) (r : Int), mr0 n0 A0 y1 = some r → ConG Tryd.prog S 15 #[.slice a0 n0 (n0 + k0), .int .i64 (y1)] (.int .i64 (r))) (r : Int) (e : m_btf_sizeOf_v2 n0 A0 y1 mr0 = some r) : ConG Tryd.prog S 15 #[.slice a0 n0 (n0 + k0), .int .i64 (y1)] (.int .i64 (r)) := by
  unfold m_btf_sizeOf_v2 at e
  replace e := cond_eq_or e
  rcases e with ⟨hq0, e⟩ | ⟨hq0, e⟩
  · replace e := cond_eq_or e
    rcases e with ⟨hq1, e⟩ | ⟨hq1, e⟩
    · replace e := bindO_eq e
      obtain ⟨r0, e_r0, e⟩ := e
      try dsimp only at e
      injection e with e; subst e; exact fn_conG hU (P := Tryd.prog) Tryd.func15 (fun xs w => by kernel_rfl) _ _ [.o, .o, .o, .o, .q (ixRo_ok (kd := .i64) (T := 27) (x := (IntKind.i64.wrap (y1 - 1))) (sz := 7) rfl (fun w => by kernel_rfl) hR0 hq0), .l (accRo hR0 c_Type0_len (inR_nat hq0) 0 [.int .i64 (((A0 ((IntKind.i64.wrap (y1 - 1))).toNat)).fKind), .string ((A0 ((IntKind.i64.wrap (y1 - 1))).toNat)).fName, .int .i64 (((A0 ((IntKind.i64.wrap (y1 - 1))).toNat)).fSize), .bool (((A0 ((IntKind.i64.wrap (y1 - 1))).toNat)).fSigned), .int .i64 (((A0 ((IntKind.i64.wrap (y1 - 1))).toNat)).fTo), .int .i64 (((A0 ((IntKind.i64.wrap (y1 - 1))).toNat)).fCount), .slice none 0 0] rfl), .o, .a 0, .o, .a 0, .b (z_eqlT hq1), .o, .o, .o, .a 0, .cg (ih0 hU a0 p0 q0 n0 k0 A0 hR0 ((A0 ((IntKind.i64.wrap (y1 - 1))).toNat)).fTo r0 e_r0), .o] [] (fun b => by kernel_rfl)
    · replace e := cond_eq_or e
      rcases e with ⟨hq2, e⟩ | ⟨hq2, e⟩
      · replace e := bindO_eq e
        obtain ⟨r0, e_r0, e⟩ := e
        try dsimp only at e
        injection e with e; subst e; exact fn_conG hU (P := Tryd.prog) Tryd.func15 (fun xs w => by kernel_rfl) _ _ [.o, .o, .o, .o, .q (ixRo_ok (kd := .i64) (T := 27) (x := (IntKind.i64.wrap (y1 - 1))) (sz := 7) rfl (fun w => by kernel_rfl) hR0 hq0), .l (accRo hR0 c_Type0_len (inR_nat hq0) 0 [.int .i64 (((A0 ((IntKind.i64.wrap (y1 - 1))).toNat)).fKind), .string ((A0 ((IntKind.i64.wrap (y1 - 1))).toNat)).fName, .int .i64 (((A0 ((IntKind.i64.wrap (y1 - 1))).toNat)).fSize), .bool (((A0 ((IntKind.i64.wrap (y1 - 1))).toNat)).fSigned), .int .i64 (((A0 ((IntKind.i64.wrap (y1 - 1))).toNat)).fTo), .int .i64 (((A0 ((IntKind.i64.wrap (y1 - 1))).toNat)).fCount), .slice none 0 0] rfl), .o, .a 0, .o, .a 0, .b (z_eqlF hq1), .o, .b (z_eqlT hq2), .o, .r [0, 1, 2, 3, 4] [] [5, 6, 7, 8], .o, .a 0, .o, .o, .a 0, .cg (ih0 hU a0 p0 q0 n0 k0 A0 hR0 ((A0 ((IntKind.i64.wrap (y1 - 1))).toNat)).fTo r0 e_r0), .o, .o, .o] [] (fun b => by kernel_rfl)
      · replace e := cond_eq_or e
        rcases e with ⟨hq3, e⟩ | ⟨hq3, e⟩
        · injection e with e; subst e; exact fn_conG hU (P := Tryd.prog) Tryd.func15 (fun xs w => by kernel_rfl) _ _ [.o, .o, .o, .o, .q (ixRo_ok (kd := .i64) (T := 27) (x := (IntKind.i64.wrap (y1 - 1))) (sz := 7) rfl (fun w => by kernel_rfl) hR0 hq0), .l (accRo hR0 c_Type0_len (inR_nat hq0) 0 [.int .i64 (((A0 ((IntKind.i64.wrap (y1 - 1))).toNat)).fKind), .string ((A0 ((IntKind.i64.wrap (y1 - 1))).toNat)).fName, .int .i64 (((A0 ((IntKind.i64.wrap (y1 - 1))).toNat)).fSize), .bool (((A0 ((IntKind.i64.wrap (y1 - 1))).toNat)).fSigned), .int .i64 (((A0 ((IntKind.i64.wrap (y1 - 1))).toNat)).fTo), .int .i64 (((A0 ((IntKind.i64.wrap (y1 - 1))).toNat)).fCount), .slice none 0 0] rfl), .o, .a 0, .o, .a 0, .b (z_eqlF hq1), .o, .b (z_eqlF hq2), .o, .b (z_eqlT hq3), .o, .o] [] (fun b => by kernel_rfl)
        · replace e := cond_eq_or e
          rcases e with ⟨hq4, e⟩ | ⟨hq4, e⟩
          · injection e with e; subst e; exact fn_conG hU (P := Tryd.prog) Tryd.func15 (fun xs w => by kernel_rfl) _ _ [.o, .o, .o, .o, .q (ixRo_ok (kd := .i64) (T := 27) (x := (IntKind.i64.wrap (y1 - 1))) (sz := 7) rfl (fun w => by kernel_rfl) hR0 hq0), .l (accRo hR0 c_Type0_len (inR_nat hq0) 0 [.int .i64 (((A0 ((IntKind.i64.wrap (y1 - 1))).toNat)).fKind), .string ((A0 ((IntKind.i64.wrap (y1 - 1))).toNat)).fName, .int .i64 (((A0 ((IntKind.i64.wrap (y1 - 1))).toNat)).fSize), .bool (((A0 ((IntKind.i64.wrap (y1 - 1))).toNat)).fSigned), .int .i64 (((A0 ((IntKind.i64.wrap (y1 - 1))).toNat)).fTo), .int .i64 (((A0 ((IntKind.i64.wrap (y1 - 1))).toNat)).fCount), .slice none 0 0] rfl), .o, .a 0, .o, .a 0, .b (z_eqlF hq1), .o, .b (z_eqlF hq2), .o, .b (z_eqlF hq3), .o, .b (z_eqlT hq4), .o, .o, .a 0, .o] [] (fun b => by kernel_rfl)
          · replace e := cond_eq_or e
            rcases e with ⟨hq5, e⟩ | ⟨hq5, e⟩
            · injection e with e; subst e; exact fn_conG hU (P := Tryd.prog) Tryd.func15 (fun xs w => by kernel_rfl) _ _ [.o, .o, .o, .o, .q (ixRo_ok (kd := .i64) (T := 27) (x := (IntKind.i64.wrap (y1 - 1))) (sz := 7) rfl (fun w => by kernel_rfl) hR0 hq0), .l (accRo hR0 c_Type0_len (inR_nat hq0) 0 [.int .i64 (((A0 ((IntKind.i64.wrap (y1 - 1))).toNat)).fKind), .string ((A0 ((IntKind.i64.wrap (y1 - 1))).toNat)).fName, .int .i64 (((A0 ((IntKind.i64.wrap (y1 - 1))).toNat)).fSize), .bool (((A0 ((IntKind.i64.wrap (y1 - 1))).toNat)).fSigned), .int .i64 (((A0 ((IntKind.i64.wrap (y1 - 1))).toNat)).fTo), .int .i64 (((A0 ((IntKind.i64.wrap (y1 - 1))).toNat)).fCount), .slice none 0 0] rfl), .o, .a 0, .o, .a 0, .b (z_eqlF hq1), .o, .b (z_eqlF hq2), .o, .b (z_eqlF hq3), .o, .b (z_eqlF hq4), .o, .b (z_eqlT hq5), .o, .o, .a 0, .o] [] (fun b => by kernel_rfl)
            · injection e with e; subst e; exact fn_conG hU (P := Tryd.prog) Tryd.func15 (fun xs w => by kernel_rfl) _ _ [.o, .o, .o, .o, .q (ixRo_ok (kd := .i64) (T := 27) (x := (IntKind.i64.wrap (y1 - 1))) (sz := 7) rfl (fun w => by kernel_rfl) hR0 hq0), .l (accRo hR0 c_Type0_len (inR_nat hq0) 0 [.int .i64 (((A0 ((IntKind.i64.wrap (y1 - 1))).toNat)).fKind), .string ((A0 ((IntKind.i64.wrap (y1 - 1))).toNat)).fName, .int .i64 (((A0 ((IntKind.i64.wrap (y1 - 1))).toNat)).fSize), .bool (((A0 ((IntKind.i64.wrap (y1 - 1))).toNat)).fSigned), .int .i64 (((A0 ((IntKind.i64.wrap (y1 - 1))).toNat)).fTo), .int .i64 (((A0 ((IntKind.i64.wrap (y1 - 1))).toNat)).fCount), .slice none 0 0] rfl), .o, .a 0, .o, .a 0, .b (z_eqlF hq1), .o, .b (z_eqlF hq2), .o, .b (z_eqlF hq3), .o, .b (z_eqlF hq4), .o, .b (z_eqlF hq5), .o, .o] [] (fun b => by kernel_rfl)
  · exact none_some e
noncomputable def m_btf_sizeOf_v2_F : Nat → (Nat) → (Nat → Type0) → (Int) → Option (Int)
  | 0 => fun _ _ _ => none
  | k + 1 => fun n0 A0 y1 => m_btf_sizeOf_v2 n0 A0 y1 (m_btf_sizeOf_v2_F k)
end
theorem ok_btf_sizeOf_v2_F (k : Nat) : ∀ {M : Nat → Prop} {B0 : Nat} {S : World → Prop} (hU : Up M B0 S) (a0 : Option Addr) (p0 : Nat) (q0 : Nat) (n0 : Nat) (k0 : Nat) (A0 : Nat → Type0) (hR0 : Ro S c_Type0 7 a0 p0 q0 n0 A0) (y1 : Int) (r : Int) (e : m_btf_sizeOf_v2_F k n0 A0 y1 = some r), ConG Tryd.prog S 15 #[.slice a0 n0 (n0 + k0), .int .i64 (y1)] (.int .i64 (r)) := by
  induction k with
  | zero => intro M B0 S hU a0 p0 q0 n0 k0 A0 hR0 y1 r e; cases e
  | succ k ih => intro M B0 S hU a0 p0 q0 n0 k0 A0 hR0 y1 r e; exact ok_btf_sizeOf_v2 hU a0 p0 q0 n0 k0 A0 hR0 y1 (m_btf_sizeOf_v2_F k) (fun hU a0 p0 q0 n0 k0 A0 hR0 y1 r e => ih hU a0 p0 q0 n0 k0 A0 hR0 y1 r e) r e
noncomputable def m_btf_isFunction_v1 (n0 : Nat) (A0 : Nat → Type0) (y1 : Int) : Option (Bool) :=
  (m_btf_resolve_v2 n0 A0 y1).bind fun r0 =>
  bif inR (IntKind.i64.wrap (r0 - 1)) n0 then
    (some (((A0 ((IntKind.i64.wrap (r0 - 1))).toNat)).fKind == 6))
  else (none)
section
variable {M : Nat → Prop} {B0 : Nat} {S : World → Prop} (hU : Up M B0 S) (a0 : Option Addr) (p0 : Nat) (q0 : Nat) (n0 : Nat) (k0 : Nat) (A0 : Nat → Type0) (hR0 : Ro S c_Type0 7 a0 p0 q0 n0 A0)
include hU a0 p0 q0 n0 k0 A0 hR0
theorem ok_btf_isFunction_v1 (y1 : Int) (r : Bool) (e : m_btf_isFunction_v1 n0 A0 y1 = some r) : ConG Tryd.prog S 24 #[.slice a0 n0 (n0 + k0), .int .i64 (y1)] (.bool (r)) := by
  unfold m_btf_isFunction_v1 at e
  replace e := bindO_eq e
  obtain ⟨r0, e_r0, e⟩ := e
  try dsimp only at e
  replace e := cond_eq_or e
  rcases e with ⟨hq0, e⟩ | ⟨hq0, e⟩
  · injection e with e; subst e; exact fn_conG hU (P := Tryd.prog) Tryd.func24 (fun xs w => by kernel_rfl) _ _ [.o, .o, .o, .o, .cg (ok_btf_resolve_v2 hU a0 p0 q0 n0 k0 A0 hR0 y1 r0 e_r0), .o, .q (ixRo_ok (kd := .i64) (T := 27) (x := (IntKind.i64.wrap (r0 - 1))) (sz := 7) rfl (fun w => by kernel_rfl) hR0 hq0), .o, .l (accRo hR0 c_Type0_len (inR_nat hq0) 0 [.int .i64 (((A0 ((IntKind.i64.wrap (r0 - 1))).toNat)).fKind)] rfl), .o, .o] [] (fun b => by kernel_rfl)
  · exact none_some e
noncomputable def m_btf_holdsFunction_v2 (n0 : Nat) (A0 : Nat → Type0) (y1 : Type0) : Option (Bool) :=
  bif y1.fKind == 3 then
    ((m_btf_isFunction_v1 n0 A0 y1.fTo).bind fun r0 =>
    bif r0 then
      (some true)
    else (some false))
  else (some false)
theorem ok_btf_holdsFunction_v2 (y1 : Type0) (r : Bool) (e : m_btf_holdsFunction_v2 n0 A0 y1 = some r) : ConG Tryd.prog S 12 #[.slice a0 n0 (n0 + k0), (v_Type0 y1)] (.bool (r)) := by
  unfold m_btf_holdsFunction_v2 at e
  replace e := cond_eq_or e
  rcases e with ⟨hq0, e⟩ | ⟨hq0, e⟩
  · replace e := bindO_eq e
    obtain ⟨r0, e_r0, e⟩ := e
    try dsimp only at e
    replace e := cond_eq_or e
    rcases e with ⟨hq1, e⟩ | ⟨hq1, e⟩
    · subst hq1
      injection e with e; subst e; exact fn_conG hU (P := Tryd.prog) Tryd.func12 (fun xs w => by kernel_rfl) _ _ [.o, .o, .o, .a 0, .b (z_eqlT hq0), .o, .o, .o, .a 0, .cg (ok_btf_isFunction_v1 hU a0 p0 q0 n0 k0 A0 hR0 y1.fTo true e_r0), .o, .o] [] (fun b => by kernel_rfl)
    · subst hq1
      injection e with e; subst e; exact fn_conG hU (P := Tryd.prog) Tryd.func12 (fun xs w => by kernel_rfl) _ _ [.o, .o, .o, .a 0, .b (z_eqlT hq0), .o, .o, .o, .a 0, .cg (ok_btf_isFunction_v1 hU a0 p0 q0 n0 k0 A0 hR0 y1.fTo false e_r0), .o, .o, .a 0, .o, .o, .o, .o] [] (fun b => by kernel_rfl)
  · injection e with e; subst e; exact fn_conG hU (P := Tryd.prog) Tryd.func12 (fun xs w => by kernel_rfl) _ _ [.o, .o, .o, .a 0, .b (z_eqlF hq0), .o, .o, .o, .a 0, .o, .o, .o, .o] [] (fun b => by kernel_rfl)
noncomputable def m_btf_fits_v2 (n0 : Nat) (A0 : Nat → Type0) (y1 : Int) : Option (Bool) :=
  bif inR (IntKind.i64.wrap (y1 - 1)) n0 then
    (bif ((A0 ((IntKind.i64.wrap (y1 - 1))).toNat)).fKind == 3 then
      ((m_btf_sizeOf_v2_F 64 n0 A0 y1).bind fun r0 =>
      some (decide (r0 ≤ 65536)))
    else (bif ((A0 ((IntKind.i64.wrap (y1 - 1))).toNat)).fKind == 4 then
      (some true)
    else (some true)))
  else (none)
theorem ok_btf_fits_v2 (y1 : Int) (r : Bool) (e : m_btf_fits_v2 n0 A0 y1 = some r) : ConG Tryd.prog S 13 #[.slice a0 n0 (n0 + k0), .int .i64 (y1)] (.bool (r)) := by
  unfold m_btf_fits_v2 at e
  replace e := cond_eq_or e
  rcases e with ⟨hq0, e⟩ | ⟨hq0, e⟩
  · replace e := cond_eq_or e
    rcases e with ⟨hq1, e⟩ | ⟨hq1, e⟩
    · replace e := bindO_eq e
      obtain ⟨r0, e_r0, e⟩ := e
      try dsimp only at e
      injection e with e; subst e; exact fn_conG hU (P := Tryd.prog) Tryd.func13 (fun xs w => by kernel_rfl) _ _ [.o, .o, .o, .o, .q (ixRo_ok (kd := .i64) (T := 27) (x := (IntKind.i64.wrap (y1 - 1))) (sz := 7) rfl (fun w => by kernel_rfl) hR0 hq0), .l (accRo hR0 c_Type0_len (inR_nat hq0) 0 [.int .i64 (((A0 ((IntKind.i64.wrap (y1 - 1))).toNat)).fKind), .string ((A0 ((IntKind.i64.wrap (y1 - 1))).toNat)).fName, .int .i64 (((A0 ((IntKind.i64.wrap (y1 - 1))).toNat)).fSize), .bool (((A0 ((IntKind.i64.wrap (y1 - 1))).toNat)).fSigned), .int .i64 (((A0 ((IntKind.i64.wrap (y1 - 1))).toNat)).fTo), .int .i64 (((A0 ((IntKind.i64.wrap (y1 - 1))).toNat)).fCount), .slice none 0 0] rfl), .o, .a 0, .o, .a 0, .b (z_eqlT hq1), .o, .o, .o, .cg (ok_btf_sizeOf_v2_F 64 hU a0 p0 q0 n0 k0 A0 hR0 y1 r0 e_r0), .o, .o] [] (fun b => by kernel_rfl)
    · replace e := cond_eq_or e
      rcases e with ⟨hq2, e⟩ | ⟨hq2, e⟩
      · injection e with e; subst e; exact fn_conG hU (P := Tryd.prog) Tryd.func13 (fun xs w => by kernel_rfl) _ _ [.o, .o, .o, .o, .q (ixRo_ok (kd := .i64) (T := 27) (x := (IntKind.i64.wrap (y1 - 1))) (sz := 7) rfl (fun w => by kernel_rfl) hR0 hq0), .l (accRo hR0 c_Type0_len (inR_nat hq0) 0 [.int .i64 (((A0 ((IntKind.i64.wrap (y1 - 1))).toNat)).fKind), .string ((A0 ((IntKind.i64.wrap (y1 - 1))).toNat)).fName, .int .i64 (((A0 ((IntKind.i64.wrap (y1 - 1))).toNat)).fSize), .bool (((A0 ((IntKind.i64.wrap (y1 - 1))).toNat)).fSigned), .int .i64 (((A0 ((IntKind.i64.wrap (y1 - 1))).toNat)).fTo), .int .i64 (((A0 ((IntKind.i64.wrap (y1 - 1))).toNat)).fCount), .slice none 0 0] rfl), .o, .a 0, .o, .a 0, .b (z_eqlF hq1), .o, .b (z_eqlT hq2), .o, .o, .o, .a 0, .o, .o, .o, .o] [] (fun b => by kernel_rfl)
      · injection e with e; subst e; exact fn_conG hU (P := Tryd.prog) Tryd.func13 (fun xs w => by kernel_rfl) _ _ [.o, .o, .o, .o, .q (ixRo_ok (kd := .i64) (T := 27) (x := (IntKind.i64.wrap (y1 - 1))) (sz := 7) rfl (fun w => by kernel_rfl) hR0 hq0), .l (accRo hR0 c_Type0_len (inR_nat hq0) 0 [.int .i64 (((A0 ((IntKind.i64.wrap (y1 - 1))).toNat)).fKind), .string ((A0 ((IntKind.i64.wrap (y1 - 1))).toNat)).fName, .int .i64 (((A0 ((IntKind.i64.wrap (y1 - 1))).toNat)).fSize), .bool (((A0 ((IntKind.i64.wrap (y1 - 1))).toNat)).fSigned), .int .i64 (((A0 ((IntKind.i64.wrap (y1 - 1))).toNat)).fTo), .int .i64 (((A0 ((IntKind.i64.wrap (y1 - 1))).toNat)).fCount), .slice none 0 0] rfl), .o, .a 0, .o, .a 0, .b (z_eqlF hq1), .o, .b (z_eqlF hq2), .o, .o] [] (fun b => by kernel_rfl)
  · exact none_some e
end

end Go.Proofs.YtnpfkoegjeokjaaDoor
