/-
  The law on ledgers, by the program's text.
-/
import Derived.Test.YtmopkmjddaaknaaT11L
import Derived.Test.YtmopkmjddaaknaaT11K
import Derived.Test.YtmopkmjddaaknaaRxO
namespace Go.Proofs.Ytmopkmjddaaknaa
open Go.RowKit
set_option linter.unusedVariables false
set_option linter.unusedSimpArgs false
set_option linter.unusedSectionVars false
set_option maxRecDepth 100000
set_option maxHeartbeats 4000000
inductive Sh_barbicanlaw11_SockLedger_L1v1 where
  | c0 (s0_0 : Nat) (s0_1 : Nat → Int) (s0_2 : Nat) (s0_3 : Nat → Reference) (s0_4 : Int) (s0_5 : Int) (s0_6 : Nat) (s0_7 : Nat → Event) (s0_8 : Int)
inductive Ex_barbicanlaw11_SockLedger_L1v1 where
  | e0 (c0_0 : Nat) (c0_1 : Nat → Int) (c0_2 : Nat) (c0_3 : Nat → Reference) (c0_4 : Int) (c0_5 : Int) (c0_6 : Nat) (c0_7 : Nat → Event)
noncomputable def st_barbicanlaw11_SockLedger_L1v1 (n0 : Nat) (A0 : Nat → Step) : Sh_barbicanlaw11_SockLedger_L1v1 → Option (Sh_barbicanlaw11_SockLedger_L1v1 ⊕ Ex_barbicanlaw11_SockLedger_L1v1)
  | .c0 s0_0 s0_1 s0_2 s0_3 s0_4 s0_5 s0_6 s0_7 s0_8 =>
    bif decide (s0_8 < (n0 : Int)) then
      (bif inR s0_8 n0 then
        (bif (zrem ((A0 (s0_8).toNat)).fWhat 2) == 0 then
          ((m_sock_Ledger_Acquire_v3 ((A0 (s0_8).toNat)).fN ((A0 (s0_8).toNat)).fM s0_0 s0_2 s0_4 s0_5 s0_6 s0_1 s0_3 s0_7).bind fun gb0 => match gb0 with
          | .e0  => (some (.inl (.c0 s0_0 s0_1 s0_2 s0_3 s0_4 s0_5 s0_6 s0_7 (IntKind.i64.wrap (s0_8 + 1)))))
          | .e1 gb0_0 gb0_1 gb0_2 gb0_3 gb0_4 => (some (.inl (.c0 (s0_0 + 1) gb0_0 (s0_2 + 1) gb0_1 gb0_2 s0_5 (s0_6 + 1) gb0_3 (IntKind.i64.wrap (s0_8 + 1))))))
        else ((m_sock_Ledger_Release_v4 ((A0 (s0_8).toNat)).fI ((A0 (s0_8).toNat)).fN s0_0 s0_2 s0_4 s0_5 s0_6 s0_1 s0_3 s0_7).bind fun gb0 => match gb0 with
        | .e0 gb0_0 gb0_1 gb0_2 gb0_3 gb0_4 => (some (.inl (.c0 s0_0 gb0_0 s0_2 s0_3 gb0_1 gb0_2 (s0_6 + 1) gb0_3 (IntKind.i64.wrap (s0_8 + 1)))))
        | .e1  => (some (.inl (.c0 s0_0 s0_1 s0_2 s0_3 s0_4 s0_5 s0_6 s0_7 (IntKind.i64.wrap (s0_8 + 1)))))))
      else (none))
    else (some (.inr (.e0 s0_0 s0_1 s0_2 s0_3 s0_4 s0_5 s0_6 s0_7)))
noncomputable def bd_barbicanlaw11_SockLedger_L1v1 : Code := codeOf Try.f4 [1, 1, 1, 1, 1, 0, 1, 0, 0]
def fl_barbicanlaw11_SockLedger_L1v1 (a0 : Option Addr) (p0 : Nat) (q0 : Nat) (n0 : Nat) (k0 : Nat) (A0 : Nat → Step) (y1 : Int) (g0_0 : Nat) (g0_1 : Nat → Int) (g0_2 : Nat) (g0_3 : Nat → Reference) (g0_4 : Int) (g0_5 : Nat) (g0_6 : Nat → Event) : Sh_barbicanlaw11_SockLedger_L1v1 → List L1 → List Value
  | .c0 s0_0 s0_1 s0_2 s0_3 s0_4 s0_5 s0_6 s0_7 s0_8, ls => [.slice a0 n0 (n0 + k0), .bool false, .pointer (some ⟨(lget ls 0).n, 0, none⟩), .int .i64 (s0_8), ((lget ls 1).u 10), ((lget ls 1).u 11), ((lget ls 1).u 12), ((lget ls 1).u 13), ((lget ls 1).u 14), ((lget ls 1).u 15), ((lget ls 1).u 82), ((lget ls 1).u 83), ((lget ls 1).u 84), ((lget ls 1).u 85), ((lget ls 1).u 86), ((lget ls 1).u 87), ((lget ls 1).u 88), ((lget ls 1).u 89), ((lget ls 1).u 90), ((lget ls 1).u 91), ((lget ls 1).u 92), ((lget ls 1).u 93), ((lget ls 1).u 94), ((lget ls 1).u 95), ((lget ls 1).u 96), ((lget ls 1).u 97), ((lget ls 1).u 98), ((lget ls 1).u 99), ((lget ls 1).u 100), ((lget ls 1).u 101), ((lget ls 1).u 102), ((lget ls 1).u 103), ((lget ls 1).u 104), ((lget ls 1).u 105), ((lget ls 1).u 106), ((lget ls 1).u 107), ((lget ls 1).u 108), ((lget ls 1).u 109), ((lget ls 1).u 110), ((lget ls 1).u 111), ((lget ls 1).u 112), ((lget ls 1).u 113), ((lget ls 1).u 114), ((lget ls 1).u 115), ((lget ls 1).u 116), ((lget ls 1).u 117), ((lget ls 1).u 118), ((lget ls 1).u 119), ((lget ls 1).u 120), ((lget ls 1).u 121), ((lget ls 1).u 122), ((lget ls 1).u 123), ((lget ls 1).u 124), ((lget ls 1).u 125), ((lget ls 1).u 126), ((lget ls 1).u 127), ((lget ls 1).u 128), ((lget ls 1).u 129), ((lget ls 1).u 130), ((lget ls 1).u 131), ((lget ls 1).u 132), ((lget ls 1).u 133), ((lget ls 1).u 134), ((lget ls 1).u 135), ((lget ls 1).u 136), ((lget ls 1).u 137), ((lget ls 1).u 138), ((lget ls 1).u 139), ((lget ls 1).u 140), ((lget ls 1).u 141), ((lget ls 1).u 142), ((lget ls 1).u 143), ((lget ls 1).u 144), ((lget ls 1).u 145), ((lget ls 1).u 146), ((lget ls 1).u 147), ((lget ls 1).u 148), ((lget ls 1).u 149)]
def mf_barbicanlaw11_SockLedger_L1v1 : Sh_barbicanlaw11_SockLedger_L1v1 → List (Nat × Nat)
  | .c0 _ _ _ _ _ _ _ _ _ => [(1, 3), (2, 3), (7, 66), (68, 0)]
noncomputable def fr_barbicanlaw11_SockLedger_L1v1 (a0 : Option Addr) (p0 : Nat) (q0 : Nat) (n0 : Nat) (k0 : Nat) (A0 : Nat → Step) (y1 : Int) (g0_0 : Nat) (g0_1 : Nat → Int) (g0_2 : Nat) (g0_3 : Nat → Reference) (g0_4 : Int) (g0_5 : Nat) (g0_6 : Nat → Event) (s : Sh_barbicanlaw11_SockLedger_L1v1) : List L1 → List Value := mrgF (mf_barbicanlaw11_SockLedger_L1v1 s) (fl_barbicanlaw11_SockLedger_L1v1 a0 p0 q0 n0 k0 A0 y1 g0_0 g0_1 g0_2 g0_3 g0_4 g0_5 g0_6 s) 5
def Hs_barbicanlaw11_SockLedger_L1v1 (a0 : Option Addr) (p0 : Nat) (q0 : Nat) (n0 : Nat) (k0 : Nat) (A0 : Nat → Step) (y1 : Int) (g0_0 : Nat) (g0_1 : Nat → Int) (g0_2 : Nat) (g0_3 : Nat → Reference) (g0_4 : Int) (g0_5 : Nat) (g0_6 : Nat → Event) : Sh_barbicanlaw11_SockLedger_L1v1 → List L1 → List Obj
  | .c0 s0_0 s0_1 s0_2 s0_3 s0_4 s0_5 s0_6 s0_7 s0_8, ls => [.cells #[(rowV (lget ls 2) s0_0 1), (rowV (lget ls 3) s0_2 2), .int .i64 (s0_4), .int .i64 (s0_5), (rowV (lget ls 4) s0_6 3)] 78, unb, rowO (lget ls 2) (esG cZ s0_0 s0_1) 3 s0_0 1, rowO (lget ls 3) (esG c_Reference s0_2 s0_3) 82 s0_2 2, rowO (lget ls 4) (esG c_Event s0_6 s0_7) 63 s0_6 3, unb]
def vl_barbicanlaw11_SockLedger_L1v1 (a0 : Option Addr) (p0 : Nat) (q0 : Nat) (n0 : Nat) (k0 : Nat) (A0 : Nat → Step) (y1 : Int) (g0_0 : Nat) (g0_1 : Nat → Int) (g0_2 : Nat) (g0_3 : Nat → Reference) (g0_4 : Int) (g0_5 : Nat) (g0_6 : Nat → Event) : Ex_barbicanlaw11_SockLedger_L1v1 → List L1 → List Value
  | .e0 c0_0 c0_1 c0_2 c0_3 c0_4 c0_5 c0_6 c0_7, ls => [.slice a0 n0 (n0 + k0), .bool false, .pointer (some ⟨(lget ls 0).n, 0, none⟩), ((lget ls 1).u 10), ((lget ls 1).u 11), ((lget ls 1).u 12), ((lget ls 1).u 13), ((lget ls 1).u 14), ((lget ls 1).u 15), ((lget ls 1).u 82), ((lget ls 1).u 83), ((lget ls 1).u 84), ((lget ls 1).u 85), ((lget ls 1).u 86), ((lget ls 1).u 87), ((lget ls 1).u 88), ((lget ls 1).u 89), ((lget ls 1).u 90), ((lget ls 1).u 91), ((lget ls 1).u 92), ((lget ls 1).u 93), ((lget ls 1).u 94), ((lget ls 1).u 95), ((lget ls 1).u 96), ((lget ls 1).u 97), ((lget ls 1).u 98), ((lget ls 1).u 99), ((lget ls 1).u 100), ((lget ls 1).u 101), ((lget ls 1).u 102), ((lget ls 1).u 103), ((lget ls 1).u 104), ((lget ls 1).u 105), ((lget ls 1).u 106), ((lget ls 1).u 107), ((lget ls 1).u 108), ((lget ls 1).u 109), ((lget ls 1).u 110), ((lget ls 1).u 111), ((lget ls 1).u 112), ((lget ls 1).u 113), ((lget ls 1).u 114), ((lget ls 1).u 115), ((lget ls 1).u 116), ((lget ls 1).u 117), ((lget ls 1).u 118), ((lget ls 1).u 119), ((lget ls 1).u 120), ((lget ls 1).u 121), ((lget ls 1).u 122), ((lget ls 1).u 123), ((lget ls 1).u 124), ((lget ls 1).u 125), ((lget ls 1).u 126), ((lget ls 1).u 127), ((lget ls 1).u 128), ((lget ls 1).u 129), ((lget ls 1).u 130), ((lget ls 1).u 131), ((lget ls 1).u 132), ((lget ls 1).u 133), ((lget ls 1).u 134), ((lget ls 1).u 135), ((lget ls 1).u 136), ((lget ls 1).u 137), ((lget ls 1).u 138), ((lget ls 1).u 139), ((lget ls 1).u 140), ((lget ls 1).u 141), ((lget ls 1).u 142), ((lget ls 1).u 143), ((lget ls 1).u 144), ((lget ls 1).u 145), ((lget ls 1).u 146), ((lget ls 1).u 147), ((lget ls 1).u 148), ((lget ls 1).u 149)]
def mk_barbicanlaw11_SockLedger_L1v1 : Ex_barbicanlaw11_SockLedger_L1v1 → List (Nat × Nat)
  | .e0 _ _ _ _ _ _ _ _ => [(1, 3), (2, 4), (6, 66), (68, 0)]
noncomputable def vf_barbicanlaw11_SockLedger_L1v1 (a0 : Option Addr) (p0 : Nat) (q0 : Nat) (n0 : Nat) (k0 : Nat) (A0 : Nat → Step) (y1 : Int) (g0_0 : Nat) (g0_1 : Nat → Int) (g0_2 : Nat) (g0_3 : Nat → Reference) (g0_4 : Int) (g0_5 : Nat) (g0_6 : Nat → Event) (r : Ex_barbicanlaw11_SockLedger_L1v1) : List L1 → List Value := mrgF (mk_barbicanlaw11_SockLedger_L1v1 r) (vl_barbicanlaw11_SockLedger_L1v1 a0 p0 q0 n0 k0 A0 y1 g0_0 g0_1 g0_2 g0_3 g0_4 g0_5 g0_6 r) 5
def Hf_barbicanlaw11_SockLedger_L1v1 (a0 : Option Addr) (p0 : Nat) (q0 : Nat) (n0 : Nat) (k0 : Nat) (A0 : Nat → Step) (y1 : Int) (g0_0 : Nat) (g0_1 : Nat → Int) (g0_2 : Nat) (g0_3 : Nat → Reference) (g0_4 : Int) (g0_5 : Nat) (g0_6 : Nat → Event) : Ex_barbicanlaw11_SockLedger_L1v1 → List L1 → List Obj
  | .e0 c0_0 c0_1 c0_2 c0_3 c0_4 c0_5 c0_6 c0_7, ls => [.cells #[(rowV (lget ls 2) c0_0 1), (rowV (lget ls 3) c0_2 2), .int .i64 (c0_4), .int .i64 (c0_5), (rowV (lget ls 4) c0_6 3)] 78, unb, rowO (lget ls 2) (esG cZ c0_0 c0_1) 3 c0_0 1, rowO (lget ls 3) (esG c_Reference c0_2 c0_3) 82 c0_2 2, rowO (lget ls 4) (esG c_Event c0_6 c0_7) 63 c0_6 3, unb]
def ex_barbicanlaw11_SockLedger_L1v1 : Ex_barbicanlaw11_SockLedger_L1v1 → Ex
  | .e0 _ _ _ _ _ _ _ _ => (.exit 2)
section
variable {M : Nat → Prop} {B0 : Nat} {S : World → Prop} (hU : Up M B0 S) (a0 : Option Addr) (p0 : Nat) (q0 : Nat) (n0 : Nat) (k0 : Nat) (A0 : Nat → Step) (hR0 : Ro S c_Step 4 a0 p0 q0 n0 A0) (y1 : Int) (g0_0 : Nat) (g0_1 : Nat → Int) (g0_2 : Nat) (g0_3 : Nat → Reference) (g0_4 : Int) (g0_5 : Nat) (g0_6 : Nat → Event)
include hU a0 p0 q0 n0 k0 A0 hR0 y1 g0_0 g0_1 g0_2 g0_3 g0_4 g0_5 g0_6
theorem go_barbicanlaw11_SockLedger_L1v1 (s : Sh_barbicanlaw11_SockLedger_L1v1) (r : Ex_barbicanlaw11_SockLedger_L1v1) (h : lpO (st_barbicanlaw11_SockLedger_L1v1 n0 A0) s = some r) : GoesG Try.prog M B0 S (.loop bd_barbicanlaw11_SockLedger_L1v1) 6 (fr_barbicanlaw11_SockLedger_L1v1 a0 p0 q0 n0 k0 A0 y1 g0_0 g0_1 g0_2 g0_3 g0_4 g0_5 g0_6 s) (Hs_barbicanlaw11_SockLedger_L1v1 a0 p0 q0 n0 k0 A0 y1 g0_0 g0_1 g0_2 g0_3 g0_4 g0_5 g0_6 s) (ex_barbicanlaw11_SockLedger_L1v1 r) 2 (vf_barbicanlaw11_SockLedger_L1v1 a0 p0 q0 n0 k0 A0 y1 g0_0 g0_1 g0_2 g0_3 g0_4 g0_5 g0_6 r) (Hf_barbicanlaw11_SockLedger_L1v1 a0 p0 q0 n0 k0 A0 y1 g0_0 g0_1 g0_2 g0_3 g0_4 g0_5 g0_6 r) 6 :=
  goes_lpO (fun s q e => by
    cases s with
    | c0 s0_0 s0_1 s0_2 s0_3 s0_4 s0_5 s0_6 s0_7 s0_8 =>
      unfold st_barbicanlaw11_SockLedger_L1v1 at e
      dsimp only at e
      replace e := cond_eq_or e
      rcases e with ⟨hq0, e⟩ | ⟨hq0, e⟩
      · replace e := cond_eq_or e
        rcases e with ⟨hq1, e⟩ | ⟨hq1, e⟩
        · replace e := cond_eq_or e
          rcases e with ⟨hq2, e⟩ | ⟨hq2, e⟩
          · replace e := bindO_eq e
            obtain ⟨gb0, e_gb0, e⟩ := e
            rcases gb0 with _ | ⟨gb0_0, gb0_1, gb0_2, gb0_3, gb0_4⟩
            · try dsimp only at e
              cases e; exact goes_runM hU [.o, .o, .o, .b (z_lssT hq0), .o, .o, .q (ixRo_ok (kd := .i64) (T := 23) (x := s0_8) (sz := 4) rfl (fun w => by kernel_rfl) hR0 hq1), .o, .l (accRo hR0 c_Step_len (inR_nat hq1) 0 [.int .i64 (((A0 (s0_8).toNat)).fWhat)] rfl), .ov (z_rem Try.prog 3 (.tmp 55) (.const (.int .i64 (2))) ((A0 (s0_8).toNat)).fWhat 2 (by decide)), .b (z_eqlT hq2), .r [0, 1, 2, 3, 4, 5, 6, 7, 8, 9, 10] [] [11], .o, .o, .o, .q (ixRo_ok (kd := .i64) (T := 23) (x := s0_8) (sz := 4) rfl (fun w => by kernel_rfl) hR0 hq1), .o, .l (accRo hR0 c_Step_len (inR_nat hq1) 2 [.int .i64 (((A0 (s0_8).toNat)).fN)] rfl), .o, .o, .q (ixRo_ok (kd := .i64) (T := 23) (x := s0_8) (sz := 4) rfl (fun w => by kernel_rfl) hR0 hq1), .o, .l (accRo hR0 c_Step_len (inR_nat hq1) 3 [.int .i64 (((A0 (s0_8).toNat)).fM)] rfl), .xg (ok0_sock_Ledger_Acquire_v3 hU ((A0 (s0_8).toNat)).fN ((A0 (s0_8).toNat)).fM s0_0 s0_2 s0_4 s0_5 s0_6 s0_1 s0_3 s0_7  e_gb0) [0, 2, 3, 4], .o, .o, .o] [0, 1, 2, 3, 4] (fun b => rfl) (by decide) rfl rfl (fun b => by kernel_rfl)
            · try dsimp only at e
              cases e; exact goes_runM hU [.o, .o, .o, .b (z_lssT hq0), .o, .o, .q (ixRo_ok (kd := .i64) (T := 23) (x := s0_8) (sz := 4) rfl (fun w => by kernel_rfl) hR0 hq1), .o, .l (accRo hR0 c_Step_len (inR_nat hq1) 0 [.int .i64 (((A0 (s0_8).toNat)).fWhat)] rfl), .ov (z_rem Try.prog 3 (.tmp 55) (.const (.int .i64 (2))) ((A0 (s0_8).toNat)).fWhat 2 (by decide)), .b (z_eqlT hq2), .r [0, 1, 2, 3, 4, 5, 6, 7, 8, 9, 10] [] [11], .o, .o, .o, .q (ixRo_ok (kd := .i64) (T := 23) (x := s0_8) (sz := 4) rfl (fun w => by kernel_rfl) hR0 hq1), .o, .l (accRo hR0 c_Step_len (inR_nat hq1) 2 [.int .i64 (((A0 (s0_8).toNat)).fN)] rfl), .o, .o, .q (ixRo_ok (kd := .i64) (T := 23) (x := s0_8) (sz := 4) rfl (fun w => by kernel_rfl) hR0 hq1), .o, .l (accRo hR0 c_Step_len (inR_nat hq1) 3 [.int .i64 (((A0 (s0_8).toNat)).fM)] rfl), .xg (ok1_sock_Ledger_Acquire_v3 hU ((A0 (s0_8).toNat)).fN ((A0 (s0_8).toNat)).fM s0_0 s0_2 s0_4 s0_5 s0_6 s0_1 s0_3 s0_7 gb0_0 gb0_1 gb0_2 gb0_3 gb0_4 e_gb0) [0, 2, 3, 4], .o, .o, .o] [0, 1, 6, 7, 8] (fun b => rfl) (by decide) rfl rfl (fun b => by kernel_rfl)
          · replace e := bindO_eq e
            obtain ⟨gb0, e_gb0, e⟩ := e
            rcases gb0 with ⟨gb0_0, gb0_1, gb0_2, gb0_3, gb0_4⟩ | _
            · try dsimp only at e
              cases e; exact goes_runM hU [.o, .o, .o, .b (z_lssT hq0), .o, .o, .q (ixRo_ok (kd := .i64) (T := 23) (x := s0_8) (sz := 4) rfl (fun w => by kernel_rfl) hR0 hq1), .o, .l (accRo hR0 c_Step_len (inR_nat hq1) 0 [.int .i64 (((A0 (s0_8).toNat)).fWhat)] rfl), .ov (z_rem Try.prog 3 (.tmp 55) (.const (.int .i64 (2))) ((A0 (s0_8).toNat)).fWhat 2 (by decide)), .b (z_eqlF hq2), .r [0, 1, 2, 3, 4, 5, 6, 7, 8, 9, 10] [] [11], .o, .o, .o, .q (ixRo_ok (kd := .i64) (T := 23) (x := s0_8) (sz := 4) rfl (fun w => by kernel_rfl) hR0 hq1), .o, .l (accRo hR0 c_Step_len (inR_nat hq1) 1 [.int .i64 (((A0 (s0_8).toNat)).fI)] rfl), .o, .o, .q (ixRo_ok (kd := .i64) (T := 23) (x := s0_8) (sz := 4) rfl (fun w => by kernel_rfl) hR0 hq1), .o, .l (accRo hR0 c_Step_len (inR_nat hq1) 2 [.int .i64 (((A0 (s0_8).toNat)).fN)] rfl), .xg (ok0_sock_Ledger_Release_v4 hU ((A0 (s0_8).toNat)).fI ((A0 (s0_8).toNat)).fN s0_0 s0_2 s0_4 s0_5 s0_6 s0_1 s0_3 s0_7 gb0_0 gb0_1 gb0_2 gb0_3 gb0_4 e_gb0) [0, 2, 3, 4], .o, .o, .o] [0, 1, 2, 3, 6] (fun b => rfl) (by decide) rfl rfl (fun b => by kernel_rfl)
            · try dsimp only at e
              cases e; exact goes_runM hU [.o, .o, .o, .b (z_lssT hq0), .o, .o, .q (ixRo_ok (kd := .i64) (T := 23) (x := s0_8) (sz := 4) rfl (fun w => by kernel_rfl) hR0 hq1), .o, .l (accRo hR0 c_Step_len (inR_nat hq1) 0 [.int .i64 (((A0 (s0_8).toNat)).fWhat)] rfl), .ov (z_rem Try.prog 3 (.tmp 55) (.const (.int .i64 (2))) ((A0 (s0_8).toNat)).fWhat 2 (by decide)), .b (z_eqlF hq2), .r [0, 1, 2, 3, 4, 5, 6, 7, 8, 9, 10] [] [11], .o, .o, .o, .q (ixRo_ok (kd := .i64) (T := 23) (x := s0_8) (sz := 4) rfl (fun w => by kernel_rfl) hR0 hq1), .o, .l (accRo hR0 c_Step_len (inR_nat hq1) 1 [.int .i64 (((A0 (s0_8).toNat)).fI)] rfl), .o, .o, .q (ixRo_ok (kd := .i64) (T := 23) (x := s0_8) (sz := 4) rfl (fun w => by kernel_rfl) hR0 hq1), .o, .l (accRo hR0 c_Step_len (inR_nat hq1) 2 [.int .i64 (((A0 (s0_8).toNat)).fN)] rfl), .xg (ok1_sock_Ledger_Release_v4 hU ((A0 (s0_8).toNat)).fI ((A0 (s0_8).toNat)).fN s0_0 s0_2 s0_4 s0_5 s0_6 s0_1 s0_3 s0_7  e_gb0) [0, 2, 3, 4], .o, .o, .o] [0, 1, 2, 3, 4] (fun b => rfl) (by decide) rfl rfl (fun b => by kernel_rfl)
        · exact none_some e
      · cases e; exact ⟨ne_exit 2, goes_runM hU [.o, .o, .o, .b (z_lssF hq0)] [0, 1, 2, 3, 4] (fun b => rfl) (by decide) rfl rfl (fun b => by kernel_rfl)⟩) s r h
noncomputable def t0_barbicanlaw11_SockLedger_L1v1_0 (a0 : Option Addr) (p0 : Nat) (q0 : Nat) (n0 : Nat) (k0 : Nat) (A0 : Nat → Step) (y1 : Int) (g0_0 : Nat) (g0_1 : Nat → Int) (g0_2 : Nat) (g0_3 : Nat → Reference) (g0_4 : Int) (g0_5 : Nat) (g0_6 : Nat → Event) (s0_0 : Nat) (s0_1 : Nat → Int) (s0_2 : Nat) (s0_3 : Nat → Reference) (s0_4 : Int) (s0_5 : Int) (s0_6 : Nat) (s0_7 : Nat → Event) (s0_8 : Int) (ls : List L1) : List Value := List.append [.slice a0 n0 (n0 + k0), .int .i64 (y1), ((lget ls 1).u 2), ((lget ls 1).u 3), .bool false, .pointer (some ⟨(lget ls 0).n, 0, none⟩), ((lget ls 1).u 6), ((lget ls 1).u 7), ((lget ls 1).u 8), .int .i64 (s0_8)] (jks (lget ls 1).u 10 140)
def pre_barbicanlaw11_SockLedger_L1v1_0 (a0 : Option Addr) (p0 : Nat) (q0 : Nat) (n0 : Nat) (k0 : Nat) (A0 : Nat → Step) (y1 : Int) (g0_0 : Nat) (g0_1 : Nat → Int) (g0_2 : Nat) (g0_3 : Nat → Reference) (g0_4 : Int) (g0_5 : Nat) (g0_6 : Nat → Event) (s0_0 : Nat) (s0_1 : Nat → Int) (s0_2 : Nat) (s0_3 : Nat → Reference) (s0_4 : Int) (s0_5 : Int) (s0_6 : Nat) (s0_7 : Nat → Event) (s0_8 : Int) (ls : List L1) : List Obj := [.cells #[(rowV (lget ls 2) s0_0 1), (rowV (lget ls 3) s0_2 2), .int .i64 (s0_4), .int .i64 (s0_5), (rowV (lget ls 4) s0_6 3)] 78, unb, rowO (lget ls 2) (esG cZ s0_0 s0_1) 3 s0_0 1, rowO (lget ls 3) (esG c_Reference s0_2 s0_3) 82 s0_2 2, rowO (lget ls 4) (esG c_Event s0_6 s0_7) 63 s0_6 3]
theorem sp0_barbicanlaw11_SockLedger_L1v1_0_ok (s0_0 : Nat) (s0_1 : Nat → Int) (s0_2 : Nat) (s0_3 : Nat → Reference) (s0_4 : Int) (s0_5 : Int) (s0_6 : Nat) (s0_7 : Nat → Event) (s0_8 : Int) (c0_0 : Nat) (c0_1 : Nat → Int) (c0_2 : Nat) (c0_3 : Nat → Reference) (c0_4 : Int) (c0_5 : Int) (c0_6 : Nat) (c0_7 : Nat → Event) (h : lpO (st_barbicanlaw11_SockLedger_L1v1 n0 A0) (.c0 s0_0 s0_1 s0_2 s0_3 s0_4 s0_5 s0_6 s0_7 s0_8) = some (.e0 c0_0 c0_1 c0_2 c0_3 c0_4 c0_5 c0_6 c0_7)) : SpcG Try.prog M B0 S ⟨fun ls => .code (.loop bd_barbicanlaw11_SockLedger_L1v1) (t0_barbicanlaw11_SockLedger_L1v1_0 a0 p0 q0 n0 k0 A0 y1 g0_0 g0_1 g0_2 g0_3 g0_4 g0_5 g0_6 s0_0 s0_1 s0_2 s0_3 s0_4 s0_5 s0_6 s0_7 s0_8 ls), pre_barbicanlaw11_SockLedger_L1v1_0 a0 p0 q0 n0 k0 A0 y1 g0_0 g0_1 g0_2 g0_3 g0_4 g0_5 g0_6 s0_0 s0_1 s0_2 s0_3 s0_4 s0_5 s0_6 s0_7 s0_8, 4, (.exit 2), fun ls => vf_barbicanlaw11_SockLedger_L1v1 a0 p0 q0 n0 k0 A0 y1 g0_0 g0_1 g0_2 g0_3 g0_4 g0_5 g0_6 (.e0 c0_0 c0_1 c0_2 c0_3 c0_4 c0_5 c0_6 c0_7) (ls.take 2 ++ ls.drop 5), fun ls => (Hf_barbicanlaw11_SockLedger_L1v1 a0 p0 q0 n0 k0 A0 y1 g0_0 g0_1 g0_2 g0_3 g0_4 g0_5 g0_6 (.e0 c0_0 c0_1 c0_2 c0_3 c0_4 c0_5 c0_6 c0_7) (ls.take 2 ++ ls.drop 5)).take 2 ++ List.replicate 3 unb, fun ls => (Hf_barbicanlaw11_SockLedger_L1v1 a0 p0 q0 n0 k0 A0 y1 g0_0 g0_1 g0_2 g0_3 g0_4 g0_5 g0_6 (.e0 c0_0 c0_1 c0_2 c0_3 c0_4 c0_5 c0_6 c0_7) (ls.take 2 ++ ls.drop 5)).drop 2⟩ :=
  spc_of_goesM hU 0 (k0 := 5) (go_barbicanlaw11_SockLedger_L1v1 hU a0 p0 q0 n0 k0 A0 hR0 y1 g0_0 g0_1 g0_2 g0_3 g0_4 g0_5 g0_6 _ _ h) (t0_barbicanlaw11_SockLedger_L1v1_0 a0 p0 q0 n0 k0 A0 y1 g0_0 g0_1 g0_2 g0_3 g0_4 g0_5 g0_6 s0_0 s0_1 s0_2 s0_3 s0_4 s0_5 s0_6 s0_7 s0_8) (pre_barbicanlaw11_SockLedger_L1v1_0 a0 p0 q0 n0 k0 A0 y1 g0_0 g0_1 g0_2 g0_3 g0_4 g0_5 g0_6 s0_0 s0_1 s0_2 s0_3 s0_4 s0_5 s0_6 s0_7 s0_8) (fun _ => rfl) (fun ls h => by match ls, h with | [l0, l1, l2, l3, l4], _ => exact ⟨by kernel_rfl, by kernel_rfl⟩) (fun ls h => by match ls, h with | [l0, l1, l2, l3, l4], _ => rfl) (by decide) (by decide) (fun ls => rfl)
inductive Sh_barbicanlaw11_SockLedger_L2v1_L3v4 where
  | c0 (sb0_0 : Int) (sb0_1 : Int)
inductive Ex_barbicanlaw11_SockLedger_L2v1_L3v4 where
  | e0 (c0_0 : Int) (c0_1 : Int) (c0_2 : Int) (c0_3 : Int)
noncomputable def st_barbicanlaw11_SockLedger_L2v1_L3v4 (g1_6 : Nat) (g1_7 : Nat → Event) (s0_0 : Nat) (s0_1 : Nat → Int) (s0_3 : Int) : Sh_barbicanlaw11_SockLedger_L2v1_L3v4 → Option (Sh_barbicanlaw11_SockLedger_L2v1_L3v4 ⊕ Ex_barbicanlaw11_SockLedger_L2v1_L3v4)
  | .c0 sb0_0 sb0_1 =>
    bif decide (sb0_1 < (s0_0 : Int)) then
      (bif inR sb0_1 s0_0 then
        (bif inR s0_3 g1_6 then
          (bif (s0_1 (sb0_1).toNat) == ((g1_7 (s0_3).toNat)).fId then
            (some (.inl (.c0 sb0_1 (IntKind.i64.wrap (sb0_1 + 1)))))
          else (some (.inl (.c0 sb0_0 (IntKind.i64.wrap (sb0_1 + 1))))))
        else (none))
      else (none))
    else (some (.inr (.e0 sb0_0 sb0_1 sb0_1 (s0_0 : Int))))
noncomputable def bd_barbicanlaw11_SockLedger_L2v1_L3v4 : Code := codeOf Try.f4 [1, 1, 1, 1, 1, 1, 1, 1, 1, 0, 1, 0, 0, 1, 0, 0, 1, 1, 0, 1, 0, 0]
def fl_barbicanlaw11_SockLedger_L2v1_L3v4 (a0 : Option Addr) (p0 : Nat) (q0 : Nat) (n0 : Nat) (k0 : Nat) (A0 : Nat → Step) (y1 : Int) (g0_0 : Nat) (g0_1 : Nat → Int) (g0_2 : Nat) (g0_3 : Nat → Reference) (g0_4 : Int) (g0_5 : Nat) (g0_6 : Nat → Event) (g1_0 : Nat) (g1_1 : Nat → Int) (g1_2 : Nat) (g1_3 : Nat → Reference) (g1_4 : Int) (g1_5 : Int) (g1_6 : Nat) (g1_7 : Nat → Event) (s0_0 : Nat) (s0_1 : Nat → Int) (s0_2 : Int) (s0_3 : Int) : Sh_barbicanlaw11_SockLedger_L2v1_L3v4 → List L1 → List Value
  | .c0 sb0_0 sb0_1, ls => [.bool false, .pointer (some ⟨(lget ls 0).n, 0, none⟩), (rowV (lget ls 9) g1_6 3), (rowV (lget ls 10) s0_0 1), .int .i64 (s0_2), .int .i64 (s0_3), .int .i64 (sb0_0), .int .i64 (sb0_1), .int .i64 (s0_3), (rowV (lget ls 9) g1_6 3), .int .i64 ((g1_6 : Int)), .bool true, ((lget ls 11).u 88), ((lget ls 11).u 89), (rowV (lget ls 9) g1_6 3), .int .i64 (s0_3), .pointer (some ⟨(lget ls 9).n, 0 + (s0_3).toNat * 3, none⟩), .pointer (some ⟨(lget ls 9).n, 0 + (s0_3).toNat * 3, none⟩), .bool true, .bool false, ((lget ls 11).u 96), ((lget ls 11).u 97), ((lget ls 11).u 98), ((lget ls 11).u 99), ((lget ls 11).u 100), ((lget ls 11).u 101), ((lget ls 11).u 102), ((lget ls 11).u 103), ((lget ls 11).u 104), ((lget ls 11).u 105), ((lget ls 11).u 106), ((lget ls 11).u 107), ((lget ls 11).u 108), ((lget ls 11).u 109), ((lget ls 11).u 110), ((lget ls 11).u 111), ((lget ls 11).u 112), ((lget ls 11).u 130), ((lget ls 11).u 131), ((lget ls 11).u 132), ((lget ls 11).u 133), ((lget ls 11).u 134), ((lget ls 11).u 135), ((lget ls 11).u 136), ((lget ls 11).u 137), ((lget ls 11).u 138), ((lget ls 11).u 139), ((lget ls 11).u 140), ((lget ls 4).u 141), ((lget ls 4).u 142), ((lget ls 4).u 143), ((lget ls 4).u 144), ((lget ls 4).u 145), ((lget ls 4).u 146), ((lget ls 4).u 147), ((lget ls 4).u 148), ((lget ls 4).u 149)]
def mf_barbicanlaw11_SockLedger_L2v1_L3v4 : Sh_barbicanlaw11_SockLedger_L2v1_L3v4 → List (Nat × Nat)
  | .c0 _ _ => [(0, 4), (2, 4), (6, 68), (29, 17), (20, 0)]
noncomputable def fr_barbicanlaw11_SockLedger_L2v1_L3v4 (a0 : Option Addr) (p0 : Nat) (q0 : Nat) (n0 : Nat) (k0 : Nat) (A0 : Nat → Step) (y1 : Int) (g0_0 : Nat) (g0_1 : Nat → Int) (g0_2 : Nat) (g0_3 : Nat → Reference) (g0_4 : Int) (g0_5 : Nat) (g0_6 : Nat → Event) (g1_0 : Nat) (g1_1 : Nat → Int) (g1_2 : Nat) (g1_3 : Nat → Reference) (g1_4 : Int) (g1_5 : Int) (g1_6 : Nat) (g1_7 : Nat → Event) (s0_0 : Nat) (s0_1 : Nat → Int) (s0_2 : Int) (s0_3 : Int) (s : Sh_barbicanlaw11_SockLedger_L2v1_L3v4) : List L1 → List Value := mrgF (mf_barbicanlaw11_SockLedger_L2v1_L3v4 s) (fl_barbicanlaw11_SockLedger_L2v1_L3v4 a0 p0 q0 n0 k0 A0 y1 g0_0 g0_1 g0_2 g0_3 g0_4 g0_5 g0_6 g1_0 g1_1 g1_2 g1_3 g1_4 g1_5 g1_6 g1_7 s0_0 s0_1 s0_2 s0_3 s) 12
def Hs_barbicanlaw11_SockLedger_L2v1_L3v4 (a0 : Option Addr) (p0 : Nat) (q0 : Nat) (n0 : Nat) (k0 : Nat) (A0 : Nat → Step) (y1 : Int) (g0_0 : Nat) (g0_1 : Nat → Int) (g0_2 : Nat) (g0_3 : Nat → Reference) (g0_4 : Int) (g0_5 : Nat) (g0_6 : Nat → Event) (g1_0 : Nat) (g1_1 : Nat → Int) (g1_2 : Nat) (g1_3 : Nat → Reference) (g1_4 : Int) (g1_5 : Int) (g1_6 : Nat) (g1_7 : Nat → Event) (s0_0 : Nat) (s0_1 : Nat → Int) (s0_2 : Int) (s0_3 : Int) : Sh_barbicanlaw11_SockLedger_L2v1_L3v4 → List L1 → List Obj
  | .c0 sb0_0 sb0_1, ls => [.cells #[(rowV (lget ls 5) g1_0 1), (rowV (lget ls 6) g1_2 2), .int .i64 (g1_4), .int .i64 (g1_5), (rowV (lget ls 7) g1_6 3)] 78, unb, unb, unb, unb, rowO (lget ls 5) (esG cZ g1_0 g1_1) 3 g1_0 1, rowO (lget ls 6) (esG c_Reference g1_2 g1_3) 82 g1_2 2, rowO (lget ls 7) (esG c_Event g1_6 g1_7) 63 g1_6 3, unb, rowO (lget ls 9) (esG c_Event g1_6 g1_7) 63 g1_6 3, rowO (lget ls 10) (esG cZ s0_0 s0_1) 3 s0_0 1, unb, unb]
def vl_barbicanlaw11_SockLedger_L2v1_L3v4 (a0 : Option Addr) (p0 : Nat) (q0 : Nat) (n0 : Nat) (k0 : Nat) (A0 : Nat → Step) (y1 : Int) (g0_0 : Nat) (g0_1 : Nat → Int) (g0_2 : Nat) (g0_3 : Nat → Reference) (g0_4 : Int) (g0_5 : Nat) (g0_6 : Nat → Event) (g1_0 : Nat) (g1_1 : Nat → Int) (g1_2 : Nat) (g1_3 : Nat → Reference) (g1_4 : Int) (g1_5 : Int) (g1_6 : Nat) (g1_7 : Nat → Event) (s0_0 : Nat) (s0_1 : Nat → Int) (s0_2 : Int) (s0_3 : Int) : Ex_barbicanlaw11_SockLedger_L2v1_L3v4 → List L1 → List Value
  | .e0 c0_0 c0_1 c0_2 c0_3, ls => [.bool false, .pointer (some ⟨(lget ls 0).n, 0, none⟩), (rowV (lget ls 9) g1_6 3), (rowV (lget ls 10) s0_0 1), .int .i64 (s0_2), .int .i64 (s0_3), .int .i64 (c0_0), .int .i64 (c0_1), .int .i64 (s0_3), (rowV (lget ls 9) g1_6 3), .int .i64 ((g1_6 : Int)), .bool true, ((lget ls 11).u 88), ((lget ls 11).u 89), (rowV (lget ls 9) g1_6 3), .int .i64 (s0_3), .pointer (some ⟨(lget ls 9).n, 0 + (s0_3).toNat * 3, none⟩), .pointer (some ⟨(lget ls 9).n, 0 + (s0_3).toNat * 3, none⟩), .bool true, .bool false, ((lget ls 11).u 96), ((lget ls 11).u 97), ((lget ls 11).u 98), ((lget ls 11).u 99), ((lget ls 11).u 100), ((lget ls 11).u 101), ((lget ls 11).u 102), ((lget ls 11).u 103), ((lget ls 11).u 104), ((lget ls 11).u 105), ((lget ls 11).u 106), ((lget ls 11).u 107), ((lget ls 11).u 108), ((lget ls 11).u 109), ((lget ls 11).u 110), ((lget ls 11).u 111), ((lget ls 11).u 112), .int .i64 (c0_2), (rowV (lget ls 10) s0_0 1), .int .i64 (c0_3), .bool false, ((lget ls 11).u 130), ((lget ls 11).u 131), ((lget ls 11).u 132), ((lget ls 11).u 133), ((lget ls 11).u 134), ((lget ls 11).u 135), ((lget ls 11).u 136), ((lget ls 11).u 137), ((lget ls 11).u 138), ((lget ls 11).u 139), ((lget ls 11).u 140), ((lget ls 4).u 141), ((lget ls 4).u 142), ((lget ls 4).u 143), ((lget ls 4).u 144), ((lget ls 4).u 145), ((lget ls 4).u 146), ((lget ls 4).u 147), ((lget ls 4).u 148), ((lget ls 4).u 149)]
def mk_barbicanlaw11_SockLedger_L2v1_L3v4 : Ex_barbicanlaw11_SockLedger_L2v1_L3v4 → List (Nat × Nat)
  | .e0 _ _ _ _ => [(0, 4), (2, 4), (6, 68), (33, 13), (20, 0)]
noncomputable def vf_barbicanlaw11_SockLedger_L2v1_L3v4 (a0 : Option Addr) (p0 : Nat) (q0 : Nat) (n0 : Nat) (k0 : Nat) (A0 : Nat → Step) (y1 : Int) (g0_0 : Nat) (g0_1 : Nat → Int) (g0_2 : Nat) (g0_3 : Nat → Reference) (g0_4 : Int) (g0_5 : Nat) (g0_6 : Nat → Event) (g1_0 : Nat) (g1_1 : Nat → Int) (g1_2 : Nat) (g1_3 : Nat → Reference) (g1_4 : Int) (g1_5 : Int) (g1_6 : Nat) (g1_7 : Nat → Event) (s0_0 : Nat) (s0_1 : Nat → Int) (s0_2 : Int) (s0_3 : Int) (r : Ex_barbicanlaw11_SockLedger_L2v1_L3v4) : List L1 → List Value := mrgF (mk_barbicanlaw11_SockLedger_L2v1_L3v4 r) (vl_barbicanlaw11_SockLedger_L2v1_L3v4 a0 p0 q0 n0 k0 A0 y1 g0_0 g0_1 g0_2 g0_3 g0_4 g0_5 g0_6 g1_0 g1_1 g1_2 g1_3 g1_4 g1_5 g1_6 g1_7 s0_0 s0_1 s0_2 s0_3 r) 12
def Hf_barbicanlaw11_SockLedger_L2v1_L3v4 (a0 : Option Addr) (p0 : Nat) (q0 : Nat) (n0 : Nat) (k0 : Nat) (A0 : Nat → Step) (y1 : Int) (g0_0 : Nat) (g0_1 : Nat → Int) (g0_2 : Nat) (g0_3 : Nat → Reference) (g0_4 : Int) (g0_5 : Nat) (g0_6 : Nat → Event) (g1_0 : Nat) (g1_1 : Nat → Int) (g1_2 : Nat) (g1_3 : Nat → Reference) (g1_4 : Int) (g1_5 : Int) (g1_6 : Nat) (g1_7 : Nat → Event) (s0_0 : Nat) (s0_1 : Nat → Int) (s0_2 : Int) (s0_3 : Int) : Ex_barbicanlaw11_SockLedger_L2v1_L3v4 → List L1 → List Obj
  | .e0 c0_0 c0_1 c0_2 c0_3, ls => [.cells #[(rowV (lget ls 5) g1_0 1), (rowV (lget ls 6) g1_2 2), .int .i64 (g1_4), .int .i64 (g1_5), (rowV (lget ls 7) g1_6 3)] 78, unb, unb, unb, unb, rowO (lget ls 5) (esG cZ g1_0 g1_1) 3 g1_0 1, rowO (lget ls 6) (esG c_Reference g1_2 g1_3) 82 g1_2 2, rowO (lget ls 7) (esG c_Event g1_6 g1_7) 63 g1_6 3, unb, rowO (lget ls 9) (esG c_Event g1_6 g1_7) 63 g1_6 3, rowO (lget ls 10) (esG cZ s0_0 s0_1) 3 s0_0 1, unb, unb]
def ex_barbicanlaw11_SockLedger_L2v1_L3v4 : Ex_barbicanlaw11_SockLedger_L2v1_L3v4 → Ex
  | .e0 _ _ _ _ => (.exit 6)
theorem go_barbicanlaw11_SockLedger_L2v1_L3v4 (g1_0 : Nat) (g1_1 : Nat → Int) (g1_2 : Nat) (g1_3 : Nat → Reference) (g1_4 : Int) (g1_5 : Int) (g1_6 : Nat) (g1_7 : Nat → Event) (s0_0 : Nat) (s0_1 : Nat → Int) (s0_2 : Int) (s0_3 : Int) (s : Sh_barbicanlaw11_SockLedger_L2v1_L3v4) (r : Ex_barbicanlaw11_SockLedger_L2v1_L3v4) (h : lpO (st_barbicanlaw11_SockLedger_L2v1_L3v4 g1_6 g1_7 s0_0 s0_1 s0_3) s = some r) : GoesG Try.prog M B0 S (.loop bd_barbicanlaw11_SockLedger_L2v1_L3v4) 13 (fr_barbicanlaw11_SockLedger_L2v1_L3v4 a0 p0 q0 n0 k0 A0 y1 g0_0 g0_1 g0_2 g0_3 g0_4 g0_5 g0_6 g1_0 g1_1 g1_2 g1_3 g1_4 g1_5 g1_6 g1_7 s0_0 s0_1 s0_2 s0_3 s) (Hs_barbicanlaw11_SockLedger_L2v1_L3v4 a0 p0 q0 n0 k0 A0 y1 g0_0 g0_1 g0_2 g0_3 g0_4 g0_5 g0_6 g1_0 g1_1 g1_2 g1_3 g1_4 g1_5 g1_6 g1_7 s0_0 s0_1 s0_2 s0_3 s) (ex_barbicanlaw11_SockLedger_L2v1_L3v4 r) 12 (vf_barbicanlaw11_SockLedger_L2v1_L3v4 a0 p0 q0 n0 k0 A0 y1 g0_0 g0_1 g0_2 g0_3 g0_4 g0_5 g0_6 g1_0 g1_1 g1_2 g1_3 g1_4 g1_5 g1_6 g1_7 s0_0 s0_1 s0_2 s0_3 r) (Hf_barbicanlaw11_SockLedger_L2v1_L3v4 a0 p0 q0 n0 k0 A0 y1 g0_0 g0_1 g0_2 g0_3 g0_4 g0_5 g0_6 g1_0 g1_1 g1_2 g1_3 g1_4 g1_5 g1_6 g1_7 s0_0 s0_1 s0_2 s0_3 r) 13 :=
  goes_lpO (fun s q e => by
    cases s with
    | c0 sb0_0 sb0_1 =>
      unfold st_barbicanlaw11_SockLedger_L2v1_L3v4 at e
      dsimp only at e
      replace e := cond_eq_or e
      rcases e with ⟨hq0, e⟩ | ⟨hq0, e⟩
      · replace e := cond_eq_or e
        rcases e with ⟨hq1, e⟩ | ⟨hq1, e⟩
        · replace e := cond_eq_or e
          rcases e with ⟨hq2, e⟩ | ⟨hq2, e⟩
          · replace e := cond_eq_or e
            rcases e with ⟨hq3, e⟩ | ⟨hq3, e⟩
            · cases e; exact goes_runM hU [.o, .o, .o, .b (z_lssT hq0), .r [0, 1, 2, 3, 4, 5, 6, 7, 8, 9] [] [], .o, .o, .q (ixM_ok (kd := .i64) (T := 56) (x := sb0_1) (N := s0_0) (sz := 1) rfl (fun w => by kernel_rfl) hq1), .l (accG (i := 10) (f := cZ) (A := s0_1) (k := (sb0_1).toNat) 0 [.int .i64 ((s0_1 (sb0_1).toNat))] cZ_len (inR_nat hq1) rfl), .o, .o, .q (ixM_ok (kd := .i64) (T := 37) (x := s0_3) (N := g1_6) (sz := 3) rfl (fun w => by kernel_rfl) hq2), .o, .l (accG (i := 9) (f := c_Event) (A := g1_7) (k := (s0_3).toNat) 1 [.int .i64 (((g1_7 (s0_3).toNat)).fId)] c_Event_len (inR_nat hq2) rfl), .b (z_eqlT hq3), .o, .o, .o, .o, .o] [0, 1, 2, 3, 4, 5, 6, 7, 8, 9, 10, 11] (fun b => rfl) (by decide) rfl rfl (fun b => by kernel_rfl)
            · cases e; exact goes_runM hU [.o, .o, .o, .b (z_lssT hq0), .r [0, 1, 2, 3, 4, 5, 6, 7, 8, 9] [] [], .o, .o, .q (ixM_ok (kd := .i64) (T := 56) (x := sb0_1) (N := s0_0) (sz := 1) rfl (fun w => by kernel_rfl) hq1), .l (accG (i := 10) (f := cZ) (A := s0_1) (k := (sb0_1).toNat) 0 [.int .i64 ((s0_1 (sb0_1).toNat))] cZ_len (inR_nat hq1) rfl), .o, .o, .q (ixM_ok (kd := .i64) (T := 37) (x := s0_3) (N := g1_6) (sz := 3) rfl (fun w => by kernel_rfl) hq2), .o, .l (accG (i := 9) (f := c_Event) (A := g1_7) (k := (s0_3).toNat) 1 [.int .i64 (((g1_7 (s0_3).toNat)).fId)] c_Event_len (inR_nat hq2) rfl), .b (z_eqlF hq3), .o, .o, .o] [0, 1, 2, 3, 4, 5, 6, 7, 8, 9, 10, 11] (fun b => rfl) (by decide) rfl rfl (fun b => by kernel_rfl)
          · exact none_some e
        · exact none_some e
      · cases e; exact ⟨ne_exit 6, goes_runM hU [.o, .o, .o, .b (z_lssF hq0)] [0, 1, 2, 3, 4, 5, 6, 7, 8, 9, 10, 11] (fun b => rfl) (by decide) rfl rfl (fun b => by kernel_rfl)⟩) s r h
noncomputable def t0_barbicanlaw11_SockLedger_L2v1_L3v4_0 (a0 : Option Addr) (p0 : Nat) (q0 : Nat) (n0 : Nat) (k0 : Nat) (A0 : Nat → Step) (y1 : Int) (g0_0 : Nat) (g0_1 : Nat → Int) (g0_2 : Nat) (g0_3 : Nat → Reference) (g0_4 : Int) (g0_5 : Nat) (g0_6 : Nat → Event) (g1_0 : Nat) (g1_1 : Nat → Int) (g1_2 : Nat) (g1_3 : Nat → Reference) (g1_4 : Int) (g1_5 : Int) (g1_6 : Nat) (g1_7 : Nat → Event) (s0_0 : Nat) (s0_1 : Nat → Int) (s0_2 : Int) (s0_3 : Int) (sb0_0 : Int) (sb0_1 : Int) (ls : List L1) : List Value := List.append (jks (lget ls 11).u 0 4) (List.append [.bool false, .pointer (some ⟨(lget ls 0).n, 0, none⟩)] (List.append (jks (lget ls 11).u 6 4) (List.append [(rowV (lget ls 9) g1_6 3), (rowV (lget ls 10) s0_0 1), .int .i64 (s0_2), .int .i64 (s0_3), .int .i64 (sb0_0), .int .i64 (sb0_1)] (List.append (jks (lget ls 11).u 16 68) (List.append [.int .i64 (s0_3), (rowV (lget ls 9) g1_6 3), .int .i64 ((g1_6 : Int)), .bool true, ((lget ls 11).u 88), ((lget ls 11).u 89), (rowV (lget ls 9) g1_6 3), .int .i64 (s0_3), .pointer (some ⟨(lget ls 9).n, 0 + (s0_3).toNat * 3, none⟩), .pointer (some ⟨(lget ls 9).n, 0 + (s0_3).toNat * 3, none⟩), .bool true, .bool false] (List.append (jks (lget ls 11).u 96 45) (jks (lget ls 4).u 141 9)))))))
def pre_barbicanlaw11_SockLedger_L2v1_L3v4_0 (a0 : Option Addr) (p0 : Nat) (q0 : Nat) (n0 : Nat) (k0 : Nat) (A0 : Nat → Step) (y1 : Int) (g0_0 : Nat) (g0_1 : Nat → Int) (g0_2 : Nat) (g0_3 : Nat → Reference) (g0_4 : Int) (g0_5 : Nat) (g0_6 : Nat → Event) (g1_0 : Nat) (g1_1 : Nat → Int) (g1_2 : Nat) (g1_3 : Nat → Reference) (g1_4 : Int) (g1_5 : Int) (g1_6 : Nat) (g1_7 : Nat → Event) (s0_0 : Nat) (s0_1 : Nat → Int) (s0_2 : Int) (s0_3 : Int) (sb0_0 : Int) (sb0_1 : Int) (ls : List L1) : List Obj := [.cells #[(rowV (lget ls 5) g1_0 1), (rowV (lget ls 6) g1_2 2), .int .i64 (g1_4), .int .i64 (g1_5), (rowV (lget ls 7) g1_6 3)] 78, unb, unb, unb, unb, rowO (lget ls 5) (esG cZ g1_0 g1_1) 3 g1_0 1, rowO (lget ls 6) (esG c_Reference g1_2 g1_3) 82 g1_2 2, rowO (lget ls 7) (esG c_Event g1_6 g1_7) 63 g1_6 3, unb, rowO (lget ls 9) (esG c_Event g1_6 g1_7) 63 g1_6 3, rowO (lget ls 10) (esG cZ s0_0 s0_1) 3 s0_0 1, unb]
theorem sp0_barbicanlaw11_SockLedger_L2v1_L3v4_0_ok (g1_0 : Nat) (g1_1 : Nat → Int) (g1_2 : Nat) (g1_3 : Nat → Reference) (g1_4 : Int) (g1_5 : Int) (g1_6 : Nat) (g1_7 : Nat → Event) (s0_0 : Nat) (s0_1 : Nat → Int) (s0_2 : Int) (s0_3 : Int) (sb0_0 : Int) (sb0_1 : Int) (c0_0 : Int) (c0_1 : Int) (c0_2 : Int) (c0_3 : Int) (h : lpO (st_barbicanlaw11_SockLedger_L2v1_L3v4 g1_6 g1_7 s0_0 s0_1 s0_3) (.c0 sb0_0 sb0_1) = some (.e0 c0_0 c0_1 c0_2 c0_3)) : SpcG Try.prog M B0 S ⟨fun ls => .code (.loop bd_barbicanlaw11_SockLedger_L2v1_L3v4) (t0_barbicanlaw11_SockLedger_L2v1_L3v4_0 a0 p0 q0 n0 k0 A0 y1 g0_0 g0_1 g0_2 g0_3 g0_4 g0_5 g0_6 g1_0 g1_1 g1_2 g1_3 g1_4 g1_5 g1_6 g1_7 s0_0 s0_1 s0_2 s0_3 sb0_0 sb0_1 ls), pre_barbicanlaw11_SockLedger_L2v1_L3v4_0 a0 p0 q0 n0 k0 A0 y1 g0_0 g0_1 g0_2 g0_3 g0_4 g0_5 g0_6 g1_0 g1_1 g1_2 g1_3 g1_4 g1_5 g1_6 g1_7 s0_0 s0_1 s0_2 s0_3 sb0_0 sb0_1, 1, (.exit 6), fun ls => vf_barbicanlaw11_SockLedger_L2v1_L3v4 a0 p0 q0 n0 k0 A0 y1 g0_0 g0_1 g0_2 g0_3 g0_4 g0_5 g0_6 g1_0 g1_1 g1_2 g1_3 g1_4 g1_5 g1_6 g1_7 s0_0 s0_1 s0_2 s0_3 (.e0 c0_0 c0_1 c0_2 c0_3) (ls.take 12 ++ ls.drop 12), fun ls => (Hf_barbicanlaw11_SockLedger_L2v1_L3v4 a0 p0 q0 n0 k0 A0 y1 g0_0 g0_1 g0_2 g0_3 g0_4 g0_5 g0_6 g1_0 g1_1 g1_2 g1_3 g1_4 g1_5 g1_6 g1_7 s0_0 s0_1 s0_2 s0_3 (.e0 c0_0 c0_1 c0_2 c0_3) (ls.take 12 ++ ls.drop 12)).take 12 ++ List.replicate 0 unb, fun ls => (Hf_barbicanlaw11_SockLedger_L2v1_L3v4 a0 p0 q0 n0 k0 A0 y1 g0_0 g0_1 g0_2 g0_3 g0_4 g0_5 g0_6 g1_0 g1_1 g1_2 g1_3 g1_4 g1_5 g1_6 g1_7 s0_0 s0_1 s0_2 s0_3 (.e0 c0_0 c0_1 c0_2 c0_3) (ls.take 12 ++ ls.drop 12)).drop 12⟩ :=
  spc_of_goesM hU 0 (k0 := 12) (go_barbicanlaw11_SockLedger_L2v1_L3v4 hU a0 p0 q0 n0 k0 A0 hR0 y1 g0_0 g0_1 g0_2 g0_3 g0_4 g0_5 g0_6 g1_0 g1_1 g1_2 g1_3 g1_4 g1_5 g1_6 g1_7 s0_0 s0_1 s0_2 s0_3 _ _ h) (t0_barbicanlaw11_SockLedger_L2v1_L3v4_0 a0 p0 q0 n0 k0 A0 y1 g0_0 g0_1 g0_2 g0_3 g0_4 g0_5 g0_6 g1_0 g1_1 g1_2 g1_3 g1_4 g1_5 g1_6 g1_7 s0_0 s0_1 s0_2 s0_3 sb0_0 sb0_1) (pre_barbicanlaw11_SockLedger_L2v1_L3v4_0 a0 p0 q0 n0 k0 A0 y1 g0_0 g0_1 g0_2 g0_3 g0_4 g0_5 g0_6 g1_0 g1_1 g1_2 g1_3 g1_4 g1_5 g1_6 g1_7 s0_0 s0_1 s0_2 s0_3 sb0_0 sb0_1) (fun _ => rfl) (fun ls h => by match ls, h with | [l0, l1, l2, l3, l4, l5, l6, l7, l8, l9, l10, l11], _ => exact ⟨by kernel_rfl, by kernel_rfl⟩) (fun ls h => by match ls, h with | [l0, l1, l2, l3, l4, l5, l6, l7, l8, l9, l10, l11], _ => rfl) (by decide) (by decide) (fun ls => rfl)
inductive Sh_barbicanlaw11_SockLedger_L2v1_L3v5 where
  | c0 (sb0_0 : Int) (sb0_1 : Int)
inductive Ex_barbicanlaw11_SockLedger_L2v1_L3v5 where
  | e0 (c0_0 : Int) (c0_1 : Int) (c0_2 : Int) (c0_3 : Int)
noncomputable def st_barbicanlaw11_SockLedger_L2v1_L3v5 (g1_6 : Nat) (g1_7 : Nat → Event) (s0_0 : Nat) (s0_1 : Nat → Int) (s0_3 : Int) : Sh_barbicanlaw11_SockLedger_L2v1_L3v5 → Option (Sh_barbicanlaw11_SockLedger_L2v1_L3v5 ⊕ Ex_barbicanlaw11_SockLedger_L2v1_L3v5)
  | .c0 sb0_0 sb0_1 =>
    bif decide (sb0_1 < (s0_0 : Int)) then
      (bif inR sb0_1 s0_0 then
        (bif inR s0_3 g1_6 then
          (bif (s0_1 (sb0_1).toNat) == ((g1_7 (s0_3).toNat)).fId then
            (some (.inl (.c0 sb0_1 (IntKind.i64.wrap (sb0_1 + 1)))))
          else (some (.inl (.c0 sb0_0 (IntKind.i64.wrap (sb0_1 + 1))))))
        else (none))
      else (none))
    else (some (.inr (.e0 sb0_0 sb0_1 sb0_1 (s0_0 : Int))))
noncomputable def bd_barbicanlaw11_SockLedger_L2v1_L3v5 : Code := codeOf Try.f4 [1, 1, 1, 1, 1, 1, 1, 1, 1, 0, 1, 0, 0, 1, 0, 0, 1, 1, 0, 1, 0, 0]
def fl_barbicanlaw11_SockLedger_L2v1_L3v5 (a0 : Option Addr) (p0 : Nat) (q0 : Nat) (n0 : Nat) (k0 : Nat) (A0 : Nat → Step) (y1 : Int) (g0_0 : Nat) (g0_1 : Nat → Int) (g0_2 : Nat) (g0_3 : Nat → Reference) (g0_4 : Int) (g0_5 : Nat) (g0_6 : Nat → Event) (g1_0 : Nat) (g1_1 : Nat → Int) (g1_2 : Nat) (g1_3 : Nat → Reference) (g1_4 : Int) (g1_5 : Int) (g1_6 : Nat) (g1_7 : Nat → Event) (s0_0 : Nat) (s0_1 : Nat → Int) (s0_2 : Int) (s0_3 : Int) : Sh_barbicanlaw11_SockLedger_L2v1_L3v5 → List L1 → List Value
  | .c0 sb0_0 sb0_1, ls => [.bool false, .pointer (some ⟨(lget ls 0).n, 0, none⟩), (rowV (lget ls 9) g1_6 3), (rowCV .cap (lget ls 10) s0_0 1), .int .i64 (s0_2), .int .i64 (s0_3), .int .i64 (sb0_0), .int .i64 (sb0_1), .int .i64 (s0_3), (rowV (lget ls 9) g1_6 3), .int .i64 ((g1_6 : Int)), .bool true, ((lget ls 11).u 88), ((lget ls 11).u 89), (rowV (lget ls 9) g1_6 3), .int .i64 (s0_3), .pointer (some ⟨(lget ls 9).n, 0 + (s0_3).toNat * 3, none⟩), .pointer (some ⟨(lget ls 9).n, 0 + (s0_3).toNat * 3, none⟩), .bool true, .bool false, ((lget ls 11).u 96), ((lget ls 11).u 97), ((lget ls 11).u 98), ((lget ls 11).u 99), ((lget ls 11).u 100), ((lget ls 11).u 101), ((lget ls 11).u 102), ((lget ls 11).u 103), ((lget ls 11).u 104), ((lget ls 11).u 105), ((lget ls 11).u 106), ((lget ls 11).u 107), ((lget ls 11).u 108), ((lget ls 11).u 109), ((lget ls 11).u 110), ((lget ls 11).u 111), ((lget ls 11).u 112), ((lget ls 11).u 130), ((lget ls 11).u 131), ((lget ls 11).u 132), ((lget ls 11).u 133), ((lget ls 11).u 134), ((lget ls 11).u 135), ((lget ls 11).u 136), ((lget ls 11).u 137), ((lget ls 11).u 138), ((lget ls 11).u 139), ((lget ls 11).u 140), ((lget ls 4).u 141), ((lget ls 4).u 142), ((lget ls 4).u 143), ((lget ls 4).u 144), ((lget ls 4).u 145), ((lget ls 4).u 146), ((lget ls 4).u 147), ((lget ls 4).u 148), ((lget ls 4).u 149)]
def mf_barbicanlaw11_SockLedger_L2v1_L3v5 : Sh_barbicanlaw11_SockLedger_L2v1_L3v5 → List (Nat × Nat)
  | .c0 _ _ => [(0, 4), (2, 4), (6, 68), (29, 17), (20, 0)]
noncomputable def fr_barbicanlaw11_SockLedger_L2v1_L3v5 (a0 : Option Addr) (p0 : Nat) (q0 : Nat) (n0 : Nat) (k0 : Nat) (A0 : Nat → Step) (y1 : Int) (g0_0 : Nat) (g0_1 : Nat → Int) (g0_2 : Nat) (g0_3 : Nat → Reference) (g0_4 : Int) (g0_5 : Nat) (g0_6 : Nat → Event) (g1_0 : Nat) (g1_1 : Nat → Int) (g1_2 : Nat) (g1_3 : Nat → Reference) (g1_4 : Int) (g1_5 : Int) (g1_6 : Nat) (g1_7 : Nat → Event) (s0_0 : Nat) (s0_1 : Nat → Int) (s0_2 : Int) (s0_3 : Int) (s : Sh_barbicanlaw11_SockLedger_L2v1_L3v5) : List L1 → List Value := mrgF (mf_barbicanlaw11_SockLedger_L2v1_L3v5 s) (fl_barbicanlaw11_SockLedger_L2v1_L3v5 a0 p0 q0 n0 k0 A0 y1 g0_0 g0_1 g0_2 g0_3 g0_4 g0_5 g0_6 g1_0 g1_1 g1_2 g1_3 g1_4 g1_5 g1_6 g1_7 s0_0 s0_1 s0_2 s0_3 s) 12
def Hs_barbicanlaw11_SockLedger_L2v1_L3v5 (a0 : Option Addr) (p0 : Nat) (q0 : Nat) (n0 : Nat) (k0 : Nat) (A0 : Nat → Step) (y1 : Int) (g0_0 : Nat) (g0_1 : Nat → Int) (g0_2 : Nat) (g0_3 : Nat → Reference) (g0_4 : Int) (g0_5 : Nat) (g0_6 : Nat → Event) (g1_0 : Nat) (g1_1 : Nat → Int) (g1_2 : Nat) (g1_3 : Nat → Reference) (g1_4 : Int) (g1_5 : Int) (g1_6 : Nat) (g1_7 : Nat → Event) (s0_0 : Nat) (s0_1 : Nat → Int) (s0_2 : Int) (s0_3 : Int) : Sh_barbicanlaw11_SockLedger_L2v1_L3v5 → List L1 → List Obj
  | .c0 sb0_0 sb0_1, ls => [.cells #[(rowV (lget ls 5) g1_0 1), (rowV (lget ls 6) g1_2 2), .int .i64 (g1_4), .int .i64 (g1_5), (rowV (lget ls 7) g1_6 3)] 78, unb, unb, unb, unb, rowO (lget ls 5) (esG cZ g1_0 g1_1) 3 g1_0 1, rowO (lget ls 6) (esG c_Reference g1_2 g1_3) 82 g1_2 2, rowO (lget ls 7) (esG c_Event g1_6 g1_7) 63 g1_6 3, unb, rowO (lget ls 9) (esG c_Event g1_6 g1_7) 63 g1_6 3, rowC .cap (lget ls 10) (esG cZ s0_0 s0_1) 3 s0_0 1, unb, unb]
def vl_barbicanlaw11_SockLedger_L2v1_L3v5 (a0 : Option Addr) (p0 : Nat) (q0 : Nat) (n0 : Nat) (k0 : Nat) (A0 : Nat → Step) (y1 : Int) (g0_0 : Nat) (g0_1 : Nat → Int) (g0_2 : Nat) (g0_3 : Nat → Reference) (g0_4 : Int) (g0_5 : Nat) (g0_6 : Nat → Event) (g1_0 : Nat) (g1_1 : Nat → Int) (g1_2 : Nat) (g1_3 : Nat → Reference) (g1_4 : Int) (g1_5 : Int) (g1_6 : Nat) (g1_7 : Nat → Event) (s0_0 : Nat) (s0_1 : Nat → Int) (s0_2 : Int) (s0_3 : Int) : Ex_barbicanlaw11_SockLedger_L2v1_L3v5 → List L1 → List Value
  | .e0 c0_0 c0_1 c0_2 c0_3, ls => [.bool false, .pointer (some ⟨(lget ls 0).n, 0, none⟩), (rowV (lget ls 9) g1_6 3), (rowCV .cap (lget ls 10) s0_0 1), .int .i64 (s0_2), .int .i64 (s0_3), .int .i64 (c0_0), .int .i64 (c0_1), .int .i64 (s0_3), (rowV (lget ls 9) g1_6 3), .int .i64 ((g1_6 : Int)), .bool true, ((lget ls 11).u 88), ((lget ls 11).u 89), (rowV (lget ls 9) g1_6 3), .int .i64 (s0_3), .pointer (some ⟨(lget ls 9).n, 0 + (s0_3).toNat * 3, none⟩), .pointer (some ⟨(lget ls 9).n, 0 + (s0_3).toNat * 3, none⟩), .bool true, .bool false, ((lget ls 11).u 96), ((lget ls 11).u 97), ((lget ls 11).u 98), ((lget ls 11).u 99), ((lget ls 11).u 100), ((lget ls 11).u 101), ((lget ls 11).u 102), ((lget ls 11).u 103), ((lget ls 11).u 104), ((lget ls 11).u 105), ((lget ls 11).u 106), ((lget ls 11).u 107), ((lget ls 11).u 108), ((lget ls 11).u 109), ((lget ls 11).u 110), ((lget ls 11).u 111), ((lget ls 11).u 112), .int .i64 (c0_2), (rowCV .cap (lget ls 10) s0_0 1), .int .i64 (c0_3), .bool false, ((lget ls 11).u 130), ((lget ls 11).u 131), ((lget ls 11).u 132), ((lget ls 11).u 133), ((lget ls 11).u 134), ((lget ls 11).u 135), ((lget ls 11).u 136), ((lget ls 11).u 137), ((lget ls 11).u 138), ((lget ls 11).u 139), ((lget ls 11).u 140), ((lget ls 4).u 141), ((lget ls 4).u 142), ((lget ls 4).u 143), ((lget ls 4).u 144), ((lget ls 4).u 145), ((lget ls 4).u 146), ((lget ls 4).u 147), ((lget ls 4).u 148), ((lget ls 4).u 149)]
def mk_barbicanlaw11_SockLedger_L2v1_L3v5 : Ex_barbicanlaw11_SockLedger_L2v1_L3v5 → List (Nat × Nat)
  | .e0 _ _ _ _ => [(0, 4), (2, 4), (6, 68), (33, 13), (20, 0)]
noncomputable def vf_barbicanlaw11_SockLedger_L2v1_L3v5 (a0 : Option Addr) (p0 : Nat) (q0 : Nat) (n0 : Nat) (k0 : Nat) (A0 : Nat → Step) (y1 : Int) (g0_0 : Nat) (g0_1 : Nat → Int) (g0_2 : Nat) (g0_3 : Nat → Reference) (g0_4 : Int) (g0_5 : Nat) (g0_6 : Nat → Event) (g1_0 : Nat) (g1_1 : Nat → Int) (g1_2 : Nat) (g1_3 : Nat → Reference) (g1_4 : Int) (g1_5 : Int) (g1_6 : Nat) (g1_7 : Nat → Event) (s0_0 : Nat) (s0_1 : Nat → Int) (s0_2 : Int) (s0_3 : Int) (r : Ex_barbicanlaw11_SockLedger_L2v1_L3v5) : List L1 → List Value := mrgF (mk_barbicanlaw11_SockLedger_L2v1_L3v5 r) (vl_barbicanlaw11_SockLedger_L2v1_L3v5 a0 p0 q0 n0 k0 A0 y1 g0_0 g0_1 g0_2 g0_3 g0_4 g0_5 g0_6 g1_0 g1_1 g1_2 g1_3 g1_4 g1_5 g1_6 g1_7 s0_0 s0_1 s0_2 s0_3 r) 12
def Hf_barbicanlaw11_SockLedger_L2v1_L3v5 (a0 : Option Addr) (p0 : Nat) (q0 : Nat) (n0 : Nat) (k0 : Nat) (A0 : Nat → Step) (y1 : Int) (g0_0 : Nat) (g0_1 : Nat → Int) (g0_2 : Nat) (g0_3 : Nat → Reference) (g0_4 : Int) (g0_5 : Nat) (g0_6 : Nat → Event) (g1_0 : Nat) (g1_1 : Nat → Int) (g1_2 : Nat) (g1_3 : Nat → Reference) (g1_4 : Int) (g1_5 : Int) (g1_6 : Nat) (g1_7 : Nat → Event) (s0_0 : Nat) (s0_1 : Nat → Int) (s0_2 : Int) (s0_3 : Int) : Ex_barbicanlaw11_SockLedger_L2v1_L3v5 → List L1 → List Obj
  | .e0 c0_0 c0_1 c0_2 c0_3, ls => [.cells #[(rowV (lget ls 5) g1_0 1), (rowV (lget ls 6) g1_2 2), .int .i64 (g1_4), .int .i64 (g1_5), (rowV (lget ls 7) g1_6 3)] 78, unb, unb, unb, unb, rowO (lget ls 5) (esG cZ g1_0 g1_1) 3 g1_0 1, rowO (lget ls 6) (esG c_Reference g1_2 g1_3) 82 g1_2 2, rowO (lget ls 7) (esG c_Event g1_6 g1_7) 63 g1_6 3, unb, rowO (lget ls 9) (esG c_Event g1_6 g1_7) 63 g1_6 3, rowC .cap (lget ls 10) (esG cZ s0_0 s0_1) 3 s0_0 1, unb, unb]
def ex_barbicanlaw11_SockLedger_L2v1_L3v5 : Ex_barbicanlaw11_SockLedger_L2v1_L3v5 → Ex
  | .e0 _ _ _ _ => (.exit 6)
theorem go_barbicanlaw11_SockLedger_L2v1_L3v5 (g1_0 : Nat) (g1_1 : Nat → Int) (g1_2 : Nat) (g1_3 : Nat → Reference) (g1_4 : Int) (g1_5 : Int) (g1_6 : Nat) (g1_7 : Nat → Event) (s0_0 : Nat) (s0_1 : Nat → Int) (s0_2 : Int) (s0_3 : Int) (s : Sh_barbicanlaw11_SockLedger_L2v1_L3v5) (r : Ex_barbicanlaw11_SockLedger_L2v1_L3v5) (h : lpO (st_barbicanlaw11_SockLedger_L2v1_L3v5 g1_6 g1_7 s0_0 s0_1 s0_3) s = some r) : GoesG Try.prog M B0 S (.loop bd_barbicanlaw11_SockLedger_L2v1_L3v5) 13 (fr_barbicanlaw11_SockLedger_L2v1_L3v5 a0 p0 q0 n0 k0 A0 y1 g0_0 g0_1 g0_2 g0_3 g0_4 g0_5 g0_6 g1_0 g1_1 g1_2 g1_3 g1_4 g1_5 g1_6 g1_7 s0_0 s0_1 s0_2 s0_3 s) (Hs_barbicanlaw11_SockLedger_L2v1_L3v5 a0 p0 q0 n0 k0 A0 y1 g0_0 g0_1 g0_2 g0_3 g0_4 g0_5 g0_6 g1_0 g1_1 g1_2 g1_3 g1_4 g1_5 g1_6 g1_7 s0_0 s0_1 s0_2 s0_3 s) (ex_barbicanlaw11_SockLedger_L2v1_L3v5 r) 12 (vf_barbicanlaw11_SockLedger_L2v1_L3v5 a0 p0 q0 n0 k0 A0 y1 g0_0 g0_1 g0_2 g0_3 g0_4 g0_5 g0_6 g1_0 g1_1 g1_2 g1_3 g1_4 g1_5 g1_6 g1_7 s0_0 s0_1 s0_2 s0_3 r) (Hf_barbicanlaw11_SockLedger_L2v1_L3v5 a0 p0 q0 n0 k0 A0 y1 g0_0 g0_1 g0_2 g0_3 g0_4 g0_5 g0_6 g1_0 g1_1 g1_2 g1_3 g1_4 g1_5 g1_6 g1_7 s0_0 s0_1 s0_2 s0_3 r) 13 :=
  goes_lpO (fun s q e => by
    cases s with
    | c0 sb0_0 sb0_1 =>
      unfold st_barbicanlaw11_SockLedger_L2v1_L3v5 at e
      dsimp only at e
      replace e := cond_eq_or e
      rcases e with ⟨hq0, e⟩ | ⟨hq0, e⟩
      · replace e := cond_eq_or e
        rcases e with ⟨hq1, e⟩ | ⟨hq1, e⟩
        · replace e := cond_eq_or e
          rcases e with ⟨hq2, e⟩ | ⟨hq2, e⟩
          · replace e := cond_eq_or e
            rcases e with ⟨hq3, e⟩ | ⟨hq3, e⟩
            · cases e; exact goes_runM hU [.o, .o, .o, .b (z_lssT hq0), .r [0, 1, 2, 3, 4, 5, 6, 7, 8, 9] [] [], .o, .o, .q (ixM_ok (kd := .i64) (T := 56) (x := sb0_1) (N := s0_0) (sz := 1) rfl (fun w => by kernel_rfl) hq1), .l (accC (i := 10) (f := cZ) (A := s0_1) (k := (sb0_1).toNat) 0 [.int .i64 ((s0_1 (sb0_1).toNat))] cZ_len (inR_nat hq1) rfl), .o, .o, .q (ixM_ok (kd := .i64) (T := 37) (x := s0_3) (N := g1_6) (sz := 3) rfl (fun w => by kernel_rfl) hq2), .o, .l (accG (i := 9) (f := c_Event) (A := g1_7) (k := (s0_3).toNat) 1 [.int .i64 (((g1_7 (s0_3).toNat)).fId)] c_Event_len (inR_nat hq2) rfl), .b (z_eqlT hq3), .o, .o, .o, .o, .o] [0, 1, 2, 3, 4, 5, 6, 7, 8, 9, 10, 11] (fun b => rfl) (by decide) rfl rfl (fun b => by kernel_rfl)
            · cases e; exact goes_runM hU [.o, .o, .o, .b (z_lssT hq0), .r [0, 1, 2, 3, 4, 5, 6, 7, 8, 9] [] [], .o, .o, .q (ixM_ok (kd := .i64) (T := 56) (x := sb0_1) (N := s0_0) (sz := 1) rfl (fun w => by kernel_rfl) hq1), .l (accC (i := 10) (f := cZ) (A := s0_1) (k := (sb0_1).toNat) 0 [.int .i64 ((s0_1 (sb0_1).toNat))] cZ_len (inR_nat hq1) rfl), .o, .o, .q (ixM_ok (kd := .i64) (T := 37) (x := s0_3) (N := g1_6) (sz := 3) rfl (fun w => by kernel_rfl) hq2), .o, .l (accG (i := 9) (f := c_Event) (A := g1_7) (k := (s0_3).toNat) 1 [.int .i64 (((g1_7 (s0_3).toNat)).fId)] c_Event_len (inR_nat hq2) rfl), .b (z_eqlF hq3), .o, .o, .o] [0, 1, 2, 3, 4, 5, 6, 7, 8, 9, 10, 11] (fun b => rfl) (by decide) rfl rfl (fun b => by kernel_rfl)
          · exact none_some e
        · exact none_some e
      · cases e; exact ⟨ne_exit 6, goes_runM hU [.o, .o, .o, .b (z_lssF hq0)] [0, 1, 2, 3, 4, 5, 6, 7, 8, 9, 10, 11] (fun b => rfl) (by decide) rfl rfl (fun b => by kernel_rfl)⟩) s r h
noncomputable def t0_barbicanlaw11_SockLedger_L2v1_L3v5_0 (a0 : Option Addr) (p0 : Nat) (q0 : Nat) (n0 : Nat) (k0 : Nat) (A0 : Nat → Step) (y1 : Int) (g0_0 : Nat) (g0_1 : Nat → Int) (g0_2 : Nat) (g0_3 : Nat → Reference) (g0_4 : Int) (g0_5 : Nat) (g0_6 : Nat → Event) (g1_0 : Nat) (g1_1 : Nat → Int) (g1_2 : Nat) (g1_3 : Nat → Reference) (g1_4 : Int) (g1_5 : Int) (g1_6 : Nat) (g1_7 : Nat → Event) (s0_0 : Nat) (s0_1 : Nat → Int) (s0_2 : Int) (s0_3 : Int) (sb0_0 : Int) (sb0_1 : Int) (ls : List L1) : List Value := List.append (jks (lget ls 11).u 0 4) (List.append [.bool false, .pointer (some ⟨(lget ls 0).n, 0, none⟩)] (List.append (jks (lget ls 11).u 6 4) (List.append [(rowV (lget ls 9) g1_6 3), (rowCV .cap (lget ls 10) s0_0 1), .int .i64 (s0_2), .int .i64 (s0_3), .int .i64 (sb0_0), .int .i64 (sb0_1)] (List.append (jks (lget ls 11).u 16 68) (List.append [.int .i64 (s0_3), (rowV (lget ls 9) g1_6 3), .int .i64 ((g1_6 : Int)), .bool true, ((lget ls 11).u 88), ((lget ls 11).u 89), (rowV (lget ls 9) g1_6 3), .int .i64 (s0_3), .pointer (some ⟨(lget ls 9).n, 0 + (s0_3).toNat * 3, none⟩), .pointer (some ⟨(lget ls 9).n, 0 + (s0_3).toNat * 3, none⟩), .bool true, .bool false] (List.append (jks (lget ls 11).u 96 45) (jks (lget ls 4).u 141 9)))))))
def pre_barbicanlaw11_SockLedger_L2v1_L3v5_0 (a0 : Option Addr) (p0 : Nat) (q0 : Nat) (n0 : Nat) (k0 : Nat) (A0 : Nat → Step) (y1 : Int) (g0_0 : Nat) (g0_1 : Nat → Int) (g0_2 : Nat) (g0_3 : Nat → Reference) (g0_4 : Int) (g0_5 : Nat) (g0_6 : Nat → Event) (g1_0 : Nat) (g1_1 : Nat → Int) (g1_2 : Nat) (g1_3 : Nat → Reference) (g1_4 : Int) (g1_5 : Int) (g1_6 : Nat) (g1_7 : Nat → Event) (s0_0 : Nat) (s0_1 : Nat → Int) (s0_2 : Int) (s0_3 : Int) (sb0_0 : Int) (sb0_1 : Int) (ls : List L1) : List Obj := [.cells #[(rowV (lget ls 5) g1_0 1), (rowV (lget ls 6) g1_2 2), .int .i64 (g1_4), .int .i64 (g1_5), (rowV (lget ls 7) g1_6 3)] 78, unb, unb, unb, unb, rowO (lget ls 5) (esG cZ g1_0 g1_1) 3 g1_0 1, rowO (lget ls 6) (esG c_Reference g1_2 g1_3) 82 g1_2 2, rowO (lget ls 7) (esG c_Event g1_6 g1_7) 63 g1_6 3, unb, rowO (lget ls 9) (esG c_Event g1_6 g1_7) 63 g1_6 3, rowC .cap (lget ls 10) (esG cZ s0_0 s0_1) 3 s0_0 1, unb]
theorem sp0_barbicanlaw11_SockLedger_L2v1_L3v5_0_ok (g1_0 : Nat) (g1_1 : Nat → Int) (g1_2 : Nat) (g1_3 : Nat → Reference) (g1_4 : Int) (g1_5 : Int) (g1_6 : Nat) (g1_7 : Nat → Event) (s0_0 : Nat) (s0_1 : Nat → Int) (s0_2 : Int) (s0_3 : Int) (sb0_0 : Int) (sb0_1 : Int) (c0_0 : Int) (c0_1 : Int) (c0_2 : Int) (c0_3 : Int) (h : lpO (st_barbicanlaw11_SockLedger_L2v1_L3v5 g1_6 g1_7 s0_0 s0_1 s0_3) (.c0 sb0_0 sb0_1) = some (.e0 c0_0 c0_1 c0_2 c0_3)) : SpcG Try.prog M B0 S ⟨fun ls => .code (.loop bd_barbicanlaw11_SockLedger_L2v1_L3v5) (t0_barbicanlaw11_SockLedger_L2v1_L3v5_0 a0 p0 q0 n0 k0 A0 y1 g0_0 g0_1 g0_2 g0_3 g0_4 g0_5 g0_6 g1_0 g1_1 g1_2 g1_3 g1_4 g1_5 g1_6 g1_7 s0_0 s0_1 s0_2 s0_3 sb0_0 sb0_1 ls), pre_barbicanlaw11_SockLedger_L2v1_L3v5_0 a0 p0 q0 n0 k0 A0 y1 g0_0 g0_1 g0_2 g0_3 g0_4 g0_5 g0_6 g1_0 g1_1 g1_2 g1_3 g1_4 g1_5 g1_6 g1_7 s0_0 s0_1 s0_2 s0_3 sb0_0 sb0_1, 1, (.exit 6), fun ls => vf_barbicanlaw11_SockLedger_L2v1_L3v5 a0 p0 q0 n0 k0 A0 y1 g0_0 g0_1 g0_2 g0_3 g0_4 g0_5 g0_6 g1_0 g1_1 g1_2 g1_3 g1_4 g1_5 g1_6 g1_7 s0_0 s0_1 s0_2 s0_3 (.e0 c0_0 c0_1 c0_2 c0_3) (ls.take 12 ++ ls.drop 12), fun ls => (Hf_barbicanlaw11_SockLedger_L2v1_L3v5 a0 p0 q0 n0 k0 A0 y1 g0_0 g0_1 g0_2 g0_3 g0_4 g0_5 g0_6 g1_0 g1_1 g1_2 g1_3 g1_4 g1_5 g1_6 g1_7 s0_0 s0_1 s0_2 s0_3 (.e0 c0_0 c0_1 c0_2 c0_3) (ls.take 12 ++ ls.drop 12)).take 12 ++ List.replicate 0 unb, fun ls => (Hf_barbicanlaw11_SockLedger_L2v1_L3v5 a0 p0 q0 n0 k0 A0 y1 g0_0 g0_1 g0_2 g0_3 g0_4 g0_5 g0_6 g1_0 g1_1 g1_2 g1_3 g1_4 g1_5 g1_6 g1_7 s0_0 s0_1 s0_2 s0_3 (.e0 c0_0 c0_1 c0_2 c0_3) (ls.take 12 ++ ls.drop 12)).drop 12⟩ :=
  spc_of_goesM hU 0 (k0 := 12) (go_barbicanlaw11_SockLedger_L2v1_L3v5 hU a0 p0 q0 n0 k0 A0 hR0 y1 g0_0 g0_1 g0_2 g0_3 g0_4 g0_5 g0_6 g1_0 g1_1 g1_2 g1_3 g1_4 g1_5 g1_6 g1_7 s0_0 s0_1 s0_2 s0_3 _ _ h) (t0_barbicanlaw11_SockLedger_L2v1_L3v5_0 a0 p0 q0 n0 k0 A0 y1 g0_0 g0_1 g0_2 g0_3 g0_4 g0_5 g0_6 g1_0 g1_1 g1_2 g1_3 g1_4 g1_5 g1_6 g1_7 s0_0 s0_1 s0_2 s0_3 sb0_0 sb0_1) (pre_barbicanlaw11_SockLedger_L2v1_L3v5_0 a0 p0 q0 n0 k0 A0 y1 g0_0 g0_1 g0_2 g0_3 g0_4 g0_5 g0_6 g1_0 g1_1 g1_2 g1_3 g1_4 g1_5 g1_6 g1_7 s0_0 s0_1 s0_2 s0_3 sb0_0 sb0_1) (fun _ => rfl) (fun ls h => by match ls, h with | [l0, l1, l2, l3, l4, l5, l6, l7, l8, l9, l10, l11], _ => exact ⟨by kernel_rfl, by kernel_rfl⟩) (fun ls h => by match ls, h with | [l0, l1, l2, l3, l4, l5, l6, l7, l8, l9, l10, l11], _ => rfl) (by decide) (by decide) (fun ls => rfl)
inductive Sh_barbicanlaw11_SockLedger_L2v1 where
  | c0 
  | c1 (s0_0 : Nat) (s0_1 : Nat → Int) (s0_2 : Int) (s0_3 : Int)
  | c2 (s0_0 : Nat) (s0_1 : Nat → Int) (s0_2 : Int) (s0_3 : Int)
inductive Ex_barbicanlaw11_SockLedger_L2v1 where
  | e0 
  | e1 (c1_0 : Nat) (c1_1 : Nat → Int)
  | e2 (c2_0 : Nat) (c2_1 : Nat → Int)
  | e3 
noncomputable def st_barbicanlaw11_SockLedger_L2v1 (g1_6 : Nat) (g1_7 : Nat → Event) : Sh_barbicanlaw11_SockLedger_L2v1 → Option (Sh_barbicanlaw11_SockLedger_L2v1 ⊕ Ex_barbicanlaw11_SockLedger_L2v1)
  | .c0  =>
    bif decide (0 < (g1_6 : Int)) then
      (bif inR 0 g1_6 then
        (bif ((g1_7 0)).fRelease then
          (some (.inr (.e3 )))
        else (bif ((g1_7 0)).fId == 1 then
          (some (.inl (.c1 1 (fun _ => ((g1_7 0)).fId) 2 1)))
        else (some (.inr (.e3 )))))
      else (none))
    else (some (.inr (.e0 )))
  | .c1 s0_0 s0_1 s0_2 s0_3 =>
    bif decide (s0_3 < (g1_6 : Int)) then
      (bif inR s0_3 g1_6 then
        (bif ((g1_7 (s0_3).toNat)).fRelease then
          ((lpO (st_barbicanlaw11_SockLedger_L2v1_L3v4 g1_6 g1_7 s0_0 s0_1 s0_3) (.c0 (-1) 0)).bind fun gb0 => match gb0 with
          | .e0 gb0_0 gb0_1 gb0_2 gb0_3 =>
          bif decide (gb0_0 < 0) then
            (some (.inr (.e3 )))
          else (bif inR gb0_0 (s0_0 + 1) then
            (bif inR (IntKind.i64.wrap (gb0_0 + 1)) (s0_0 + 1) then
              (bif inR (IntKind.i64.wrap (gb0_0 + 1)) s0_0 then
                (bif decide ((gb0_0).toNat ≤ s0_0) then
                  (bif decide (((IntKind.i64.wrap (gb0_0 + 1))).toNat < s0_0) then
                    (bif decide (s0_0 ≤ 1000000) then
                      (bindT (catF s0_1 (gb0_0).toNat (fun k => s0_1 (((IntKind.i64.wrap (gb0_0 + 1))).toNat + k))) fun rb1 =>
                      some (.inl (.c1 ((gb0_0).toNat + (s0_0 - ((IntKind.i64.wrap (gb0_0 + 1))).toNat)) rb1 s0_2 (IntKind.i64.wrap (s0_3 + 1)))))
                    else (none))
                  else (none))
                else (none))
              else (bif decide ((gb0_0).toNat ≤ s0_0) then
                (some (.inl (.c2 (gb0_0).toNat s0_1 s0_2 (IntKind.i64.wrap (s0_3 + 1)))))
              else (none)))
            else (none))
          else (none)))
        else (bif ((g1_7 (s0_3).toNat)).fId == s0_2 then
          (bif decide (s0_0 ≤ 1000000) then
            (some (.inl (.c1 (s0_0 + 1) (updF s0_1 s0_0 ((g1_7 (s0_3).toNat)).fId) (IntKind.i64.wrap (s0_2 + 1)) (IntKind.i64.wrap (s0_3 + 1)))))
          else (none))
        else (some (.inr (.e3 )))))
      else (none))
    else (some (.inr (.e1 s0_0 s0_1)))
  | .c2 s0_0 s0_1 s0_2 s0_3 =>
    bif decide (s0_3 < (g1_6 : Int)) then
      (bif inR s0_3 g1_6 then
        (bif ((g1_7 (s0_3).toNat)).fRelease then
          ((lpO (st_barbicanlaw11_SockLedger_L2v1_L3v5 g1_6 g1_7 s0_0 s0_1 s0_3) (.c0 (-1) 0)).bind fun gb0 => match gb0 with
          | .e0 gb0_0 gb0_1 gb0_2 gb0_3 =>
          bif decide (gb0_0 < 0) then
            (some (.inr (.e3 )))
          else (bif inR gb0_0 (s0_0 + 1) then
            (bif inR (IntKind.i64.wrap (gb0_0 + 1)) (s0_0 + 1) then
              (bif inR (IntKind.i64.wrap (gb0_0 + 1)) s0_0 then
                (bif decide ((gb0_0).toNat ≤ s0_0) then
                  (bif decide (((IntKind.i64.wrap (gb0_0 + 1))).toNat < s0_0) then
                    (bif decide (s0_0 ≤ 1000000) then
                      (bindT (catF s0_1 (gb0_0).toNat (fun k => s0_1 (((IntKind.i64.wrap (gb0_0 + 1))).toNat + k))) fun rb1 =>
                      some (.inl (.c1 ((gb0_0).toNat + (s0_0 - ((IntKind.i64.wrap (gb0_0 + 1))).toNat)) rb1 s0_2 (IntKind.i64.wrap (s0_3 + 1)))))
                    else (none))
                  else (none))
                else (none))
              else (bif decide ((gb0_0).toNat ≤ s0_0) then
                (some (.inl (.c2 (gb0_0).toNat s0_1 s0_2 (IntKind.i64.wrap (s0_3 + 1)))))
              else (none)))
            else (none))
          else (none)))
        else (bif ((g1_7 (s0_3).toNat)).fId == s0_2 then
          (bif decide (s0_0 ≤ 1000000) then
            (some (.inl (.c1 (s0_0 + 1) (updF s0_1 s0_0 ((g1_7 (s0_3).toNat)).fId) (IntKind.i64.wrap (s0_2 + 1)) (IntKind.i64.wrap (s0_3 + 1)))))
          else (none))
        else (some (.inr (.e3 )))))
      else (none))
    else (some (.inr (.e2 s0_0 s0_1)))
noncomputable def bd_barbicanlaw11_SockLedger_L2v1 : Code := codeOf Try.f4 [1, 1, 1, 1, 1, 1, 1, 1, 1, 0, 1, 0, 0]
def fl_barbicanlaw11_SockLedger_L2v1 (a0 : Option Addr) (p0 : Nat) (q0 : Nat) (n0 : Nat) (k0 : Nat) (A0 : Nat → Step) (y1 : Int) (g0_0 : Nat) (g0_1 : Nat → Int) (g0_2 : Nat) (g0_3 : Nat → Reference) (g0_4 : Int) (g0_5 : Nat) (g0_6 : Nat → Event) (g1_0 : Nat) (g1_1 : Nat → Int) (g1_2 : Nat) (g1_3 : Nat → Reference) (g1_4 : Int) (g1_5 : Int) (g1_6 : Nat) (g1_7 : Nat → Event) : Sh_barbicanlaw11_SockLedger_L2v1 → List L1 → List Value
  | .c0 , ls => [.bool false, .pointer (some ⟨(lget ls 0).n, 0, none⟩), (rowV (lget ls 9) g1_6 3), .slice none 0 0, .int .i64 (1), .int .i64 (0), ((lget ls 4).u 141), ((lget ls 4).u 142), ((lget ls 4).u 143), ((lget ls 4).u 144), ((lget ls 4).u 145), ((lget ls 4).u 146), ((lget ls 4).u 147), ((lget ls 4).u 148), ((lget ls 4).u 149)]
  | .c1 s0_0 s0_1 s0_2 s0_3, ls => [.bool false, .pointer (some ⟨(lget ls 0).n, 0, none⟩), (rowV (lget ls 9) g1_6 3), (rowV (lget ls 10) s0_0 1), .int .i64 (s0_2), .int .i64 (s0_3), ((lget ls 4).u 141), ((lget ls 4).u 142), ((lget ls 4).u 143), ((lget ls 4).u 144), ((lget ls 4).u 145), ((lget ls 4).u 146), ((lget ls 4).u 147), ((lget ls 4).u 148), ((lget ls 4).u 149)]
  | .c2 s0_0 s0_1 s0_2 s0_3, ls => [.bool false, .pointer (some ⟨(lget ls 0).n, 0, none⟩), (rowV (lget ls 9) g1_6 3), (rowCV .cap (lget ls 10) s0_0 1), .int .i64 (s0_2), .int .i64 (s0_3), ((lget ls 4).u 141), ((lget ls 4).u 142), ((lget ls 4).u 143), ((lget ls 4).u 144), ((lget ls 4).u 145), ((lget ls 4).u 146), ((lget ls 4).u 147), ((lget ls 4).u 148), ((lget ls 4).u 149)]
def mf_barbicanlaw11_SockLedger_L2v1 : Sh_barbicanlaw11_SockLedger_L2v1 → List (Nat × Nat)
  | .c0  => [(0, 4), (2, 4), (4, 127), (9, 0)]
  | .c1 _ _ _ _ => [(0, 4), (2, 4), (4, 127), (9, 0)]
  | .c2 _ _ _ _ => [(0, 4), (2, 4), (4, 127), (9, 0)]
noncomputable def fr_barbicanlaw11_SockLedger_L2v1 (a0 : Option Addr) (p0 : Nat) (q0 : Nat) (n0 : Nat) (k0 : Nat) (A0 : Nat → Step) (y1 : Int) (g0_0 : Nat) (g0_1 : Nat → Int) (g0_2 : Nat) (g0_3 : Nat → Reference) (g0_4 : Int) (g0_5 : Nat) (g0_6 : Nat → Event) (g1_0 : Nat) (g1_1 : Nat → Int) (g1_2 : Nat) (g1_3 : Nat → Reference) (g1_4 : Int) (g1_5 : Int) (g1_6 : Nat) (g1_7 : Nat → Event) (s : Sh_barbicanlaw11_SockLedger_L2v1) : List L1 → List Value := mrgF (mf_barbicanlaw11_SockLedger_L2v1 s) (fl_barbicanlaw11_SockLedger_L2v1 a0 p0 q0 n0 k0 A0 y1 g0_0 g0_1 g0_2 g0_3 g0_4 g0_5 g0_6 g1_0 g1_1 g1_2 g1_3 g1_4 g1_5 g1_6 g1_7 s) 11
def Hs_barbicanlaw11_SockLedger_L2v1 (a0 : Option Addr) (p0 : Nat) (q0 : Nat) (n0 : Nat) (k0 : Nat) (A0 : Nat → Step) (y1 : Int) (g0_0 : Nat) (g0_1 : Nat → Int) (g0_2 : Nat) (g0_3 : Nat → Reference) (g0_4 : Int) (g0_5 : Nat) (g0_6 : Nat → Event) (g1_0 : Nat) (g1_1 : Nat → Int) (g1_2 : Nat) (g1_3 : Nat → Reference) (g1_4 : Int) (g1_5 : Int) (g1_6 : Nat) (g1_7 : Nat → Event) : Sh_barbicanlaw11_SockLedger_L2v1 → List L1 → List Obj
  | .c0 , ls => [.cells #[(rowV (lget ls 5) g1_0 1), (rowV (lget ls 6) g1_2 2), .int .i64 (g1_4), .int .i64 (g1_5), (rowV (lget ls 7) g1_6 3)] 78, unb, unb, unb, unb, rowO (lget ls 5) (esG cZ g1_0 g1_1) 3 g1_0 1, rowO (lget ls 6) (esG c_Reference g1_2 g1_3) 82 g1_2 2, rowO (lget ls 7) (esG c_Event g1_6 g1_7) 63 g1_6 3, unb, rowO (lget ls 9) (esG c_Event g1_6 g1_7) 63 g1_6 3, unb, unb]
  | .c1 s0_0 s0_1 s0_2 s0_3, ls => [.cells #[(rowV (lget ls 5) g1_0 1), (rowV (lget ls 6) g1_2 2), .int .i64 (g1_4), .int .i64 (g1_5), (rowV (lget ls 7) g1_6 3)] 78, unb, unb, unb, unb, rowO (lget ls 5) (esG cZ g1_0 g1_1) 3 g1_0 1, rowO (lget ls 6) (esG c_Reference g1_2 g1_3) 82 g1_2 2, rowO (lget ls 7) (esG c_Event g1_6 g1_7) 63 g1_6 3, unb, rowO (lget ls 9) (esG c_Event g1_6 g1_7) 63 g1_6 3, rowO (lget ls 10) (esG cZ s0_0 s0_1) 3 s0_0 1, unb]
  | .c2 s0_0 s0_1 s0_2 s0_3, ls => [.cells #[(rowV (lget ls 5) g1_0 1), (rowV (lget ls 6) g1_2 2), .int .i64 (g1_4), .int .i64 (g1_5), (rowV (lget ls 7) g1_6 3)] 78, unb, unb, unb, unb, rowO (lget ls 5) (esG cZ g1_0 g1_1) 3 g1_0 1, rowO (lget ls 6) (esG c_Reference g1_2 g1_3) 82 g1_2 2, rowO (lget ls 7) (esG c_Event g1_6 g1_7) 63 g1_6 3, unb, rowO (lget ls 9) (esG c_Event g1_6 g1_7) 63 g1_6 3, rowC .cap (lget ls 10) (esG cZ s0_0 s0_1) 3 s0_0 1, unb]
def vl_barbicanlaw11_SockLedger_L2v1 (a0 : Option Addr) (p0 : Nat) (q0 : Nat) (n0 : Nat) (k0 : Nat) (A0 : Nat → Step) (y1 : Int) (g0_0 : Nat) (g0_1 : Nat → Int) (g0_2 : Nat) (g0_3 : Nat → Reference) (g0_4 : Int) (g0_5 : Nat) (g0_6 : Nat → Event) (g1_0 : Nat) (g1_1 : Nat → Int) (g1_2 : Nat) (g1_3 : Nat → Reference) (g1_4 : Int) (g1_5 : Int) (g1_6 : Nat) (g1_7 : Nat → Event) : Ex_barbicanlaw11_SockLedger_L2v1 → List L1 → List Value
  | .e0 , ls => [.bool false, .pointer (some ⟨(lget ls 0).n, 0, none⟩), (rowV (lget ls 9) g1_6 3), .slice none 0 0, ((lget ls 4).u 141), ((lget ls 4).u 142), ((lget ls 4).u 143), ((lget ls 4).u 144), ((lget ls 4).u 145), ((lget ls 4).u 146), ((lget ls 4).u 147), ((lget ls 4).u 148), ((lget ls 4).u 149)]
  | .e1 c1_0 c1_1, ls => [.bool false, .pointer (some ⟨(lget ls 0).n, 0, none⟩), (rowV (lget ls 9) g1_6 3), (rowV (lget ls 10) c1_0 1), ((lget ls 4).u 141), ((lget ls 4).u 142), ((lget ls 4).u 143), ((lget ls 4).u 144), ((lget ls 4).u 145), ((lget ls 4).u 146), ((lget ls 4).u 147), ((lget ls 4).u 148), ((lget ls 4).u 149)]
  | .e2 c2_0 c2_1, ls => [.bool false, .pointer (some ⟨(lget ls 0).n, 0, none⟩), (rowV (lget ls 9) g1_6 3), (rowCV .cap (lget ls 10) c2_0 1), ((lget ls 4).u 141), ((lget ls 4).u 142), ((lget ls 4).u 143), ((lget ls 4).u 144), ((lget ls 4).u 145), ((lget ls 4).u 146), ((lget ls 4).u 147), ((lget ls 4).u 148), ((lget ls 4).u 149)]
  | .e3 , ls => [.bool false, .pointer (some ⟨(lget ls 0).n, 0, none⟩), (rowV (lget ls 9) g1_6 3), ((lget ls 4).u 141), ((lget ls 4).u 142), ((lget ls 4).u 143), ((lget ls 4).u 144), ((lget ls 4).u 145), ((lget ls 4).u 146), ((lget ls 4).u 147), ((lget ls 4).u 148), ((lget ls 4).u 149)]
def mk_barbicanlaw11_SockLedger_L2v1 : Ex_barbicanlaw11_SockLedger_L2v1 → List (Nat × Nat)
  | .e0  => [(0, 4), (2, 4), (2, 129), (9, 0)]
  | .e1 _ _ => [(0, 4), (2, 4), (2, 129), (9, 0)]
  | .e2 _ _ => [(0, 4), (2, 4), (2, 129), (9, 0)]
  | .e3  => [(0, 4), (2, 4), (1, 130), (9, 0)]
noncomputable def vf_barbicanlaw11_SockLedger_L2v1 (a0 : Option Addr) (p0 : Nat) (q0 : Nat) (n0 : Nat) (k0 : Nat) (A0 : Nat → Step) (y1 : Int) (g0_0 : Nat) (g0_1 : Nat → Int) (g0_2 : Nat) (g0_3 : Nat → Reference) (g0_4 : Int) (g0_5 : Nat) (g0_6 : Nat → Event) (g1_0 : Nat) (g1_1 : Nat → Int) (g1_2 : Nat) (g1_3 : Nat → Reference) (g1_4 : Int) (g1_5 : Int) (g1_6 : Nat) (g1_7 : Nat → Event) (r : Ex_barbicanlaw11_SockLedger_L2v1) : List L1 → List Value := mrgF (mk_barbicanlaw11_SockLedger_L2v1 r) (vl_barbicanlaw11_SockLedger_L2v1 a0 p0 q0 n0 k0 A0 y1 g0_0 g0_1 g0_2 g0_3 g0_4 g0_5 g0_6 g1_0 g1_1 g1_2 g1_3 g1_4 g1_5 g1_6 g1_7 r) 11
def Hf_barbicanlaw11_SockLedger_L2v1 (a0 : Option Addr) (p0 : Nat) (q0 : Nat) (n0 : Nat) (k0 : Nat) (A0 : Nat → Step) (y1 : Int) (g0_0 : Nat) (g0_1 : Nat → Int) (g0_2 : Nat) (g0_3 : Nat → Reference) (g0_4 : Int) (g0_5 : Nat) (g0_6 : Nat → Event) (g1_0 : Nat) (g1_1 : Nat → Int) (g1_2 : Nat) (g1_3 : Nat → Reference) (g1_4 : Int) (g1_5 : Int) (g1_6 : Nat) (g1_7 : Nat → Event) : Ex_barbicanlaw11_SockLedger_L2v1 → List L1 → List Obj
  | .e0 , ls => [.cells #[(rowV (lget ls 5) g1_0 1), (rowV (lget ls 6) g1_2 2), .int .i64 (g1_4), .int .i64 (g1_5), (rowV (lget ls 7) g1_6 3)] 78, unb, unb, unb, unb, rowO (lget ls 5) (esG cZ g1_0 g1_1) 3 g1_0 1, rowO (lget ls 6) (esG c_Reference g1_2 g1_3) 82 g1_2 2, rowO (lget ls 7) (esG c_Event g1_6 g1_7) 63 g1_6 3, unb, rowO (lget ls 9) (esG c_Event g1_6 g1_7) 63 g1_6 3, unb, unb]
  | .e1 c1_0 c1_1, ls => [.cells #[(rowV (lget ls 5) g1_0 1), (rowV (lget ls 6) g1_2 2), .int .i64 (g1_4), .int .i64 (g1_5), (rowV (lget ls 7) g1_6 3)] 78, unb, unb, unb, unb, rowO (lget ls 5) (esG cZ g1_0 g1_1) 3 g1_0 1, rowO (lget ls 6) (esG c_Reference g1_2 g1_3) 82 g1_2 2, rowO (lget ls 7) (esG c_Event g1_6 g1_7) 63 g1_6 3, unb, rowO (lget ls 9) (esG c_Event g1_6 g1_7) 63 g1_6 3, rowO (lget ls 10) (esG cZ c1_0 c1_1) 3 c1_0 1, unb]
  | .e2 c2_0 c2_1, ls => [.cells #[(rowV (lget ls 5) g1_0 1), (rowV (lget ls 6) g1_2 2), .int .i64 (g1_4), .int .i64 (g1_5), (rowV (lget ls 7) g1_6 3)] 78, unb, unb, unb, unb, rowO (lget ls 5) (esG cZ g1_0 g1_1) 3 g1_0 1, rowO (lget ls 6) (esG c_Reference g1_2 g1_3) 82 g1_2 2, rowO (lget ls 7) (esG c_Event g1_6 g1_7) 63 g1_6 3, unb, rowO (lget ls 9) (esG c_Event g1_6 g1_7) 63 g1_6 3, rowC .cap (lget ls 10) (esG cZ c2_0 c2_1) 3 c2_0 1, unb]
  | .e3 , ls => [.cells #[(rowV (lget ls 5) g1_0 1), (rowV (lget ls 6) g1_2 2), .int .i64 (g1_4), .int .i64 (g1_5), (rowV (lget ls 7) g1_6 3)] 78, unb, unb, unb, unb, rowO (lget ls 5) (esG cZ g1_0 g1_1) 3 g1_0 1, rowO (lget ls 6) (esG c_Reference g1_2 g1_3) 82 g1_2 2, rowO (lget ls 7) (esG c_Event g1_6 g1_7) 63 g1_6 3, unb, rowO (lget ls 9) (esG c_Event g1_6 g1_7) 63 g1_6 3, unb, unb]
def ex_barbicanlaw11_SockLedger_L2v1 : Ex_barbicanlaw11_SockLedger_L2v1 → Ex
  | .e0  => (.exit 4)
  | .e1 _ _ => (.exit 4)
  | .e2 _ _ => (.exit 4)
  | .e3  => .ret
theorem go_barbicanlaw11_SockLedger_L2v1 (g1_0 : Nat) (g1_1 : Nat → Int) (g1_2 : Nat) (g1_3 : Nat → Reference) (g1_4 : Int) (g1_5 : Int) (g1_6 : Nat) (g1_7 : Nat → Event) (s : Sh_barbicanlaw11_SockLedger_L2v1) (r : Ex_barbicanlaw11_SockLedger_L2v1) (h : lpO (st_barbicanlaw11_SockLedger_L2v1 g1_6 g1_7) s = some r) : GoesG Try.prog M B0 S (.loop bd_barbicanlaw11_SockLedger_L2v1) 12 (fr_barbicanlaw11_SockLedger_L2v1 a0 p0 q0 n0 k0 A0 y1 g0_0 g0_1 g0_2 g0_3 g0_4 g0_5 g0_6 g1_0 g1_1 g1_2 g1_3 g1_4 g1_5 g1_6 g1_7 s) (Hs_barbicanlaw11_SockLedger_L2v1 a0 p0 q0 n0 k0 A0 y1 g0_0 g0_1 g0_2 g0_3 g0_4 g0_5 g0_6 g1_0 g1_1 g1_2 g1_3 g1_4 g1_5 g1_6 g1_7 s) (ex_barbicanlaw11_SockLedger_L2v1 r) 10 (vf_barbicanlaw11_SockLedger_L2v1 a0 p0 q0 n0 k0 A0 y1 g0_0 g0_1 g0_2 g0_3 g0_4 g0_5 g0_6 g1_0 g1_1 g1_2 g1_3 g1_4 g1_5 g1_6 g1_7 r) (Hf_barbicanlaw11_SockLedger_L2v1 a0 p0 q0 n0 k0 A0 y1 g0_0 g0_1 g0_2 g0_3 g0_4 g0_5 g0_6 g1_0 g1_1 g1_2 g1_3 g1_4 g1_5 g1_6 g1_7 r) 12 :=
  goes_lpO (fun s q e => by
    cases s with
    | c0  =>
      unfold st_barbicanlaw11_SockLedger_L2v1 at e
      dsimp only at e
      replace e := cond_eq_or e
      rcases e with ⟨hq0, e⟩ | ⟨hq0, e⟩
      · replace e := cond_eq_or e
        rcases e with ⟨hq1, e⟩ | ⟨hq1, e⟩
        · replace e := cond_eq_or e
          rcases e with ⟨hq2, e⟩ | ⟨hq2, e⟩
          · cases e; exact ⟨ne_ret, goes_runM hU [.o, .o, .o, .b (z_lssT hq0), .o, .o, .q (ixM_ok (kd := .i64) (T := 37) (x := 0) (N := g1_6) (sz := 3) rfl (fun w => by kernel_rfl) hq1), .o, .l (accG (i := 9) (f := c_Event) (A := g1_7) (k := 0) 0 [.bool true] c_Event_len (inR_nat hq1) (congrArg (fun b => [Value.bool b]) hq2)), .o, .o, .o, .o, .o, .o, .o, .o, .o, .o] [0, 1, 2, 3, 4, 5, 6, 7, 8, 9, 10] (fun b => rfl) (by decide) rfl rfl (fun b => by kernel_rfl)⟩
          · replace e := cond_eq_or e
            rcases e with ⟨hq3, e⟩ | ⟨hq3, e⟩
            · cases e; exact goes_runM hU [.o, .o, .o, .b (z_lssT hq0), .o, .o, .q (ixM_ok (kd := .i64) (T := 37) (x := 0) (N := g1_6) (sz := 3) rfl (fun w => by kernel_rfl) hq1), .o, .l (accG (i := 9) (f := c_Event) (A := g1_7) (k := 0) 0 [.bool false] c_Event_len (inR_nat hq1) (congrArg (fun b => [Value.bool b]) hq2)), .o, .o, .o, .q (ixM_ok (kd := .i64) (T := 37) (x := 0) (N := g1_6) (sz := 3) rfl (fun w => by kernel_rfl) hq1), .o, .l (accG (i := 9) (f := c_Event) (A := g1_7) (k := 0) 1 [.int .i64 (((g1_7 0)).fId)] c_Event_len (inR_nat hq1) rfl), .o, .b (z_neqT hq3), .o, .o, .o, .o, .o, .o, .q (ixM_ok (kd := .i64) (T := 37) (x := 0) (N := g1_6) (sz := 3) rfl (fun w => by kernel_rfl) hq1), .o, .l (accG (i := 9) (f := c_Event) (A := g1_7) (k := 0) 1 [.int .i64 (((g1_7 0)).fId)] c_Event_len (inR_nat hq1) rfl), .o, .x (sqAppL1_ok (ty := 56) rt56 #[false, false] (f := cZ) (c := 1) ((g1_7 0)).fId (T' := 3) cZ_len cZ_one (by decide)) [12], .o, .o, .o, .o] [0, 1, 2, 3, 4, 5, 6, 7, 8, 9, 13] (fun b => rfl) (by decide) rfl rfl (fun b => by kernel_rfl)
            · cases e; exact ⟨ne_ret, goes_runM hU [.o, .o, .o, .b (z_lssT hq0), .o, .o, .q (ixM_ok (kd := .i64) (T := 37) (x := 0) (N := g1_6) (sz := 3) rfl (fun w => by kernel_rfl) hq1), .o, .l (accG (i := 9) (f := c_Event) (A := g1_7) (k := 0) 0 [.bool false] c_Event_len (inR_nat hq1) (congrArg (fun b => [Value.bool b]) hq2)), .o, .o, .o, .q (ixM_ok (kd := .i64) (T := 37) (x := 0) (N := g1_6) (sz := 3) rfl (fun w => by kernel_rfl) hq1), .o, .l (accG (i := 9) (f := c_Event) (A := g1_7) (k := 0) 1 [.int .i64 (((g1_7 0)).fId)] c_Event_len (inR_nat hq1) rfl), .o, .b (z_neqF hq3), .o] [0, 1, 2, 3, 4, 5, 6, 7, 8, 9, 10] (fun b => rfl) (by decide) rfl rfl (fun b => by kernel_rfl)⟩
        · exact none_some e
      · cases e; exact ⟨ne_exit 4, goes_runM hU [.o, .o, .o, .b (z_lssF hq0)] [0, 1, 2, 3, 4, 5, 6, 7, 8, 9, 10] (fun b => rfl) (by decide) rfl rfl (fun b => by kernel_rfl)⟩
    | c1 s0_0 s0_1 s0_2 s0_3 =>
      unfold st_barbicanlaw11_SockLedger_L2v1 at e
      dsimp only at e
      replace e := cond_eq_or e
      rcases e with ⟨hq0, e⟩ | ⟨hq0, e⟩
      · replace e := cond_eq_or e
        rcases e with ⟨hq1, e⟩ | ⟨hq1, e⟩
        · replace e := cond_eq_or e
          rcases e with ⟨hq2, e⟩ | ⟨hq2, e⟩
          · replace e := bindO_eq e
            obtain ⟨gb0, e_gb0, e⟩ := e
            obtain ⟨gb0_0, gb0_1, gb0_2, gb0_3⟩ := gb0
            try dsimp only at e
            replace e := cond_eq_or e
            rcases e with ⟨hq3, e⟩ | ⟨hq3, e⟩
            · cases e; exact ⟨ne_ret, goes_runM hU [.o, .o, .o, .b (z_lssT hq0), .o, .o, .q (ixM_ok (kd := .i64) (T := 37) (x := s0_3) (N := g1_6) (sz := 3) rfl (fun w => by kernel_rfl) hq1), .o, .l (accG (i := 9) (f := c_Event) (A := g1_7) (k := (s0_3).toNat) 0 [.bool true] c_Event_len (inR_nat hq1) (congrArg (fun b => [Value.bool b]) hq2)), .o, .o, .o, .cp, .cx (sp0_barbicanlaw11_SockLedger_L2v1_L3v4_0_ok hU a0 p0 q0 n0 k0 A0 hR0 y1 g0_0 g0_1 g0_2 g0_3 g0_4 g0_5 g0_6 g1_0 g1_1 g1_2 g1_3 g1_4 g1_5 g1_6 g1_7 s0_0 s0_1 s0_2 s0_3 (-1) 0 gb0_0 gb0_1 gb0_2 gb0_3 e_gb0) [0, 1, 2, 3, 4, 5, 6, 7, 8, 9, 10, 11], .o, .b (z_lssT hq3), .o] [0, 1, 2, 3, 4, 5, 6, 7, 8, 9, 11] (fun b => rfl) (by decide) rfl rfl (fun b => by kernel_rfl)⟩
            · replace e := cond_eq_or e
              rcases e with ⟨hq4, e⟩ | ⟨hq4, e⟩
              · replace e := cond_eq_or e
                rcases e with ⟨hq5, e⟩ | ⟨hq5, e⟩
                · replace e := cond_eq_or e
                  rcases e with ⟨hq6, e⟩ | ⟨hq6, e⟩
                  · replace e := cond_eq_or e
                    rcases e with ⟨hq7, e⟩ | ⟨hq7, e⟩
                    · replace e := cond_eq_or e
                      rcases e with ⟨hq8, e⟩ | ⟨hq8, e⟩
                      · replace e := cond_eq_or e
                        rcases e with ⟨hq9, e⟩ | ⟨hq9, e⟩
                        · replace e := bindT_eq e
                          obtain ⟨rb1, e_rb1, e⟩ := e
                          try dsimp only at e
                          cases e; exact goes_runM hU [.o, .o, .o, .b (z_lssT hq0), .o, .o, .q (ixM_ok (kd := .i64) (T := 37) (x := s0_3) (N := g1_6) (sz := 3) rfl (fun w => by kernel_rfl) hq1), .o, .l (accG (i := 9) (f := c_Event) (A := g1_7) (k := (s0_3).toNat) 0 [.bool true] c_Event_len (inR_nat hq1) (congrArg (fun b => [Value.bool b]) hq2)), .o, .o, .o, .cp, .cx (sp0_barbicanlaw11_SockLedger_L2v1_L3v4_0_ok hU a0 p0 q0 n0 k0 A0 hR0 y1 g0_0 g0_1 g0_2 g0_3 g0_4 g0_5 g0_6 g1_0 g1_1 g1_2 g1_3 g1_4 g1_5 g1_6 g1_7 s0_0 s0_1 s0_2 s0_3 (-1) 0 gb0_0 gb0_1 gb0_2 gb0_3 e_gb0) [0, 1, 2, 3, 4, 5, 6, 7, 8, 9, 10, 11], .o, .b (z_lssF hq3), .r [0, 1, 2, 3, 4, 5, 6, 7] [] [8, 9], .o, .o, .o, .qb (slLow_ok (T := 56) (e := 3) (sz := 1) (N := s0_0) (x := gb0_0) .row (by kernel_rfl) (fun w => by kernel_rfl) hq4) 10, .o, .o, .o, .qb (slTail_ok (T := 56) (e := 3) (sz := 1) (N := s0_0) (x := (IntKind.i64.wrap (gb0_0 + 1))) .row (by kernel_rfl) (fun w => by kernel_rfl) hq6) 10, .x (sqCut_ok (ty := 56) rt56 #[false, false] .row (f := cZ) (N := s0_0) (p := (gb0_0).toNat) (q := ((IntKind.i64.wrap (gb0_0 + 1))).toNat) (A := s0_1) cZ_len hq7 hq8 hq9 (by decide) e_rb1) [10], .o, .o, .o, .o] [0, 1, 2, 3, 4, 5, 6, 7, 8, 9, 13] (fun b => rfl) (by decide) rfl rfl (fun b => by kernel_rfl)
                        · exact none_some e
                      · exact none_some e
                    · exact none_some e
                  · replace e := cond_eq_or e
                    rcases e with ⟨hq7, e⟩ | ⟨hq7, e⟩
                    · cases e; exact goes_runM hU [.o, .o, .o, .b (z_lssT hq0), .o, .o, .q (ixM_ok (kd := .i64) (T := 37) (x := s0_3) (N := g1_6) (sz := 3) rfl (fun w => by kernel_rfl) hq1), .o, .l (accG (i := 9) (f := c_Event) (A := g1_7) (k := (s0_3).toNat) 0 [.bool true] c_Event_len (inR_nat hq1) (congrArg (fun b => [Value.bool b]) hq2)), .o, .o, .o, .cp, .cx (sp0_barbicanlaw11_SockLedger_L2v1_L3v4_0_ok hU a0 p0 q0 n0 k0 A0 hR0 y1 g0_0 g0_1 g0_2 g0_3 g0_4 g0_5 g0_6 g1_0 g1_1 g1_2 g1_3 g1_4 g1_5 g1_6 g1_7 s0_0 s0_1 s0_2 s0_3 (-1) 0 gb0_0 gb0_1 gb0_2 gb0_3 e_gb0) [0, 1, 2, 3, 4, 5, 6, 7, 8, 9, 10, 11], .o, .b (z_lssF hq3), .r [0, 1, 2, 3, 4, 5, 6, 7] [] [8, 9], .o, .o, .o, .qb (slLow_ok (T := 56) (e := 3) (sz := 1) (N := s0_0) (x := gb0_0) .row (by kernel_rfl) (fun w => by kernel_rfl) hq4) 10, .o, .o, .o, .qb (slEnd_ok (T := 56) (e := 3) (sz := 1) (N := s0_0) (x := (IntKind.i64.wrap (gb0_0 + 1))) .row (by kernel_rfl) (fun w => by kernel_rfl) hq5 hq6) 10, .x (sqCutE_ok (ty := 56) rt56 #[false, false] .row (f := cZ) (N := s0_0) (p := (gb0_0).toNat) (A := s0_1) cZ_len hq7) [10], .o, .o, .o, .o] [0, 1, 2, 3, 4, 5, 6, 7, 8, 9, 13] (fun b => rfl) (by decide) rfl rfl (fun b => by kernel_rfl)
                    · exact none_some e
                · exact none_some e
              · exact none_some e
          · replace e := cond_eq_or e
            rcases e with ⟨hq3, e⟩ | ⟨hq3, e⟩
            · replace e := cond_eq_or e
              rcases e with ⟨hq4, e⟩ | ⟨hq4, e⟩
              · cases e; exact goes_runM hU [.o, .o, .o, .b (z_lssT hq0), .o, .o, .q (ixM_ok (kd := .i64) (T := 37) (x := s0_3) (N := g1_6) (sz := 3) rfl (fun w => by kernel_rfl) hq1), .o, .l (accG (i := 9) (f := c_Event) (A := g1_7) (k := (s0_3).toNat) 0 [.bool false] c_Event_len (inR_nat hq1) (congrArg (fun b => [Value.bool b]) hq2)), .o, .o, .o, .q (ixM_ok (kd := .i64) (T := 37) (x := s0_3) (N := g1_6) (sz := 3) rfl (fun w => by kernel_rfl) hq1), .o, .l (accG (i := 9) (f := c_Event) (A := g1_7) (k := (s0_3).toNat) 1 [.int .i64 (((g1_7 (s0_3).toNat)).fId)] c_Event_len (inR_nat hq1) rfl), .o, .b (z_neqT hq3), .o, .o, .o, .o, .o, .o, .q (ixM_ok (kd := .i64) (T := 37) (x := s0_3) (N := g1_6) (sz := 3) rfl (fun w => by kernel_rfl) hq1), .o, .l (accG (i := 9) (f := c_Event) (A := g1_7) (k := (s0_3).toNat) 1 [.int .i64 (((g1_7 (s0_3).toNat)).fId)] c_Event_len (inR_nat hq1) rfl), .o, .x (sqAppL_ok (ty := 56) rt56 #[false, false] (f := cZ) (N := s0_0) (A := s0_1) (c := 1) [((g1_7 (s0_3).toNat)).fId] (T' := 3) .row cZ_len cZ_one hq4 rfl (by decide)) [10, 12], .o, .o, .o, .o] [0, 1, 2, 3, 4, 5, 6, 7, 8, 9, 13] (fun b => rfl) (by decide) rfl rfl (fun b => by kernel_rfl)
              · exact none_some e
            · cases e; exact ⟨ne_ret, goes_runM hU [.o, .o, .o, .b (z_lssT hq0), .o, .o, .q (ixM_ok (kd := .i64) (T := 37) (x := s0_3) (N := g1_6) (sz := 3) rfl (fun w => by kernel_rfl) hq1), .o, .l (accG (i := 9) (f := c_Event) (A := g1_7) (k := (s0_3).toNat) 0 [.bool false] c_Event_len (inR_nat hq1) (congrArg (fun b => [Value.bool b]) hq2)), .o, .o, .o, .q (ixM_ok (kd := .i64) (T := 37) (x := s0_3) (N := g1_6) (sz := 3) rfl (fun w => by kernel_rfl) hq1), .o, .l (accG (i := 9) (f := c_Event) (A := g1_7) (k := (s0_3).toNat) 1 [.int .i64 (((g1_7 (s0_3).toNat)).fId)] c_Event_len (inR_nat hq1) rfl), .o, .b (z_neqF hq3), .o] [0, 1, 2, 3, 4, 5, 6, 7, 8, 9, 11] (fun b => rfl) (by decide) rfl rfl (fun b => by kernel_rfl)⟩
        · exact none_some e
      · cases e; exact ⟨ne_exit 4, goes_runM hU [.o, .o, .o, .b (z_lssF hq0)] [0, 1, 2, 3, 4, 5, 6, 7, 8, 9, 10] (fun b => rfl) (by decide) rfl rfl (fun b => by kernel_rfl)⟩
    | c2 s0_0 s0_1 s0_2 s0_3 =>
      unfold st_barbicanlaw11_SockLedger_L2v1 at e
      dsimp only at e
      replace e := cond_eq_or e
      rcases e with ⟨hq0, e⟩ | ⟨hq0, e⟩
      · replace e := cond_eq_or e
        rcases e with ⟨hq1, e⟩ | ⟨hq1, e⟩
        · replace e := cond_eq_or e
          rcases e with ⟨hq2, e⟩ | ⟨hq2, e⟩
          · replace e := bindO_eq e
            obtain ⟨gb0, e_gb0, e⟩ := e
            obtain ⟨gb0_0, gb0_1, gb0_2, gb0_3⟩ := gb0
            try dsimp only at e
            replace e := cond_eq_or e
            rcases e with ⟨hq3, e⟩ | ⟨hq3, e⟩
            · cases e; exact ⟨ne_ret, goes_runM hU [.o, .o, .o, .b (z_lssT hq0), .o, .o, .q (ixM_ok (kd := .i64) (T := 37) (x := s0_3) (N := g1_6) (sz := 3) rfl (fun w => by kernel_rfl) hq1), .o, .l (accG (i := 9) (f := c_Event) (A := g1_7) (k := (s0_3).toNat) 0 [.bool true] c_Event_len (inR_nat hq1) (congrArg (fun b => [Value.bool b]) hq2)), .o, .o, .o, .cp, .cx (sp0_barbicanlaw11_SockLedger_L2v1_L3v5_0_ok hU a0 p0 q0 n0 k0 A0 hR0 y1 g0_0 g0_1 g0_2 g0_3 g0_4 g0_5 g0_6 g1_0 g1_1 g1_2 g1_3 g1_4 g1_5 g1_6 g1_7 s0_0 s0_1 s0_2 s0_3 (-1) 0 gb0_0 gb0_1 gb0_2 gb0_3 e_gb0) [0, 1, 2, 3, 4, 5, 6, 7, 8, 9, 10, 11], .o, .b (z_lssT hq3), .o] [0, 1, 2, 3, 4, 5, 6, 7, 8, 9, 11] (fun b => rfl) (by decide) rfl rfl (fun b => by kernel_rfl)⟩
            · replace e := cond_eq_or e
              rcases e with ⟨hq4, e⟩ | ⟨hq4, e⟩
              · replace e := cond_eq_or e
                rcases e with ⟨hq5, e⟩ | ⟨hq5, e⟩
                · replace e := cond_eq_or e
                  rcases e with ⟨hq6, e⟩ | ⟨hq6, e⟩
                  · replace e := cond_eq_or e
                    rcases e with ⟨hq7, e⟩ | ⟨hq7, e⟩
                    · replace e := cond_eq_or e
                      rcases e with ⟨hq8, e⟩ | ⟨hq8, e⟩
                      · replace e := cond_eq_or e
                        rcases e with ⟨hq9, e⟩ | ⟨hq9, e⟩
                        · replace e := bindT_eq e
                          obtain ⟨rb1, e_rb1, e⟩ := e
                          try dsimp only at e
                          cases e; exact goes_runM hU [.o, .o, .o, .b (z_lssT hq0), .o, .o, .q (ixM_ok (kd := .i64) (T := 37) (x := s0_3) (N := g1_6) (sz := 3) rfl (fun w => by kernel_rfl) hq1), .o, .l (accG (i := 9) (f := c_Event) (A := g1_7) (k := (s0_3).toNat) 0 [.bool true] c_Event_len (inR_nat hq1) (congrArg (fun b => [Value.bool b]) hq2)), .o, .o, .o, .cp, .cx (sp0_barbicanlaw11_SockLedger_L2v1_L3v5_0_ok hU a0 p0 q0 n0 k0 A0 hR0 y1 g0_0 g0_1 g0_2 g0_3 g0_4 g0_5 g0_6 g1_0 g1_1 g1_2 g1_3 g1_4 g1_5 g1_6 g1_7 s0_0 s0_1 s0_2 s0_3 (-1) 0 gb0_0 gb0_1 gb0_2 gb0_3 e_gb0) [0, 1, 2, 3, 4, 5, 6, 7, 8, 9, 10, 11], .o, .b (z_lssF hq3), .r [0, 1, 2, 3, 4, 5, 6, 7] [] [8, 9], .o, .o, .o, .qb (slLow_ok (T := 56) (e := 3) (sz := 1) (N := s0_0) (x := gb0_0) .cap (by kernel_rfl) (fun w => by kernel_rfl) hq4) 10, .o, .o, .o, .qb (slTail_ok (T := 56) (e := 3) (sz := 1) (N := s0_0) (x := (IntKind.i64.wrap (gb0_0 + 1))) .cap (by kernel_rfl) (fun w => by kernel_rfl) hq6) 10, .x (sqCut_ok (ty := 56) rt56 #[false, false] .cap (f := cZ) (N := s0_0) (p := (gb0_0).toNat) (q := ((IntKind.i64.wrap (gb0_0 + 1))).toNat) (A := s0_1) cZ_len hq7 hq8 hq9 (by decide) e_rb1) [10], .o, .o, .o, .o] [0, 1, 2, 3, 4, 5, 6, 7, 8, 9, 13] (fun b => rfl) (by decide) rfl rfl (fun b => by kernel_rfl)
                        · exact none_some e
                      · exact none_some e
                    · exact none_some e
                  · replace e := cond_eq_or e
                    rcases e with ⟨hq7, e⟩ | ⟨hq7, e⟩
                    · cases e; exact goes_runM hU [.o, .o, .o, .b (z_lssT hq0), .o, .o, .q (ixM_ok (kd := .i64) (T := 37) (x := s0_3) (N := g1_6) (sz := 3) rfl (fun w => by kernel_rfl) hq1), .o, .l (accG (i := 9) (f := c_Event) (A := g1_7) (k := (s0_3).toNat) 0 [.bool true] c_Event_len (inR_nat hq1) (congrArg (fun b => [Value.bool b]) hq2)), .o, .o, .o, .cp, .cx (sp0_barbicanlaw11_SockLedger_L2v1_L3v5_0_ok hU a0 p0 q0 n0 k0 A0 hR0 y1 g0_0 g0_1 g0_2 g0_3 g0_4 g0_5 g0_6 g1_0 g1_1 g1_2 g1_3 g1_4 g1_5 g1_6 g1_7 s0_0 s0_1 s0_2 s0_3 (-1) 0 gb0_0 gb0_1 gb0_2 gb0_3 e_gb0) [0, 1, 2, 3, 4, 5, 6, 7, 8, 9, 10, 11], .o, .b (z_lssF hq3), .r [0, 1, 2, 3, 4, 5, 6, 7] [] [8, 9], .o, .o, .o, .qb (slLow_ok (T := 56) (e := 3) (sz := 1) (N := s0_0) (x := gb0_0) .cap (by kernel_rfl) (fun w => by kernel_rfl) hq4) 10, .o, .o, .o, .qb (slEnd_ok (T := 56) (e := 3) (sz := 1) (N := s0_0) (x := (IntKind.i64.wrap (gb0_0 + 1))) .cap (by kernel_rfl) (fun w => by kernel_rfl) hq5 hq6) 10, .x (sqCutE_ok (ty := 56) rt56 #[false, false] .cap (f := cZ) (N := s0_0) (p := (gb0_0).toNat) (A := s0_1) cZ_len hq7) [10], .o, .o, .o, .o] [0, 1, 2, 3, 4, 5, 6, 7, 8, 9, 13] (fun b => rfl) (by decide) rfl rfl (fun b => by kernel_rfl)
                    · exact none_some e
                · exact none_some e
              · exact none_some e
          · replace e := cond_eq_or e
            rcases e with ⟨hq3, e⟩ | ⟨hq3, e⟩
            · replace e := cond_eq_or e
              rcases e with ⟨hq4, e⟩ | ⟨hq4, e⟩
              · cases e; exact goes_runM hU [.o, .o, .o, .b (z_lssT hq0), .o, .o, .q (ixM_ok (kd := .i64) (T := 37) (x := s0_3) (N := g1_6) (sz := 3) rfl (fun w => by kernel_rfl) hq1), .o, .l (accG (i := 9) (f := c_Event) (A := g1_7) (k := (s0_3).toNat) 0 [.bool false] c_Event_len (inR_nat hq1) (congrArg (fun b => [Value.bool b]) hq2)), .o, .o, .o, .q (ixM_ok (kd := .i64) (T := 37) (x := s0_3) (N := g1_6) (sz := 3) rfl (fun w => by kernel_rfl) hq1), .o, .l (accG (i := 9) (f := c_Event) (A := g1_7) (k := (s0_3).toNat) 1 [.int .i64 (((g1_7 (s0_3).toNat)).fId)] c_Event_len (inR_nat hq1) rfl), .o, .b (z_neqT hq3), .o, .o, .o, .o, .o, .o, .q (ixM_ok (kd := .i64) (T := 37) (x := s0_3) (N := g1_6) (sz := 3) rfl (fun w => by kernel_rfl) hq1), .o, .l (accG (i := 9) (f := c_Event) (A := g1_7) (k := (s0_3).toNat) 1 [.int .i64 (((g1_7 (s0_3).toNat)).fId)] c_Event_len (inR_nat hq1) rfl), .o, .x (sqAppCap_ok (ty := 56) rt56 #[false, false] (f := cZ) (N := s0_0) (A := s0_1) (c := 1) [((g1_7 (s0_3).toNat)).fId] (T' := 3) cZ_len hq4 rfl rfl (by decide) rfl) [10, 12], .o, .o, .o, .o] [0, 1, 2, 3, 4, 5, 6, 7, 8, 9, 13] (fun b => rfl) (by decide) rfl rfl (fun b => by kernel_rfl)
              · exact none_some e
            · cases e; exact ⟨ne_ret, goes_runM hU [.o, .o, .o, .b (z_lssT hq0), .o, .o, .q (ixM_ok (kd := .i64) (T := 37) (x := s0_3) (N := g1_6) (sz := 3) rfl (fun w => by kernel_rfl) hq1), .o, .l (accG (i := 9) (f := c_Event) (A := g1_7) (k := (s0_3).toNat) 0 [.bool false] c_Event_len (inR_nat hq1) (congrArg (fun b => [Value.bool b]) hq2)), .o, .o, .o, .q (ixM_ok (kd := .i64) (T := 37) (x := s0_3) (N := g1_6) (sz := 3) rfl (fun w => by kernel_rfl) hq1), .o, .l (accG (i := 9) (f := c_Event) (A := g1_7) (k := (s0_3).toNat) 1 [.int .i64 (((g1_7 (s0_3).toNat)).fId)] c_Event_len (inR_nat hq1) rfl), .o, .b (z_neqF hq3), .o] [0, 1, 2, 3, 4, 5, 6, 7, 8, 9, 11] (fun b => rfl) (by decide) rfl rfl (fun b => by kernel_rfl)⟩
        · exact none_some e
      · cases e; exact ⟨ne_exit 4, goes_runM hU [.o, .o, .o, .b (z_lssF hq0)] [0, 1, 2, 3, 4, 5, 6, 7, 8, 9, 10] (fun b => rfl) (by decide) rfl rfl (fun b => by kernel_rfl)⟩) s r h
noncomputable def t0_barbicanlaw11_SockLedger_L2v1_0 (a0 : Option Addr) (p0 : Nat) (q0 : Nat) (n0 : Nat) (k0 : Nat) (A0 : Nat → Step) (y1 : Int) (g0_0 : Nat) (g0_1 : Nat → Int) (g0_2 : Nat) (g0_3 : Nat → Reference) (g0_4 : Int) (g0_5 : Nat) (g0_6 : Nat → Event) (g1_0 : Nat) (g1_1 : Nat → Int) (g1_2 : Nat) (g1_3 : Nat → Reference) (g1_4 : Int) (g1_5 : Int) (g1_6 : Nat) (g1_7 : Nat → Event)  (ls : List L1) : List Value := List.append [.slice a0 n0 (n0 + k0), ((lget ls 8).u 1), ((lget ls 8).u 2), ((lget ls 8).u 3), .bool false, .pointer (some ⟨(lget ls 0).n, 0, none⟩)] (List.append (jks (lget ls 8).u 6 4) (List.append [(rowV (lget ls 9) g1_6 3), .slice none 0 0, .int .i64 (1), .int .i64 (0), ((lget ls 4).u 14), ((lget ls 4).u 15)] (List.append (jks (lget ls 8).u 16 66) (List.append [.pointer (some ⟨(lget ls 0).n, 0, none⟩), (rowV (lget ls 9) g1_6 3)] (jks (lget ls 4).u 84 66)))))
def pre_barbicanlaw11_SockLedger_L2v1_0 (a0 : Option Addr) (p0 : Nat) (q0 : Nat) (n0 : Nat) (k0 : Nat) (A0 : Nat → Step) (y1 : Int) (g0_0 : Nat) (g0_1 : Nat → Int) (g0_2 : Nat) (g0_3 : Nat → Reference) (g0_4 : Int) (g0_5 : Nat) (g0_6 : Nat → Event) (g1_0 : Nat) (g1_1 : Nat → Int) (g1_2 : Nat) (g1_3 : Nat → Reference) (g1_4 : Int) (g1_5 : Int) (g1_6 : Nat) (g1_7 : Nat → Event)  (ls : List L1) : List Obj := [.cells #[(rowV (lget ls 5) g1_0 1), (rowV (lget ls 6) g1_2 2), .int .i64 (g1_4), .int .i64 (g1_5), (rowV (lget ls 7) g1_6 3)] 78, unb, unb, unb, unb, rowO (lget ls 5) (esG cZ g1_0 g1_1) 3 g1_0 1, rowO (lget ls 6) (esG c_Reference g1_2 g1_3) 82 g1_2 2, rowO (lget ls 7) (esG c_Event g1_6 g1_7) 63 g1_6 3, unb, rowO (lget ls 9) (esG c_Event g1_6 g1_7) 63 g1_6 3]
theorem sp0_barbicanlaw11_SockLedger_L2v1_0_ok (g1_0 : Nat) (g1_1 : Nat → Int) (g1_2 : Nat) (g1_3 : Nat → Reference) (g1_4 : Int) (g1_5 : Int) (g1_6 : Nat) (g1_7 : Nat → Event) (h : lpO (st_barbicanlaw11_SockLedger_L2v1 g1_6 g1_7) (.c0) = some (.e0 )) : SpcG Try.prog M B0 S ⟨fun ls => .code (.loop bd_barbicanlaw11_SockLedger_L2v1) (t0_barbicanlaw11_SockLedger_L2v1_0 a0 p0 q0 n0 k0 A0 y1 g0_0 g0_1 g0_2 g0_3 g0_4 g0_5 g0_6 g1_0 g1_1 g1_2 g1_3 g1_4 g1_5 g1_6 g1_7  ls), pre_barbicanlaw11_SockLedger_L2v1_0 a0 p0 q0 n0 k0 A0 y1 g0_0 g0_1 g0_2 g0_3 g0_4 g0_5 g0_6 g1_0 g1_1 g1_2 g1_3 g1_4 g1_5 g1_6 g1_7 , 2, (.exit 4), fun ls => vf_barbicanlaw11_SockLedger_L2v1 a0 p0 q0 n0 k0 A0 y1 g0_0 g0_1 g0_2 g0_3 g0_4 g0_5 g0_6 g1_0 g1_1 g1_2 g1_3 g1_4 g1_5 g1_6 g1_7 (.e0 ) (ls.take 10 ++ ls.drop 10), fun ls => (Hf_barbicanlaw11_SockLedger_L2v1 a0 p0 q0 n0 k0 A0 y1 g0_0 g0_1 g0_2 g0_3 g0_4 g0_5 g0_6 g1_0 g1_1 g1_2 g1_3 g1_4 g1_5 g1_6 g1_7 (.e0 ) (ls.take 10 ++ ls.drop 10)).take 10 ++ List.replicate 0 unb, fun ls => (Hf_barbicanlaw11_SockLedger_L2v1 a0 p0 q0 n0 k0 A0 y1 g0_0 g0_1 g0_2 g0_3 g0_4 g0_5 g0_6 g1_0 g1_1 g1_2 g1_3 g1_4 g1_5 g1_6 g1_7 (.e0 ) (ls.take 10 ++ ls.drop 10)).drop 10⟩ :=
  spc_of_goesM hU 1 (k0 := 10) (go_barbicanlaw11_SockLedger_L2v1 hU a0 p0 q0 n0 k0 A0 hR0 y1 g0_0 g0_1 g0_2 g0_3 g0_4 g0_5 g0_6 g1_0 g1_1 g1_2 g1_3 g1_4 g1_5 g1_6 g1_7 _ _ h) (t0_barbicanlaw11_SockLedger_L2v1_0 a0 p0 q0 n0 k0 A0 y1 g0_0 g0_1 g0_2 g0_3 g0_4 g0_5 g0_6 g1_0 g1_1 g1_2 g1_3 g1_4 g1_5 g1_6 g1_7 ) (pre_barbicanlaw11_SockLedger_L2v1_0 a0 p0 q0 n0 k0 A0 y1 g0_0 g0_1 g0_2 g0_3 g0_4 g0_5 g0_6 g1_0 g1_1 g1_2 g1_3 g1_4 g1_5 g1_6 g1_7 ) (fun _ => rfl) (fun ls h => by match ls, h with | [l0, l1, l2, l3, l4, l5, l6, l7, l8, l9], _ => exact ⟨by kernel_rfl, by kernel_rfl⟩) (fun ls h => by match ls, h with | [l0, l1, l2, l3, l4, l5, l6, l7, l8, l9], _ => rfl) (by decide) (by decide) (fun ls => rfl)
theorem sp1_barbicanlaw11_SockLedger_L2v1_0_ok (g1_0 : Nat) (g1_1 : Nat → Int) (g1_2 : Nat) (g1_3 : Nat → Reference) (g1_4 : Int) (g1_5 : Int) (g1_6 : Nat) (g1_7 : Nat → Event) (c1_0 : Nat) (c1_1 : Nat → Int) (h : lpO (st_barbicanlaw11_SockLedger_L2v1 g1_6 g1_7) (.c0) = some (.e1 c1_0 c1_1)) : SpcG Try.prog M B0 S ⟨fun ls => .code (.loop bd_barbicanlaw11_SockLedger_L2v1) (t0_barbicanlaw11_SockLedger_L2v1_0 a0 p0 q0 n0 k0 A0 y1 g0_0 g0_1 g0_2 g0_3 g0_4 g0_5 g0_6 g1_0 g1_1 g1_2 g1_3 g1_4 g1_5 g1_6 g1_7  ls), pre_barbicanlaw11_SockLedger_L2v1_0 a0 p0 q0 n0 k0 A0 y1 g0_0 g0_1 g0_2 g0_3 g0_4 g0_5 g0_6 g1_0 g1_1 g1_2 g1_3 g1_4 g1_5 g1_6 g1_7 , 2, (.exit 4), fun ls => vf_barbicanlaw11_SockLedger_L2v1 a0 p0 q0 n0 k0 A0 y1 g0_0 g0_1 g0_2 g0_3 g0_4 g0_5 g0_6 g1_0 g1_1 g1_2 g1_3 g1_4 g1_5 g1_6 g1_7 (.e1 c1_0 c1_1) (ls.take 10 ++ ls.drop 10), fun ls => (Hf_barbicanlaw11_SockLedger_L2v1 a0 p0 q0 n0 k0 A0 y1 g0_0 g0_1 g0_2 g0_3 g0_4 g0_5 g0_6 g1_0 g1_1 g1_2 g1_3 g1_4 g1_5 g1_6 g1_7 (.e1 c1_0 c1_1) (ls.take 10 ++ ls.drop 10)).take 10 ++ List.replicate 0 unb, fun ls => (Hf_barbicanlaw11_SockLedger_L2v1 a0 p0 q0 n0 k0 A0 y1 g0_0 g0_1 g0_2 g0_3 g0_4 g0_5 g0_6 g1_0 g1_1 g1_2 g1_3 g1_4 g1_5 g1_6 g1_7 (.e1 c1_0 c1_1) (ls.take 10 ++ ls.drop 10)).drop 10⟩ :=
  spc_of_goesM hU 1 (k0 := 10) (go_barbicanlaw11_SockLedger_L2v1 hU a0 p0 q0 n0 k0 A0 hR0 y1 g0_0 g0_1 g0_2 g0_3 g0_4 g0_5 g0_6 g1_0 g1_1 g1_2 g1_3 g1_4 g1_5 g1_6 g1_7 _ _ h) (t0_barbicanlaw11_SockLedger_L2v1_0 a0 p0 q0 n0 k0 A0 y1 g0_0 g0_1 g0_2 g0_3 g0_4 g0_5 g0_6 g1_0 g1_1 g1_2 g1_3 g1_4 g1_5 g1_6 g1_7 ) (pre_barbicanlaw11_SockLedger_L2v1_0 a0 p0 q0 n0 k0 A0 y1 g0_0 g0_1 g0_2 g0_3 g0_4 g0_5 g0_6 g1_0 g1_1 g1_2 g1_3 g1_4 g1_5 g1_6 g1_7 ) (fun _ => rfl) (fun ls h => by match ls, h with | [l0, l1, l2, l3, l4, l5, l6, l7, l8, l9], _ => exact ⟨by kernel_rfl, by kernel_rfl⟩) (fun ls h => by match ls, h with | [l0, l1, l2, l3, l4, l5, l6, l7, l8, l9], _ => rfl) (by decide) (by decide) (fun ls => rfl)
theorem sp2_barbicanlaw11_SockLedger_L2v1_0_ok (g1_0 : Nat) (g1_1 : Nat → Int) (g1_2 : Nat) (g1_3 : Nat → Reference) (g1_4 : Int) (g1_5 : Int) (g1_6 : Nat) (g1_7 : Nat → Event) (c2_0 : Nat) (c2_1 : Nat → Int) (h : lpO (st_barbicanlaw11_SockLedger_L2v1 g1_6 g1_7) (.c0) = some (.e2 c2_0 c2_1)) : SpcG Try.prog M B0 S ⟨fun ls => .code (.loop bd_barbicanlaw11_SockLedger_L2v1) (t0_barbicanlaw11_SockLedger_L2v1_0 a0 p0 q0 n0 k0 A0 y1 g0_0 g0_1 g0_2 g0_3 g0_4 g0_5 g0_6 g1_0 g1_1 g1_2 g1_3 g1_4 g1_5 g1_6 g1_7  ls), pre_barbicanlaw11_SockLedger_L2v1_0 a0 p0 q0 n0 k0 A0 y1 g0_0 g0_1 g0_2 g0_3 g0_4 g0_5 g0_6 g1_0 g1_1 g1_2 g1_3 g1_4 g1_5 g1_6 g1_7 , 2, (.exit 4), fun ls => vf_barbicanlaw11_SockLedger_L2v1 a0 p0 q0 n0 k0 A0 y1 g0_0 g0_1 g0_2 g0_3 g0_4 g0_5 g0_6 g1_0 g1_1 g1_2 g1_3 g1_4 g1_5 g1_6 g1_7 (.e2 c2_0 c2_1) (ls.take 10 ++ ls.drop 10), fun ls => (Hf_barbicanlaw11_SockLedger_L2v1 a0 p0 q0 n0 k0 A0 y1 g0_0 g0_1 g0_2 g0_3 g0_4 g0_5 g0_6 g1_0 g1_1 g1_2 g1_3 g1_4 g1_5 g1_6 g1_7 (.e2 c2_0 c2_1) (ls.take 10 ++ ls.drop 10)).take 10 ++ List.replicate 0 unb, fun ls => (Hf_barbicanlaw11_SockLedger_L2v1 a0 p0 q0 n0 k0 A0 y1 g0_0 g0_1 g0_2 g0_3 g0_4 g0_5 g0_6 g1_0 g1_1 g1_2 g1_3 g1_4 g1_5 g1_6 g1_7 (.e2 c2_0 c2_1) (ls.take 10 ++ ls.drop 10)).drop 10⟩ :=
  spc_of_goesM hU 1 (k0 := 10) (go_barbicanlaw11_SockLedger_L2v1 hU a0 p0 q0 n0 k0 A0 hR0 y1 g0_0 g0_1 g0_2 g0_3 g0_4 g0_5 g0_6 g1_0 g1_1 g1_2 g1_3 g1_4 g1_5 g1_6 g1_7 _ _ h) (t0_barbicanlaw11_SockLedger_L2v1_0 a0 p0 q0 n0 k0 A0 y1 g0_0 g0_1 g0_2 g0_3 g0_4 g0_5 g0_6 g1_0 g1_1 g1_2 g1_3 g1_4 g1_5 g1_6 g1_7 ) (pre_barbicanlaw11_SockLedger_L2v1_0 a0 p0 q0 n0 k0 A0 y1 g0_0 g0_1 g0_2 g0_3 g0_4 g0_5 g0_6 g1_0 g1_1 g1_2 g1_3 g1_4 g1_5 g1_6 g1_7 ) (fun _ => rfl) (fun ls h => by match ls, h with | [l0, l1, l2, l3, l4, l5, l6, l7, l8, l9], _ => exact ⟨by kernel_rfl, by kernel_rfl⟩) (fun ls h => by match ls, h with | [l0, l1, l2, l3, l4, l5, l6, l7, l8, l9], _ => rfl) (by decide) (by decide) (fun ls => rfl)
theorem sp3_barbicanlaw11_SockLedger_L2v1_0_ok (g1_0 : Nat) (g1_1 : Nat → Int) (g1_2 : Nat) (g1_3 : Nat → Reference) (g1_4 : Int) (g1_5 : Int) (g1_6 : Nat) (g1_7 : Nat → Event) (h : lpO (st_barbicanlaw11_SockLedger_L2v1 g1_6 g1_7) (.c0) = some (.e3 )) : SpcG Try.prog M B0 S ⟨fun ls => .code (.loop bd_barbicanlaw11_SockLedger_L2v1) (t0_barbicanlaw11_SockLedger_L2v1_0 a0 p0 q0 n0 k0 A0 y1 g0_0 g0_1 g0_2 g0_3 g0_4 g0_5 g0_6 g1_0 g1_1 g1_2 g1_3 g1_4 g1_5 g1_6 g1_7  ls), pre_barbicanlaw11_SockLedger_L2v1_0 a0 p0 q0 n0 k0 A0 y1 g0_0 g0_1 g0_2 g0_3 g0_4 g0_5 g0_6 g1_0 g1_1 g1_2 g1_3 g1_4 g1_5 g1_6 g1_7 , 2, .ret, fun ls => vf_barbicanlaw11_SockLedger_L2v1 a0 p0 q0 n0 k0 A0 y1 g0_0 g0_1 g0_2 g0_3 g0_4 g0_5 g0_6 g1_0 g1_1 g1_2 g1_3 g1_4 g1_5 g1_6 g1_7 (.e3 ) (ls.take 10 ++ ls.drop 10), fun ls => (Hf_barbicanlaw11_SockLedger_L2v1 a0 p0 q0 n0 k0 A0 y1 g0_0 g0_1 g0_2 g0_3 g0_4 g0_5 g0_6 g1_0 g1_1 g1_2 g1_3 g1_4 g1_5 g1_6 g1_7 (.e3 ) (ls.take 10 ++ ls.drop 10)).take 10 ++ List.replicate 0 unb, fun ls => (Hf_barbicanlaw11_SockLedger_L2v1 a0 p0 q0 n0 k0 A0 y1 g0_0 g0_1 g0_2 g0_3 g0_4 g0_5 g0_6 g1_0 g1_1 g1_2 g1_3 g1_4 g1_5 g1_6 g1_7 (.e3 ) (ls.take 10 ++ ls.drop 10)).drop 10⟩ :=
  spc_of_goesM hU 1 (k0 := 10) (go_barbicanlaw11_SockLedger_L2v1 hU a0 p0 q0 n0 k0 A0 hR0 y1 g0_0 g0_1 g0_2 g0_3 g0_4 g0_5 g0_6 g1_0 g1_1 g1_2 g1_3 g1_4 g1_5 g1_6 g1_7 _ _ h) (t0_barbicanlaw11_SockLedger_L2v1_0 a0 p0 q0 n0 k0 A0 y1 g0_0 g0_1 g0_2 g0_3 g0_4 g0_5 g0_6 g1_0 g1_1 g1_2 g1_3 g1_4 g1_5 g1_6 g1_7 ) (pre_barbicanlaw11_SockLedger_L2v1_0 a0 p0 q0 n0 k0 A0 y1 g0_0 g0_1 g0_2 g0_3 g0_4 g0_5 g0_6 g1_0 g1_1 g1_2 g1_3 g1_4 g1_5 g1_6 g1_7 ) (fun _ => rfl) (fun ls h => by match ls, h with | [l0, l1, l2, l3, l4, l5, l6, l7, l8, l9], _ => exact ⟨by kernel_rfl, by kernel_rfl⟩) (fun ls h => by match ls, h with | [l0, l1, l2, l3, l4, l5, l6, l7, l8, l9], _ => rfl) (by decide) (by decide) (fun ls => rfl)
noncomputable def m_barbicanlaw11_SockLedger (n0 : Nat) (A0 : Nat → Step) (y1 : Int) : Option (Bool) :=
  bif decide (60 < (n0 : Int)) then
    (some true)
  else (bif decide (y1 < 0) then
    (some true)
  else (bif decide (300 < y1) then
    (some true)
  else ((lpO (st_barbicanlaw11_SockLedger_L0 y1) (.c0)).bind fun g0 => match g0 with
  | .e0  => ((lpO (st_barbicanlaw11_SockLedger_L1 n0 A0) (.c0 0)).bind fun g1 => match g1 with
    | .e0  => ((m_sock_Ledger_Held 0).bind fun g2 => match g2 with
      | .e0 =>
      (m_barbicanhelp_Ints 0 (fun _ => 0) 0 (fun _ => 0)).bind fun r3 =>
      bif r3 then
        (some true)
      else (some false))
    | .e1 g1_0 g1_1 g1_2 g1_3 g1_4 g1_5 g1_6 g1_7 => ((m_sock_Ledger_Events_v1 g1_0 g1_2 g1_4 g1_5 g1_6 g1_1 g1_3 g1_7).bind fun g2 => match g2 with
      | .e0 =>
      (lpO (st_barbicanlaw11_SockLedger_L2 g1_6 g1_7) (.c0)).bind fun g3 => match g3 with
      | .e0  => ((m_sock_Ledger_Held_v1 g1_0 g1_2 g1_4 g1_5 g1_6 g1_1 g1_3 g1_7).bind fun g4 => match g4 with
        | .e0  => ((m_barbicanhelp_Ints 0 (fun _ => 0) 0 (fun _ => 0)).bind fun r5 =>
          bif r5 then
            (some true)
          else (some false))
        | .e1 g4_0 g4_1 => ((m_barbicanhelp_Ints 0 (fun _ => 0) g4_0 g4_1).bind fun r5 =>
          bif r5 then
            (some true)
          else (some false)))
      | .e1 g3_0 g3_1 => ((m_sock_Ledger_Held_v1 g1_0 g1_2 g1_4 g1_5 g1_6 g1_1 g1_3 g1_7).bind fun g4 => match g4 with
        | .e0  => ((m_barbicanhelp_Ints g3_0 g3_1 0 (fun _ => 0)).bind fun r5 =>
          bif r5 then
            (some (decide ((g3_0 : Int) ≤ 256)))
          else (some false))
        | .e1 g4_0 g4_1 => ((m_barbicanhelp_Ints g3_0 g3_1 g4_0 g4_1).bind fun r5 =>
          bif r5 then
            (some (decide ((g3_0 : Int) ≤ 256)))
          else (some false)))
      | .e2 g3_0 g3_1 => ((m_sock_Ledger_Held_v1 g1_0 g1_2 g1_4 g1_5 g1_6 g1_1 g1_3 g1_7).bind fun g4 => match g4 with
        | .e0  => ((m_barbicanhelp_Ints g3_0 g3_1 0 (fun _ => 0)).bind fun r5 =>
          bif r5 then
            (some (decide ((g3_0 : Int) ≤ 256)))
          else (some false))
        | .e1 g4_0 g4_1 => ((m_barbicanhelp_Ints g3_0 g3_1 g4_0 g4_1).bind fun r5 =>
          bif r5 then
            (some (decide ((g3_0 : Int) ≤ 256)))
          else (some false)))
      | .e3  => (some false)))
  | .e1 g0_0 g0_1 g0_2 g0_3 g0_4 g0_5 g0_6 => ((lpO (st_barbicanlaw11_SockLedger_L1v1 n0 A0) (.c0 g0_0 g0_1 g0_2 g0_3 g0_4 0 g0_5 g0_6 0)).bind fun g1 => match g1 with
    | .e0 g1_0 g1_1 g1_2 g1_3 g1_4 g1_5 g1_6 g1_7 =>
    (m_sock_Ledger_Events_v1 g1_0 g1_2 g1_4 g1_5 g1_6 g1_1 g1_3 g1_7).bind fun g2 => match g2 with
    | .e0 =>
    (lpO (st_barbicanlaw11_SockLedger_L2v1 g1_6 g1_7) (.c0)).bind fun g3 => match g3 with
    | .e0  => ((m_sock_Ledger_Held_v1 g1_0 g1_2 g1_4 g1_5 g1_6 g1_1 g1_3 g1_7).bind fun g4 => match g4 with
      | .e0  => ((m_barbicanhelp_Ints 0 (fun _ => 0) 0 (fun _ => 0)).bind fun r5 =>
        bif r5 then
          (some true)
        else (some false))
      | .e1 g4_0 g4_1 => ((m_barbicanhelp_Ints 0 (fun _ => 0) g4_0 g4_1).bind fun r5 =>
        bif r5 then
          (some true)
        else (some false)))
    | .e1 g3_0 g3_1 => ((m_sock_Ledger_Held_v1 g1_0 g1_2 g1_4 g1_5 g1_6 g1_1 g1_3 g1_7).bind fun g4 => match g4 with
      | .e0  => ((m_barbicanhelp_Ints g3_0 g3_1 0 (fun _ => 0)).bind fun r5 =>
        bif r5 then
          (some (decide ((g3_0 : Int) ≤ 256)))
        else (some false))
      | .e1 g4_0 g4_1 => ((m_barbicanhelp_Ints g3_0 g3_1 g4_0 g4_1).bind fun r5 =>
        bif r5 then
          (some (decide ((g3_0 : Int) ≤ 256)))
        else (some false)))
    | .e2 g3_0 g3_1 => ((m_sock_Ledger_Held_v1 g1_0 g1_2 g1_4 g1_5 g1_6 g1_1 g1_3 g1_7).bind fun g4 => match g4 with
      | .e0  => ((m_barbicanhelp_Ints g3_0 g3_1 0 (fun _ => 0)).bind fun r5 =>
        bif r5 then
          (some (decide ((g3_0 : Int) ≤ 256)))
        else (some false))
      | .e1 g4_0 g4_1 => ((m_barbicanhelp_Ints g3_0 g3_1 g4_0 g4_1).bind fun r5 =>
        bif r5 then
          (some (decide ((g3_0 : Int) ≤ 256)))
        else (some false)))
    | .e3  => (some false))
  | .e2  => (some false)
  | .e3 g0_0 g0_1 g0_2 g0_3 g0_4 g0_5 g0_6 => (some false))))
end
section
variable {M : Nat → Prop} {B0 : Nat} {S : World → Prop} (hU : Up M B0 S)
include hU
theorem ok_barbicanlaw11_SockLedger (a0 : Option Addr) (p0 : Nat) (q0 : Nat) (n0 : Nat) (k0 : Nat) (A0 : Nat → Step) (hR0 : Ro S c_Step 4 a0 p0 q0 n0 A0) (y1 : Int) (r : Bool) (e : m_barbicanlaw11_SockLedger n0 A0 y1 = some r) : ConG Try.prog S 4 #[.slice a0 n0 (n0 + k0), .int .i64 (y1)] (.bool (r)) := by
  unfold m_barbicanlaw11_SockLedger at e
  replace e := cond_eq_or e
  rcases e with ⟨hq0, e⟩ | ⟨hq0, e⟩
  · injection e with e; subst e; exact fn_conG hU (P := Try.prog) Try.func4 (fun xs w => by kernel_rfl) _ _ [.o, .cg (ok_barbicanlaw11_known hU  ), .o, .o, .o, .b (z_gtrT hq0), .o, .o, .o, .o, .o] [] (fun b => by kernel_rfl)
  · replace e := cond_eq_or e
    rcases e with ⟨hq1, e⟩ | ⟨hq1, e⟩
    · injection e with e; subst e; exact fn_conG hU (P := Try.prog) Try.func4 (fun xs w => by kernel_rfl) _ _ [.o, .cg (ok_barbicanlaw11_known hU  ), .o, .o, .o, .b (z_gtrF hq0), .o, .o, .b (z_lssT hq1), .o, .o, .o, .o] [] (fun b => by kernel_rfl)
    · replace e := cond_eq_or e
      rcases e with ⟨hq2, e⟩ | ⟨hq2, e⟩
      · injection e with e; subst e; exact fn_conG hU (P := Try.prog) Try.func4 (fun xs w => by kernel_rfl) _ _ [.o, .cg (ok_barbicanlaw11_known hU  ), .o, .o, .o, .b (z_gtrF hq0), .o, .o, .b (z_lssF hq1), .o, .o, .o, .b (z_gtrT hq2), .o, .o] [] (fun b => by kernel_rfl)
      · replace e := bindO_eq e
        obtain ⟨g0, e_g0, e⟩ := e
        rcases g0 with _ | ⟨g0_0, g0_1, g0_2, g0_3, g0_4, g0_5, g0_6⟩ | _ | ⟨g0_0, g0_1, g0_2, g0_3, g0_4, g0_5, g0_6⟩
        · try dsimp only at e
          replace e := bindO_eq e
          obtain ⟨g1, e_g1, e⟩ := e
          rcases g1 with _ | ⟨g1_0, g1_1, g1_2, g1_3, g1_4, g1_5, g1_6, g1_7⟩
          · try dsimp only at e
            replace e := bindO_eq e
            obtain ⟨g2, e_g2, e⟩ := e
            cases g2
            try dsimp only at e
            replace e := bindO_eq e
            obtain ⟨r3, e_r3, e⟩ := e
            try dsimp only at e
            replace e := cond_eq_or e
            rcases e with ⟨hq3, e⟩ | ⟨hq3, e⟩
            · subst hq3
              injection e with e; subst e; exact fn_conG hU (P := Try.prog) Try.func4 (fun xs w => by kernel_rfl) _ _ [.o, .cg (ok_barbicanlaw11_known hU  ), .o, .o, .o, .b (z_gtrF hq0), .o, .o, .b (z_lssF hq1), .o, .o, .o, .b (z_gtrF hq2), .o, .xg (p0_sock_NewLedger hU  ) [], .o, .o, .cp, .cx (sp0_barbicanlaw11_SockLedger_L0_0_ok hU a0 p0 q0 n0 k0 A0 hR0 y1   e_g0) [0], .o, .cp, .cx (sp0_barbicanlaw11_SockLedger_L1_0_ok hU a0 p0 q0 n0 k0 A0 hR0 y1 0  e_g1) [0, 1, 2, 3, 4], .o, .xg (p0_sock_Ledger_Events hU 0 ) [0], .o, .o, .o, .o, .o, .o, .o, .o, .o, .o, .xg (ok0_sock_Ledger_Held hU 0  e_g2) [0], .cg (ok_barbicanhelp_Ints hU none 0 0 0 0 (fun _ => 0) Ro.nil none 0 0 0 0 (fun _ => 0) Ro.nil true e_r3), .o, .o, .o, .o, .o, .o] [] (fun b => by kernel_rfl)
            · subst hq3
              injection e with e; subst e; exact fn_conG hU (P := Try.prog) Try.func4 (fun xs w => by kernel_rfl) _ _ [.o, .cg (ok_barbicanlaw11_known hU  ), .o, .o, .o, .b (z_gtrF hq0), .o, .o, .b (z_lssF hq1), .o, .o, .o, .b (z_gtrF hq2), .o, .xg (p0_sock_NewLedger hU  ) [], .o, .o, .cp, .cx (sp0_barbicanlaw11_SockLedger_L0_0_ok hU a0 p0 q0 n0 k0 A0 hR0 y1   e_g0) [0], .o, .cp, .cx (sp0_barbicanlaw11_SockLedger_L1_0_ok hU a0 p0 q0 n0 k0 A0 hR0 y1 0  e_g1) [0, 1, 2, 3, 4], .o, .xg (p0_sock_Ledger_Events hU 0 ) [0], .o, .o, .o, .o, .o, .o, .o, .o, .o, .o, .xg (ok0_sock_Ledger_Held hU 0  e_g2) [0], .cg (ok_barbicanhelp_Ints hU none 0 0 0 0 (fun _ => 0) Ro.nil none 0 0 0 0 (fun _ => 0) Ro.nil false e_r3), .o, .o, .o] [] (fun b => by kernel_rfl)
          · try dsimp only at e
            replace e := bindO_eq e
            obtain ⟨g2, e_g2, e⟩ := e
            cases g2
            try dsimp only at e
            replace e := bindO_eq e
            obtain ⟨g3, e_g3, e⟩ := e
            rcases g3 with _ | ⟨g3_0, g3_1⟩ | ⟨g3_0, g3_1⟩ | _
            · try dsimp only at e
              replace e := bindO_eq e
              obtain ⟨g4, e_g4, e⟩ := e
              rcases g4 with _ | ⟨g4_0, g4_1⟩
              · try dsimp only at e
                replace e := bindO_eq e
                obtain ⟨r5, e_r5, e⟩ := e
                try dsimp only at e
                replace e := cond_eq_or e
                rcases e with ⟨hq3, e⟩ | ⟨hq3, e⟩
                · subst hq3
                  injection e with e; subst e; exact fn_conG hU (P := Try.prog) Try.func4 (fun xs w => by kernel_rfl) _ _ [.o, .cg (ok_barbicanlaw11_known hU  ), .o, .o, .o, .b (z_gtrF hq0), .o, .o, .b (z_lssF hq1), .o, .o, .o, .b (z_gtrF hq2), .o, .xg (p0_sock_NewLedger hU  ) [], .o, .o, .cp, .cx (sp0_barbicanlaw11_SockLedger_L0_0_ok hU a0 p0 q0 n0 k0 A0 hR0 y1   e_g0) [0], .o, .cp, .cx (sp1_barbicanlaw11_SockLedger_L1_0_ok hU a0 p0 q0 n0 k0 A0 hR0 y1 0 g1_0 g1_1 g1_2 g1_3 g1_4 g1_5 g1_6 g1_7 e_g1) [0, 1, 2, 3, 4], .o, .xg (ok0_sock_Ledger_Events_v1 hU g1_0 g1_2 g1_4 g1_5 g1_6 g1_1 g1_3 g1_7  e_g2) [0, 5, 6, 7], .o, .o, .o, .o, .cp, .cx (sp0_barbicanlaw11_SockLedger_L2_0_ok hU a0 p0 q0 n0 k0 A0 hR0 y1 g1_0 g1_1 g1_2 g1_3 g1_4 g1_5 g1_6 g1_7   e_g3) [0, 1, 2, 3, 4, 5, 6, 7, 8, 9], .o, .o, .xg (ok0_sock_Ledger_Held_v1 hU g1_0 g1_2 g1_4 g1_5 g1_6 g1_1 g1_3 g1_7  e_g4) [0, 5, 6, 7], .cg (ok_barbicanhelp_Ints hU none 0 0 0 0 (fun _ => 0) Ro.nil none 0 0 0 0 (fun _ => 0) Ro.nil true e_r5), .o, .o, .o, .o, .o, .o] [] (fun b => by kernel_rfl)
                · subst hq3
                  injection e with e; subst e; exact fn_conG hU (P := Try.prog) Try.func4 (fun xs w => by kernel_rfl) _ _ [.o, .cg (ok_barbicanlaw11_known hU  ), .o, .o, .o, .b (z_gtrF hq0), .o, .o, .b (z_lssF hq1), .o, .o, .o, .b (z_gtrF hq2), .o, .xg (p0_sock_NewLedger hU  ) [], .o, .o, .cp, .cx (sp0_barbicanlaw11_SockLedger_L0_0_ok hU a0 p0 q0 n0 k0 A0 hR0 y1   e_g0) [0], .o, .cp, .cx (sp1_barbicanlaw11_SockLedger_L1_0_ok hU a0 p0 q0 n0 k0 A0 hR0 y1 0 g1_0 g1_1 g1_2 g1_3 g1_4 g1_5 g1_6 g1_7 e_g1) [0, 1, 2, 3, 4], .o, .xg (ok0_sock_Ledger_Events_v1 hU g1_0 g1_2 g1_4 g1_5 g1_6 g1_1 g1_3 g1_7  e_g2) [0, 5, 6, 7], .o, .o, .o, .o, .cp, .cx (sp0_barbicanlaw11_SockLedger_L2_0_ok hU a0 p0 q0 n0 k0 A0 hR0 y1 g1_0 g1_1 g1_2 g1_3 g1_4 g1_5 g1_6 g1_7   e_g3) [0, 1, 2, 3, 4, 5, 6, 7, 8, 9], .o, .o, .xg (ok0_sock_Ledger_Held_v1 hU g1_0 g1_2 g1_4 g1_5 g1_6 g1_1 g1_3 g1_7  e_g4) [0, 5, 6, 7], .cg (ok_barbicanhelp_Ints hU none 0 0 0 0 (fun _ => 0) Ro.nil none 0 0 0 0 (fun _ => 0) Ro.nil false e_r5), .o, .o, .o] [] (fun b => by kernel_rfl)
              · try dsimp only at e
                replace e := bindO_eq e
                obtain ⟨r5, e_r5, e⟩ := e
                try dsimp only at e
                replace e := cond_eq_or e
                rcases e with ⟨hq3, e⟩ | ⟨hq3, e⟩
                · subst hq3
                  injection e with e; subst e; exact fn_conG hU (P := Try.prog) Try.func4 (fun xs w => by kernel_rfl) _ _ [.o, .cg (ok_barbicanlaw11_known hU  ), .o, .o, .o, .b (z_gtrF hq0), .o, .o, .b (z_lssF hq1), .o, .o, .o, .b (z_gtrF hq2), .o, .xg (p0_sock_NewLedger hU  ) [], .o, .o, .cp, .cx (sp0_barbicanlaw11_SockLedger_L0_0_ok hU a0 p0 q0 n0 k0 A0 hR0 y1   e_g0) [0], .o, .cp, .cx (sp1_barbicanlaw11_SockLedger_L1_0_ok hU a0 p0 q0 n0 k0 A0 hR0 y1 0 g1_0 g1_1 g1_2 g1_3 g1_4 g1_5 g1_6 g1_7 e_g1) [0, 1, 2, 3, 4], .o, .xg (ok0_sock_Ledger_Events_v1 hU g1_0 g1_2 g1_4 g1_5 g1_6 g1_1 g1_3 g1_7  e_g2) [0, 5, 6, 7], .o, .o, .o, .o, .cp, .cx (sp0_barbicanlaw11_SockLedger_L2_0_ok hU a0 p0 q0 n0 k0 A0 hR0 y1 g1_0 g1_1 g1_2 g1_3 g1_4 g1_5 g1_6 g1_7   e_g3) [0, 1, 2, 3, 4, 5, 6, 7, 8, 9], .o, .o, .xg (ok1_sock_Ledger_Held_v1 hU g1_0 g1_2 g1_4 g1_5 g1_6 g1_1 g1_3 g1_7 g4_0 g4_1 e_g4) [0, 5, 6, 7], .xg (SpcG.ownC hU cZ_len g4_0 g4_1 3 fun hU x u v z hr => ok_barbicanhelp_Ints hU none 0 0 0 0 (fun _ => 0) Ro.nil x u v g4_0 z g4_1 hr true e_r5) [12], .o, .o, .o, .o, .o, .o] [] (fun b => by kernel_rfl)
                · subst hq3
                  injection e with e; subst e; exact fn_conG hU (P := Try.prog) Try.func4 (fun xs w => by kernel_rfl) _ _ [.o, .cg (ok_barbicanlaw11_known hU  ), .o, .o, .o, .b (z_gtrF hq0), .o, .o, .b (z_lssF hq1), .o, .o, .o, .b (z_gtrF hq2), .o, .xg (p0_sock_NewLedger hU  ) [], .o, .o, .cp, .cx (sp0_barbicanlaw11_SockLedger_L0_0_ok hU a0 p0 q0 n0 k0 A0 hR0 y1   e_g0) [0], .o, .cp, .cx (sp1_barbicanlaw11_SockLedger_L1_0_ok hU a0 p0 q0 n0 k0 A0 hR0 y1 0 g1_0 g1_1 g1_2 g1_3 g1_4 g1_5 g1_6 g1_7 e_g1) [0, 1, 2, 3, 4], .o, .xg (ok0_sock_Ledger_Events_v1 hU g1_0 g1_2 g1_4 g1_5 g1_6 g1_1 g1_3 g1_7  e_g2) [0, 5, 6, 7], .o, .o, .o, .o, .cp, .cx (sp0_barbicanlaw11_SockLedger_L2_0_ok hU a0 p0 q0 n0 k0 A0 hR0 y1 g1_0 g1_1 g1_2 g1_3 g1_4 g1_5 g1_6 g1_7   e_g3) [0, 1, 2, 3, 4, 5, 6, 7, 8, 9], .o, .o, .xg (ok1_sock_Ledger_Held_v1 hU g1_0 g1_2 g1_4 g1_5 g1_6 g1_1 g1_3 g1_7 g4_0 g4_1 e_g4) [0, 5, 6, 7], .xg (SpcG.ownC hU cZ_len g4_0 g4_1 3 fun hU x u v z hr => ok_barbicanhelp_Ints hU none 0 0 0 0 (fun _ => 0) Ro.nil x u v g4_0 z g4_1 hr false e_r5) [12], .o, .o, .o] [] (fun b => by kernel_rfl)
            · try dsimp only at e
              replace e := bindO_eq e
              obtain ⟨g4, e_g4, e⟩ := e
              rcases g4 with _ | ⟨g4_0, g4_1⟩
              · try dsimp only at e
                replace e := bindO_eq e
                obtain ⟨r5, e_r5, e⟩ := e
                try dsimp only at e
                replace e := cond_eq_or e
                rcases e with ⟨hq3, e⟩ | ⟨hq3, e⟩
                · subst hq3
                  injection e with e; subst e; exact fn_conG hU (P := Try.prog) Try.func4 (fun xs w => by kernel_rfl) _ _ [.o, .cg (ok_barbicanlaw11_known hU  ), .o, .o, .o, .b (z_gtrF hq0), .o, .o, .b (z_lssF hq1), .o, .o, .o, .b (z_gtrF hq2), .o, .xg (p0_sock_NewLedger hU  ) [], .o, .o, .cp, .cx (sp0_barbicanlaw11_SockLedger_L0_0_ok hU a0 p0 q0 n0 k0 A0 hR0 y1   e_g0) [0], .o, .cp, .cx (sp1_barbicanlaw11_SockLedger_L1_0_ok hU a0 p0 q0 n0 k0 A0 hR0 y1 0 g1_0 g1_1 g1_2 g1_3 g1_4 g1_5 g1_6 g1_7 e_g1) [0, 1, 2, 3, 4], .o, .xg (ok0_sock_Ledger_Events_v1 hU g1_0 g1_2 g1_4 g1_5 g1_6 g1_1 g1_3 g1_7  e_g2) [0, 5, 6, 7], .o, .o, .o, .o, .cp, .cx (sp1_barbicanlaw11_SockLedger_L2_0_ok hU a0 p0 q0 n0 k0 A0 hR0 y1 g1_0 g1_1 g1_2 g1_3 g1_4 g1_5 g1_6 g1_7  g3_0 g3_1 e_g3) [0, 1, 2, 3, 4, 5, 6, 7, 8, 9], .o, .o, .xg (ok0_sock_Ledger_Held_v1 hU g1_0 g1_2 g1_4 g1_5 g1_6 g1_1 g1_3 g1_7  e_g4) [0, 5, 6, 7], .xg (SpcG.ownC hU cZ_len g3_0 g3_1 3 fun hU x u v z hr => ok_barbicanhelp_Ints hU x u v g3_0 z g3_1 hr none 0 0 0 0 (fun _ => 0) Ro.nil true e_r5) [10], .o, .o, .o, .o, .o, .o] [] (fun b => by kernel_rfl)
                · subst hq3
                  injection e with e; subst e; exact fn_conG hU (P := Try.prog) Try.func4 (fun xs w => by kernel_rfl) _ _ [.o, .cg (ok_barbicanlaw11_known hU  ), .o, .o, .o, .b (z_gtrF hq0), .o, .o, .b (z_lssF hq1), .o, .o, .o, .b (z_gtrF hq2), .o, .xg (p0_sock_NewLedger hU  ) [], .o, .o, .cp, .cx (sp0_barbicanlaw11_SockLedger_L0_0_ok hU a0 p0 q0 n0 k0 A0 hR0 y1   e_g0) [0], .o, .cp, .cx (sp1_barbicanlaw11_SockLedger_L1_0_ok hU a0 p0 q0 n0 k0 A0 hR0 y1 0 g1_0 g1_1 g1_2 g1_3 g1_4 g1_5 g1_6 g1_7 e_g1) [0, 1, 2, 3, 4], .o, .xg (ok0_sock_Ledger_Events_v1 hU g1_0 g1_2 g1_4 g1_5 g1_6 g1_1 g1_3 g1_7  e_g2) [0, 5, 6, 7], .o, .o, .o, .o, .cp, .cx (sp1_barbicanlaw11_SockLedger_L2_0_ok hU a0 p0 q0 n0 k0 A0 hR0 y1 g1_0 g1_1 g1_2 g1_3 g1_4 g1_5 g1_6 g1_7  g3_0 g3_1 e_g3) [0, 1, 2, 3, 4, 5, 6, 7, 8, 9], .o, .o, .xg (ok0_sock_Ledger_Held_v1 hU g1_0 g1_2 g1_4 g1_5 g1_6 g1_1 g1_3 g1_7  e_g4) [0, 5, 6, 7], .xg (SpcG.ownC hU cZ_len g3_0 g3_1 3 fun hU x u v z hr => ok_barbicanhelp_Ints hU x u v g3_0 z g3_1 hr none 0 0 0 0 (fun _ => 0) Ro.nil false e_r5) [10], .o, .o, .o] [] (fun b => by kernel_rfl)
              · try dsimp only at e
                replace e := bindO_eq e
                obtain ⟨r5, e_r5, e⟩ := e
                try dsimp only at e
                replace e := cond_eq_or e
                rcases e with ⟨hq3, e⟩ | ⟨hq3, e⟩
                · subst hq3
                  injection e with e; subst e; exact fn_conG hU (P := Try.prog) Try.func4 (fun xs w => by kernel_rfl) _ _ [.o, .cg (ok_barbicanlaw11_known hU  ), .o, .o, .o, .b (z_gtrF hq0), .o, .o, .b (z_lssF hq1), .o, .o, .o, .b (z_gtrF hq2), .o, .xg (p0_sock_NewLedger hU  ) [], .o, .o, .cp, .cx (sp0_barbicanlaw11_SockLedger_L0_0_ok hU a0 p0 q0 n0 k0 A0 hR0 y1   e_g0) [0], .o, .cp, .cx (sp1_barbicanlaw11_SockLedger_L1_0_ok hU a0 p0 q0 n0 k0 A0 hR0 y1 0 g1_0 g1_1 g1_2 g1_3 g1_4 g1_5 g1_6 g1_7 e_g1) [0, 1, 2, 3, 4], .o, .xg (ok0_sock_Ledger_Events_v1 hU g1_0 g1_2 g1_4 g1_5 g1_6 g1_1 g1_3 g1_7  e_g2) [0, 5, 6, 7], .o, .o, .o, .o, .cp, .cx (sp1_barbicanlaw11_SockLedger_L2_0_ok hU a0 p0 q0 n0 k0 A0 hR0 y1 g1_0 g1_1 g1_2 g1_3 g1_4 g1_5 g1_6 g1_7  g3_0 g3_1 e_g3) [0, 1, 2, 3, 4, 5, 6, 7, 8, 9], .o, .o, .xg (ok1_sock_Ledger_Held_v1 hU g1_0 g1_2 g1_4 g1_5 g1_6 g1_1 g1_3 g1_7 g4_0 g4_1 e_g4) [0, 5, 6, 7], .xg (SpcG.own hU (f := cZ) cZ_len g3_0 g3_1 3 (fun l => padL l g3_0 1) (fun l => (padL l g3_0 1).length / 1) _ 0 .normal (by intros; rfl) (by intros; rfl) (by intros; rfl) (fun M0 B0 S0 x0 u0 v0 z0 hU0 hs0 hr0 => SpcG.own hU0 (f := cZ) cZ_len g4_0 g4_1 3 (fun l => padL l g4_0 1) (fun l => (padL l g4_0 1).length / 1) _ 0 .normal (by intros; rfl) (by intros; rfl) (by intros; rfl) (fun M1 B1 S1 x1 u1 v1 z1 hU1 hs1 hr1 => ConG.sp (ok_barbicanhelp_Ints hU1 x0 u0 v0 g3_0 z0 g3_1 (Ro.mono hr0 hs1) x1 u1 v1 g4_0 z1 g4_1 hr1 true e_r5)))) [10, 12], .o, .o, .o, .o, .o, .o] [] (fun b => by kernel_rfl)
                · subst hq3
                  injection e with e; subst e; exact fn_conG hU (P := Try.prog) Try.func4 (fun xs w => by kernel_rfl) _ _ [.o, .cg (ok_barbicanlaw11_known hU  ), .o, .o, .o, .b (z_gtrF hq0), .o, .o, .b (z_lssF hq1), .o, .o, .o, .b (z_gtrF hq2), .o, .xg (p0_sock_NewLedger hU  ) [], .o, .o, .cp, .cx (sp0_barbicanlaw11_SockLedger_L0_0_ok hU a0 p0 q0 n0 k0 A0 hR0 y1   e_g0) [0], .o, .cp, .cx (sp1_barbicanlaw11_SockLedger_L1_0_ok hU a0 p0 q0 n0 k0 A0 hR0 y1 0 g1_0 g1_1 g1_2 g1_3 g1_4 g1_5 g1_6 g1_7 e_g1) [0, 1, 2, 3, 4], .o, .xg (ok0_sock_Ledger_Events_v1 hU g1_0 g1_2 g1_4 g1_5 g1_6 g1_1 g1_3 g1_7  e_g2) [0, 5, 6, 7], .o, .o, .o, .o, .cp, .cx (sp1_barbicanlaw11_SockLedger_L2_0_ok hU a0 p0 q0 n0 k0 A0 hR0 y1 g1_0 g1_1 g1_2 g1_3 g1_4 g1_5 g1_6 g1_7  g3_0 g3_1 e_g3) [0, 1, 2, 3, 4, 5, 6, 7, 8, 9], .o, .o, .xg (ok1_sock_Ledger_Held_v1 hU g1_0 g1_2 g1_4 g1_5 g1_6 g1_1 g1_3 g1_7 g4_0 g4_1 e_g4) [0, 5, 6, 7], .xg (SpcG.own hU (f := cZ) cZ_len g3_0 g3_1 3 (fun l => padL l g3_0 1) (fun l => (padL l g3_0 1).length / 1) _ 0 .normal (by intros; rfl) (by intros; rfl) (by intros; rfl) (fun M0 B0 S0 x0 u0 v0 z0 hU0 hs0 hr0 => SpcG.own hU0 (f := cZ) cZ_len g4_0 g4_1 3 (fun l => padL l g4_0 1) (fun l => (padL l g4_0 1).length / 1) _ 0 .normal (by intros; rfl) (by intros; rfl) (by intros; rfl) (fun M1 B1 S1 x1 u1 v1 z1 hU1 hs1 hr1 => ConG.sp (ok_barbicanhelp_Ints hU1 x0 u0 v0 g3_0 z0 g3_1 (Ro.mono hr0 hs1) x1 u1 v1 g4_0 z1 g4_1 hr1 false e_r5)))) [10, 12], .o, .o, .o] [] (fun b => by kernel_rfl)
            · try dsimp only at e
              replace e := bindO_eq e
              obtain ⟨g4, e_g4, e⟩ := e
              rcases g4 with _ | ⟨g4_0, g4_1⟩
              · try dsimp only at e
                replace e := bindO_eq e
                obtain ⟨r5, e_r5, e⟩ := e
                try dsimp only at e
                replace e := cond_eq_or e
                rcases e with ⟨hq3, e⟩ | ⟨hq3, e⟩
                · subst hq3
                  injection e with e; subst e; exact fn_conG hU (P := Try.prog) Try.func4 (fun xs w => by kernel_rfl) _ _ [.o, .cg (ok_barbicanlaw11_known hU  ), .o, .o, .o, .b (z_gtrF hq0), .o, .o, .b (z_lssF hq1), .o, .o, .o, .b (z_gtrF hq2), .o, .xg (p0_sock_NewLedger hU  ) [], .o, .o, .cp, .cx (sp0_barbicanlaw11_SockLedger_L0_0_ok hU a0 p0 q0 n0 k0 A0 hR0 y1   e_g0) [0], .o, .cp, .cx (sp1_barbicanlaw11_SockLedger_L1_0_ok hU a0 p0 q0 n0 k0 A0 hR0 y1 0 g1_0 g1_1 g1_2 g1_3 g1_4 g1_5 g1_6 g1_7 e_g1) [0, 1, 2, 3, 4], .o, .xg (ok0_sock_Ledger_Events_v1 hU g1_0 g1_2 g1_4 g1_5 g1_6 g1_1 g1_3 g1_7  e_g2) [0, 5, 6, 7], .o, .o, .o, .o, .cp, .cx (sp2_barbicanlaw11_SockLedger_L2_0_ok hU a0 p0 q0 n0 k0 A0 hR0 y1 g1_0 g1_1 g1_2 g1_3 g1_4 g1_5 g1_6 g1_7  g3_0 g3_1 e_g3) [0, 1, 2, 3, 4, 5, 6, 7, 8, 9], .o, .o, .xg (ok0_sock_Ledger_Held_v1 hU g1_0 g1_2 g1_4 g1_5 g1_6 g1_1 g1_3 g1_7  e_g4) [0, 5, 6, 7], .xg (SpcG.own hU (f := cZ) cZ_len g3_0 g3_1 3 (fun l => padR l) (fun _ => 0) _ 0 .normal (by intros; rfl) (by intros; rfl) (by intros; rfl) (fun M0 B0 S0 x0 u0 v0 z0 hU0 hs0 hr0 => ConG.sp (ok_barbicanhelp_Ints hU0 x0 u0 v0 g3_0 z0 g3_1 hr0 none 0 0 0 0 (fun _ => 0) Ro.nil true e_r5))) [10], .o, .o, .o, .o, .o, .o] [] (fun b => by kernel_rfl)
                · subst hq3
                  injection e with e; subst e; exact fn_conG hU (P := Try.prog) Try.func4 (fun xs w => by kernel_rfl) _ _ [.o, .cg (ok_barbicanlaw11_known hU  ), .o, .o, .o, .b (z_gtrF hq0), .o, .o, .b (z_lssF hq1), .o, .o, .o, .b (z_gtrF hq2), .o, .xg (p0_sock_NewLedger hU  ) [], .o, .o, .cp, .cx (sp0_barbicanlaw11_SockLedger_L0_0_ok hU a0 p0 q0 n0 k0 A0 hR0 y1   e_g0) [0], .o, .cp, .cx (sp1_barbicanlaw11_SockLedger_L1_0_ok hU a0 p0 q0 n0 k0 A0 hR0 y1 0 g1_0 g1_1 g1_2 g1_3 g1_4 g1_5 g1_6 g1_7 e_g1) [0, 1, 2, 3, 4], .o, .xg (ok0_sock_Ledger_Events_v1 hU g1_0 g1_2 g1_4 g1_5 g1_6 g1_1 g1_3 g1_7  e_g2) [0, 5, 6, 7], .o, .o, .o, .o, .cp, .cx (sp2_barbicanlaw11_SockLedger_L2_0_ok hU a0 p0 q0 n0 k0 A0 hR0 y1 g1_0 g1_1 g1_2 g1_3 g1_4 g1_5 g1_6 g1_7  g3_0 g3_1 e_g3) [0, 1, 2, 3, 4, 5, 6, 7, 8, 9], .o, .o, .xg (ok0_sock_Ledger_Held_v1 hU g1_0 g1_2 g1_4 g1_5 g1_6 g1_1 g1_3 g1_7  e_g4) [0, 5, 6, 7], .xg (SpcG.own hU (f := cZ) cZ_len g3_0 g3_1 3 (fun l => padR l) (fun _ => 0) _ 0 .normal (by intros; rfl) (by intros; rfl) (by intros; rfl) (fun M0 B0 S0 x0 u0 v0 z0 hU0 hs0 hr0 => ConG.sp (ok_barbicanhelp_Ints hU0 x0 u0 v0 g3_0 z0 g3_1 hr0 none 0 0 0 0 (fun _ => 0) Ro.nil false e_r5))) [10], .o, .o, .o] [] (fun b => by kernel_rfl)
              · try dsimp only at e
                replace e := bindO_eq e
                obtain ⟨r5, e_r5, e⟩ := e
                try dsimp only at e
                replace e := cond_eq_or e
                rcases e with ⟨hq3, e⟩ | ⟨hq3, e⟩
                · subst hq3
                  injection e with e; subst e; exact fn_conG hU (P := Try.prog) Try.func4 (fun xs w => by kernel_rfl) _ _ [.o, .cg (ok_barbicanlaw11_known hU  ), .o, .o, .o, .b (z_gtrF hq0), .o, .o, .b (z_lssF hq1), .o, .o, .o, .b (z_gtrF hq2), .o, .xg (p0_sock_NewLedger hU  ) [], .o, .o, .cp, .cx (sp0_barbicanlaw11_SockLedger_L0_0_ok hU a0 p0 q0 n0 k0 A0 hR0 y1   e_g0) [0], .o, .cp, .cx (sp1_barbicanlaw11_SockLedger_L1_0_ok hU a0 p0 q0 n0 k0 A0 hR0 y1 0 g1_0 g1_1 g1_2 g1_3 g1_4 g1_5 g1_6 g1_7 e_g1) [0, 1, 2, 3, 4], .o, .xg (ok0_sock_Ledger_Events_v1 hU g1_0 g1_2 g1_4 g1_5 g1_6 g1_1 g1_3 g1_7  e_g2) [0, 5, 6, 7], .o, .o, .o, .o, .cp, .cx (sp2_barbicanlaw11_SockLedger_L2_0_ok hU a0 p0 q0 n0 k0 A0 hR0 y1 g1_0 g1_1 g1_2 g1_3 g1_4 g1_5 g1_6 g1_7  g3_0 g3_1 e_g3) [0, 1, 2, 3, 4, 5, 6, 7, 8, 9], .o, .o, .xg (ok1_sock_Ledger_Held_v1 hU g1_0 g1_2 g1_4 g1_5 g1_6 g1_1 g1_3 g1_7 g4_0 g4_1 e_g4) [0, 5, 6, 7], .xg (SpcG.own hU (f := cZ) cZ_len g3_0 g3_1 3 (fun l => padR l) (fun _ => 0) _ 0 .normal (by intros; rfl) (by intros; rfl) (by intros; rfl) (fun M0 B0 S0 x0 u0 v0 z0 hU0 hs0 hr0 => SpcG.own hU0 (f := cZ) cZ_len g4_0 g4_1 3 (fun l => padL l g4_0 1) (fun l => (padL l g4_0 1).length / 1) _ 0 .normal (by intros; rfl) (by intros; rfl) (by intros; rfl) (fun M1 B1 S1 x1 u1 v1 z1 hU1 hs1 hr1 => ConG.sp (ok_barbicanhelp_Ints hU1 x0 u0 v0 g3_0 z0 g3_1 (Ro.mono hr0 hs1) x1 u1 v1 g4_0 z1 g4_1 hr1 true e_r5)))) [10, 12], .o, .o, .o, .o, .o, .o] [] (fun b => by kernel_rfl)
                · subst hq3
                  injection e with e; subst e; exact fn_conG hU (P := Try.prog) Try.func4 (fun xs w => by kernel_rfl) _ _ [.o, .cg (ok_barbicanlaw11_known hU  ), .o, .o, .o, .b (z_gtrF hq0), .o, .o, .b (z_lssF hq1), .o, .o, .o, .b (z_gtrF hq2), .o, .xg (p0_sock_NewLedger hU  ) [], .o, .o, .cp, .cx (sp0_barbicanlaw11_SockLedger_L0_0_ok hU a0 p0 q0 n0 k0 A0 hR0 y1   e_g0) [0], .o, .cp, .cx (sp1_barbicanlaw11_SockLedger_L1_0_ok hU a0 p0 q0 n0 k0 A0 hR0 y1 0 g1_0 g1_1 g1_2 g1_3 g1_4 g1_5 g1_6 g1_7 e_g1) [0, 1, 2, 3, 4], .o, .xg (ok0_sock_Ledger_Events_v1 hU g1_0 g1_2 g1_4 g1_5 g1_6 g1_1 g1_3 g1_7  e_g2) [0, 5, 6, 7], .o, .o, .o, .o, .cp, .cx (sp2_barbicanlaw11_SockLedger_L2_0_ok hU a0 p0 q0 n0 k0 A0 hR0 y1 g1_0 g1_1 g1_2 g1_3 g1_4 g1_5 g1_6 g1_7  g3_0 g3_1 e_g3) [0, 1, 2, 3, 4, 5, 6, 7, 8, 9], .o, .o, .xg (ok1_sock_Ledger_Held_v1 hU g1_0 g1_2 g1_4 g1_5 g1_6 g1_1 g1_3 g1_7 g4_0 g4_1 e_g4) [0, 5, 6, 7], .xg (SpcG.own hU (f := cZ) cZ_len g3_0 g3_1 3 (fun l => padR l) (fun _ => 0) _ 0 .normal (by intros; rfl) (by intros; rfl) (by intros; rfl) (fun M0 B0 S0 x0 u0 v0 z0 hU0 hs0 hr0 => SpcG.own hU0 (f := cZ) cZ_len g4_0 g4_1 3 (fun l => padL l g4_0 1) (fun l => (padL l g4_0 1).length / 1) _ 0 .normal (by intros; rfl) (by intros; rfl) (by intros; rfl) (fun M1 B1 S1 x1 u1 v1 z1 hU1 hs1 hr1 => ConG.sp (ok_barbicanhelp_Ints hU1 x0 u0 v0 g3_0 z0 g3_1 (Ro.mono hr0 hs1) x1 u1 v1 g4_0 z1 g4_1 hr1 false e_r5)))) [10, 12], .o, .o, .o] [] (fun b => by kernel_rfl)
            · try dsimp only at e
              injection e with e; subst e; exact fn_conG hU (P := Try.prog) Try.func4 (fun xs w => by kernel_rfl) _ _ [.o, .cg (ok_barbicanlaw11_known hU  ), .o, .o, .o, .b (z_gtrF hq0), .o, .o, .b (z_lssF hq1), .o, .o, .o, .b (z_gtrF hq2), .o, .xg (p0_sock_NewLedger hU  ) [], .o, .o, .cp, .cx (sp0_barbicanlaw11_SockLedger_L0_0_ok hU a0 p0 q0 n0 k0 A0 hR0 y1   e_g0) [0], .o, .cp, .cx (sp1_barbicanlaw11_SockLedger_L1_0_ok hU a0 p0 q0 n0 k0 A0 hR0 y1 0 g1_0 g1_1 g1_2 g1_3 g1_4 g1_5 g1_6 g1_7 e_g1) [0, 1, 2, 3, 4], .o, .xg (ok0_sock_Ledger_Events_v1 hU g1_0 g1_2 g1_4 g1_5 g1_6 g1_1 g1_3 g1_7  e_g2) [0, 5, 6, 7], .o, .o, .o, .o, .cp, .cx (sp3_barbicanlaw11_SockLedger_L2_0_ok hU a0 p0 q0 n0 k0 A0 hR0 y1 g1_0 g1_1 g1_2 g1_3 g1_4 g1_5 g1_6 g1_7   e_g3) [0, 1, 2, 3, 4, 5, 6, 7, 8, 9]] [] (fun b => by kernel_rfl)
        · try dsimp only at e
          replace e := bindO_eq e
          obtain ⟨g1, e_g1, e⟩ := e
          obtain ⟨g1_0, g1_1, g1_2, g1_3, g1_4, g1_5, g1_6, g1_7⟩ := g1
          try dsimp only at e
          replace e := bindO_eq e
          obtain ⟨g2, e_g2, e⟩ := e
          cases g2
          try dsimp only at e
          replace e := bindO_eq e
          obtain ⟨g3, e_g3, e⟩ := e
          rcases g3 with _ | ⟨g3_0, g3_1⟩ | ⟨g3_0, g3_1⟩ | _
          · try dsimp only at e
            replace e := bindO_eq e
            obtain ⟨g4, e_g4, e⟩ := e
            rcases g4 with _ | ⟨g4_0, g4_1⟩
            · try dsimp only at e
              replace e := bindO_eq e
              obtain ⟨r5, e_r5, e⟩ := e
              try dsimp only at e
              replace e := cond_eq_or e
              rcases e with ⟨hq3, e⟩ | ⟨hq3, e⟩
              · subst hq3
                injection e with e; subst e; exact fn_conG hU (P := Try.prog) Try.func4 (fun xs w => by kernel_rfl) _ _ [.o, .cg (ok_barbicanlaw11_known hU  ), .o, .o, .o, .b (z_gtrF hq0), .o, .o, .b (z_lssF hq1), .o, .o, .o, .b (z_gtrF hq2), .o, .xg (p0_sock_NewLedger hU  ) [], .o, .o, .cp, .cx (sp1_barbicanlaw11_SockLedger_L0_0_ok hU a0 p0 q0 n0 k0 A0 hR0 y1  g0_0 g0_1 g0_2 g0_3 g0_4 g0_5 g0_6 e_g0) [0], .o, .cp, .cx (sp0_barbicanlaw11_SockLedger_L1v1_0_ok hU a0 p0 q0 n0 k0 A0 hR0 y1 g0_0 g0_1 g0_2 g0_3 g0_4 g0_5 g0_6 g0_0 g0_1 g0_2 g0_3 g0_4 0 g0_5 g0_6 0 g1_0 g1_1 g1_2 g1_3 g1_4 g1_5 g1_6 g1_7 e_g1) [0, 4, 1, 2, 3], .o, .xg (ok0_sock_Ledger_Events_v1 hU g1_0 g1_2 g1_4 g1_5 g1_6 g1_1 g1_3 g1_7  e_g2) [0, 5, 6, 7], .o, .o, .o, .o, .cp, .cx (sp0_barbicanlaw11_SockLedger_L2v1_0_ok hU a0 p0 q0 n0 k0 A0 hR0 y1 g0_0 g0_1 g0_2 g0_3 g0_4 g0_5 g0_6 g1_0 g1_1 g1_2 g1_3 g1_4 g1_5 g1_6 g1_7   e_g3) [0, 1, 2, 3, 4, 5, 6, 7, 8, 9], .o, .o, .xg (ok0_sock_Ledger_Held_v1 hU g1_0 g1_2 g1_4 g1_5 g1_6 g1_1 g1_3 g1_7  e_g4) [0, 5, 6, 7], .cg (ok_barbicanhelp_Ints hU none 0 0 0 0 (fun _ => 0) Ro.nil none 0 0 0 0 (fun _ => 0) Ro.nil true e_r5), .o, .o, .o, .o, .o, .o] [] (fun b => by kernel_rfl)
              · subst hq3
                injection e with e; subst e; exact fn_conG hU (P := Try.prog) Try.func4 (fun xs w => by kernel_rfl) _ _ [.o, .cg (ok_barbicanlaw11_known hU  ), .o, .o, .o, .b (z_gtrF hq0), .o, .o, .b (z_lssF hq1), .o, .o, .o, .b (z_gtrF hq2), .o, .xg (p0_sock_NewLedger hU  ) [], .o, .o, .cp, .cx (sp1_barbicanlaw11_SockLedger_L0_0_ok hU a0 p0 q0 n0 k0 A0 hR0 y1  g0_0 g0_1 g0_2 g0_3 g0_4 g0_5 g0_6 e_g0) [0], .o, .cp, .cx (sp0_barbicanlaw11_SockLedger_L1v1_0_ok hU a0 p0 q0 n0 k0 A0 hR0 y1 g0_0 g0_1 g0_2 g0_3 g0_4 g0_5 g0_6 g0_0 g0_1 g0_2 g0_3 g0_4 0 g0_5 g0_6 0 g1_0 g1_1 g1_2 g1_3 g1_4 g1_5 g1_6 g1_7 e_g1) [0, 4, 1, 2, 3], .o, .xg (ok0_sock_Ledger_Events_v1 hU g1_0 g1_2 g1_4 g1_5 g1_6 g1_1 g1_3 g1_7  e_g2) [0, 5, 6, 7], .o, .o, .o, .o, .cp, .cx (sp0_barbicanlaw11_SockLedger_L2v1_0_ok hU a0 p0 q0 n0 k0 A0 hR0 y1 g0_0 g0_1 g0_2 g0_3 g0_4 g0_5 g0_6 g1_0 g1_1 g1_2 g1_3 g1_4 g1_5 g1_6 g1_7   e_g3) [0, 1, 2, 3, 4, 5, 6, 7, 8, 9], .o, .o, .xg (ok0_sock_Ledger_Held_v1 hU g1_0 g1_2 g1_4 g1_5 g1_6 g1_1 g1_3 g1_7  e_g4) [0, 5, 6, 7], .cg (ok_barbicanhelp_Ints hU none 0 0 0 0 (fun _ => 0) Ro.nil none 0 0 0 0 (fun _ => 0) Ro.nil false e_r5), .o, .o, .o] [] (fun b => by kernel_rfl)
            · try dsimp only at e
              replace e := bindO_eq e
              obtain ⟨r5, e_r5, e⟩ := e
              try dsimp only at e
              replace e := cond_eq_or e
              rcases e with ⟨hq3, e⟩ | ⟨hq3, e⟩
              · subst hq3
                injection e with e; subst e; exact fn_conG hU (P := Try.prog) Try.func4 (fun xs w => by kernel_rfl) _ _ [.o, .cg (ok_barbicanlaw11_known hU  ), .o, .o, .o, .b (z_gtrF hq0), .o, .o, .b (z_lssF hq1), .o, .o, .o, .b (z_gtrF hq2), .o, .xg (p0_sock_NewLedger hU  ) [], .o, .o, .cp, .cx (sp1_barbicanlaw11_SockLedger_L0_0_ok hU a0 p0 q0 n0 k0 A0 hR0 y1  g0_0 g0_1 g0_2 g0_3 g0_4 g0_5 g0_6 e_g0) [0], .o, .cp, .cx (sp0_barbicanlaw11_SockLedger_L1v1_0_ok hU a0 p0 q0 n0 k0 A0 hR0 y1 g0_0 g0_1 g0_2 g0_3 g0_4 g0_5 g0_6 g0_0 g0_1 g0_2 g0_3 g0_4 0 g0_5 g0_6 0 g1_0 g1_1 g1_2 g1_3 g1_4 g1_5 g1_6 g1_7 e_g1) [0, 4, 1, 2, 3], .o, .xg (ok0_sock_Ledger_Events_v1 hU g1_0 g1_2 g1_4 g1_5 g1_6 g1_1 g1_3 g1_7  e_g2) [0, 5, 6, 7], .o, .o, .o, .o, .cp, .cx (sp0_barbicanlaw11_SockLedger_L2v1_0_ok hU a0 p0 q0 n0 k0 A0 hR0 y1 g0_0 g0_1 g0_2 g0_3 g0_4 g0_5 g0_6 g1_0 g1_1 g1_2 g1_3 g1_4 g1_5 g1_6 g1_7   e_g3) [0, 1, 2, 3, 4, 5, 6, 7, 8, 9], .o, .o, .xg (ok1_sock_Ledger_Held_v1 hU g1_0 g1_2 g1_4 g1_5 g1_6 g1_1 g1_3 g1_7 g4_0 g4_1 e_g4) [0, 5, 6, 7], .xg (SpcG.ownC hU cZ_len g4_0 g4_1 3 fun hU x u v z hr => ok_barbicanhelp_Ints hU none 0 0 0 0 (fun _ => 0) Ro.nil x u v g4_0 z g4_1 hr true e_r5) [12], .o, .o, .o, .o, .o, .o] [] (fun b => by kernel_rfl)
              · subst hq3
                injection e with e; subst e; exact fn_conG hU (P := Try.prog) Try.func4 (fun xs w => by kernel_rfl) _ _ [.o, .cg (ok_barbicanlaw11_known hU  ), .o, .o, .o, .b (z_gtrF hq0), .o, .o, .b (z_lssF hq1), .o, .o, .o, .b (z_gtrF hq2), .o, .xg (p0_sock_NewLedger hU  ) [], .o, .o, .cp, .cx (sp1_barbicanlaw11_SockLedger_L0_0_ok hU a0 p0 q0 n0 k0 A0 hR0 y1  g0_0 g0_1 g0_2 g0_3 g0_4 g0_5 g0_6 e_g0) [0], .o, .cp, .cx (sp0_barbicanlaw11_SockLedger_L1v1_0_ok hU a0 p0 q0 n0 k0 A0 hR0 y1 g0_0 g0_1 g0_2 g0_3 g0_4 g0_5 g0_6 g0_0 g0_1 g0_2 g0_3 g0_4 0 g0_5 g0_6 0 g1_0 g1_1 g1_2 g1_3 g1_4 g1_5 g1_6 g1_7 e_g1) [0, 4, 1, 2, 3], .o, .xg (ok0_sock_Ledger_Events_v1 hU g1_0 g1_2 g1_4 g1_5 g1_6 g1_1 g1_3 g1_7  e_g2) [0, 5, 6, 7], .o, .o, .o, .o, .cp, .cx (sp0_barbicanlaw11_SockLedger_L2v1_0_ok hU a0 p0 q0 n0 k0 A0 hR0 y1 g0_0 g0_1 g0_2 g0_3 g0_4 g0_5 g0_6 g1_0 g1_1 g1_2 g1_3 g1_4 g1_5 g1_6 g1_7   e_g3) [0, 1, 2, 3, 4, 5, 6, 7, 8, 9], .o, .o, .xg (ok1_sock_Ledger_Held_v1 hU g1_0 g1_2 g1_4 g1_5 g1_6 g1_1 g1_3 g1_7 g4_0 g4_1 e_g4) [0, 5, 6, 7], .xg (SpcG.ownC hU cZ_len g4_0 g4_1 3 fun hU x u v z hr => ok_barbicanhelp_Ints hU none 0 0 0 0 (fun _ => 0) Ro.nil x u v g4_0 z g4_1 hr false e_r5) [12], .o, .o, .o] [] (fun b => by kernel_rfl)
          · try dsimp only at e
            replace e := bindO_eq e
            obtain ⟨g4, e_g4, e⟩ := e
            rcases g4 with _ | ⟨g4_0, g4_1⟩
            · try dsimp only at e
              replace e := bindO_eq e
              obtain ⟨r5, e_r5, e⟩ := e
              try dsimp only at e
              replace e := cond_eq_or e
              rcases e with ⟨hq3, e⟩ | ⟨hq3, e⟩
              · subst hq3
                injection e with e; subst e; exact fn_conG hU (P := Try.prog) Try.func4 (fun xs w => by kernel_rfl) _ _ [.o, .cg (ok_barbicanlaw11_known hU  ), .o, .o, .o, .b (z_gtrF hq0), .o, .o, .b (z_lssF hq1), .o, .o, .o, .b (z_gtrF hq2), .o, .xg (p0_sock_NewLedger hU  ) [], .o, .o, .cp, .cx (sp1_barbicanlaw11_SockLedger_L0_0_ok hU a0 p0 q0 n0 k0 A0 hR0 y1  g0_0 g0_1 g0_2 g0_3 g0_4 g0_5 g0_6 e_g0) [0], .o, .cp, .cx (sp0_barbicanlaw11_SockLedger_L1v1_0_ok hU a0 p0 q0 n0 k0 A0 hR0 y1 g0_0 g0_1 g0_2 g0_3 g0_4 g0_5 g0_6 g0_0 g0_1 g0_2 g0_3 g0_4 0 g0_5 g0_6 0 g1_0 g1_1 g1_2 g1_3 g1_4 g1_5 g1_6 g1_7 e_g1) [0, 4, 1, 2, 3], .o, .xg (ok0_sock_Ledger_Events_v1 hU g1_0 g1_2 g1_4 g1_5 g1_6 g1_1 g1_3 g1_7  e_g2) [0, 5, 6, 7], .o, .o, .o, .o, .cp, .cx (sp1_barbicanlaw11_SockLedger_L2v1_0_ok hU a0 p0 q0 n0 k0 A0 hR0 y1 g0_0 g0_1 g0_2 g0_3 g0_4 g0_5 g0_6 g1_0 g1_1 g1_2 g1_3 g1_4 g1_5 g1_6 g1_7  g3_0 g3_1 e_g3) [0, 1, 2, 3, 4, 5, 6, 7, 8, 9], .o, .o, .xg (ok0_sock_Ledger_Held_v1 hU g1_0 g1_2 g1_4 g1_5 g1_6 g1_1 g1_3 g1_7  e_g4) [0, 5, 6, 7], .xg (SpcG.ownC hU cZ_len g3_0 g3_1 3 fun hU x u v z hr => ok_barbicanhelp_Ints hU x u v g3_0 z g3_1 hr none 0 0 0 0 (fun _ => 0) Ro.nil true e_r5) [10], .o, .o, .o, .o, .o, .o] [] (fun b => by kernel_rfl)
              · subst hq3
                injection e with e; subst e; exact fn_conG hU (P := Try.prog) Try.func4 (fun xs w => by kernel_rfl) _ _ [.o, .cg (ok_barbicanlaw11_known hU  ), .o, .o, .o, .b (z_gtrF hq0), .o, .o, .b (z_lssF hq1), .o, .o, .o, .b (z_gtrF hq2), .o, .xg (p0_sock_NewLedger hU  ) [], .o, .o, .cp, .cx (sp1_barbicanlaw11_SockLedger_L0_0_ok hU a0 p0 q0 n0 k0 A0 hR0 y1  g0_0 g0_1 g0_2 g0_3 g0_4 g0_5 g0_6 e_g0) [0], .o, .cp, .cx (sp0_barbicanlaw11_SockLedger_L1v1_0_ok hU a0 p0 q0 n0 k0 A0 hR0 y1 g0_0 g0_1 g0_2 g0_3 g0_4 g0_5 g0_6 g0_0 g0_1 g0_2 g0_3 g0_4 0 g0_5 g0_6 0 g1_0 g1_1 g1_2 g1_3 g1_4 g1_5 g1_6 g1_7 e_g1) [0, 4, 1, 2, 3], .o, .xg (ok0_sock_Ledger_Events_v1 hU g1_0 g1_2 g1_4 g1_5 g1_6 g1_1 g1_3 g1_7  e_g2) [0, 5, 6, 7], .o, .o, .o, .o, .cp, .cx (sp1_barbicanlaw11_SockLedger_L2v1_0_ok hU a0 p0 q0 n0 k0 A0 hR0 y1 g0_0 g0_1 g0_2 g0_3 g0_4 g0_5 g0_6 g1_0 g1_1 g1_2 g1_3 g1_4 g1_5 g1_6 g1_7  g3_0 g3_1 e_g3) [0, 1, 2, 3, 4, 5, 6, 7, 8, 9], .o, .o, .xg (ok0_sock_Ledger_Held_v1 hU g1_0 g1_2 g1_4 g1_5 g1_6 g1_1 g1_3 g1_7  e_g4) [0, 5, 6, 7], .xg (SpcG.ownC hU cZ_len g3_0 g3_1 3 fun hU x u v z hr => ok_barbicanhelp_Ints hU x u v g3_0 z g3_1 hr none 0 0 0 0 (fun _ => 0) Ro.nil false e_r5) [10], .o, .o, .o] [] (fun b => by kernel_rfl)
            · try dsimp only at e
              replace e := bindO_eq e
              obtain ⟨r5, e_r5, e⟩ := e
              try dsimp only at e
              replace e := cond_eq_or e
              rcases e with ⟨hq3, e⟩ | ⟨hq3, e⟩
              · subst hq3
                injection e with e; subst e; exact fn_conG hU (P := Try.prog) Try.func4 (fun xs w => by kernel_rfl) _ _ [.o, .cg (ok_barbicanlaw11_known hU  ), .o, .o, .o, .b (z_gtrF hq0), .o, .o, .b (z_lssF hq1), .o, .o, .o, .b (z_gtrF hq2), .o, .xg (p0_sock_NewLedger hU  ) [], .o, .o, .cp, .cx (sp1_barbicanlaw11_SockLedger_L0_0_ok hU a0 p0 q0 n0 k0 A0 hR0 y1  g0_0 g0_1 g0_2 g0_3 g0_4 g0_5 g0_6 e_g0) [0], .o, .cp, .cx (sp0_barbicanlaw11_SockLedger_L1v1_0_ok hU a0 p0 q0 n0 k0 A0 hR0 y1 g0_0 g0_1 g0_2 g0_3 g0_4 g0_5 g0_6 g0_0 g0_1 g0_2 g0_3 g0_4 0 g0_5 g0_6 0 g1_0 g1_1 g1_2 g1_3 g1_4 g1_5 g1_6 g1_7 e_g1) [0, 4, 1, 2, 3], .o, .xg (ok0_sock_Ledger_Events_v1 hU g1_0 g1_2 g1_4 g1_5 g1_6 g1_1 g1_3 g1_7  e_g2) [0, 5, 6, 7], .o, .o, .o, .o, .cp, .cx (sp1_barbicanlaw11_SockLedger_L2v1_0_ok hU a0 p0 q0 n0 k0 A0 hR0 y1 g0_0 g0_1 g0_2 g0_3 g0_4 g0_5 g0_6 g1_0 g1_1 g1_2 g1_3 g1_4 g1_5 g1_6 g1_7  g3_0 g3_1 e_g3) [0, 1, 2, 3, 4, 5, 6, 7, 8, 9], .o, .o, .xg (ok1_sock_Ledger_Held_v1 hU g1_0 g1_2 g1_4 g1_5 g1_6 g1_1 g1_3 g1_7 g4_0 g4_1 e_g4) [0, 5, 6, 7], .xg (SpcG.own hU (f := cZ) cZ_len g3_0 g3_1 3 (fun l => padL l g3_0 1) (fun l => (padL l g3_0 1).length / 1) _ 0 .normal (by intros; rfl) (by intros; rfl) (by intros; rfl) (fun M0 B0 S0 x0 u0 v0 z0 hU0 hs0 hr0 => SpcG.own hU0 (f := cZ) cZ_len g4_0 g4_1 3 (fun l => padL l g4_0 1) (fun l => (padL l g4_0 1).length / 1) _ 0 .normal (by intros; rfl) (by intros; rfl) (by intros; rfl) (fun M1 B1 S1 x1 u1 v1 z1 hU1 hs1 hr1 => ConG.sp (ok_barbicanhelp_Ints hU1 x0 u0 v0 g3_0 z0 g3_1 (Ro.mono hr0 hs1) x1 u1 v1 g4_0 z1 g4_1 hr1 true e_r5)))) [10, 12], .o, .o, .o, .o, .o, .o] [] (fun b => by kernel_rfl)
              · subst hq3
                injection e with e; subst e; exact fn_conG hU (P := Try.prog) Try.func4 (fun xs w => by kernel_rfl) _ _ [.o, .cg (ok_barbicanlaw11_known hU  ), .o, .o, .o, .b (z_gtrF hq0), .o, .o, .b (z_lssF hq1), .o, .o, .o, .b (z_gtrF hq2), .o, .xg (p0_sock_NewLedger hU  ) [], .o, .o, .cp, .cx (sp1_barbicanlaw11_SockLedger_L0_0_ok hU a0 p0 q0 n0 k0 A0 hR0 y1  g0_0 g0_1 g0_2 g0_3 g0_4 g0_5 g0_6 e_g0) [0], .o, .cp, .cx (sp0_barbicanlaw11_SockLedger_L1v1_0_ok hU a0 p0 q0 n0 k0 A0 hR0 y1 g0_0 g0_1 g0_2 g0_3 g0_4 g0_5 g0_6 g0_0 g0_1 g0_2 g0_3 g0_4 0 g0_5 g0_6 0 g1_0 g1_1 g1_2 g1_3 g1_4 g1_5 g1_6 g1_7 e_g1) [0, 4, 1, 2, 3], .o, .xg (ok0_sock_Ledger_Events_v1 hU g1_0 g1_2 g1_4 g1_5 g1_6 g1_1 g1_3 g1_7  e_g2) [0, 5, 6, 7], .o, .o, .o, .o, .cp, .cx (sp1_barbicanlaw11_SockLedger_L2v1_0_ok hU a0 p0 q0 n0 k0 A0 hR0 y1 g0_0 g0_1 g0_2 g0_3 g0_4 g0_5 g0_6 g1_0 g1_1 g1_2 g1_3 g1_4 g1_5 g1_6 g1_7  g3_0 g3_1 e_g3) [0, 1, 2, 3, 4, 5, 6, 7, 8, 9], .o, .o, .xg (ok1_sock_Ledger_Held_v1 hU g1_0 g1_2 g1_4 g1_5 g1_6 g1_1 g1_3 g1_7 g4_0 g4_1 e_g4) [0, 5, 6, 7], .xg (SpcG.own hU (f := cZ) cZ_len g3_0 g3_1 3 (fun l => padL l g3_0 1) (fun l => (padL l g3_0 1).length / 1) _ 0 .normal (by intros; rfl) (by intros; rfl) (by intros; rfl) (fun M0 B0 S0 x0 u0 v0 z0 hU0 hs0 hr0 => SpcG.own hU0 (f := cZ) cZ_len g4_0 g4_1 3 (fun l => padL l g4_0 1) (fun l => (padL l g4_0 1).length / 1) _ 0 .normal (by intros; rfl) (by intros; rfl) (by intros; rfl) (fun M1 B1 S1 x1 u1 v1 z1 hU1 hs1 hr1 => ConG.sp (ok_barbicanhelp_Ints hU1 x0 u0 v0 g3_0 z0 g3_1 (Ro.mono hr0 hs1) x1 u1 v1 g4_0 z1 g4_1 hr1 false e_r5)))) [10, 12], .o, .o, .o] [] (fun b => by kernel_rfl)
          · try dsimp only at e
            replace e := bindO_eq e
            obtain ⟨g4, e_g4, e⟩ := e
            rcases g4 with _ | ⟨g4_0, g4_1⟩
            · try dsimp only at e
              replace e := bindO_eq e
              obtain ⟨r5, e_r5, e⟩ := e
              try dsimp only at e
              replace e := cond_eq_or e
              rcases e with ⟨hq3, e⟩ | ⟨hq3, e⟩
              · subst hq3
                injection e with e; subst e; exact fn_conG hU (P := Try.prog) Try.func4 (fun xs w => by kernel_rfl) _ _ [.o, .cg (ok_barbicanlaw11_known hU  ), .o, .o, .o, .b (z_gtrF hq0), .o, .o, .b (z_lssF hq1), .o, .o, .o, .b (z_gtrF hq2), .o, .xg (p0_sock_NewLedger hU  ) [], .o, .o, .cp, .cx (sp1_barbicanlaw11_SockLedger_L0_0_ok hU a0 p0 q0 n0 k0 A0 hR0 y1  g0_0 g0_1 g0_2 g0_3 g0_4 g0_5 g0_6 e_g0) [0], .o, .cp, .cx (sp0_barbicanlaw11_SockLedger_L1v1_0_ok hU a0 p0 q0 n0 k0 A0 hR0 y1 g0_0 g0_1 g0_2 g0_3 g0_4 g0_5 g0_6 g0_0 g0_1 g0_2 g0_3 g0_4 0 g0_5 g0_6 0 g1_0 g1_1 g1_2 g1_3 g1_4 g1_5 g1_6 g1_7 e_g1) [0, 4, 1, 2, 3], .o, .xg (ok0_sock_Ledger_Events_v1 hU g1_0 g1_2 g1_4 g1_5 g1_6 g1_1 g1_3 g1_7  e_g2) [0, 5, 6, 7], .o, .o, .o, .o, .cp, .cx (sp2_barbicanlaw11_SockLedger_L2v1_0_ok hU a0 p0 q0 n0 k0 A0 hR0 y1 g0_0 g0_1 g0_2 g0_3 g0_4 g0_5 g0_6 g1_0 g1_1 g1_2 g1_3 g1_4 g1_5 g1_6 g1_7  g3_0 g3_1 e_g3) [0, 1, 2, 3, 4, 5, 6, 7, 8, 9], .o, .o, .xg (ok0_sock_Ledger_Held_v1 hU g1_0 g1_2 g1_4 g1_5 g1_6 g1_1 g1_3 g1_7  e_g4) [0, 5, 6, 7], .xg (SpcG.own hU (f := cZ) cZ_len g3_0 g3_1 3 (fun l => padR l) (fun _ => 0) _ 0 .normal (by intros; rfl) (by intros; rfl) (by intros; rfl) (fun M0 B0 S0 x0 u0 v0 z0 hU0 hs0 hr0 => ConG.sp (ok_barbicanhelp_Ints hU0 x0 u0 v0 g3_0 z0 g3_1 hr0 none 0 0 0 0 (fun _ => 0) Ro.nil true e_r5))) [10], .o, .o, .o, .o, .o, .o] [] (fun b => by kernel_rfl)
              · subst hq3
                injection e with e; subst e; exact fn_conG hU (P := Try.prog) Try.func4 (fun xs w => by kernel_rfl) _ _ [.o, .cg (ok_barbicanlaw11_known hU  ), .o, .o, .o, .b (z_gtrF hq0), .o, .o, .b (z_lssF hq1), .o, .o, .o, .b (z_gtrF hq2), .o, .xg (p0_sock_NewLedger hU  ) [], .o, .o, .cp, .cx (sp1_barbicanlaw11_SockLedger_L0_0_ok hU a0 p0 q0 n0 k0 A0 hR0 y1  g0_0 g0_1 g0_2 g0_3 g0_4 g0_5 g0_6 e_g0) [0], .o, .cp, .cx (sp0_barbicanlaw11_SockLedger_L1v1_0_ok hU a0 p0 q0 n0 k0 A0 hR0 y1 g0_0 g0_1 g0_2 g0_3 g0_4 g0_5 g0_6 g0_0 g0_1 g0_2 g0_3 g0_4 0 g0_5 g0_6 0 g1_0 g1_1 g1_2 g1_3 g1_4 g1_5 g1_6 g1_7 e_g1) [0, 4, 1, 2, 3], .o, .xg (ok0_sock_Ledger_Events_v1 hU g1_0 g1_2 g1_4 g1_5 g1_6 g1_1 g1_3 g1_7  e_g2) [0, 5, 6, 7], .o, .o, .o, .o, .cp, .cx (sp2_barbicanlaw11_SockLedger_L2v1_0_ok hU a0 p0 q0 n0 k0 A0 hR0 y1 g0_0 g0_1 g0_2 g0_3 g0_4 g0_5 g0_6 g1_0 g1_1 g1_2 g1_3 g1_4 g1_5 g1_6 g1_7  g3_0 g3_1 e_g3) [0, 1, 2, 3, 4, 5, 6, 7, 8, 9], .o, .o, .xg (ok0_sock_Ledger_Held_v1 hU g1_0 g1_2 g1_4 g1_5 g1_6 g1_1 g1_3 g1_7  e_g4) [0, 5, 6, 7], .xg (SpcG.own hU (f := cZ) cZ_len g3_0 g3_1 3 (fun l => padR l) (fun _ => 0) _ 0 .normal (by intros; rfl) (by intros; rfl) (by intros; rfl) (fun M0 B0 S0 x0 u0 v0 z0 hU0 hs0 hr0 => ConG.sp (ok_barbicanhelp_Ints hU0 x0 u0 v0 g3_0 z0 g3_1 hr0 none 0 0 0 0 (fun _ => 0) Ro.nil false e_r5))) [10], .o, .o, .o] [] (fun b => by kernel_rfl)
            · try dsimp only at e
              replace e := bindO_eq e
              obtain ⟨r5, e_r5, e⟩ := e
              try dsimp only at e
              replace e := cond_eq_or e
              rcases e with ⟨hq3, e⟩ | ⟨hq3, e⟩
              · subst hq3
                injection e with e; subst e; exact fn_conG hU (P := Try.prog) Try.func4 (fun xs w => by kernel_rfl) _ _ [.o, .cg (ok_barbicanlaw11_known hU  ), .o, .o, .o, .b (z_gtrF hq0), .o, .o, .b (z_lssF hq1), .o, .o, .o, .b (z_gtrF hq2), .o, .xg (p0_sock_NewLedger hU  ) [], .o, .o, .cp, .cx (sp1_barbicanlaw11_SockLedger_L0_0_ok hU a0 p0 q0 n0 k0 A0 hR0 y1  g0_0 g0_1 g0_2 g0_3 g0_4 g0_5 g0_6 e_g0) [0], .o, .cp, .cx (sp0_barbicanlaw11_SockLedger_L1v1_0_ok hU a0 p0 q0 n0 k0 A0 hR0 y1 g0_0 g0_1 g0_2 g0_3 g0_4 g0_5 g0_6 g0_0 g0_1 g0_2 g0_3 g0_4 0 g0_5 g0_6 0 g1_0 g1_1 g1_2 g1_3 g1_4 g1_5 g1_6 g1_7 e_g1) [0, 4, 1, 2, 3], .o, .xg (ok0_sock_Ledger_Events_v1 hU g1_0 g1_2 g1_4 g1_5 g1_6 g1_1 g1_3 g1_7  e_g2) [0, 5, 6, 7], .o, .o, .o, .o, .cp, .cx (sp2_barbicanlaw11_SockLedger_L2v1_0_ok hU a0 p0 q0 n0 k0 A0 hR0 y1 g0_0 g0_1 g0_2 g0_3 g0_4 g0_5 g0_6 g1_0 g1_1 g1_2 g1_3 g1_4 g1_5 g1_6 g1_7  g3_0 g3_1 e_g3) [0, 1, 2, 3, 4, 5, 6, 7, 8, 9], .o, .o, .xg (ok1_sock_Ledger_Held_v1 hU g1_0 g1_2 g1_4 g1_5 g1_6 g1_1 g1_3 g1_7 g4_0 g4_1 e_g4) [0, 5, 6, 7], .xg (SpcG.own hU (f := cZ) cZ_len g3_0 g3_1 3 (fun l => padR l) (fun _ => 0) _ 0 .normal (by intros; rfl) (by intros; rfl) (by intros; rfl) (fun M0 B0 S0 x0 u0 v0 z0 hU0 hs0 hr0 => SpcG.own hU0 (f := cZ) cZ_len g4_0 g4_1 3 (fun l => padL l g4_0 1) (fun l => (padL l g4_0 1).length / 1) _ 0 .normal (by intros; rfl) (by intros; rfl) (by intros; rfl) (fun M1 B1 S1 x1 u1 v1 z1 hU1 hs1 hr1 => ConG.sp (ok_barbicanhelp_Ints hU1 x0 u0 v0 g3_0 z0 g3_1 (Ro.mono hr0 hs1) x1 u1 v1 g4_0 z1 g4_1 hr1 true e_r5)))) [10, 12], .o, .o, .o, .o, .o, .o] [] (fun b => by kernel_rfl)
              · subst hq3
                injection e with e; subst e; exact fn_conG hU (P := Try.prog) Try.func4 (fun xs w => by kernel_rfl) _ _ [.o, .cg (ok_barbicanlaw11_known hU  ), .o, .o, .o, .b (z_gtrF hq0), .o, .o, .b (z_lssF hq1), .o, .o, .o, .b (z_gtrF hq2), .o, .xg (p0_sock_NewLedger hU  ) [], .o, .o, .cp, .cx (sp1_barbicanlaw11_SockLedger_L0_0_ok hU a0 p0 q0 n0 k0 A0 hR0 y1  g0_0 g0_1 g0_2 g0_3 g0_4 g0_5 g0_6 e_g0) [0], .o, .cp, .cx (sp0_barbicanlaw11_SockLedger_L1v1_0_ok hU a0 p0 q0 n0 k0 A0 hR0 y1 g0_0 g0_1 g0_2 g0_3 g0_4 g0_5 g0_6 g0_0 g0_1 g0_2 g0_3 g0_4 0 g0_5 g0_6 0 g1_0 g1_1 g1_2 g1_3 g1_4 g1_5 g1_6 g1_7 e_g1) [0, 4, 1, 2, 3], .o, .xg (ok0_sock_Ledger_Events_v1 hU g1_0 g1_2 g1_4 g1_5 g1_6 g1_1 g1_3 g1_7  e_g2) [0, 5, 6, 7], .o, .o, .o, .o, .cp, .cx (sp2_barbicanlaw11_SockLedger_L2v1_0_ok hU a0 p0 q0 n0 k0 A0 hR0 y1 g0_0 g0_1 g0_2 g0_3 g0_4 g0_5 g0_6 g1_0 g1_1 g1_2 g1_3 g1_4 g1_5 g1_6 g1_7  g3_0 g3_1 e_g3) [0, 1, 2, 3, 4, 5, 6, 7, 8, 9], .o, .o, .xg (ok1_sock_Ledger_Held_v1 hU g1_0 g1_2 g1_4 g1_5 g1_6 g1_1 g1_3 g1_7 g4_0 g4_1 e_g4) [0, 5, 6, 7], .xg (SpcG.own hU (f := cZ) cZ_len g3_0 g3_1 3 (fun l => padR l) (fun _ => 0) _ 0 .normal (by intros; rfl) (by intros; rfl) (by intros; rfl) (fun M0 B0 S0 x0 u0 v0 z0 hU0 hs0 hr0 => SpcG.own hU0 (f := cZ) cZ_len g4_0 g4_1 3 (fun l => padL l g4_0 1) (fun l => (padL l g4_0 1).length / 1) _ 0 .normal (by intros; rfl) (by intros; rfl) (by intros; rfl) (fun M1 B1 S1 x1 u1 v1 z1 hU1 hs1 hr1 => ConG.sp (ok_barbicanhelp_Ints hU1 x0 u0 v0 g3_0 z0 g3_1 (Ro.mono hr0 hs1) x1 u1 v1 g4_0 z1 g4_1 hr1 false e_r5)))) [10, 12], .o, .o, .o] [] (fun b => by kernel_rfl)
          · try dsimp only at e
            injection e with e; subst e; exact fn_conG hU (P := Try.prog) Try.func4 (fun xs w => by kernel_rfl) _ _ [.o, .cg (ok_barbicanlaw11_known hU  ), .o, .o, .o, .b (z_gtrF hq0), .o, .o, .b (z_lssF hq1), .o, .o, .o, .b (z_gtrF hq2), .o, .xg (p0_sock_NewLedger hU  ) [], .o, .o, .cp, .cx (sp1_barbicanlaw11_SockLedger_L0_0_ok hU a0 p0 q0 n0 k0 A0 hR0 y1  g0_0 g0_1 g0_2 g0_3 g0_4 g0_5 g0_6 e_g0) [0], .o, .cp, .cx (sp0_barbicanlaw11_SockLedger_L1v1_0_ok hU a0 p0 q0 n0 k0 A0 hR0 y1 g0_0 g0_1 g0_2 g0_3 g0_4 g0_5 g0_6 g0_0 g0_1 g0_2 g0_3 g0_4 0 g0_5 g0_6 0 g1_0 g1_1 g1_2 g1_3 g1_4 g1_5 g1_6 g1_7 e_g1) [0, 4, 1, 2, 3], .o, .xg (ok0_sock_Ledger_Events_v1 hU g1_0 g1_2 g1_4 g1_5 g1_6 g1_1 g1_3 g1_7  e_g2) [0, 5, 6, 7], .o, .o, .o, .o, .cp, .cx (sp3_barbicanlaw11_SockLedger_L2v1_0_ok hU a0 p0 q0 n0 k0 A0 hR0 y1 g0_0 g0_1 g0_2 g0_3 g0_4 g0_5 g0_6 g1_0 g1_1 g1_2 g1_3 g1_4 g1_5 g1_6 g1_7   e_g3) [0, 1, 2, 3, 4, 5, 6, 7, 8, 9]] [] (fun b => by kernel_rfl)
        · try dsimp only at e
          injection e with e; subst e; exact fn_conG hU (P := Try.prog) Try.func4 (fun xs w => by kernel_rfl) _ _ [.o, .cg (ok_barbicanlaw11_known hU  ), .o, .o, .o, .b (z_gtrF hq0), .o, .o, .b (z_lssF hq1), .o, .o, .o, .b (z_gtrF hq2), .o, .xg (p0_sock_NewLedger hU  ) [], .o, .o, .cp, .cx (sp2_barbicanlaw11_SockLedger_L0_0_ok hU a0 p0 q0 n0 k0 A0 hR0 y1   e_g0) [0]] [] (fun b => by kernel_rfl)
        · try dsimp only at e
          injection e with e; subst e; exact fn_conG hU (P := Try.prog) Try.func4 (fun xs w => by kernel_rfl) _ _ [.o, .cg (ok_barbicanlaw11_known hU  ), .o, .o, .o, .b (z_gtrF hq0), .o, .o, .b (z_lssF hq1), .o, .o, .o, .b (z_gtrF hq2), .o, .xg (p0_sock_NewLedger hU  ) [], .o, .o, .cp, .cx (sp3_barbicanlaw11_SockLedger_L0_0_ok hU a0 p0 q0 n0 k0 A0 hR0 y1  g0_0 g0_1 g0_2 g0_3 g0_4 g0_5 g0_6 e_g0) [0]] [] (fun b => by kernel_rfl)
end

end Go.Proofs.Ytmopkmjddaaknaa
