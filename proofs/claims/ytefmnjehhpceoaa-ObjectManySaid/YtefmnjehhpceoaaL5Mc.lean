/-
  The law on many maps and programs, by the program's text.
-/
import Derived.Test.YtefmnjehhpceoaaL5Mb
import Derived.Test.YtefmnjehhpceoaaL5K
import Derived.Test.YtefmnjehhpceoaaRyQ
namespace Go.Proofs.Ytefmnjehhpceoaa
open Go.RowKit
set_option linter.unusedVariables false
set_option linter.unusedSimpArgs false
set_option linter.unusedSectionVars false
set_option maxRecDepth 100000
set_option maxHeartbeats 4000000
inductive Sh_object_Check_v5_L1 where
  | c0 
  | c1 
  | c2 
  | c3 
  | c4 
  | c5 
  | c6 
  | c7 
  | c8 
  | c9 
  | c10 
  | c11 
  | c12 
  | c13 
  | c14 
  | c15 
  | c16 
inductive Ex_object_Check_v5_L1 where
  | e0 
  | e1 
  | e2 
  | e3 
  | e4 
  | e5 
  | e6 
  | e7 
  | e8 
  | e9 
  | e10 
  | e11 
  | e12 
  | e13 
  | e14 
  | e15 
  | e16 
  | e17 
  | e18 
  | e19 
  | e20 
  | e21 
  | e22 
  | e23 
  | e24 
  | e25 
  | e26 
  | e27 
  | e28 
  | e29 
  | e30 
  | e31 
  | e32 
noncomputable def st_object_Check_v5_L1 (w1 : Nat) (w3 : Nat → ByteArray) : Sh_object_Check_v5_L1 → Option (Sh_object_Check_v5_L1 ⊕ Ex_object_Check_v5_L1)
  | .c0  =>
    bif decide (0 < (w1 : Int)) then
      (bif inR 0 w1 then
        (bif (w3 0) == (⟨#[97]⟩ : ByteArray) then
          (some (.inl (.c1)))
        else (none))
      else (none))
    else (some (.inr (.e0 )))
  | .c1  =>
    bif decide (1 < (w1 : Int)) then
      (bif inR 1 w1 then
        (bif (w3 1) == (⟨#[98]⟩ : ByteArray) then
          (some (.inl (.c2)))
        else (bif (w3 1) == (⟨#[97]⟩ : ByteArray) then
          (some (.inr (.e17 )))
        else (none)))
      else (none))
    else (some (.inr (.e1 )))
  | .c2  =>
    bif decide (2 < (w1 : Int)) then
      (bif inR 2 w1 then
        (bif (w3 2) == (⟨#[99]⟩ : ByteArray) then
          (some (.inl (.c3)))
        else (bif (w3 2) == (⟨#[97]⟩ : ByteArray) then
          (some (.inr (.e18 )))
        else (none)))
      else (none))
    else (some (.inr (.e2 )))
  | .c3  =>
    bif decide (3 < (w1 : Int)) then
      (bif inR 3 w1 then
        (bif (w3 3) == (⟨#[100]⟩ : ByteArray) then
          (some (.inl (.c4)))
        else (bif (w3 3) == (⟨#[97]⟩ : ByteArray) then
          (some (.inr (.e19 )))
        else (none)))
      else (none))
    else (some (.inr (.e3 )))
  | .c4  =>
    bif decide (4 < (w1 : Int)) then
      (bif inR 4 w1 then
        (bif (w3 4) == (⟨#[101]⟩ : ByteArray) then
          (some (.inl (.c5)))
        else (bif (w3 4) == (⟨#[97]⟩ : ByteArray) then
          (some (.inr (.e20 )))
        else (none)))
      else (none))
    else (some (.inr (.e4 )))
  | .c5  =>
    bif decide (5 < (w1 : Int)) then
      (bif inR 5 w1 then
        (bif (w3 5) == (⟨#[102]⟩ : ByteArray) then
          (some (.inl (.c6)))
        else (bif (w3 5) == (⟨#[97]⟩ : ByteArray) then
          (some (.inr (.e21 )))
        else (none)))
      else (none))
    else (some (.inr (.e5 )))
  | .c6  =>
    bif decide (6 < (w1 : Int)) then
      (bif inR 6 w1 then
        (bif (w3 6) == (⟨#[103]⟩ : ByteArray) then
          (some (.inl (.c7)))
        else (bif (w3 6) == (⟨#[97]⟩ : ByteArray) then
          (some (.inr (.e22 )))
        else (none)))
      else (none))
    else (some (.inr (.e6 )))
  | .c7  =>
    bif decide (7 < (w1 : Int)) then
      (bif inR 7 w1 then
        (bif (w3 7) == (⟨#[104]⟩ : ByteArray) then
          (some (.inl (.c8)))
        else (bif (w3 7) == (⟨#[97]⟩ : ByteArray) then
          (some (.inr (.e23 )))
        else (none)))
      else (none))
    else (some (.inr (.e7 )))
  | .c8  =>
    bif decide (8 < (w1 : Int)) then
      (bif inR 8 w1 then
        (bif (w3 8) == (⟨#[105]⟩ : ByteArray) then
          (some (.inl (.c9)))
        else (bif (w3 8) == (⟨#[97]⟩ : ByteArray) then
          (some (.inr (.e24 )))
        else (none)))
      else (none))
    else (some (.inr (.e8 )))
  | .c9  =>
    bif decide (9 < (w1 : Int)) then
      (bif inR 9 w1 then
        (bif (w3 9) == (⟨#[106]⟩ : ByteArray) then
          (some (.inl (.c10)))
        else (bif (w3 9) == (⟨#[97]⟩ : ByteArray) then
          (some (.inr (.e25 )))
        else (none)))
      else (none))
    else (some (.inr (.e9 )))
  | .c10  =>
    bif decide (10 < (w1 : Int)) then
      (bif inR 10 w1 then
        (bif (w3 10) == (⟨#[107]⟩ : ByteArray) then
          (some (.inl (.c11)))
        else (bif (w3 10) == (⟨#[97]⟩ : ByteArray) then
          (some (.inr (.e26 )))
        else (none)))
      else (none))
    else (some (.inr (.e10 )))
  | .c11  =>
    bif decide (11 < (w1 : Int)) then
      (bif inR 11 w1 then
        (bif (w3 11) == (⟨#[108]⟩ : ByteArray) then
          (some (.inl (.c12)))
        else (bif (w3 11) == (⟨#[97]⟩ : ByteArray) then
          (some (.inr (.e27 )))
        else (none)))
      else (none))
    else (some (.inr (.e11 )))
  | .c12  =>
    bif decide (12 < (w1 : Int)) then
      (bif inR 12 w1 then
        (bif (w3 12) == (⟨#[109]⟩ : ByteArray) then
          (some (.inl (.c13)))
        else (bif (w3 12) == (⟨#[97]⟩ : ByteArray) then
          (some (.inr (.e28 )))
        else (none)))
      else (none))
    else (some (.inr (.e12 )))
  | .c13  =>
    bif decide (13 < (w1 : Int)) then
      (bif inR 13 w1 then
        (bif (w3 13) == (⟨#[110]⟩ : ByteArray) then
          (some (.inl (.c14)))
        else (bif (w3 13) == (⟨#[97]⟩ : ByteArray) then
          (some (.inr (.e29 )))
        else (none)))
      else (none))
    else (some (.inr (.e13 )))
  | .c14  =>
    bif decide (14 < (w1 : Int)) then
      (bif inR 14 w1 then
        (bif (w3 14) == (⟨#[111]⟩ : ByteArray) then
          (some (.inl (.c15)))
        else (bif (w3 14) == (⟨#[97]⟩ : ByteArray) then
          (some (.inr (.e30 )))
        else (none)))
      else (none))
    else (some (.inr (.e14 )))
  | .c15  =>
    bif decide (15 < (w1 : Int)) then
      (bif inR 15 w1 then
        (bif (w3 15) == (⟨#[112]⟩ : ByteArray) then
          (some (.inl (.c16)))
        else (bif (w3 15) == (⟨#[97]⟩ : ByteArray) then
          (some (.inr (.e31 )))
        else (none)))
      else (none))
    else (some (.inr (.e15 )))
  | .c16  =>
    bif decide (16 < (w1 : Int)) then
      (bif inR 16 w1 then
        (bif (w3 16) == (⟨#[97]⟩ : ByteArray) then
          (some (.inr (.e32 )))
        else (none))
      else (none))
    else (some (.inr (.e16 )))
noncomputable def bd_object_Check_v5_L1 : Code := codeOf Try.f5 [1, 1, 1, 1, 1, 0, 1, 0, 0]
def fl_object_Check_v5_L1 (w0 : Nat) (w1 : Nat) (w2 : Nat → MapDef) (w3 : Nat → ByteArray) : Sh_object_Check_v5_L1 → List L1 → List Value
  | .c0 , ls => [.pointer (some ⟨(lget ls 2).n, 0, none⟩), .int .i64 (0), .int .i64 (0), .map (some (lget ls 4).n), (rowV (rrL (lget ls 1)) w1 2), .int .i64 ((w1 : Int)), .int .i64 (0)]
  | .c1 , ls => [.pointer (some ⟨(lget ls 2).n, 0, none⟩), .int .i64 (0), .int .i64 (0), .map (some (lget ls 4).n), (rowV (rrL (lget ls 1)) w1 2), .int .i64 ((w1 : Int)), .int .i64 (1)]
  | .c2 , ls => [.pointer (some ⟨(lget ls 2).n, 0, none⟩), .int .i64 (0), .int .i64 (0), .map (some (lget ls 4).n), (rowV (rrL (lget ls 1)) w1 2), .int .i64 ((w1 : Int)), .int .i64 (2)]
  | .c3 , ls => [.pointer (some ⟨(lget ls 2).n, 0, none⟩), .int .i64 (0), .int .i64 (0), .map (some (lget ls 4).n), (rowV (rrL (lget ls 1)) w1 2), .int .i64 ((w1 : Int)), .int .i64 (3)]
  | .c4 , ls => [.pointer (some ⟨(lget ls 2).n, 0, none⟩), .int .i64 (0), .int .i64 (0), .map (some (lget ls 4).n), (rowV (rrL (lget ls 1)) w1 2), .int .i64 ((w1 : Int)), .int .i64 (4)]
  | .c5 , ls => [.pointer (some ⟨(lget ls 2).n, 0, none⟩), .int .i64 (0), .int .i64 (0), .map (some (lget ls 4).n), (rowV (rrL (lget ls 1)) w1 2), .int .i64 ((w1 : Int)), .int .i64 (5)]
  | .c6 , ls => [.pointer (some ⟨(lget ls 2).n, 0, none⟩), .int .i64 (0), .int .i64 (0), .map (some (lget ls 4).n), (rowV (rrL (lget ls 1)) w1 2), .int .i64 ((w1 : Int)), .int .i64 (6)]
  | .c7 , ls => [.pointer (some ⟨(lget ls 2).n, 0, none⟩), .int .i64 (0), .int .i64 (0), .map (some (lget ls 4).n), (rowV (rrL (lget ls 1)) w1 2), .int .i64 ((w1 : Int)), .int .i64 (7)]
  | .c8 , ls => [.pointer (some ⟨(lget ls 2).n, 0, none⟩), .int .i64 (0), .int .i64 (0), .map (some (lget ls 4).n), (rowV (rrL (lget ls 1)) w1 2), .int .i64 ((w1 : Int)), .int .i64 (8)]
  | .c9 , ls => [.pointer (some ⟨(lget ls 2).n, 0, none⟩), .int .i64 (0), .int .i64 (0), .map (some (lget ls 4).n), (rowV (rrL (lget ls 1)) w1 2), .int .i64 ((w1 : Int)), .int .i64 (9)]
  | .c10 , ls => [.pointer (some ⟨(lget ls 2).n, 0, none⟩), .int .i64 (0), .int .i64 (0), .map (some (lget ls 4).n), (rowV (rrL (lget ls 1)) w1 2), .int .i64 ((w1 : Int)), .int .i64 (10)]
  | .c11 , ls => [.pointer (some ⟨(lget ls 2).n, 0, none⟩), .int .i64 (0), .int .i64 (0), .map (some (lget ls 4).n), (rowV (rrL (lget ls 1)) w1 2), .int .i64 ((w1 : Int)), .int .i64 (11)]
  | .c12 , ls => [.pointer (some ⟨(lget ls 2).n, 0, none⟩), .int .i64 (0), .int .i64 (0), .map (some (lget ls 4).n), (rowV (rrL (lget ls 1)) w1 2), .int .i64 ((w1 : Int)), .int .i64 (12)]
  | .c13 , ls => [.pointer (some ⟨(lget ls 2).n, 0, none⟩), .int .i64 (0), .int .i64 (0), .map (some (lget ls 4).n), (rowV (rrL (lget ls 1)) w1 2), .int .i64 ((w1 : Int)), .int .i64 (13)]
  | .c14 , ls => [.pointer (some ⟨(lget ls 2).n, 0, none⟩), .int .i64 (0), .int .i64 (0), .map (some (lget ls 4).n), (rowV (rrL (lget ls 1)) w1 2), .int .i64 ((w1 : Int)), .int .i64 (14)]
  | .c15 , ls => [.pointer (some ⟨(lget ls 2).n, 0, none⟩), .int .i64 (0), .int .i64 (0), .map (some (lget ls 4).n), (rowV (rrL (lget ls 1)) w1 2), .int .i64 ((w1 : Int)), .int .i64 (15)]
  | .c16 , ls => [.pointer (some ⟨(lget ls 2).n, 0, none⟩), .int .i64 (0), .int .i64 (0), .map (some (lget ls 4).n), (rowV (rrL (lget ls 1)) w1 2), .int .i64 ((w1 : Int)), .int .i64 (16)]
def mf_object_Check_v5_L1 : Sh_object_Check_v5_L1 → List (Nat × Nat)
  | .c0  => [(0, 1), (3, 4), (1, 43), (3, 31)]
  | .c1  => [(0, 1), (3, 4), (1, 43), (3, 31)]
  | .c2  => [(0, 1), (3, 4), (1, 43), (3, 31)]
  | .c3  => [(0, 1), (3, 4), (1, 43), (3, 31)]
  | .c4  => [(0, 1), (3, 4), (1, 43), (3, 31)]
  | .c5  => [(0, 1), (3, 4), (1, 43), (3, 31)]
  | .c6  => [(0, 1), (3, 4), (1, 43), (3, 31)]
  | .c7  => [(0, 1), (3, 4), (1, 43), (3, 31)]
  | .c8  => [(0, 1), (3, 4), (1, 43), (3, 31)]
  | .c9  => [(0, 1), (3, 4), (1, 43), (3, 31)]
  | .c10  => [(0, 1), (3, 4), (1, 43), (3, 31)]
  | .c11  => [(0, 1), (3, 4), (1, 43), (3, 31)]
  | .c12  => [(0, 1), (3, 4), (1, 43), (3, 31)]
  | .c13  => [(0, 1), (3, 4), (1, 43), (3, 31)]
  | .c14  => [(0, 1), (3, 4), (1, 43), (3, 31)]
  | .c15  => [(0, 1), (3, 4), (1, 43), (3, 31)]
  | .c16  => [(0, 1), (3, 4), (1, 43), (3, 31)]
noncomputable def fr_object_Check_v5_L1 (w0 : Nat) (w1 : Nat) (w2 : Nat → MapDef) (w3 : Nat → ByteArray) (s : Sh_object_Check_v5_L1) : List L1 → List Value := mrgF (mf_object_Check_v5_L1 s) (fl_object_Check_v5_L1 w0 w1 w2 w3 s) 5
def Hs_object_Check_v5_L1 (w0 : Nat) (w1 : Nat) (w2 : Nat → MapDef) (w3 : Nat → ByteArray) : Sh_object_Check_v5_L1 → List L1 → List Obj
  | .c0 , ls => [rowO (lget ls 0) (esG c_MapDef w0 w2) 29 w0 6, rsO hdS tlS 2 (lget ls 1) 35 32 c_Insn 5 w1 (fun _ => (2, (fun k => if k = 0 then (⟨183#8, 0#8, 0#8, 0#16, 0#32⟩ : Insn) else (⟨149#8, 0#8, 0#8, 0#16, 0#32⟩ : Insn)))) w3, .cells #[.slice none 0 0, (rowV (lget ls 0) w0 6), (rowV (rrL (lget ls 1)) w1 2)] 27, unb, .map #[] 0, unb]
  | .c1 , ls => [rowO (lget ls 0) (esG c_MapDef w0 w2) 29 w0 6, rsO hdS tlS 2 (lget ls 1) 35 32 c_Insn 5 w1 (fun _ => (2, (fun k => if k = 0 then (⟨183#8, 0#8, 0#8, 0#16, 0#32⟩ : Insn) else (⟨149#8, 0#8, 0#8, 0#16, 0#32⟩ : Insn)))) w3, .cells #[.slice none 0 0, (rowV (lget ls 0) w0 6), (rowV (rrL (lget ls 1)) w1 2)] 27, unb, .map #[⟨.string (⟨#[97]⟩ : ByteArray), .int .i64 (1), 0⟩] 1, unb]
  | .c2 , ls => [rowO (lget ls 0) (esG c_MapDef w0 w2) 29 w0 6, rsO hdS tlS 2 (lget ls 1) 35 32 c_Insn 5 w1 (fun _ => (2, (fun k => if k = 0 then (⟨183#8, 0#8, 0#8, 0#16, 0#32⟩ : Insn) else (⟨149#8, 0#8, 0#8, 0#16, 0#32⟩ : Insn)))) w3, .cells #[.slice none 0 0, (rowV (lget ls 0) w0 6), (rowV (rrL (lget ls 1)) w1 2)] 27, unb, .map #[⟨.string (⟨#[97]⟩ : ByteArray), .int .i64 (1), 0⟩, ⟨.string (⟨#[98]⟩ : ByteArray), .int .i64 (1), 1⟩] 2, unb]
  | .c3 , ls => [rowO (lget ls 0) (esG c_MapDef w0 w2) 29 w0 6, rsO hdS tlS 2 (lget ls 1) 35 32 c_Insn 5 w1 (fun _ => (2, (fun k => if k = 0 then (⟨183#8, 0#8, 0#8, 0#16, 0#32⟩ : Insn) else (⟨149#8, 0#8, 0#8, 0#16, 0#32⟩ : Insn)))) w3, .cells #[.slice none 0 0, (rowV (lget ls 0) w0 6), (rowV (rrL (lget ls 1)) w1 2)] 27, unb, .map #[⟨.string (⟨#[97]⟩ : ByteArray), .int .i64 (1), 0⟩, ⟨.string (⟨#[98]⟩ : ByteArray), .int .i64 (1), 1⟩, ⟨.string (⟨#[99]⟩ : ByteArray), .int .i64 (1), 2⟩] 3, unb]
  | .c4 , ls => [rowO (lget ls 0) (esG c_MapDef w0 w2) 29 w0 6, rsO hdS tlS 2 (lget ls 1) 35 32 c_Insn 5 w1 (fun _ => (2, (fun k => if k = 0 then (⟨183#8, 0#8, 0#8, 0#16, 0#32⟩ : Insn) else (⟨149#8, 0#8, 0#8, 0#16, 0#32⟩ : Insn)))) w3, .cells #[.slice none 0 0, (rowV (lget ls 0) w0 6), (rowV (rrL (lget ls 1)) w1 2)] 27, unb, .map #[⟨.string (⟨#[97]⟩ : ByteArray), .int .i64 (1), 0⟩, ⟨.string (⟨#[98]⟩ : ByteArray), .int .i64 (1), 1⟩, ⟨.string (⟨#[99]⟩ : ByteArray), .int .i64 (1), 2⟩, ⟨.string (⟨#[100]⟩ : ByteArray), .int .i64 (1), 3⟩] 4, unb]
  | .c5 , ls => [rowO (lget ls 0) (esG c_MapDef w0 w2) 29 w0 6, rsO hdS tlS 2 (lget ls 1) 35 32 c_Insn 5 w1 (fun _ => (2, (fun k => if k = 0 then (⟨183#8, 0#8, 0#8, 0#16, 0#32⟩ : Insn) else (⟨149#8, 0#8, 0#8, 0#16, 0#32⟩ : Insn)))) w3, .cells #[.slice none 0 0, (rowV (lget ls 0) w0 6), (rowV (rrL (lget ls 1)) w1 2)] 27, unb, .map #[⟨.string (⟨#[97]⟩ : ByteArray), .int .i64 (1), 0⟩, ⟨.string (⟨#[98]⟩ : ByteArray), .int .i64 (1), 1⟩, ⟨.string (⟨#[99]⟩ : ByteArray), .int .i64 (1), 2⟩, ⟨.string (⟨#[100]⟩ : ByteArray), .int .i64 (1), 3⟩, ⟨.string (⟨#[101]⟩ : ByteArray), .int .i64 (1), 4⟩] 5, unb]
  | .c6 , ls => [rowO (lget ls 0) (esG c_MapDef w0 w2) 29 w0 6, rsO hdS tlS 2 (lget ls 1) 35 32 c_Insn 5 w1 (fun _ => (2, (fun k => if k = 0 then (⟨183#8, 0#8, 0#8, 0#16, 0#32⟩ : Insn) else (⟨149#8, 0#8, 0#8, 0#16, 0#32⟩ : Insn)))) w3, .cells #[.slice none 0 0, (rowV (lget ls 0) w0 6), (rowV (rrL (lget ls 1)) w1 2)] 27, unb, .map #[⟨.string (⟨#[97]⟩ : ByteArray), .int .i64 (1), 0⟩, ⟨.string (⟨#[98]⟩ : ByteArray), .int .i64 (1), 1⟩, ⟨.string (⟨#[99]⟩ : ByteArray), .int .i64 (1), 2⟩, ⟨.string (⟨#[100]⟩ : ByteArray), .int .i64 (1), 3⟩, ⟨.string (⟨#[101]⟩ : ByteArray), .int .i64 (1), 4⟩, ⟨.string (⟨#[102]⟩ : ByteArray), .int .i64 (1), 5⟩] 6, unb]
  | .c7 , ls => [rowO (lget ls 0) (esG c_MapDef w0 w2) 29 w0 6, rsO hdS tlS 2 (lget ls 1) 35 32 c_Insn 5 w1 (fun _ => (2, (fun k => if k = 0 then (⟨183#8, 0#8, 0#8, 0#16, 0#32⟩ : Insn) else (⟨149#8, 0#8, 0#8, 0#16, 0#32⟩ : Insn)))) w3, .cells #[.slice none 0 0, (rowV (lget ls 0) w0 6), (rowV (rrL (lget ls 1)) w1 2)] 27, unb, .map #[⟨.string (⟨#[97]⟩ : ByteArray), .int .i64 (1), 0⟩, ⟨.string (⟨#[98]⟩ : ByteArray), .int .i64 (1), 1⟩, ⟨.string (⟨#[99]⟩ : ByteArray), .int .i64 (1), 2⟩, ⟨.string (⟨#[100]⟩ : ByteArray), .int .i64 (1), 3⟩, ⟨.string (⟨#[101]⟩ : ByteArray), .int .i64 (1), 4⟩, ⟨.string (⟨#[102]⟩ : ByteArray), .int .i64 (1), 5⟩, ⟨.string (⟨#[103]⟩ : ByteArray), .int .i64 (1), 6⟩] 7, unb]
  | .c8 , ls => [rowO (lget ls 0) (esG c_MapDef w0 w2) 29 w0 6, rsO hdS tlS 2 (lget ls 1) 35 32 c_Insn 5 w1 (fun _ => (2, (fun k => if k = 0 then (⟨183#8, 0#8, 0#8, 0#16, 0#32⟩ : Insn) else (⟨149#8, 0#8, 0#8, 0#16, 0#32⟩ : Insn)))) w3, .cells #[.slice none 0 0, (rowV (lget ls 0) w0 6), (rowV (rrL (lget ls 1)) w1 2)] 27, unb, .map #[⟨.string (⟨#[97]⟩ : ByteArray), .int .i64 (1), 0⟩, ⟨.string (⟨#[98]⟩ : ByteArray), .int .i64 (1), 1⟩, ⟨.string (⟨#[99]⟩ : ByteArray), .int .i64 (1), 2⟩, ⟨.string (⟨#[100]⟩ : ByteArray), .int .i64 (1), 3⟩, ⟨.string (⟨#[101]⟩ : ByteArray), .int .i64 (1), 4⟩, ⟨.string (⟨#[102]⟩ : ByteArray), .int .i64 (1), 5⟩, ⟨.string (⟨#[103]⟩ : ByteArray), .int .i64 (1), 6⟩, ⟨.string (⟨#[104]⟩ : ByteArray), .int .i64 (1), 7⟩] 8, unb]
  | .c9 , ls => [rowO (lget ls 0) (esG c_MapDef w0 w2) 29 w0 6, rsO hdS tlS 2 (lget ls 1) 35 32 c_Insn 5 w1 (fun _ => (2, (fun k => if k = 0 then (⟨183#8, 0#8, 0#8, 0#16, 0#32⟩ : Insn) else (⟨149#8, 0#8, 0#8, 0#16, 0#32⟩ : Insn)))) w3, .cells #[.slice none 0 0, (rowV (lget ls 0) w0 6), (rowV (rrL (lget ls 1)) w1 2)] 27, unb, .map #[⟨.string (⟨#[97]⟩ : ByteArray), .int .i64 (1), 0⟩, ⟨.string (⟨#[98]⟩ : ByteArray), .int .i64 (1), 1⟩, ⟨.string (⟨#[99]⟩ : ByteArray), .int .i64 (1), 2⟩, ⟨.string (⟨#[100]⟩ : ByteArray), .int .i64 (1), 3⟩, ⟨.string (⟨#[101]⟩ : ByteArray), .int .i64 (1), 4⟩, ⟨.string (⟨#[102]⟩ : ByteArray), .int .i64 (1), 5⟩, ⟨.string (⟨#[103]⟩ : ByteArray), .int .i64 (1), 6⟩, ⟨.string (⟨#[104]⟩ : ByteArray), .int .i64 (1), 7⟩, ⟨.string (⟨#[105]⟩ : ByteArray), .int .i64 (1), 8⟩] 9, unb]
  | .c10 , ls => [rowO (lget ls 0) (esG c_MapDef w0 w2) 29 w0 6, rsO hdS tlS 2 (lget ls 1) 35 32 c_Insn 5 w1 (fun _ => (2, (fun k => if k = 0 then (⟨183#8, 0#8, 0#8, 0#16, 0#32⟩ : Insn) else (⟨149#8, 0#8, 0#8, 0#16, 0#32⟩ : Insn)))) w3, .cells #[.slice none 0 0, (rowV (lget ls 0) w0 6), (rowV (rrL (lget ls 1)) w1 2)] 27, unb, .map #[⟨.string (⟨#[97]⟩ : ByteArray), .int .i64 (1), 0⟩, ⟨.string (⟨#[98]⟩ : ByteArray), .int .i64 (1), 1⟩, ⟨.string (⟨#[99]⟩ : ByteArray), .int .i64 (1), 2⟩, ⟨.string (⟨#[100]⟩ : ByteArray), .int .i64 (1), 3⟩, ⟨.string (⟨#[101]⟩ : ByteArray), .int .i64 (1), 4⟩, ⟨.string (⟨#[102]⟩ : ByteArray), .int .i64 (1), 5⟩, ⟨.string (⟨#[103]⟩ : ByteArray), .int .i64 (1), 6⟩, ⟨.string (⟨#[104]⟩ : ByteArray), .int .i64 (1), 7⟩, ⟨.string (⟨#[105]⟩ : ByteArray), .int .i64 (1), 8⟩, ⟨.string (⟨#[106]⟩ : ByteArray), .int .i64 (1), 9⟩] 10, unb]
  | .c11 , ls => [rowO (lget ls 0) (esG c_MapDef w0 w2) 29 w0 6, rsO hdS tlS 2 (lget ls 1) 35 32 c_Insn 5 w1 (fun _ => (2, (fun k => if k = 0 then (⟨183#8, 0#8, 0#8, 0#16, 0#32⟩ : Insn) else (⟨149#8, 0#8, 0#8, 0#16, 0#32⟩ : Insn)))) w3, .cells #[.slice none 0 0, (rowV (lget ls 0) w0 6), (rowV (rrL (lget ls 1)) w1 2)] 27, unb, .map #[⟨.string (⟨#[97]⟩ : ByteArray), .int .i64 (1), 0⟩, ⟨.string (⟨#[98]⟩ : ByteArray), .int .i64 (1), 1⟩, ⟨.string (⟨#[99]⟩ : ByteArray), .int .i64 (1), 2⟩, ⟨.string (⟨#[100]⟩ : ByteArray), .int .i64 (1), 3⟩, ⟨.string (⟨#[101]⟩ : ByteArray), .int .i64 (1), 4⟩, ⟨.string (⟨#[102]⟩ : ByteArray), .int .i64 (1), 5⟩, ⟨.string (⟨#[103]⟩ : ByteArray), .int .i64 (1), 6⟩, ⟨.string (⟨#[104]⟩ : ByteArray), .int .i64 (1), 7⟩, ⟨.string (⟨#[105]⟩ : ByteArray), .int .i64 (1), 8⟩, ⟨.string (⟨#[106]⟩ : ByteArray), .int .i64 (1), 9⟩, ⟨.string (⟨#[107]⟩ : ByteArray), .int .i64 (1), 10⟩] 11, unb]
  | .c12 , ls => [rowO (lget ls 0) (esG c_MapDef w0 w2) 29 w0 6, rsO hdS tlS 2 (lget ls 1) 35 32 c_Insn 5 w1 (fun _ => (2, (fun k => if k = 0 then (⟨183#8, 0#8, 0#8, 0#16, 0#32⟩ : Insn) else (⟨149#8, 0#8, 0#8, 0#16, 0#32⟩ : Insn)))) w3, .cells #[.slice none 0 0, (rowV (lget ls 0) w0 6), (rowV (rrL (lget ls 1)) w1 2)] 27, unb, .map #[⟨.string (⟨#[97]⟩ : ByteArray), .int .i64 (1), 0⟩, ⟨.string (⟨#[98]⟩ : ByteArray), .int .i64 (1), 1⟩, ⟨.string (⟨#[99]⟩ : ByteArray), .int .i64 (1), 2⟩, ⟨.string (⟨#[100]⟩ : ByteArray), .int .i64 (1), 3⟩, ⟨.string (⟨#[101]⟩ : ByteArray), .int .i64 (1), 4⟩, ⟨.string (⟨#[102]⟩ : ByteArray), .int .i64 (1), 5⟩, ⟨.string (⟨#[103]⟩ : ByteArray), .int .i64 (1), 6⟩, ⟨.string (⟨#[104]⟩ : ByteArray), .int .i64 (1), 7⟩, ⟨.string (⟨#[105]⟩ : ByteArray), .int .i64 (1), 8⟩, ⟨.string (⟨#[106]⟩ : ByteArray), .int .i64 (1), 9⟩, ⟨.string (⟨#[107]⟩ : ByteArray), .int .i64 (1), 10⟩, ⟨.string (⟨#[108]⟩ : ByteArray), .int .i64 (1), 11⟩] 12, unb]
  | .c13 , ls => [rowO (lget ls 0) (esG c_MapDef w0 w2) 29 w0 6, rsO hdS tlS 2 (lget ls 1) 35 32 c_Insn 5 w1 (fun _ => (2, (fun k => if k = 0 then (⟨183#8, 0#8, 0#8, 0#16, 0#32⟩ : Insn) else (⟨149#8, 0#8, 0#8, 0#16, 0#32⟩ : Insn)))) w3, .cells #[.slice none 0 0, (rowV (lget ls 0) w0 6), (rowV (rrL (lget ls 1)) w1 2)] 27, unb, .map #[⟨.string (⟨#[97]⟩ : ByteArray), .int .i64 (1), 0⟩, ⟨.string (⟨#[98]⟩ : ByteArray), .int .i64 (1), 1⟩, ⟨.string (⟨#[99]⟩ : ByteArray), .int .i64 (1), 2⟩, ⟨.string (⟨#[100]⟩ : ByteArray), .int .i64 (1), 3⟩, ⟨.string (⟨#[101]⟩ : ByteArray), .int .i64 (1), 4⟩, ⟨.string (⟨#[102]⟩ : ByteArray), .int .i64 (1), 5⟩, ⟨.string (⟨#[103]⟩ : ByteArray), .int .i64 (1), 6⟩, ⟨.string (⟨#[104]⟩ : ByteArray), .int .i64 (1), 7⟩, ⟨.string (⟨#[105]⟩ : ByteArray), .int .i64 (1), 8⟩, ⟨.string (⟨#[106]⟩ : ByteArray), .int .i64 (1), 9⟩, ⟨.string (⟨#[107]⟩ : ByteArray), .int .i64 (1), 10⟩, ⟨.string (⟨#[108]⟩ : ByteArray), .int .i64 (1), 11⟩, ⟨.string (⟨#[109]⟩ : ByteArray), .int .i64 (1), 12⟩] 13, unb]
  | .c14 , ls => [rowO (lget ls 0) (esG c_MapDef w0 w2) 29 w0 6, rsO hdS tlS 2 (lget ls 1) 35 32 c_Insn 5 w1 (fun _ => (2, (fun k => if k = 0 then (⟨183#8, 0#8, 0#8, 0#16, 0#32⟩ : Insn) else (⟨149#8, 0#8, 0#8, 0#16, 0#32⟩ : Insn)))) w3, .cells #[.slice none 0 0, (rowV (lget ls 0) w0 6), (rowV (rrL (lget ls 1)) w1 2)] 27, unb, .map #[⟨.string (⟨#[97]⟩ : ByteArray), .int .i64 (1), 0⟩, ⟨.string (⟨#[98]⟩ : ByteArray), .int .i64 (1), 1⟩, ⟨.string (⟨#[99]⟩ : ByteArray), .int .i64 (1), 2⟩, ⟨.string (⟨#[100]⟩ : ByteArray), .int .i64 (1), 3⟩, ⟨.string (⟨#[101]⟩ : ByteArray), .int .i64 (1), 4⟩, ⟨.string (⟨#[102]⟩ : ByteArray), .int .i64 (1), 5⟩, ⟨.string (⟨#[103]⟩ : ByteArray), .int .i64 (1), 6⟩, ⟨.string (⟨#[104]⟩ : ByteArray), .int .i64 (1), 7⟩, ⟨.string (⟨#[105]⟩ : ByteArray), .int .i64 (1), 8⟩, ⟨.string (⟨#[106]⟩ : ByteArray), .int .i64 (1), 9⟩, ⟨.string (⟨#[107]⟩ : ByteArray), .int .i64 (1), 10⟩, ⟨.string (⟨#[108]⟩ : ByteArray), .int .i64 (1), 11⟩, ⟨.string (⟨#[109]⟩ : ByteArray), .int .i64 (1), 12⟩, ⟨.string (⟨#[110]⟩ : ByteArray), .int .i64 (1), 13⟩] 14, unb]
  | .c15 , ls => [rowO (lget ls 0) (esG c_MapDef w0 w2) 29 w0 6, rsO hdS tlS 2 (lget ls 1) 35 32 c_Insn 5 w1 (fun _ => (2, (fun k => if k = 0 then (⟨183#8, 0#8, 0#8, 0#16, 0#32⟩ : Insn) else (⟨149#8, 0#8, 0#8, 0#16, 0#32⟩ : Insn)))) w3, .cells #[.slice none 0 0, (rowV (lget ls 0) w0 6), (rowV (rrL (lget ls 1)) w1 2)] 27, unb, .map #[⟨.string (⟨#[97]⟩ : ByteArray), .int .i64 (1), 0⟩, ⟨.string (⟨#[98]⟩ : ByteArray), .int .i64 (1), 1⟩, ⟨.string (⟨#[99]⟩ : ByteArray), .int .i64 (1), 2⟩, ⟨.string (⟨#[100]⟩ : ByteArray), .int .i64 (1), 3⟩, ⟨.string (⟨#[101]⟩ : ByteArray), .int .i64 (1), 4⟩, ⟨.string (⟨#[102]⟩ : ByteArray), .int .i64 (1), 5⟩, ⟨.string (⟨#[103]⟩ : ByteArray), .int .i64 (1), 6⟩, ⟨.string (⟨#[104]⟩ : ByteArray), .int .i64 (1), 7⟩, ⟨.string (⟨#[105]⟩ : ByteArray), .int .i64 (1), 8⟩, ⟨.string (⟨#[106]⟩ : ByteArray), .int .i64 (1), 9⟩, ⟨.string (⟨#[107]⟩ : ByteArray), .int .i64 (1), 10⟩, ⟨.string (⟨#[108]⟩ : ByteArray), .int .i64 (1), 11⟩, ⟨.string (⟨#[109]⟩ : ByteArray), .int .i64 (1), 12⟩, ⟨.string (⟨#[110]⟩ : ByteArray), .int .i64 (1), 13⟩, ⟨.string (⟨#[111]⟩ : ByteArray), .int .i64 (1), 14⟩] 15, unb]
  | .c16 , ls => [rowO (lget ls 0) (esG c_MapDef w0 w2) 29 w0 6, rsO hdS tlS 2 (lget ls 1) 35 32 c_Insn 5 w1 (fun _ => (2, (fun k => if k = 0 then (⟨183#8, 0#8, 0#8, 0#16, 0#32⟩ : Insn) else (⟨149#8, 0#8, 0#8, 0#16, 0#32⟩ : Insn)))) w3, .cells #[.slice none 0 0, (rowV (lget ls 0) w0 6), (rowV (rrL (lget ls 1)) w1 2)] 27, unb, .map #[⟨.string (⟨#[97]⟩ : ByteArray), .int .i64 (1), 0⟩, ⟨.string (⟨#[98]⟩ : ByteArray), .int .i64 (1), 1⟩, ⟨.string (⟨#[99]⟩ : ByteArray), .int .i64 (1), 2⟩, ⟨.string (⟨#[100]⟩ : ByteArray), .int .i64 (1), 3⟩, ⟨.string (⟨#[101]⟩ : ByteArray), .int .i64 (1), 4⟩, ⟨.string (⟨#[102]⟩ : ByteArray), .int .i64 (1), 5⟩, ⟨.string (⟨#[103]⟩ : ByteArray), .int .i64 (1), 6⟩, ⟨.string (⟨#[104]⟩ : ByteArray), .int .i64 (1), 7⟩, ⟨.string (⟨#[105]⟩ : ByteArray), .int .i64 (1), 8⟩, ⟨.string (⟨#[106]⟩ : ByteArray), .int .i64 (1), 9⟩, ⟨.string (⟨#[107]⟩ : ByteArray), .int .i64 (1), 10⟩, ⟨.string (⟨#[108]⟩ : ByteArray), .int .i64 (1), 11⟩, ⟨.string (⟨#[109]⟩ : ByteArray), .int .i64 (1), 12⟩, ⟨.string (⟨#[110]⟩ : ByteArray), .int .i64 (1), 13⟩, ⟨.string (⟨#[111]⟩ : ByteArray), .int .i64 (1), 14⟩, ⟨.string (⟨#[112]⟩ : ByteArray), .int .i64 (1), 15⟩] 16, unb]
def vl_object_Check_v5_L1 (w0 : Nat) (w1 : Nat) (w2 : Nat → MapDef) (w3 : Nat → ByteArray) : Ex_object_Check_v5_L1 → List L1 → List Value
  | .e0 , ls => [.pointer (some ⟨(lget ls 2).n, 0, none⟩), .int .i64 (0), .int .i64 (0), .map (some (lget ls 4).n), (rowV (rrL (lget ls 1)) w1 2), .int .i64 ((w1 : Int))]
  | .e1 , ls => [.pointer (some ⟨(lget ls 2).n, 0, none⟩), .int .i64 (0), .int .i64 (0), .map (some (lget ls 4).n), (rowV (rrL (lget ls 1)) w1 2), .int .i64 ((w1 : Int))]
  | .e2 , ls => [.pointer (some ⟨(lget ls 2).n, 0, none⟩), .int .i64 (0), .int .i64 (0), .map (some (lget ls 4).n), (rowV (rrL (lget ls 1)) w1 2), .int .i64 ((w1 : Int))]
  | .e3 , ls => [.pointer (some ⟨(lget ls 2).n, 0, none⟩), .int .i64 (0), .int .i64 (0), .map (some (lget ls 4).n), (rowV (rrL (lget ls 1)) w1 2), .int .i64 ((w1 : Int))]
  | .e4 , ls => [.pointer (some ⟨(lget ls 2).n, 0, none⟩), .int .i64 (0), .int .i64 (0), .map (some (lget ls 4).n), (rowV (rrL (lget ls 1)) w1 2), .int .i64 ((w1 : Int))]
  | .e5 , ls => [.pointer (some ⟨(lget ls 2).n, 0, none⟩), .int .i64 (0), .int .i64 (0), .map (some (lget ls 4).n), (rowV (rrL (lget ls 1)) w1 2), .int .i64 ((w1 : Int))]
  | .e6 , ls => [.pointer (some ⟨(lget ls 2).n, 0, none⟩), .int .i64 (0), .int .i64 (0), .map (some (lget ls 4).n), (rowV (rrL (lget ls 1)) w1 2), .int .i64 ((w1 : Int))]
  | .e7 , ls => [.pointer (some ⟨(lget ls 2).n, 0, none⟩), .int .i64 (0), .int .i64 (0), .map (some (lget ls 4).n), (rowV (rrL (lget ls 1)) w1 2), .int .i64 ((w1 : Int))]
  | .e8 , ls => [.pointer (some ⟨(lget ls 2).n, 0, none⟩), .int .i64 (0), .int .i64 (0), .map (some (lget ls 4).n), (rowV (rrL (lget ls 1)) w1 2), .int .i64 ((w1 : Int))]
  | .e9 , ls => [.pointer (some ⟨(lget ls 2).n, 0, none⟩), .int .i64 (0), .int .i64 (0), .map (some (lget ls 4).n), (rowV (rrL (lget ls 1)) w1 2), .int .i64 ((w1 : Int))]
  | .e10 , ls => [.pointer (some ⟨(lget ls 2).n, 0, none⟩), .int .i64 (0), .int .i64 (0), .map (some (lget ls 4).n), (rowV (rrL (lget ls 1)) w1 2), .int .i64 ((w1 : Int))]
  | .e11 , ls => [.pointer (some ⟨(lget ls 2).n, 0, none⟩), .int .i64 (0), .int .i64 (0), .map (some (lget ls 4).n), (rowV (rrL (lget ls 1)) w1 2), .int .i64 ((w1 : Int))]
  | .e12 , ls => [.pointer (some ⟨(lget ls 2).n, 0, none⟩), .int .i64 (0), .int .i64 (0), .map (some (lget ls 4).n), (rowV (rrL (lget ls 1)) w1 2), .int .i64 ((w1 : Int))]
  | .e13 , ls => [.pointer (some ⟨(lget ls 2).n, 0, none⟩), .int .i64 (0), .int .i64 (0), .map (some (lget ls 4).n), (rowV (rrL (lget ls 1)) w1 2), .int .i64 ((w1 : Int))]
  | .e14 , ls => [.pointer (some ⟨(lget ls 2).n, 0, none⟩), .int .i64 (0), .int .i64 (0), .map (some (lget ls 4).n), (rowV (rrL (lget ls 1)) w1 2), .int .i64 ((w1 : Int))]
  | .e15 , ls => [.pointer (some ⟨(lget ls 2).n, 0, none⟩), .int .i64 (0), .int .i64 (0), .map (some (lget ls 4).n), (rowV (rrL (lget ls 1)) w1 2), .int .i64 ((w1 : Int))]
  | .e16 , ls => [.pointer (some ⟨(lget ls 2).n, 0, none⟩), .int .i64 (0), .int .i64 (0), .map (some (lget ls 4).n), (rowV (rrL (lget ls 1)) w1 2), .int .i64 ((w1 : Int))]
  | .e17 , ls => [.pointer (some ⟨(lget ls 2).n, 0, none⟩), .int .i64 (1), .int .i64 (52), .map (some (lget ls 4).n), (rowV (rrL (lget ls 1)) w1 2), .int .i64 ((w1 : Int))]
  | .e18 , ls => [.pointer (some ⟨(lget ls 2).n, 0, none⟩), .int .i64 (2), .int .i64 (52), .map (some (lget ls 4).n), (rowV (rrL (lget ls 1)) w1 2), .int .i64 ((w1 : Int))]
  | .e19 , ls => [.pointer (some ⟨(lget ls 2).n, 0, none⟩), .int .i64 (3), .int .i64 (52), .map (some (lget ls 4).n), (rowV (rrL (lget ls 1)) w1 2), .int .i64 ((w1 : Int))]
  | .e20 , ls => [.pointer (some ⟨(lget ls 2).n, 0, none⟩), .int .i64 (4), .int .i64 (52), .map (some (lget ls 4).n), (rowV (rrL (lget ls 1)) w1 2), .int .i64 ((w1 : Int))]
  | .e21 , ls => [.pointer (some ⟨(lget ls 2).n, 0, none⟩), .int .i64 (5), .int .i64 (52), .map (some (lget ls 4).n), (rowV (rrL (lget ls 1)) w1 2), .int .i64 ((w1 : Int))]
  | .e22 , ls => [.pointer (some ⟨(lget ls 2).n, 0, none⟩), .int .i64 (6), .int .i64 (52), .map (some (lget ls 4).n), (rowV (rrL (lget ls 1)) w1 2), .int .i64 ((w1 : Int))]
  | .e23 , ls => [.pointer (some ⟨(lget ls 2).n, 0, none⟩), .int .i64 (7), .int .i64 (52), .map (some (lget ls 4).n), (rowV (rrL (lget ls 1)) w1 2), .int .i64 ((w1 : Int))]
  | .e24 , ls => [.pointer (some ⟨(lget ls 2).n, 0, none⟩), .int .i64 (8), .int .i64 (52), .map (some (lget ls 4).n), (rowV (rrL (lget ls 1)) w1 2), .int .i64 ((w1 : Int))]
  | .e25 , ls => [.pointer (some ⟨(lget ls 2).n, 0, none⟩), .int .i64 (9), .int .i64 (52), .map (some (lget ls 4).n), (rowV (rrL (lget ls 1)) w1 2), .int .i64 ((w1 : Int))]
  | .e26 , ls => [.pointer (some ⟨(lget ls 2).n, 0, none⟩), .int .i64 (10), .int .i64 (52), .map (some (lget ls 4).n), (rowV (rrL (lget ls 1)) w1 2), .int .i64 ((w1 : Int))]
  | .e27 , ls => [.pointer (some ⟨(lget ls 2).n, 0, none⟩), .int .i64 (11), .int .i64 (52), .map (some (lget ls 4).n), (rowV (rrL (lget ls 1)) w1 2), .int .i64 ((w1 : Int))]
  | .e28 , ls => [.pointer (some ⟨(lget ls 2).n, 0, none⟩), .int .i64 (12), .int .i64 (52), .map (some (lget ls 4).n), (rowV (rrL (lget ls 1)) w1 2), .int .i64 ((w1 : Int))]
  | .e29 , ls => [.pointer (some ⟨(lget ls 2).n, 0, none⟩), .int .i64 (13), .int .i64 (52), .map (some (lget ls 4).n), (rowV (rrL (lget ls 1)) w1 2), .int .i64 ((w1 : Int))]
  | .e30 , ls => [.pointer (some ⟨(lget ls 2).n, 0, none⟩), .int .i64 (14), .int .i64 (52), .map (some (lget ls 4).n), (rowV (rrL (lget ls 1)) w1 2), .int .i64 ((w1 : Int))]
  | .e31 , ls => [.pointer (some ⟨(lget ls 2).n, 0, none⟩), .int .i64 (15), .int .i64 (52), .map (some (lget ls 4).n), (rowV (rrL (lget ls 1)) w1 2), .int .i64 ((w1 : Int))]
  | .e32 , ls => [.pointer (some ⟨(lget ls 2).n, 0, none⟩), .int .i64 (16), .int .i64 (52), .map (some (lget ls 4).n), (rowV (rrL (lget ls 1)) w1 2), .int .i64 ((w1 : Int))]
def mk_object_Check_v5_L1 : Ex_object_Check_v5_L1 → List (Nat × Nat)
  | .e0  => [(0, 1), (3, 4), (1, 43), (2, 32)]
  | .e1  => [(0, 1), (3, 4), (1, 43), (2, 32)]
  | .e2  => [(0, 1), (3, 4), (1, 43), (2, 32)]
  | .e3  => [(0, 1), (3, 4), (1, 43), (2, 32)]
  | .e4  => [(0, 1), (3, 4), (1, 43), (2, 32)]
  | .e5  => [(0, 1), (3, 4), (1, 43), (2, 32)]
  | .e6  => [(0, 1), (3, 4), (1, 43), (2, 32)]
  | .e7  => [(0, 1), (3, 4), (1, 43), (2, 32)]
  | .e8  => [(0, 1), (3, 4), (1, 43), (2, 32)]
  | .e9  => [(0, 1), (3, 4), (1, 43), (2, 32)]
  | .e10  => [(0, 1), (3, 4), (1, 43), (2, 32)]
  | .e11  => [(0, 1), (3, 4), (1, 43), (2, 32)]
  | .e12  => [(0, 1), (3, 4), (1, 43), (2, 32)]
  | .e13  => [(0, 1), (3, 4), (1, 43), (2, 32)]
  | .e14  => [(0, 1), (3, 4), (1, 43), (2, 32)]
  | .e15  => [(0, 1), (3, 4), (1, 43), (2, 32)]
  | .e16  => [(0, 1), (3, 4), (1, 43), (2, 32)]
  | .e17  => [(0, 1), (3, 4), (1, 43), (2, 32)]
  | .e18  => [(0, 1), (3, 4), (1, 43), (2, 32)]
  | .e19  => [(0, 1), (3, 4), (1, 43), (2, 32)]
  | .e20  => [(0, 1), (3, 4), (1, 43), (2, 32)]
  | .e21  => [(0, 1), (3, 4), (1, 43), (2, 32)]
  | .e22  => [(0, 1), (3, 4), (1, 43), (2, 32)]
  | .e23  => [(0, 1), (3, 4), (1, 43), (2, 32)]
  | .e24  => [(0, 1), (3, 4), (1, 43), (2, 32)]
  | .e25  => [(0, 1), (3, 4), (1, 43), (2, 32)]
  | .e26  => [(0, 1), (3, 4), (1, 43), (2, 32)]
  | .e27  => [(0, 1), (3, 4), (1, 43), (2, 32)]
  | .e28  => [(0, 1), (3, 4), (1, 43), (2, 32)]
  | .e29  => [(0, 1), (3, 4), (1, 43), (2, 32)]
  | .e30  => [(0, 1), (3, 4), (1, 43), (2, 32)]
  | .e31  => [(0, 1), (3, 4), (1, 43), (2, 32)]
  | .e32  => [(0, 1), (3, 4), (1, 43), (2, 32)]
noncomputable def vf_object_Check_v5_L1 (w0 : Nat) (w1 : Nat) (w2 : Nat → MapDef) (w3 : Nat → ByteArray) (r : Ex_object_Check_v5_L1) : List L1 → List Value := mrgF (mk_object_Check_v5_L1 r) (vl_object_Check_v5_L1 w0 w1 w2 w3 r) 5
def Hf_object_Check_v5_L1 (w0 : Nat) (w1 : Nat) (w2 : Nat → MapDef) (w3 : Nat → ByteArray) : Ex_object_Check_v5_L1 → List L1 → List Obj
  | .e0 , ls => [rowO (lget ls 0) (esG c_MapDef w0 w2) 29 w0 6, rsO hdS tlS 2 (lget ls 1) 35 32 c_Insn 5 w1 (fun _ => (2, (fun k => if k = 0 then (⟨183#8, 0#8, 0#8, 0#16, 0#32⟩ : Insn) else (⟨149#8, 0#8, 0#8, 0#16, 0#32⟩ : Insn)))) w3, .cells #[.slice none 0 0, (rowV (lget ls 0) w0 6), (rowV (rrL (lget ls 1)) w1 2)] 27, unb, .map #[] 0, unb]
  | .e1 , ls => [rowO (lget ls 0) (esG c_MapDef w0 w2) 29 w0 6, rsO hdS tlS 2 (lget ls 1) 35 32 c_Insn 5 w1 (fun _ => (2, (fun k => if k = 0 then (⟨183#8, 0#8, 0#8, 0#16, 0#32⟩ : Insn) else (⟨149#8, 0#8, 0#8, 0#16, 0#32⟩ : Insn)))) w3, .cells #[.slice none 0 0, (rowV (lget ls 0) w0 6), (rowV (rrL (lget ls 1)) w1 2)] 27, unb, .map #[⟨.string (⟨#[97]⟩ : ByteArray), .int .i64 (1), 0⟩] 1, unb]
  | .e2 , ls => [rowO (lget ls 0) (esG c_MapDef w0 w2) 29 w0 6, rsO hdS tlS 2 (lget ls 1) 35 32 c_Insn 5 w1 (fun _ => (2, (fun k => if k = 0 then (⟨183#8, 0#8, 0#8, 0#16, 0#32⟩ : Insn) else (⟨149#8, 0#8, 0#8, 0#16, 0#32⟩ : Insn)))) w3, .cells #[.slice none 0 0, (rowV (lget ls 0) w0 6), (rowV (rrL (lget ls 1)) w1 2)] 27, unb, .map #[⟨.string (⟨#[97]⟩ : ByteArray), .int .i64 (1), 0⟩, ⟨.string (⟨#[98]⟩ : ByteArray), .int .i64 (1), 1⟩] 2, unb]
  | .e3 , ls => [rowO (lget ls 0) (esG c_MapDef w0 w2) 29 w0 6, rsO hdS tlS 2 (lget ls 1) 35 32 c_Insn 5 w1 (fun _ => (2, (fun k => if k = 0 then (⟨183#8, 0#8, 0#8, 0#16, 0#32⟩ : Insn) else (⟨149#8, 0#8, 0#8, 0#16, 0#32⟩ : Insn)))) w3, .cells #[.slice none 0 0, (rowV (lget ls 0) w0 6), (rowV (rrL (lget ls 1)) w1 2)] 27, unb, .map #[⟨.string (⟨#[97]⟩ : ByteArray), .int .i64 (1), 0⟩, ⟨.string (⟨#[98]⟩ : ByteArray), .int .i64 (1), 1⟩, ⟨.string (⟨#[99]⟩ : ByteArray), .int .i64 (1), 2⟩] 3, unb]
  | .e4 , ls => [rowO (lget ls 0) (esG c_MapDef w0 w2) 29 w0 6, rsO hdS tlS 2 (lget ls 1) 35 32 c_Insn 5 w1 (fun _ => (2, (fun k => if k = 0 then (⟨183#8, 0#8, 0#8, 0#16, 0#32⟩ : Insn) else (⟨149#8, 0#8, 0#8, 0#16, 0#32⟩ : Insn)))) w3, .cells #[.slice none 0 0, (rowV (lget ls 0) w0 6), (rowV (rrL (lget ls 1)) w1 2)] 27, unb, .map #[⟨.string (⟨#[97]⟩ : ByteArray), .int .i64 (1), 0⟩, ⟨.string (⟨#[98]⟩ : ByteArray), .int .i64 (1), 1⟩, ⟨.string (⟨#[99]⟩ : ByteArray), .int .i64 (1), 2⟩, ⟨.string (⟨#[100]⟩ : ByteArray), .int .i64 (1), 3⟩] 4, unb]
  | .e5 , ls => [rowO (lget ls 0) (esG c_MapDef w0 w2) 29 w0 6, rsO hdS tlS 2 (lget ls 1) 35 32 c_Insn 5 w1 (fun _ => (2, (fun k => if k = 0 then (⟨183#8, 0#8, 0#8, 0#16, 0#32⟩ : Insn) else (⟨149#8, 0#8, 0#8, 0#16, 0#32⟩ : Insn)))) w3, .cells #[.slice none 0 0, (rowV (lget ls 0) w0 6), (rowV (rrL (lget ls 1)) w1 2)] 27, unb, .map #[⟨.string (⟨#[97]⟩ : ByteArray), .int .i64 (1), 0⟩, ⟨.string (⟨#[98]⟩ : ByteArray), .int .i64 (1), 1⟩, ⟨.string (⟨#[99]⟩ : ByteArray), .int .i64 (1), 2⟩, ⟨.string (⟨#[100]⟩ : ByteArray), .int .i64 (1), 3⟩, ⟨.string (⟨#[101]⟩ : ByteArray), .int .i64 (1), 4⟩] 5, unb]
  | .e6 , ls => [rowO (lget ls 0) (esG c_MapDef w0 w2) 29 w0 6, rsO hdS tlS 2 (lget ls 1) 35 32 c_Insn 5 w1 (fun _ => (2, (fun k => if k = 0 then (⟨183#8, 0#8, 0#8, 0#16, 0#32⟩ : Insn) else (⟨149#8, 0#8, 0#8, 0#16, 0#32⟩ : Insn)))) w3, .cells #[.slice none 0 0, (rowV (lget ls 0) w0 6), (rowV (rrL (lget ls 1)) w1 2)] 27, unb, .map #[⟨.string (⟨#[97]⟩ : ByteArray), .int .i64 (1), 0⟩, ⟨.string (⟨#[98]⟩ : ByteArray), .int .i64 (1), 1⟩, ⟨.string (⟨#[99]⟩ : ByteArray), .int .i64 (1), 2⟩, ⟨.string (⟨#[100]⟩ : ByteArray), .int .i64 (1), 3⟩, ⟨.string (⟨#[101]⟩ : ByteArray), .int .i64 (1), 4⟩, ⟨.string (⟨#[102]⟩ : ByteArray), .int .i64 (1), 5⟩] 6, unb]
  | .e7 , ls => [rowO (lget ls 0) (esG c_MapDef w0 w2) 29 w0 6, rsO hdS tlS 2 (lget ls 1) 35 32 c_Insn 5 w1 (fun _ => (2, (fun k => if k = 0 then (⟨183#8, 0#8, 0#8, 0#16, 0#32⟩ : Insn) else (⟨149#8, 0#8, 0#8, 0#16, 0#32⟩ : Insn)))) w3, .cells #[.slice none 0 0, (rowV (lget ls 0) w0 6), (rowV (rrL (lget ls 1)) w1 2)] 27, unb, .map #[⟨.string (⟨#[97]⟩ : ByteArray), .int .i64 (1), 0⟩, ⟨.string (⟨#[98]⟩ : ByteArray), .int .i64 (1), 1⟩, ⟨.string (⟨#[99]⟩ : ByteArray), .int .i64 (1), 2⟩, ⟨.string (⟨#[100]⟩ : ByteArray), .int .i64 (1), 3⟩, ⟨.string (⟨#[101]⟩ : ByteArray), .int .i64 (1), 4⟩, ⟨.string (⟨#[102]⟩ : ByteArray), .int .i64 (1), 5⟩, ⟨.string (⟨#[103]⟩ : ByteArray), .int .i64 (1), 6⟩] 7, unb]
  | .e8 , ls => [rowO (lget ls 0) (esG c_MapDef w0 w2) 29 w0 6, rsO hdS tlS 2 (lget ls 1) 35 32 c_Insn 5 w1 (fun _ => (2, (fun k => if k = 0 then (⟨183#8, 0#8, 0#8, 0#16, 0#32⟩ : Insn) else (⟨149#8, 0#8, 0#8, 0#16, 0#32⟩ : Insn)))) w3, .cells #[.slice none 0 0, (rowV (lget ls 0) w0 6), (rowV (rrL (lget ls 1)) w1 2)] 27, unb, .map #[⟨.string (⟨#[97]⟩ : ByteArray), .int .i64 (1), 0⟩, ⟨.string (⟨#[98]⟩ : ByteArray), .int .i64 (1), 1⟩, ⟨.string (⟨#[99]⟩ : ByteArray), .int .i64 (1), 2⟩, ⟨.string (⟨#[100]⟩ : ByteArray), .int .i64 (1), 3⟩, ⟨.string (⟨#[101]⟩ : ByteArray), .int .i64 (1), 4⟩, ⟨.string (⟨#[102]⟩ : ByteArray), .int .i64 (1), 5⟩, ⟨.string (⟨#[103]⟩ : ByteArray), .int .i64 (1), 6⟩, ⟨.string (⟨#[104]⟩ : ByteArray), .int .i64 (1), 7⟩] 8, unb]
  | .e9 , ls => [rowO (lget ls 0) (esG c_MapDef w0 w2) 29 w0 6, rsO hdS tlS 2 (lget ls 1) 35 32 c_Insn 5 w1 (fun _ => (2, (fun k => if k = 0 then (⟨183#8, 0#8, 0#8, 0#16, 0#32⟩ : Insn) else (⟨149#8, 0#8, 0#8, 0#16, 0#32⟩ : Insn)))) w3, .cells #[.slice none 0 0, (rowV (lget ls 0) w0 6), (rowV (rrL (lget ls 1)) w1 2)] 27, unb, .map #[⟨.string (⟨#[97]⟩ : ByteArray), .int .i64 (1), 0⟩, ⟨.string (⟨#[98]⟩ : ByteArray), .int .i64 (1), 1⟩, ⟨.string (⟨#[99]⟩ : ByteArray), .int .i64 (1), 2⟩, ⟨.string (⟨#[100]⟩ : ByteArray), .int .i64 (1), 3⟩, ⟨.string (⟨#[101]⟩ : ByteArray), .int .i64 (1), 4⟩, ⟨.string (⟨#[102]⟩ : ByteArray), .int .i64 (1), 5⟩, ⟨.string (⟨#[103]⟩ : ByteArray), .int .i64 (1), 6⟩, ⟨.string (⟨#[104]⟩ : ByteArray), .int .i64 (1), 7⟩, ⟨.string (⟨#[105]⟩ : ByteArray), .int .i64 (1), 8⟩] 9, unb]
  | .e10 , ls => [rowO (lget ls 0) (esG c_MapDef w0 w2) 29 w0 6, rsO hdS tlS 2 (lget ls 1) 35 32 c_Insn 5 w1 (fun _ => (2, (fun k => if k = 0 then (⟨183#8, 0#8, 0#8, 0#16, 0#32⟩ : Insn) else (⟨149#8, 0#8, 0#8, 0#16, 0#32⟩ : Insn)))) w3, .cells #[.slice none 0 0, (rowV (lget ls 0) w0 6), (rowV (rrL (lget ls 1)) w1 2)] 27, unb, .map #[⟨.string (⟨#[97]⟩ : ByteArray), .int .i64 (1), 0⟩, ⟨.string (⟨#[98]⟩ : ByteArray), .int .i64 (1), 1⟩, ⟨.string (⟨#[99]⟩ : ByteArray), .int .i64 (1), 2⟩, ⟨.string (⟨#[100]⟩ : ByteArray), .int .i64 (1), 3⟩, ⟨.string (⟨#[101]⟩ : ByteArray), .int .i64 (1), 4⟩, ⟨.string (⟨#[102]⟩ : ByteArray), .int .i64 (1), 5⟩, ⟨.string (⟨#[103]⟩ : ByteArray), .int .i64 (1), 6⟩, ⟨.string (⟨#[104]⟩ : ByteArray), .int .i64 (1), 7⟩, ⟨.string (⟨#[105]⟩ : ByteArray), .int .i64 (1), 8⟩, ⟨.string (⟨#[106]⟩ : ByteArray), .int .i64 (1), 9⟩] 10, unb]
  | .e11 , ls => [rowO (lget ls 0) (esG c_MapDef w0 w2) 29 w0 6, rsO hdS tlS 2 (lget ls 1) 35 32 c_Insn 5 w1 (fun _ => (2, (fun k => if k = 0 then (⟨183#8, 0#8, 0#8, 0#16, 0#32⟩ : Insn) else (⟨149#8, 0#8, 0#8, 0#16, 0#32⟩ : Insn)))) w3, .cells #[.slice none 0 0, (rowV (lget ls 0) w0 6), (rowV (rrL (lget ls 1)) w1 2)] 27, unb, .map #[⟨.string (⟨#[97]⟩ : ByteArray), .int .i64 (1), 0⟩, ⟨.string (⟨#[98]⟩ : ByteArray), .int .i64 (1), 1⟩, ⟨.string (⟨#[99]⟩ : ByteArray), .int .i64 (1), 2⟩, ⟨.string (⟨#[100]⟩ : ByteArray), .int .i64 (1), 3⟩, ⟨.string (⟨#[101]⟩ : ByteArray), .int .i64 (1), 4⟩, ⟨.string (⟨#[102]⟩ : ByteArray), .int .i64 (1), 5⟩, ⟨.string (⟨#[103]⟩ : ByteArray), .int .i64 (1), 6⟩, ⟨.string (⟨#[104]⟩ : ByteArray), .int .i64 (1), 7⟩, ⟨.string (⟨#[105]⟩ : ByteArray), .int .i64 (1), 8⟩, ⟨.string (⟨#[106]⟩ : ByteArray), .int .i64 (1), 9⟩, ⟨.string (⟨#[107]⟩ : ByteArray), .int .i64 (1), 10⟩] 11, unb]
  | .e12 , ls => [rowO (lget ls 0) (esG c_MapDef w0 w2) 29 w0 6, rsO hdS tlS 2 (lget ls 1) 35 32 c_Insn 5 w1 (fun _ => (2, (fun k => if k = 0 then (⟨183#8, 0#8, 0#8, 0#16, 0#32⟩ : Insn) else (⟨149#8, 0#8, 0#8, 0#16, 0#32⟩ : Insn)))) w3, .cells #[.slice none 0 0, (rowV (lget ls 0) w0 6), (rowV (rrL (lget ls 1)) w1 2)] 27, unb, .map #[⟨.string (⟨#[97]⟩ : ByteArray), .int .i64 (1), 0⟩, ⟨.string (⟨#[98]⟩ : ByteArray), .int .i64 (1), 1⟩, ⟨.string (⟨#[99]⟩ : ByteArray), .int .i64 (1), 2⟩, ⟨.string (⟨#[100]⟩ : ByteArray), .int .i64 (1), 3⟩, ⟨.string (⟨#[101]⟩ : ByteArray), .int .i64 (1), 4⟩, ⟨.string (⟨#[102]⟩ : ByteArray), .int .i64 (1), 5⟩, ⟨.string (⟨#[103]⟩ : ByteArray), .int .i64 (1), 6⟩, ⟨.string (⟨#[104]⟩ : ByteArray), .int .i64 (1), 7⟩, ⟨.string (⟨#[105]⟩ : ByteArray), .int .i64 (1), 8⟩, ⟨.string (⟨#[106]⟩ : ByteArray), .int .i64 (1), 9⟩, ⟨.string (⟨#[107]⟩ : ByteArray), .int .i64 (1), 10⟩, ⟨.string (⟨#[108]⟩ : ByteArray), .int .i64 (1), 11⟩] 12, unb]
  | .e13 , ls => [rowO (lget ls 0) (esG c_MapDef w0 w2) 29 w0 6, rsO hdS tlS 2 (lget ls 1) 35 32 c_Insn 5 w1 (fun _ => (2, (fun k => if k = 0 then (⟨183#8, 0#8, 0#8, 0#16, 0#32⟩ : Insn) else (⟨149#8, 0#8, 0#8, 0#16, 0#32⟩ : Insn)))) w3, .cells #[.slice none 0 0, (rowV (lget ls 0) w0 6), (rowV (rrL (lget ls 1)) w1 2)] 27, unb, .map #[⟨.string (⟨#[97]⟩ : ByteArray), .int .i64 (1), 0⟩, ⟨.string (⟨#[98]⟩ : ByteArray), .int .i64 (1), 1⟩, ⟨.string (⟨#[99]⟩ : ByteArray), .int .i64 (1), 2⟩, ⟨.string (⟨#[100]⟩ : ByteArray), .int .i64 (1), 3⟩, ⟨.string (⟨#[101]⟩ : ByteArray), .int .i64 (1), 4⟩, ⟨.string (⟨#[102]⟩ : ByteArray), .int .i64 (1), 5⟩, ⟨.string (⟨#[103]⟩ : ByteArray), .int .i64 (1), 6⟩, ⟨.string (⟨#[104]⟩ : ByteArray), .int .i64 (1), 7⟩, ⟨.string (⟨#[105]⟩ : ByteArray), .int .i64 (1), 8⟩, ⟨.string (⟨#[106]⟩ : ByteArray), .int .i64 (1), 9⟩, ⟨.string (⟨#[107]⟩ : ByteArray), .int .i64 (1), 10⟩, ⟨.string (⟨#[108]⟩ : ByteArray), .int .i64 (1), 11⟩, ⟨.string (⟨#[109]⟩ : ByteArray), .int .i64 (1), 12⟩] 13, unb]
  | .e14 , ls => [rowO (lget ls 0) (esG c_MapDef w0 w2) 29 w0 6, rsO hdS tlS 2 (lget ls 1) 35 32 c_Insn 5 w1 (fun _ => (2, (fun k => if k = 0 then (⟨183#8, 0#8, 0#8, 0#16, 0#32⟩ : Insn) else (⟨149#8, 0#8, 0#8, 0#16, 0#32⟩ : Insn)))) w3, .cells #[.slice none 0 0, (rowV (lget ls 0) w0 6), (rowV (rrL (lget ls 1)) w1 2)] 27, unb, .map #[⟨.string (⟨#[97]⟩ : ByteArray), .int .i64 (1), 0⟩, ⟨.string (⟨#[98]⟩ : ByteArray), .int .i64 (1), 1⟩, ⟨.string (⟨#[99]⟩ : ByteArray), .int .i64 (1), 2⟩, ⟨.string (⟨#[100]⟩ : ByteArray), .int .i64 (1), 3⟩, ⟨.string (⟨#[101]⟩ : ByteArray), .int .i64 (1), 4⟩, ⟨.string (⟨#[102]⟩ : ByteArray), .int .i64 (1), 5⟩, ⟨.string (⟨#[103]⟩ : ByteArray), .int .i64 (1), 6⟩, ⟨.string (⟨#[104]⟩ : ByteArray), .int .i64 (1), 7⟩, ⟨.string (⟨#[105]⟩ : ByteArray), .int .i64 (1), 8⟩, ⟨.string (⟨#[106]⟩ : ByteArray), .int .i64 (1), 9⟩, ⟨.string (⟨#[107]⟩ : ByteArray), .int .i64 (1), 10⟩, ⟨.string (⟨#[108]⟩ : ByteArray), .int .i64 (1), 11⟩, ⟨.string (⟨#[109]⟩ : ByteArray), .int .i64 (1), 12⟩, ⟨.string (⟨#[110]⟩ : ByteArray), .int .i64 (1), 13⟩] 14, unb]
  | .e15 , ls => [rowO (lget ls 0) (esG c_MapDef w0 w2) 29 w0 6, rsO hdS tlS 2 (lget ls 1) 35 32 c_Insn 5 w1 (fun _ => (2, (fun k => if k = 0 then (⟨183#8, 0#8, 0#8, 0#16, 0#32⟩ : Insn) else (⟨149#8, 0#8, 0#8, 0#16, 0#32⟩ : Insn)))) w3, .cells #[.slice none 0 0, (rowV (lget ls 0) w0 6), (rowV (rrL (lget ls 1)) w1 2)] 27, unb, .map #[⟨.string (⟨#[97]⟩ : ByteArray), .int .i64 (1), 0⟩, ⟨.string (⟨#[98]⟩ : ByteArray), .int .i64 (1), 1⟩, ⟨.string (⟨#[99]⟩ : ByteArray), .int .i64 (1), 2⟩, ⟨.string (⟨#[100]⟩ : ByteArray), .int .i64 (1), 3⟩, ⟨.string (⟨#[101]⟩ : ByteArray), .int .i64 (1), 4⟩, ⟨.string (⟨#[102]⟩ : ByteArray), .int .i64 (1), 5⟩, ⟨.string (⟨#[103]⟩ : ByteArray), .int .i64 (1), 6⟩, ⟨.string (⟨#[104]⟩ : ByteArray), .int .i64 (1), 7⟩, ⟨.string (⟨#[105]⟩ : ByteArray), .int .i64 (1), 8⟩, ⟨.string (⟨#[106]⟩ : ByteArray), .int .i64 (1), 9⟩, ⟨.string (⟨#[107]⟩ : ByteArray), .int .i64 (1), 10⟩, ⟨.string (⟨#[108]⟩ : ByteArray), .int .i64 (1), 11⟩, ⟨.string (⟨#[109]⟩ : ByteArray), .int .i64 (1), 12⟩, ⟨.string (⟨#[110]⟩ : ByteArray), .int .i64 (1), 13⟩, ⟨.string (⟨#[111]⟩ : ByteArray), .int .i64 (1), 14⟩] 15, unb]
  | .e16 , ls => [rowO (lget ls 0) (esG c_MapDef w0 w2) 29 w0 6, rsO hdS tlS 2 (lget ls 1) 35 32 c_Insn 5 w1 (fun _ => (2, (fun k => if k = 0 then (⟨183#8, 0#8, 0#8, 0#16, 0#32⟩ : Insn) else (⟨149#8, 0#8, 0#8, 0#16, 0#32⟩ : Insn)))) w3, .cells #[.slice none 0 0, (rowV (lget ls 0) w0 6), (rowV (rrL (lget ls 1)) w1 2)] 27, unb, .map #[⟨.string (⟨#[97]⟩ : ByteArray), .int .i64 (1), 0⟩, ⟨.string (⟨#[98]⟩ : ByteArray), .int .i64 (1), 1⟩, ⟨.string (⟨#[99]⟩ : ByteArray), .int .i64 (1), 2⟩, ⟨.string (⟨#[100]⟩ : ByteArray), .int .i64 (1), 3⟩, ⟨.string (⟨#[101]⟩ : ByteArray), .int .i64 (1), 4⟩, ⟨.string (⟨#[102]⟩ : ByteArray), .int .i64 (1), 5⟩, ⟨.string (⟨#[103]⟩ : ByteArray), .int .i64 (1), 6⟩, ⟨.string (⟨#[104]⟩ : ByteArray), .int .i64 (1), 7⟩, ⟨.string (⟨#[105]⟩ : ByteArray), .int .i64 (1), 8⟩, ⟨.string (⟨#[106]⟩ : ByteArray), .int .i64 (1), 9⟩, ⟨.string (⟨#[107]⟩ : ByteArray), .int .i64 (1), 10⟩, ⟨.string (⟨#[108]⟩ : ByteArray), .int .i64 (1), 11⟩, ⟨.string (⟨#[109]⟩ : ByteArray), .int .i64 (1), 12⟩, ⟨.string (⟨#[110]⟩ : ByteArray), .int .i64 (1), 13⟩, ⟨.string (⟨#[111]⟩ : ByteArray), .int .i64 (1), 14⟩, ⟨.string (⟨#[112]⟩ : ByteArray), .int .i64 (1), 15⟩] 16, unb]
  | .e17 , ls => [rowO (lget ls 0) (esG c_MapDef w0 w2) 29 w0 6, rsO hdS tlS 2 (lget ls 1) 35 32 c_Insn 5 w1 (fun _ => (2, (fun k => if k = 0 then (⟨183#8, 0#8, 0#8, 0#16, 0#32⟩ : Insn) else (⟨149#8, 0#8, 0#8, 0#16, 0#32⟩ : Insn)))) w3, .cells #[.slice none 0 0, (rowV (lget ls 0) w0 6), (rowV (rrL (lget ls 1)) w1 2)] 27, unb, .map #[⟨.string (⟨#[97]⟩ : ByteArray), .int .i64 (2), 0⟩] 1, unb]
  | .e18 , ls => [rowO (lget ls 0) (esG c_MapDef w0 w2) 29 w0 6, rsO hdS tlS 2 (lget ls 1) 35 32 c_Insn 5 w1 (fun _ => (2, (fun k => if k = 0 then (⟨183#8, 0#8, 0#8, 0#16, 0#32⟩ : Insn) else (⟨149#8, 0#8, 0#8, 0#16, 0#32⟩ : Insn)))) w3, .cells #[.slice none 0 0, (rowV (lget ls 0) w0 6), (rowV (rrL (lget ls 1)) w1 2)] 27, unb, .map #[⟨.string (⟨#[97]⟩ : ByteArray), .int .i64 (2), 0⟩, ⟨.string (⟨#[98]⟩ : ByteArray), .int .i64 (1), 1⟩] 2, unb]
  | .e19 , ls => [rowO (lget ls 0) (esG c_MapDef w0 w2) 29 w0 6, rsO hdS tlS 2 (lget ls 1) 35 32 c_Insn 5 w1 (fun _ => (2, (fun k => if k = 0 then (⟨183#8, 0#8, 0#8, 0#16, 0#32⟩ : Insn) else (⟨149#8, 0#8, 0#8, 0#16, 0#32⟩ : Insn)))) w3, .cells #[.slice none 0 0, (rowV (lget ls 0) w0 6), (rowV (rrL (lget ls 1)) w1 2)] 27, unb, .map #[⟨.string (⟨#[97]⟩ : ByteArray), .int .i64 (2), 0⟩, ⟨.string (⟨#[98]⟩ : ByteArray), .int .i64 (1), 1⟩, ⟨.string (⟨#[99]⟩ : ByteArray), .int .i64 (1), 2⟩] 3, unb]
  | .e20 , ls => [rowO (lget ls 0) (esG c_MapDef w0 w2) 29 w0 6, rsO hdS tlS 2 (lget ls 1) 35 32 c_Insn 5 w1 (fun _ => (2, (fun k => if k = 0 then (⟨183#8, 0#8, 0#8, 0#16, 0#32⟩ : Insn) else (⟨149#8, 0#8, 0#8, 0#16, 0#32⟩ : Insn)))) w3, .cells #[.slice none 0 0, (rowV (lget ls 0) w0 6), (rowV (rrL (lget ls 1)) w1 2)] 27, unb, .map #[⟨.string (⟨#[97]⟩ : ByteArray), .int .i64 (2), 0⟩, ⟨.string (⟨#[98]⟩ : ByteArray), .int .i64 (1), 1⟩, ⟨.string (⟨#[99]⟩ : ByteArray), .int .i64 (1), 2⟩, ⟨.string (⟨#[100]⟩ : ByteArray), .int .i64 (1), 3⟩] 4, unb]
  | .e21 , ls => [rowO (lget ls 0) (esG c_MapDef w0 w2) 29 w0 6, rsO hdS tlS 2 (lget ls 1) 35 32 c_Insn 5 w1 (fun _ => (2, (fun k => if k = 0 then (⟨183#8, 0#8, 0#8, 0#16, 0#32⟩ : Insn) else (⟨149#8, 0#8, 0#8, 0#16, 0#32⟩ : Insn)))) w3, .cells #[.slice none 0 0, (rowV (lget ls 0) w0 6), (rowV (rrL (lget ls 1)) w1 2)] 27, unb, .map #[⟨.string (⟨#[97]⟩ : ByteArray), .int .i64 (2), 0⟩, ⟨.string (⟨#[98]⟩ : ByteArray), .int .i64 (1), 1⟩, ⟨.string (⟨#[99]⟩ : ByteArray), .int .i64 (1), 2⟩, ⟨.string (⟨#[100]⟩ : ByteArray), .int .i64 (1), 3⟩, ⟨.string (⟨#[101]⟩ : ByteArray), .int .i64 (1), 4⟩] 5, unb]
  | .e22 , ls => [rowO (lget ls 0) (esG c_MapDef w0 w2) 29 w0 6, rsO hdS tlS 2 (lget ls 1) 35 32 c_Insn 5 w1 (fun _ => (2, (fun k => if k = 0 then (⟨183#8, 0#8, 0#8, 0#16, 0#32⟩ : Insn) else (⟨149#8, 0#8, 0#8, 0#16, 0#32⟩ : Insn)))) w3, .cells #[.slice none 0 0, (rowV (lget ls 0) w0 6), (rowV (rrL (lget ls 1)) w1 2)] 27, unb, .map #[⟨.string (⟨#[97]⟩ : ByteArray), .int .i64 (2), 0⟩, ⟨.string (⟨#[98]⟩ : ByteArray), .int .i64 (1), 1⟩, ⟨.string (⟨#[99]⟩ : ByteArray), .int .i64 (1), 2⟩, ⟨.string (⟨#[100]⟩ : ByteArray), .int .i64 (1), 3⟩, ⟨.string (⟨#[101]⟩ : ByteArray), .int .i64 (1), 4⟩, ⟨.string (⟨#[102]⟩ : ByteArray), .int .i64 (1), 5⟩] 6, unb]
  | .e23 , ls => [rowO (lget ls 0) (esG c_MapDef w0 w2) 29 w0 6, rsO hdS tlS 2 (lget ls 1) 35 32 c_Insn 5 w1 (fun _ => (2, (fun k => if k = 0 then (⟨183#8, 0#8, 0#8, 0#16, 0#32⟩ : Insn) else (⟨149#8, 0#8, 0#8, 0#16, 0#32⟩ : Insn)))) w3, .cells #[.slice none 0 0, (rowV (lget ls 0) w0 6), (rowV (rrL (lget ls 1)) w1 2)] 27, unb, .map #[⟨.string (⟨#[97]⟩ : ByteArray), .int .i64 (2), 0⟩, ⟨.string (⟨#[98]⟩ : ByteArray), .int .i64 (1), 1⟩, ⟨.string (⟨#[99]⟩ : ByteArray), .int .i64 (1), 2⟩, ⟨.string (⟨#[100]⟩ : ByteArray), .int .i64 (1), 3⟩, ⟨.string (⟨#[101]⟩ : ByteArray), .int .i64 (1), 4⟩, ⟨.string (⟨#[102]⟩ : ByteArray), .int .i64 (1), 5⟩, ⟨.string (⟨#[103]⟩ : ByteArray), .int .i64 (1), 6⟩] 7, unb]
  | .e24 , ls => [rowO (lget ls 0) (esG c_MapDef w0 w2) 29 w0 6, rsO hdS tlS 2 (lget ls 1) 35 32 c_Insn 5 w1 (fun _ => (2, (fun k => if k = 0 then (⟨183#8, 0#8, 0#8, 0#16, 0#32⟩ : Insn) else (⟨149#8, 0#8, 0#8, 0#16, 0#32⟩ : Insn)))) w3, .cells #[.slice none 0 0, (rowV (lget ls 0) w0 6), (rowV (rrL (lget ls 1)) w1 2)] 27, unb, .map #[⟨.string (⟨#[97]⟩ : ByteArray), .int .i64 (2), 0⟩, ⟨.string (⟨#[98]⟩ : ByteArray), .int .i64 (1), 1⟩, ⟨.string (⟨#[99]⟩ : ByteArray), .int .i64 (1), 2⟩, ⟨.string (⟨#[100]⟩ : ByteArray), .int .i64 (1), 3⟩, ⟨.string (⟨#[101]⟩ : ByteArray), .int .i64 (1), 4⟩, ⟨.string (⟨#[102]⟩ : ByteArray), .int .i64 (1), 5⟩, ⟨.string (⟨#[103]⟩ : ByteArray), .int .i64 (1), 6⟩, ⟨.string (⟨#[104]⟩ : ByteArray), .int .i64 (1), 7⟩] 8, unb]
  | .e25 , ls => [rowO (lget ls 0) (esG c_MapDef w0 w2) 29 w0 6, rsO hdS tlS 2 (lget ls 1) 35 32 c_Insn 5 w1 (fun _ => (2, (fun k => if k = 0 then (⟨183#8, 0#8, 0#8, 0#16, 0#32⟩ : Insn) else (⟨149#8, 0#8, 0#8, 0#16, 0#32⟩ : Insn)))) w3, .cells #[.slice none 0 0, (rowV (lget ls 0) w0 6), (rowV (rrL (lget ls 1)) w1 2)] 27, unb, .map #[⟨.string (⟨#[97]⟩ : ByteArray), .int .i64 (2), 0⟩, ⟨.string (⟨#[98]⟩ : ByteArray), .int .i64 (1), 1⟩, ⟨.string (⟨#[99]⟩ : ByteArray), .int .i64 (1), 2⟩, ⟨.string (⟨#[100]⟩ : ByteArray), .int .i64 (1), 3⟩, ⟨.string (⟨#[101]⟩ : ByteArray), .int .i64 (1), 4⟩, ⟨.string (⟨#[102]⟩ : ByteArray), .int .i64 (1), 5⟩, ⟨.string (⟨#[103]⟩ : ByteArray), .int .i64 (1), 6⟩, ⟨.string (⟨#[104]⟩ : ByteArray), .int .i64 (1), 7⟩, ⟨.string (⟨#[105]⟩ : ByteArray), .int .i64 (1), 8⟩] 9, unb]
  | .e26 , ls => [rowO (lget ls 0) (esG c_MapDef w0 w2) 29 w0 6, rsO hdS tlS 2 (lget ls 1) 35 32 c_Insn 5 w1 (fun _ => (2, (fun k => if k = 0 then (⟨183#8, 0#8, 0#8, 0#16, 0#32⟩ : Insn) else (⟨149#8, 0#8, 0#8, 0#16, 0#32⟩ : Insn)))) w3, .cells #[.slice none 0 0, (rowV (lget ls 0) w0 6), (rowV (rrL (lget ls 1)) w1 2)] 27, unb, .map #[⟨.string (⟨#[97]⟩ : ByteArray), .int .i64 (2), 0⟩, ⟨.string (⟨#[98]⟩ : ByteArray), .int .i64 (1), 1⟩, ⟨.string (⟨#[99]⟩ : ByteArray), .int .i64 (1), 2⟩, ⟨.string (⟨#[100]⟩ : ByteArray), .int .i64 (1), 3⟩, ⟨.string (⟨#[101]⟩ : ByteArray), .int .i64 (1), 4⟩, ⟨.string (⟨#[102]⟩ : ByteArray), .int .i64 (1), 5⟩, ⟨.string (⟨#[103]⟩ : ByteArray), .int .i64 (1), 6⟩, ⟨.string (⟨#[104]⟩ : ByteArray), .int .i64 (1), 7⟩, ⟨.string (⟨#[105]⟩ : ByteArray), .int .i64 (1), 8⟩, ⟨.string (⟨#[106]⟩ : ByteArray), .int .i64 (1), 9⟩] 10, unb]
  | .e27 , ls => [rowO (lget ls 0) (esG c_MapDef w0 w2) 29 w0 6, rsO hdS tlS 2 (lget ls 1) 35 32 c_Insn 5 w1 (fun _ => (2, (fun k => if k = 0 then (⟨183#8, 0#8, 0#8, 0#16, 0#32⟩ : Insn) else (⟨149#8, 0#8, 0#8, 0#16, 0#32⟩ : Insn)))) w3, .cells #[.slice none 0 0, (rowV (lget ls 0) w0 6), (rowV (rrL (lget ls 1)) w1 2)] 27, unb, .map #[⟨.string (⟨#[97]⟩ : ByteArray), .int .i64 (2), 0⟩, ⟨.string (⟨#[98]⟩ : ByteArray), .int .i64 (1), 1⟩, ⟨.string (⟨#[99]⟩ : ByteArray), .int .i64 (1), 2⟩, ⟨.string (⟨#[100]⟩ : ByteArray), .int .i64 (1), 3⟩, ⟨.string (⟨#[101]⟩ : ByteArray), .int .i64 (1), 4⟩, ⟨.string (⟨#[102]⟩ : ByteArray), .int .i64 (1), 5⟩, ⟨.string (⟨#[103]⟩ : ByteArray), .int .i64 (1), 6⟩, ⟨.string (⟨#[104]⟩ : ByteArray), .int .i64 (1), 7⟩, ⟨.string (⟨#[105]⟩ : ByteArray), .int .i64 (1), 8⟩, ⟨.string (⟨#[106]⟩ : ByteArray), .int .i64 (1), 9⟩, ⟨.string (⟨#[107]⟩ : ByteArray), .int .i64 (1), 10⟩] 11, unb]
  | .e28 , ls => [rowO (lget ls 0) (esG c_MapDef w0 w2) 29 w0 6, rsO hdS tlS 2 (lget ls 1) 35 32 c_Insn 5 w1 (fun _ => (2, (fun k => if k = 0 then (⟨183#8, 0#8, 0#8, 0#16, 0#32⟩ : Insn) else (⟨149#8, 0#8, 0#8, 0#16, 0#32⟩ : Insn)))) w3, .cells #[.slice none 0 0, (rowV (lget ls 0) w0 6), (rowV (rrL (lget ls 1)) w1 2)] 27, unb, .map #[⟨.string (⟨#[97]⟩ : ByteArray), .int .i64 (2), 0⟩, ⟨.string (⟨#[98]⟩ : ByteArray), .int .i64 (1), 1⟩, ⟨.string (⟨#[99]⟩ : ByteArray), .int .i64 (1), 2⟩, ⟨.string (⟨#[100]⟩ : ByteArray), .int .i64 (1), 3⟩, ⟨.string (⟨#[101]⟩ : ByteArray), .int .i64 (1), 4⟩, ⟨.string (⟨#[102]⟩ : ByteArray), .int .i64 (1), 5⟩, ⟨.string (⟨#[103]⟩ : ByteArray), .int .i64 (1), 6⟩, ⟨.string (⟨#[104]⟩ : ByteArray), .int .i64 (1), 7⟩, ⟨.string (⟨#[105]⟩ : ByteArray), .int .i64 (1), 8⟩, ⟨.string (⟨#[106]⟩ : ByteArray), .int .i64 (1), 9⟩, ⟨.string (⟨#[107]⟩ : ByteArray), .int .i64 (1), 10⟩, ⟨.string (⟨#[108]⟩ : ByteArray), .int .i64 (1), 11⟩] 12, unb]
  | .e29 , ls => [rowO (lget ls 0) (esG c_MapDef w0 w2) 29 w0 6, rsO hdS tlS 2 (lget ls 1) 35 32 c_Insn 5 w1 (fun _ => (2, (fun k => if k = 0 then (⟨183#8, 0#8, 0#8, 0#16, 0#32⟩ : Insn) else (⟨149#8, 0#8, 0#8, 0#16, 0#32⟩ : Insn)))) w3, .cells #[.slice none 0 0, (rowV (lget ls 0) w0 6), (rowV (rrL (lget ls 1)) w1 2)] 27, unb, .map #[⟨.string (⟨#[97]⟩ : ByteArray), .int .i64 (2), 0⟩, ⟨.string (⟨#[98]⟩ : ByteArray), .int .i64 (1), 1⟩, ⟨.string (⟨#[99]⟩ : ByteArray), .int .i64 (1), 2⟩, ⟨.string (⟨#[100]⟩ : ByteArray), .int .i64 (1), 3⟩, ⟨.string (⟨#[101]⟩ : ByteArray), .int .i64 (1), 4⟩, ⟨.string (⟨#[102]⟩ : ByteArray), .int .i64 (1), 5⟩, ⟨.string (⟨#[103]⟩ : ByteArray), .int .i64 (1), 6⟩, ⟨.string (⟨#[104]⟩ : ByteArray), .int .i64 (1), 7⟩, ⟨.string (⟨#[105]⟩ : ByteArray), .int .i64 (1), 8⟩, ⟨.string (⟨#[106]⟩ : ByteArray), .int .i64 (1), 9⟩, ⟨.string (⟨#[107]⟩ : ByteArray), .int .i64 (1), 10⟩, ⟨.string (⟨#[108]⟩ : ByteArray), .int .i64 (1), 11⟩, ⟨.string (⟨#[109]⟩ : ByteArray), .int .i64 (1), 12⟩] 13, unb]
  | .e30 , ls => [rowO (lget ls 0) (esG c_MapDef w0 w2) 29 w0 6, rsO hdS tlS 2 (lget ls 1) 35 32 c_Insn 5 w1 (fun _ => (2, (fun k => if k = 0 then (⟨183#8, 0#8, 0#8, 0#16, 0#32⟩ : Insn) else (⟨149#8, 0#8, 0#8, 0#16, 0#32⟩ : Insn)))) w3, .cells #[.slice none 0 0, (rowV (lget ls 0) w0 6), (rowV (rrL (lget ls 1)) w1 2)] 27, unb, .map #[⟨.string (⟨#[97]⟩ : ByteArray), .int .i64 (2), 0⟩, ⟨.string (⟨#[98]⟩ : ByteArray), .int .i64 (1), 1⟩, ⟨.string (⟨#[99]⟩ : ByteArray), .int .i64 (1), 2⟩, ⟨.string (⟨#[100]⟩ : ByteArray), .int .i64 (1), 3⟩, ⟨.string (⟨#[101]⟩ : ByteArray), .int .i64 (1), 4⟩, ⟨.string (⟨#[102]⟩ : ByteArray), .int .i64 (1), 5⟩, ⟨.string (⟨#[103]⟩ : ByteArray), .int .i64 (1), 6⟩, ⟨.string (⟨#[104]⟩ : ByteArray), .int .i64 (1), 7⟩, ⟨.string (⟨#[105]⟩ : ByteArray), .int .i64 (1), 8⟩, ⟨.string (⟨#[106]⟩ : ByteArray), .int .i64 (1), 9⟩, ⟨.string (⟨#[107]⟩ : ByteArray), .int .i64 (1), 10⟩, ⟨.string (⟨#[108]⟩ : ByteArray), .int .i64 (1), 11⟩, ⟨.string (⟨#[109]⟩ : ByteArray), .int .i64 (1), 12⟩, ⟨.string (⟨#[110]⟩ : ByteArray), .int .i64 (1), 13⟩] 14, unb]
  | .e31 , ls => [rowO (lget ls 0) (esG c_MapDef w0 w2) 29 w0 6, rsO hdS tlS 2 (lget ls 1) 35 32 c_Insn 5 w1 (fun _ => (2, (fun k => if k = 0 then (⟨183#8, 0#8, 0#8, 0#16, 0#32⟩ : Insn) else (⟨149#8, 0#8, 0#8, 0#16, 0#32⟩ : Insn)))) w3, .cells #[.slice none 0 0, (rowV (lget ls 0) w0 6), (rowV (rrL (lget ls 1)) w1 2)] 27, unb, .map #[⟨.string (⟨#[97]⟩ : ByteArray), .int .i64 (2), 0⟩, ⟨.string (⟨#[98]⟩ : ByteArray), .int .i64 (1), 1⟩, ⟨.string (⟨#[99]⟩ : ByteArray), .int .i64 (1), 2⟩, ⟨.string (⟨#[100]⟩ : ByteArray), .int .i64 (1), 3⟩, ⟨.string (⟨#[101]⟩ : ByteArray), .int .i64 (1), 4⟩, ⟨.string (⟨#[102]⟩ : ByteArray), .int .i64 (1), 5⟩, ⟨.string (⟨#[103]⟩ : ByteArray), .int .i64 (1), 6⟩, ⟨.string (⟨#[104]⟩ : ByteArray), .int .i64 (1), 7⟩, ⟨.string (⟨#[105]⟩ : ByteArray), .int .i64 (1), 8⟩, ⟨.string (⟨#[106]⟩ : ByteArray), .int .i64 (1), 9⟩, ⟨.string (⟨#[107]⟩ : ByteArray), .int .i64 (1), 10⟩, ⟨.string (⟨#[108]⟩ : ByteArray), .int .i64 (1), 11⟩, ⟨.string (⟨#[109]⟩ : ByteArray), .int .i64 (1), 12⟩, ⟨.string (⟨#[110]⟩ : ByteArray), .int .i64 (1), 13⟩, ⟨.string (⟨#[111]⟩ : ByteArray), .int .i64 (1), 14⟩] 15, unb]
  | .e32 , ls => [rowO (lget ls 0) (esG c_MapDef w0 w2) 29 w0 6, rsO hdS tlS 2 (lget ls 1) 35 32 c_Insn 5 w1 (fun _ => (2, (fun k => if k = 0 then (⟨183#8, 0#8, 0#8, 0#16, 0#32⟩ : Insn) else (⟨149#8, 0#8, 0#8, 0#16, 0#32⟩ : Insn)))) w3, .cells #[.slice none 0 0, (rowV (lget ls 0) w0 6), (rowV (rrL (lget ls 1)) w1 2)] 27, unb, .map #[⟨.string (⟨#[97]⟩ : ByteArray), .int .i64 (2), 0⟩, ⟨.string (⟨#[98]⟩ : ByteArray), .int .i64 (1), 1⟩, ⟨.string (⟨#[99]⟩ : ByteArray), .int .i64 (1), 2⟩, ⟨.string (⟨#[100]⟩ : ByteArray), .int .i64 (1), 3⟩, ⟨.string (⟨#[101]⟩ : ByteArray), .int .i64 (1), 4⟩, ⟨.string (⟨#[102]⟩ : ByteArray), .int .i64 (1), 5⟩, ⟨.string (⟨#[103]⟩ : ByteArray), .int .i64 (1), 6⟩, ⟨.string (⟨#[104]⟩ : ByteArray), .int .i64 (1), 7⟩, ⟨.string (⟨#[105]⟩ : ByteArray), .int .i64 (1), 8⟩, ⟨.string (⟨#[106]⟩ : ByteArray), .int .i64 (1), 9⟩, ⟨.string (⟨#[107]⟩ : ByteArray), .int .i64 (1), 10⟩, ⟨.string (⟨#[108]⟩ : ByteArray), .int .i64 (1), 11⟩, ⟨.string (⟨#[109]⟩ : ByteArray), .int .i64 (1), 12⟩, ⟨.string (⟨#[110]⟩ : ByteArray), .int .i64 (1), 13⟩, ⟨.string (⟨#[111]⟩ : ByteArray), .int .i64 (1), 14⟩, ⟨.string (⟨#[112]⟩ : ByteArray), .int .i64 (1), 15⟩] 16, unb]
def ex_object_Check_v5_L1 : Ex_object_Check_v5_L1 → Ex
  | .e0  => (.exit 2)
  | .e1  => (.exit 2)
  | .e2  => (.exit 2)
  | .e3  => (.exit 2)
  | .e4  => (.exit 2)
  | .e5  => (.exit 2)
  | .e6  => (.exit 2)
  | .e7  => (.exit 2)
  | .e8  => (.exit 2)
  | .e9  => (.exit 2)
  | .e10  => (.exit 2)
  | .e11  => (.exit 2)
  | .e12  => (.exit 2)
  | .e13  => (.exit 2)
  | .e14  => (.exit 2)
  | .e15  => (.exit 2)
  | .e16  => (.exit 2)
  | .e17  => .ret
  | .e18  => .ret
  | .e19  => .ret
  | .e20  => .ret
  | .e21  => .ret
  | .e22  => .ret
  | .e23  => .ret
  | .e24  => .ret
  | .e25  => .ret
  | .e26  => .ret
  | .e27  => .ret
  | .e28  => .ret
  | .e29  => .ret
  | .e30  => .ret
  | .e31  => .ret
  | .e32  => .ret
section
variable {M : Nat → Prop} {B0 : Nat} {S : World → Prop} (hU : Up M B0 S) (w0 : Nat) (w1 : Nat) (w2 : Nat → MapDef) (w3 : Nat → ByteArray)
include hU w0 w1 w2 w3
theorem go_object_Check_v5_L1 (s : Sh_object_Check_v5_L1) (r : Ex_object_Check_v5_L1) (h : lpO (st_object_Check_v5_L1 w1 w3) s = some r) : GoesG Try.prog M B0 S (.loop bd_object_Check_v5_L1) 6 (fr_object_Check_v5_L1 w0 w1 w2 w3 s) (Hs_object_Check_v5_L1 w0 w1 w2 w3 s) (ex_object_Check_v5_L1 r) 5 (vf_object_Check_v5_L1 w0 w1 w2 w3 r) (Hf_object_Check_v5_L1 w0 w1 w2 w3 r) 6 :=
  goes_lpO (fun s q e => by
    cases s with
    | c0  =>
      unfold st_object_Check_v5_L1 at e
      dsimp only at e
      replace e := cond_eq_or e
      rcases e with ⟨hq0, e⟩ | ⟨hq0, e⟩
      · replace e := cond_eq_or e
        rcases e with ⟨hq1, e⟩ | ⟨hq1, e⟩
        · replace e := cond_eq_or e
          rcases e with ⟨hq2, e⟩ | ⟨hq2, e⟩
          · cases e; exact goes_runM hU [.b (z_lssT hq0), .o, .q (ixM_ok (kd := .i64) (T := 25) (x := 0) (N := w1) (sz := 2) rfl (fun w => by kernel_rfl) hq1), .xg (ldRSx_ok (T := 35) (e := 35) (T2 := 32) (f := c_Insn) (sz := 5) (N := w1) (k := 0) (m := 2) (B := (fun k => if k = 0 then (⟨183#8, 0#8, 0#8, 0#16, 0#32⟩ : Insn) else (⟨149#8, 0#8, 0#8, 0#16, 0#32⟩ : Insn))) (E := w3) hzS (fun w => by kernel_rfl) (fun w => by kernel_rfl) (by decide) (inR_nat hq1) (x := (⟨#[97]⟩ : ByteArray)) (ba_eq hq2)) [1], .o, .o, .a 6, .o, .o, .a 6, .a 4, .o, .a 4, .o, .a 6, .cg (ok_object_isName_v1 hU  ), .o, .o, .o, .o, .a 6, .a 4, .o, .o, .o, .o, .a 6, .o, .a 2, .o, .xg (memRS_ok (hd := hdS) (tl := tlS) (zs := 2) (e := 35) (T2 := 32) (f := c_Insn) (sz := 5) (N := w1) (k := 0) (m := 2) (B := (fun k => if k = 0 then (⟨183#8, 0#8, 0#8, 0#16, 0#32⟩ : Insn) else (⟨149#8, 0#8, 0#8, 0#16, 0#32⟩ : Insn))) (E := w3) rfl (fun _ => rfl) (fun _ => rfl) (fun _ => rfl) (by decide) (inR_nat hq1) (p0_object_rightProg_v1 hU (w0 : Int) )) [1], .o, .o, .o, .o] [0, 1, 2, 3, 4] (fun b => rfl) (by decide) rfl rfl (fun b => by kernel_rfl)
          · exact none_some e
        · exact none_some e
      · cases e; exact ⟨ne_exit 2, goes_runM hU [.b (z_lssF hq0)] [0, 1, 2, 3, 4] (fun b => rfl) (by decide) rfl rfl (fun b => by kernel_rfl)⟩
    | c1  =>
      unfold st_object_Check_v5_L1 at e
      dsimp only at e
      replace e := cond_eq_or e
      rcases e with ⟨hq0, e⟩ | ⟨hq0, e⟩
      · replace e := cond_eq_or e
        rcases e with ⟨hq1, e⟩ | ⟨hq1, e⟩
        · replace e := cond_eq_or e
          let P1 : List (PG Try.prog M B0 S) := [.b (z_lssT hq0), .o, .q (ixM_ok (kd := .i64) (T := 25) (x := 1) (N := w1) (sz := 2) rfl (fun w => by kernel_rfl) hq1)]
          rcases e with ⟨hq2, e⟩ | ⟨hq2, e⟩
          · cases e; exact goes_runM hU (P1 ++ [.xg (ldRSx_ok (T := 35) (e := 35) (T2 := 32) (f := c_Insn) (sz := 5) (N := w1) (k := 1) (m := 2) (B := (fun k => if k = 0 then (⟨183#8, 0#8, 0#8, 0#16, 0#32⟩ : Insn) else (⟨149#8, 0#8, 0#8, 0#16, 0#32⟩ : Insn))) (E := w3) hzS (fun w => by kernel_rfl) (fun w => by kernel_rfl) (by decide) (inR_nat hq1) (x := (⟨#[98]⟩ : ByteArray)) (ba_eq hq2)) [1], .o, .o, .a 6, .o, .o, .a 6, .a 4, .o, .a 4, .o, .a 6, .cg (ok_object_isName_v2 hU  ), .o, .o, .o, .o, .a 6, .a 4, .o, .o, .o, .o, .a 6, .o, .a 2, .o, .xg (memRS_ok (hd := hdS) (tl := tlS) (zs := 2) (e := 35) (T2 := 32) (f := c_Insn) (sz := 5) (N := w1) (k := 1) (m := 2) (B := (fun k => if k = 0 then (⟨183#8, 0#8, 0#8, 0#16, 0#32⟩ : Insn) else (⟨149#8, 0#8, 0#8, 0#16, 0#32⟩ : Insn))) (E := w3) rfl (fun _ => rfl) (fun _ => rfl) (fun _ => rfl) (by decide) (inR_nat hq1) (p0_object_rightProg_v1 hU (w0 : Int) )) [1], .o, .o, .o, .o]) [0, 1, 2, 3, 4] (fun b => rfl) (by decide) rfl rfl (fun b => by kernel_rfl)
          · replace e := cond_eq_or e
            rcases e with ⟨hq3, e⟩ | ⟨hq3, e⟩
            · cases e; exact ⟨ne_ret, goes_runM hU (P1 ++ [.xg (ldRSx_ok (T := 35) (e := 35) (T2 := 32) (f := c_Insn) (sz := 5) (N := w1) (k := 1) (m := 2) (B := (fun k => if k = 0 then (⟨183#8, 0#8, 0#8, 0#16, 0#32⟩ : Insn) else (⟨149#8, 0#8, 0#8, 0#16, 0#32⟩ : Insn))) (E := w3) hzS (fun w => by kernel_rfl) (fun w => by kernel_rfl) (by decide) (inR_nat hq1) (x := (⟨#[97]⟩ : ByteArray)) (ba_eq hq3)) [1], .o, .o, .a 6, .o, .o, .a 6, .a 4, .o, .a 4, .o, .a 6, .cg (ok_object_isName_v1 hU  ), .o, .o, .o, .o, .a 6, .a 4, .o, .o, .o, .o, .o, .o, .o]) [0, 1, 2, 3, 4] (fun b => rfl) (by decide) rfl rfl (fun b => by kernel_rfl)⟩
            · exact none_some e
        · exact none_some e
      · cases e; exact ⟨ne_exit 2, goes_runM hU [.b (z_lssF hq0)] [0, 1, 2, 3, 4] (fun b => rfl) (by decide) rfl rfl (fun b => by kernel_rfl)⟩
    | c2  =>
      unfold st_object_Check_v5_L1 at e
      dsimp only at e
      replace e := cond_eq_or e
      rcases e with ⟨hq0, e⟩ | ⟨hq0, e⟩
      · replace e := cond_eq_or e
        rcases e with ⟨hq1, e⟩ | ⟨hq1, e⟩
        · replace e := cond_eq_or e
          let P2 : List (PG Try.prog M B0 S) := [.b (z_lssT hq0), .o, .q (ixM_ok (kd := .i64) (T := 25) (x := 2) (N := w1) (sz := 2) rfl (fun w => by kernel_rfl) hq1)]
          rcases e with ⟨hq2, e⟩ | ⟨hq2, e⟩
          · cases e; exact goes_runM hU (P2 ++ [.xg (ldRSx_ok (T := 35) (e := 35) (T2 := 32) (f := c_Insn) (sz := 5) (N := w1) (k := 2) (m := 2) (B := (fun k => if k = 0 then (⟨183#8, 0#8, 0#8, 0#16, 0#32⟩ : Insn) else (⟨149#8, 0#8, 0#8, 0#16, 0#32⟩ : Insn))) (E := w3) hzS (fun w => by kernel_rfl) (fun w => by kernel_rfl) (by decide) (inR_nat hq1) (x := (⟨#[99]⟩ : ByteArray)) (ba_eq hq2)) [1], .o, .o, .a 6, .o, .o, .a 6, .a 4, .o, .a 4, .o, .a 6, .cg (ok_object_isName_v3 hU  ), .o, .o, .o, .o, .a 6, .a 4, .o, .o, .o, .o, .a 6, .o, .a 2, .o, .xg (memRS_ok (hd := hdS) (tl := tlS) (zs := 2) (e := 35) (T2 := 32) (f := c_Insn) (sz := 5) (N := w1) (k := 2) (m := 2) (B := (fun k => if k = 0 then (⟨183#8, 0#8, 0#8, 0#16, 0#32⟩ : Insn) else (⟨149#8, 0#8, 0#8, 0#16, 0#32⟩ : Insn))) (E := w3) rfl (fun _ => rfl) (fun _ => rfl) (fun _ => rfl) (by decide) (inR_nat hq1) (p0_object_rightProg_v1 hU (w0 : Int) )) [1], .o, .o, .o, .o]) [0, 1, 2, 3, 4] (fun b => rfl) (by decide) rfl rfl (fun b => by kernel_rfl)
          · replace e := cond_eq_or e
            rcases e with ⟨hq3, e⟩ | ⟨hq3, e⟩
            · cases e; exact ⟨ne_ret, goes_runM hU (P2 ++ [.xg (ldRSx_ok (T := 35) (e := 35) (T2 := 32) (f := c_Insn) (sz := 5) (N := w1) (k := 2) (m := 2) (B := (fun k => if k = 0 then (⟨183#8, 0#8, 0#8, 0#16, 0#32⟩ : Insn) else (⟨149#8, 0#8, 0#8, 0#16, 0#32⟩ : Insn))) (E := w3) hzS (fun w => by kernel_rfl) (fun w => by kernel_rfl) (by decide) (inR_nat hq1) (x := (⟨#[97]⟩ : ByteArray)) (ba_eq hq3)) [1], .o, .o, .a 6, .o, .o, .a 6, .a 4, .o, .a 4, .o, .a 6, .cg (ok_object_isName_v1 hU  ), .o, .o, .o, .o, .a 6, .a 4, .o, .o, .o, .o, .o, .o, .o]) [0, 1, 2, 3, 4] (fun b => rfl) (by decide) rfl rfl (fun b => by kernel_rfl)⟩
            · exact none_some e
        · exact none_some e
      · cases e; exact ⟨ne_exit 2, goes_runM hU [.b (z_lssF hq0)] [0, 1, 2, 3, 4] (fun b => rfl) (by decide) rfl rfl (fun b => by kernel_rfl)⟩
    | c3  =>
      unfold st_object_Check_v5_L1 at e
      dsimp only at e
      replace e := cond_eq_or e
      rcases e with ⟨hq0, e⟩ | ⟨hq0, e⟩
      · replace e := cond_eq_or e
        rcases e with ⟨hq1, e⟩ | ⟨hq1, e⟩
        · replace e := cond_eq_or e
          let P3 : List (PG Try.prog M B0 S) := [.b (z_lssT hq0), .o, .q (ixM_ok (kd := .i64) (T := 25) (x := 3) (N := w1) (sz := 2) rfl (fun w => by kernel_rfl) hq1)]
          rcases e with ⟨hq2, e⟩ | ⟨hq2, e⟩
          · cases e; exact goes_runM hU (P3 ++ [.xg (ldRSx_ok (T := 35) (e := 35) (T2 := 32) (f := c_Insn) (sz := 5) (N := w1) (k := 3) (m := 2) (B := (fun k => if k = 0 then (⟨183#8, 0#8, 0#8, 0#16, 0#32⟩ : Insn) else (⟨149#8, 0#8, 0#8, 0#16, 0#32⟩ : Insn))) (E := w3) hzS (fun w => by kernel_rfl) (fun w => by kernel_rfl) (by decide) (inR_nat hq1) (x := (⟨#[100]⟩ : ByteArray)) (ba_eq hq2)) [1], .o, .o, .a 6, .o, .o, .a 6, .a 4, .o, .a 4, .o, .a 6, .cg (ok_object_isName_v4 hU  ), .o, .o, .o, .o, .a 6, .a 4, .o, .o, .o, .o, .a 6, .o, .a 2, .o, .xg (memRS_ok (hd := hdS) (tl := tlS) (zs := 2) (e := 35) (T2 := 32) (f := c_Insn) (sz := 5) (N := w1) (k := 3) (m := 2) (B := (fun k => if k = 0 then (⟨183#8, 0#8, 0#8, 0#16, 0#32⟩ : Insn) else (⟨149#8, 0#8, 0#8, 0#16, 0#32⟩ : Insn))) (E := w3) rfl (fun _ => rfl) (fun _ => rfl) (fun _ => rfl) (by decide) (inR_nat hq1) (p0_object_rightProg_v1 hU (w0 : Int) )) [1], .o, .o, .o, .o]) [0, 1, 2, 3, 4] (fun b => rfl) (by decide) rfl rfl (fun b => by kernel_rfl)
          · replace e := cond_eq_or e
            rcases e with ⟨hq3, e⟩ | ⟨hq3, e⟩
            · cases e; exact ⟨ne_ret, goes_runM hU (P3 ++ [.xg (ldRSx_ok (T := 35) (e := 35) (T2 := 32) (f := c_Insn) (sz := 5) (N := w1) (k := 3) (m := 2) (B := (fun k => if k = 0 then (⟨183#8, 0#8, 0#8, 0#16, 0#32⟩ : Insn) else (⟨149#8, 0#8, 0#8, 0#16, 0#32⟩ : Insn))) (E := w3) hzS (fun w => by kernel_rfl) (fun w => by kernel_rfl) (by decide) (inR_nat hq1) (x := (⟨#[97]⟩ : ByteArray)) (ba_eq hq3)) [1], .o, .o, .a 6, .o, .o, .a 6, .a 4, .o, .a 4, .o, .a 6, .cg (ok_object_isName_v1 hU  ), .o, .o, .o, .o, .a 6, .a 4, .o, .o, .o, .o, .o, .o, .o]) [0, 1, 2, 3, 4] (fun b => rfl) (by decide) rfl rfl (fun b => by kernel_rfl)⟩
            · exact none_some e
        · exact none_some e
      · cases e; exact ⟨ne_exit 2, goes_runM hU [.b (z_lssF hq0)] [0, 1, 2, 3, 4] (fun b => rfl) (by decide) rfl rfl (fun b => by kernel_rfl)⟩
    | c4  =>
      unfold st_object_Check_v5_L1 at e
      dsimp only at e
      replace e := cond_eq_or e
      rcases e with ⟨hq0, e⟩ | ⟨hq0, e⟩
      · replace e := cond_eq_or e
        rcases e with ⟨hq1, e⟩ | ⟨hq1, e⟩
        · replace e := cond_eq_or e
          let P4 : List (PG Try.prog M B0 S) := [.b (z_lssT hq0), .o, .q (ixM_ok (kd := .i64) (T := 25) (x := 4) (N := w1) (sz := 2) rfl (fun w => by kernel_rfl) hq1)]
          rcases e with ⟨hq2, e⟩ | ⟨hq2, e⟩
          · cases e; exact goes_runM hU (P4 ++ [.xg (ldRSx_ok (T := 35) (e := 35) (T2 := 32) (f := c_Insn) (sz := 5) (N := w1) (k := 4) (m := 2) (B := (fun k => if k = 0 then (⟨183#8, 0#8, 0#8, 0#16, 0#32⟩ : Insn) else (⟨149#8, 0#8, 0#8, 0#16, 0#32⟩ : Insn))) (E := w3) hzS (fun w => by kernel_rfl) (fun w => by kernel_rfl) (by decide) (inR_nat hq1) (x := (⟨#[101]⟩ : ByteArray)) (ba_eq hq2)) [1], .o, .o, .a 6, .o, .o, .a 6, .a 4, .o, .a 4, .o, .a 6, .cg (ok_object_isName_v5 hU  ), .o, .o, .o, .o, .a 6, .a 4, .o, .o, .o, .o, .a 6, .o, .a 2, .o, .xg (memRS_ok (hd := hdS) (tl := tlS) (zs := 2) (e := 35) (T2 := 32) (f := c_Insn) (sz := 5) (N := w1) (k := 4) (m := 2) (B := (fun k => if k = 0 then (⟨183#8, 0#8, 0#8, 0#16, 0#32⟩ : Insn) else (⟨149#8, 0#8, 0#8, 0#16, 0#32⟩ : Insn))) (E := w3) rfl (fun _ => rfl) (fun _ => rfl) (fun _ => rfl) (by decide) (inR_nat hq1) (p0_object_rightProg_v1 hU (w0 : Int) )) [1], .o, .o, .o, .o]) [0, 1, 2, 3, 4] (fun b => rfl) (by decide) rfl rfl (fun b => by kernel_rfl)
          · replace e := cond_eq_or e
            rcases e with ⟨hq3, e⟩ | ⟨hq3, e⟩
            · cases e; exact ⟨ne_ret, goes_runM hU (P4 ++ [.xg (ldRSx_ok (T := 35) (e := 35) (T2 := 32) (f := c_Insn) (sz := 5) (N := w1) (k := 4) (m := 2) (B := (fun k => if k = 0 then (⟨183#8, 0#8, 0#8, 0#16, 0#32⟩ : Insn) else (⟨149#8, 0#8, 0#8, 0#16, 0#32⟩ : Insn))) (E := w3) hzS (fun w => by kernel_rfl) (fun w => by kernel_rfl) (by decide) (inR_nat hq1) (x := (⟨#[97]⟩ : ByteArray)) (ba_eq hq3)) [1], .o, .o, .a 6, .o, .o, .a 6, .a 4, .o, .a 4, .o, .a 6, .cg (ok_object_isName_v1 hU  ), .o, .o, .o, .o, .a 6, .a 4, .o, .o, .o, .o, .o, .o, .o]) [0, 1, 2, 3, 4] (fun b => rfl) (by decide) rfl rfl (fun b => by kernel_rfl)⟩
            · exact none_some e
        · exact none_some e
      · cases e; exact ⟨ne_exit 2, goes_runM hU [.b (z_lssF hq0)] [0, 1, 2, 3, 4] (fun b => rfl) (by decide) rfl rfl (fun b => by kernel_rfl)⟩
    | c5  =>
      unfold st_object_Check_v5_L1 at e
      dsimp only at e
      replace e := cond_eq_or e
      rcases e with ⟨hq0, e⟩ | ⟨hq0, e⟩
      · replace e := cond_eq_or e
        rcases e with ⟨hq1, e⟩ | ⟨hq1, e⟩
        · replace e := cond_eq_or e
          let P5 : List (PG Try.prog M B0 S) := [.b (z_lssT hq0), .o, .q (ixM_ok (kd := .i64) (T := 25) (x := 5) (N := w1) (sz := 2) rfl (fun w => by kernel_rfl) hq1)]
          rcases e with ⟨hq2, e⟩ | ⟨hq2, e⟩
          · cases e; exact goes_runM hU (P5 ++ [.xg (ldRSx_ok (T := 35) (e := 35) (T2 := 32) (f := c_Insn) (sz := 5) (N := w1) (k := 5) (m := 2) (B := (fun k => if k = 0 then (⟨183#8, 0#8, 0#8, 0#16, 0#32⟩ : Insn) else (⟨149#8, 0#8, 0#8, 0#16, 0#32⟩ : Insn))) (E := w3) hzS (fun w => by kernel_rfl) (fun w => by kernel_rfl) (by decide) (inR_nat hq1) (x := (⟨#[102]⟩ : ByteArray)) (ba_eq hq2)) [1], .o, .o, .a 6, .o, .o, .a 6, .a 4, .o, .a 4, .o, .a 6, .cg (ok_object_isName_v6 hU  ), .o, .o, .o, .o, .a 6, .a 4, .o, .o, .o, .o, .a 6, .o, .a 2, .o, .xg (memRS_ok (hd := hdS) (tl := tlS) (zs := 2) (e := 35) (T2 := 32) (f := c_Insn) (sz := 5) (N := w1) (k := 5) (m := 2) (B := (fun k => if k = 0 then (⟨183#8, 0#8, 0#8, 0#16, 0#32⟩ : Insn) else (⟨149#8, 0#8, 0#8, 0#16, 0#32⟩ : Insn))) (E := w3) rfl (fun _ => rfl) (fun _ => rfl) (fun _ => rfl) (by decide) (inR_nat hq1) (p0_object_rightProg_v1 hU (w0 : Int) )) [1], .o, .o, .o, .o]) [0, 1, 2, 3, 4] (fun b => rfl) (by decide) rfl rfl (fun b => by kernel_rfl)
          · replace e := cond_eq_or e
            rcases e with ⟨hq3, e⟩ | ⟨hq3, e⟩
            · cases e; exact ⟨ne_ret, goes_runM hU (P5 ++ [.xg (ldRSx_ok (T := 35) (e := 35) (T2 := 32) (f := c_Insn) (sz := 5) (N := w1) (k := 5) (m := 2) (B := (fun k => if k = 0 then (⟨183#8, 0#8, 0#8, 0#16, 0#32⟩ : Insn) else (⟨149#8, 0#8, 0#8, 0#16, 0#32⟩ : Insn))) (E := w3) hzS (fun w => by kernel_rfl) (fun w => by kernel_rfl) (by decide) (inR_nat hq1) (x := (⟨#[97]⟩ : ByteArray)) (ba_eq hq3)) [1], .o, .o, .a 6, .o, .o, .a 6, .a 4, .o, .a 4, .o, .a 6, .cg (ok_object_isName_v1 hU  ), .o, .o, .o, .o, .a 6, .a 4, .o, .o, .o, .o, .o, .o, .o]) [0, 1, 2, 3, 4] (fun b => rfl) (by decide) rfl rfl (fun b => by kernel_rfl)⟩
            · exact none_some e
        · exact none_some e
      · cases e; exact ⟨ne_exit 2, goes_runM hU [.b (z_lssF hq0)] [0, 1, 2, 3, 4] (fun b => rfl) (by decide) rfl rfl (fun b => by kernel_rfl)⟩
    | c6  =>
      unfold st_object_Check_v5_L1 at e
      dsimp only at e
      replace e := cond_eq_or e
      rcases e with ⟨hq0, e⟩ | ⟨hq0, e⟩
      · replace e := cond_eq_or e
        rcases e with ⟨hq1, e⟩ | ⟨hq1, e⟩
        · replace e := cond_eq_or e
          let P6 : List (PG Try.prog M B0 S) := [.b (z_lssT hq0), .o, .q (ixM_ok (kd := .i64) (T := 25) (x := 6) (N := w1) (sz := 2) rfl (fun w => by kernel_rfl) hq1)]
          rcases e with ⟨hq2, e⟩ | ⟨hq2, e⟩
          · cases e; exact goes_runM hU (P6 ++ [.xg (ldRSx_ok (T := 35) (e := 35) (T2 := 32) (f := c_Insn) (sz := 5) (N := w1) (k := 6) (m := 2) (B := (fun k => if k = 0 then (⟨183#8, 0#8, 0#8, 0#16, 0#32⟩ : Insn) else (⟨149#8, 0#8, 0#8, 0#16, 0#32⟩ : Insn))) (E := w3) hzS (fun w => by kernel_rfl) (fun w => by kernel_rfl) (by decide) (inR_nat hq1) (x := (⟨#[103]⟩ : ByteArray)) (ba_eq hq2)) [1], .o, .o, .a 6, .o, .o, .a 6, .a 4, .o, .a 4, .o, .a 6, .cg (ok_object_isName_v7 hU  ), .o, .o, .o, .o, .a 6, .a 4, .o, .o, .o, .o, .a 6, .o, .a 2, .o, .xg (memRS_ok (hd := hdS) (tl := tlS) (zs := 2) (e := 35) (T2 := 32) (f := c_Insn) (sz := 5) (N := w1) (k := 6) (m := 2) (B := (fun k => if k = 0 then (⟨183#8, 0#8, 0#8, 0#16, 0#32⟩ : Insn) else (⟨149#8, 0#8, 0#8, 0#16, 0#32⟩ : Insn))) (E := w3) rfl (fun _ => rfl) (fun _ => rfl) (fun _ => rfl) (by decide) (inR_nat hq1) (p0_object_rightProg_v1 hU (w0 : Int) )) [1], .o, .o, .o, .o]) [0, 1, 2, 3, 4] (fun b => rfl) (by decide) rfl rfl (fun b => by kernel_rfl)
          · replace e := cond_eq_or e
            rcases e with ⟨hq3, e⟩ | ⟨hq3, e⟩
            · cases e; exact ⟨ne_ret, goes_runM hU (P6 ++ [.xg (ldRSx_ok (T := 35) (e := 35) (T2 := 32) (f := c_Insn) (sz := 5) (N := w1) (k := 6) (m := 2) (B := (fun k => if k = 0 then (⟨183#8, 0#8, 0#8, 0#16, 0#32⟩ : Insn) else (⟨149#8, 0#8, 0#8, 0#16, 0#32⟩ : Insn))) (E := w3) hzS (fun w => by kernel_rfl) (fun w => by kernel_rfl) (by decide) (inR_nat hq1) (x := (⟨#[97]⟩ : ByteArray)) (ba_eq hq3)) [1], .o, .o, .a 6, .o, .o, .a 6, .a 4, .o, .a 4, .o, .a 6, .cg (ok_object_isName_v1 hU  ), .o, .o, .o, .o, .a 6, .a 4, .o, .o, .o, .o, .o, .o, .o]) [0, 1, 2, 3, 4] (fun b => rfl) (by decide) rfl rfl (fun b => by kernel_rfl)⟩
            · exact none_some e
        · exact none_some e
      · cases e; exact ⟨ne_exit 2, goes_runM hU [.b (z_lssF hq0)] [0, 1, 2, 3, 4] (fun b => rfl) (by decide) rfl rfl (fun b => by kernel_rfl)⟩
    | c7  =>
      unfold st_object_Check_v5_L1 at e
      dsimp only at e
      replace e := cond_eq_or e
      rcases e with ⟨hq0, e⟩ | ⟨hq0, e⟩
      · replace e := cond_eq_or e
        rcases e with ⟨hq1, e⟩ | ⟨hq1, e⟩
        · replace e := cond_eq_or e
          let P7 : List (PG Try.prog M B0 S) := [.b (z_lssT hq0), .o, .q (ixM_ok (kd := .i64) (T := 25) (x := 7) (N := w1) (sz := 2) rfl (fun w => by kernel_rfl) hq1)]
          rcases e with ⟨hq2, e⟩ | ⟨hq2, e⟩
          · cases e; exact goes_runM hU (P7 ++ [.xg (ldRSx_ok (T := 35) (e := 35) (T2 := 32) (f := c_Insn) (sz := 5) (N := w1) (k := 7) (m := 2) (B := (fun k => if k = 0 then (⟨183#8, 0#8, 0#8, 0#16, 0#32⟩ : Insn) else (⟨149#8, 0#8, 0#8, 0#16, 0#32⟩ : Insn))) (E := w3) hzS (fun w => by kernel_rfl) (fun w => by kernel_rfl) (by decide) (inR_nat hq1) (x := (⟨#[104]⟩ : ByteArray)) (ba_eq hq2)) [1], .o, .o, .a 6, .o, .o, .a 6, .a 4, .o, .a 4, .o, .a 6, .cg (ok_object_isName_v8 hU  ), .o, .o, .o, .o, .a 6, .a 4, .o, .o, .o, .o, .a 6, .o, .a 2, .o, .xg (memRS_ok (hd := hdS) (tl := tlS) (zs := 2) (e := 35) (T2 := 32) (f := c_Insn) (sz := 5) (N := w1) (k := 7) (m := 2) (B := (fun k => if k = 0 then (⟨183#8, 0#8, 0#8, 0#16, 0#32⟩ : Insn) else (⟨149#8, 0#8, 0#8, 0#16, 0#32⟩ : Insn))) (E := w3) rfl (fun _ => rfl) (fun _ => rfl) (fun _ => rfl) (by decide) (inR_nat hq1) (p0_object_rightProg_v1 hU (w0 : Int) )) [1], .o, .o, .o, .o]) [0, 1, 2, 3, 4] (fun b => rfl) (by decide) rfl rfl (fun b => by kernel_rfl)
          · replace e := cond_eq_or e
            rcases e with ⟨hq3, e⟩ | ⟨hq3, e⟩
            · cases e; exact ⟨ne_ret, goes_runM hU (P7 ++ [.xg (ldRSx_ok (T := 35) (e := 35) (T2 := 32) (f := c_Insn) (sz := 5) (N := w1) (k := 7) (m := 2) (B := (fun k => if k = 0 then (⟨183#8, 0#8, 0#8, 0#16, 0#32⟩ : Insn) else (⟨149#8, 0#8, 0#8, 0#16, 0#32⟩ : Insn))) (E := w3) hzS (fun w => by kernel_rfl) (fun w => by kernel_rfl) (by decide) (inR_nat hq1) (x := (⟨#[97]⟩ : ByteArray)) (ba_eq hq3)) [1], .o, .o, .a 6, .o, .o, .a 6, .a 4, .o, .a 4, .o, .a 6, .cg (ok_object_isName_v1 hU  ), .o, .o, .o, .o, .a 6, .a 4, .o, .o, .o, .o, .o, .o, .o]) [0, 1, 2, 3, 4] (fun b => rfl) (by decide) rfl rfl (fun b => by kernel_rfl)⟩
            · exact none_some e
        · exact none_some e
      · cases e; exact ⟨ne_exit 2, goes_runM hU [.b (z_lssF hq0)] [0, 1, 2, 3, 4] (fun b => rfl) (by decide) rfl rfl (fun b => by kernel_rfl)⟩
    | c8  =>
      unfold st_object_Check_v5_L1 at e
      dsimp only at e
      replace e := cond_eq_or e
      rcases e with ⟨hq0, e⟩ | ⟨hq0, e⟩
      · replace e := cond_eq_or e
        rcases e with ⟨hq1, e⟩ | ⟨hq1, e⟩
        · replace e := cond_eq_or e
          let P8 : List (PG Try.prog M B0 S) := [.b (z_lssT hq0), .o, .q (ixM_ok (kd := .i64) (T := 25) (x := 8) (N := w1) (sz := 2) rfl (fun w => by kernel_rfl) hq1)]
          rcases e with ⟨hq2, e⟩ | ⟨hq2, e⟩
          · cases e; exact goes_runM hU (P8 ++ [.xg (ldRSx_ok (T := 35) (e := 35) (T2 := 32) (f := c_Insn) (sz := 5) (N := w1) (k := 8) (m := 2) (B := (fun k => if k = 0 then (⟨183#8, 0#8, 0#8, 0#16, 0#32⟩ : Insn) else (⟨149#8, 0#8, 0#8, 0#16, 0#32⟩ : Insn))) (E := w3) hzS (fun w => by kernel_rfl) (fun w => by kernel_rfl) (by decide) (inR_nat hq1) (x := (⟨#[105]⟩ : ByteArray)) (ba_eq hq2)) [1], .o, .o, .a 6, .o, .o, .a 6, .a 4, .o, .a 4, .o, .a 6, .cg (ok_object_isName_v9 hU  ), .o, .o, .o, .o, .a 6, .a 4, .o, .o, .o, .o, .a 6, .o, .a 2, .o, .xg (memRS_ok (hd := hdS) (tl := tlS) (zs := 2) (e := 35) (T2 := 32) (f := c_Insn) (sz := 5) (N := w1) (k := 8) (m := 2) (B := (fun k => if k = 0 then (⟨183#8, 0#8, 0#8, 0#16, 0#32⟩ : Insn) else (⟨149#8, 0#8, 0#8, 0#16, 0#32⟩ : Insn))) (E := w3) rfl (fun _ => rfl) (fun _ => rfl) (fun _ => rfl) (by decide) (inR_nat hq1) (p0_object_rightProg_v1 hU (w0 : Int) )) [1], .o, .o, .o, .o]) [0, 1, 2, 3, 4] (fun b => rfl) (by decide) rfl rfl (fun b => by kernel_rfl)
          · replace e := cond_eq_or e
            rcases e with ⟨hq3, e⟩ | ⟨hq3, e⟩
            · cases e; exact ⟨ne_ret, goes_runM hU (P8 ++ [.xg (ldRSx_ok (T := 35) (e := 35) (T2 := 32) (f := c_Insn) (sz := 5) (N := w1) (k := 8) (m := 2) (B := (fun k => if k = 0 then (⟨183#8, 0#8, 0#8, 0#16, 0#32⟩ : Insn) else (⟨149#8, 0#8, 0#8, 0#16, 0#32⟩ : Insn))) (E := w3) hzS (fun w => by kernel_rfl) (fun w => by kernel_rfl) (by decide) (inR_nat hq1) (x := (⟨#[97]⟩ : ByteArray)) (ba_eq hq3)) [1], .o, .o, .a 6, .o, .o, .a 6, .a 4, .o, .a 4, .o, .a 6, .cg (ok_object_isName_v1 hU  ), .o, .o, .o, .o, .a 6, .a 4, .o, .o, .o, .o, .o, .o, .o]) [0, 1, 2, 3, 4] (fun b => rfl) (by decide) rfl rfl (fun b => by kernel_rfl)⟩
            · exact none_some e
        · exact none_some e
      · cases e; exact ⟨ne_exit 2, goes_runM hU [.b (z_lssF hq0)] [0, 1, 2, 3, 4] (fun b => rfl) (by decide) rfl rfl (fun b => by kernel_rfl)⟩
    | c9  =>
      unfold st_object_Check_v5_L1 at e
      dsimp only at e
      replace e := cond_eq_or e
      rcases e with ⟨hq0, e⟩ | ⟨hq0, e⟩
      · replace e := cond_eq_or e
        rcases e with ⟨hq1, e⟩ | ⟨hq1, e⟩
        · replace e := cond_eq_or e
          let P9 : List (PG Try.prog M B0 S) := [.b (z_lssT hq0), .o, .q (ixM_ok (kd := .i64) (T := 25) (x := 9) (N := w1) (sz := 2) rfl (fun w => by kernel_rfl) hq1)]
          rcases e with ⟨hq2, e⟩ | ⟨hq2, e⟩
          · cases e; exact goes_runM hU (P9 ++ [.xg (ldRSx_ok (T := 35) (e := 35) (T2 := 32) (f := c_Insn) (sz := 5) (N := w1) (k := 9) (m := 2) (B := (fun k => if k = 0 then (⟨183#8, 0#8, 0#8, 0#16, 0#32⟩ : Insn) else (⟨149#8, 0#8, 0#8, 0#16, 0#32⟩ : Insn))) (E := w3) hzS (fun w => by kernel_rfl) (fun w => by kernel_rfl) (by decide) (inR_nat hq1) (x := (⟨#[106]⟩ : ByteArray)) (ba_eq hq2)) [1], .o, .o, .a 6, .o, .o, .a 6, .a 4, .o, .a 4, .o, .a 6, .cg (ok_object_isName_v10 hU  ), .o, .o, .o, .o, .a 6, .a 4, .o, .o, .o, .o, .a 6, .o, .a 2, .o, .xg (memRS_ok (hd := hdS) (tl := tlS) (zs := 2) (e := 35) (T2 := 32) (f := c_Insn) (sz := 5) (N := w1) (k := 9) (m := 2) (B := (fun k => if k = 0 then (⟨183#8, 0#8, 0#8, 0#16, 0#32⟩ : Insn) else (⟨149#8, 0#8, 0#8, 0#16, 0#32⟩ : Insn))) (E := w3) rfl (fun _ => rfl) (fun _ => rfl) (fun _ => rfl) (by decide) (inR_nat hq1) (p0_object_rightProg_v1 hU (w0 : Int) )) [1], .o, .o, .o, .o]) [0, 1, 2, 3, 4] (fun b => rfl) (by decide) rfl rfl (fun b => by kernel_rfl)
          · replace e := cond_eq_or e
            rcases e with ⟨hq3, e⟩ | ⟨hq3, e⟩
            · cases e; exact ⟨ne_ret, goes_runM hU (P9 ++ [.xg (ldRSx_ok (T := 35) (e := 35) (T2 := 32) (f := c_Insn) (sz := 5) (N := w1) (k := 9) (m := 2) (B := (fun k => if k = 0 then (⟨183#8, 0#8, 0#8, 0#16, 0#32⟩ : Insn) else (⟨149#8, 0#8, 0#8, 0#16, 0#32⟩ : Insn))) (E := w3) hzS (fun w => by kernel_rfl) (fun w => by kernel_rfl) (by decide) (inR_nat hq1) (x := (⟨#[97]⟩ : ByteArray)) (ba_eq hq3)) [1], .o, .o, .a 6, .o, .o, .a 6, .a 4, .o, .a 4, .o, .a 6, .cg (ok_object_isName_v1 hU  ), .o, .o, .o, .o, .a 6, .a 4, .o, .o, .o, .o, .o, .o, .o]) [0, 1, 2, 3, 4] (fun b => rfl) (by decide) rfl rfl (fun b => by kernel_rfl)⟩
            · exact none_some e
        · exact none_some e
      · cases e; exact ⟨ne_exit 2, goes_runM hU [.b (z_lssF hq0)] [0, 1, 2, 3, 4] (fun b => rfl) (by decide) rfl rfl (fun b => by kernel_rfl)⟩
    | c10  =>
      unfold st_object_Check_v5_L1 at e
      dsimp only at e
      replace e := cond_eq_or e
      rcases e with ⟨hq0, e⟩ | ⟨hq0, e⟩
      · replace e := cond_eq_or e
        rcases e with ⟨hq1, e⟩ | ⟨hq1, e⟩
        · replace e := cond_eq_or e
          let P10 : List (PG Try.prog M B0 S) := [.b (z_lssT hq0), .o, .q (ixM_ok (kd := .i64) (T := 25) (x := 10) (N := w1) (sz := 2) rfl (fun w => by kernel_rfl) hq1)]
          rcases e with ⟨hq2, e⟩ | ⟨hq2, e⟩
          · cases e; exact goes_runM hU (P10 ++ [.xg (ldRSx_ok (T := 35) (e := 35) (T2 := 32) (f := c_Insn) (sz := 5) (N := w1) (k := 10) (m := 2) (B := (fun k => if k = 0 then (⟨183#8, 0#8, 0#8, 0#16, 0#32⟩ : Insn) else (⟨149#8, 0#8, 0#8, 0#16, 0#32⟩ : Insn))) (E := w3) hzS (fun w => by kernel_rfl) (fun w => by kernel_rfl) (by decide) (inR_nat hq1) (x := (⟨#[107]⟩ : ByteArray)) (ba_eq hq2)) [1], .o, .o, .a 6, .o, .o, .a 6, .a 4, .o, .a 4, .o, .a 6, .cg (ok_object_isName_v11 hU  ), .o, .o, .o, .o, .a 6, .a 4, .o, .o, .o, .o, .a 6, .o, .a 2, .o, .xg (memRS_ok (hd := hdS) (tl := tlS) (zs := 2) (e := 35) (T2 := 32) (f := c_Insn) (sz := 5) (N := w1) (k := 10) (m := 2) (B := (fun k => if k = 0 then (⟨183#8, 0#8, 0#8, 0#16, 0#32⟩ : Insn) else (⟨149#8, 0#8, 0#8, 0#16, 0#32⟩ : Insn))) (E := w3) rfl (fun _ => rfl) (fun _ => rfl) (fun _ => rfl) (by decide) (inR_nat hq1) (p0_object_rightProg_v1 hU (w0 : Int) )) [1], .o, .o, .o, .o]) [0, 1, 2, 3, 4] (fun b => rfl) (by decide) rfl rfl (fun b => by kernel_rfl)
          · replace e := cond_eq_or e
            rcases e with ⟨hq3, e⟩ | ⟨hq3, e⟩
            · cases e; exact ⟨ne_ret, goes_runM hU (P10 ++ [.xg (ldRSx_ok (T := 35) (e := 35) (T2 := 32) (f := c_Insn) (sz := 5) (N := w1) (k := 10) (m := 2) (B := (fun k => if k = 0 then (⟨183#8, 0#8, 0#8, 0#16, 0#32⟩ : Insn) else (⟨149#8, 0#8, 0#8, 0#16, 0#32⟩ : Insn))) (E := w3) hzS (fun w => by kernel_rfl) (fun w => by kernel_rfl) (by decide) (inR_nat hq1) (x := (⟨#[97]⟩ : ByteArray)) (ba_eq hq3)) [1], .o, .o, .a 6, .o, .o, .a 6, .a 4, .o, .a 4, .o, .a 6, .cg (ok_object_isName_v1 hU  ), .o, .o, .o, .o, .a 6, .a 4, .o, .o, .o, .o, .o, .o, .o]) [0, 1, 2, 3, 4] (fun b => rfl) (by decide) rfl rfl (fun b => by kernel_rfl)⟩
            · exact none_some e
        · exact none_some e
      · cases e; exact ⟨ne_exit 2, goes_runM hU [.b (z_lssF hq0)] [0, 1, 2, 3, 4] (fun b => rfl) (by decide) rfl rfl (fun b => by kernel_rfl)⟩
    | c11  =>
      unfold st_object_Check_v5_L1 at e
      dsimp only at e
      replace e := cond_eq_or e
      rcases e with ⟨hq0, e⟩ | ⟨hq0, e⟩
      · replace e := cond_eq_or e
        rcases e with ⟨hq1, e⟩ | ⟨hq1, e⟩
        · replace e := cond_eq_or e
          let P11 : List (PG Try.prog M B0 S) := [.b (z_lssT hq0), .o, .q (ixM_ok (kd := .i64) (T := 25) (x := 11) (N := w1) (sz := 2) rfl (fun w => by kernel_rfl) hq1)]
          rcases e with ⟨hq2, e⟩ | ⟨hq2, e⟩
          · cases e; exact goes_runM hU (P11 ++ [.xg (ldRSx_ok (T := 35) (e := 35) (T2 := 32) (f := c_Insn) (sz := 5) (N := w1) (k := 11) (m := 2) (B := (fun k => if k = 0 then (⟨183#8, 0#8, 0#8, 0#16, 0#32⟩ : Insn) else (⟨149#8, 0#8, 0#8, 0#16, 0#32⟩ : Insn))) (E := w3) hzS (fun w => by kernel_rfl) (fun w => by kernel_rfl) (by decide) (inR_nat hq1) (x := (⟨#[108]⟩ : ByteArray)) (ba_eq hq2)) [1], .o, .o, .a 6, .o, .o, .a 6, .a 4, .o, .a 4, .o, .a 6, .cg (ok_object_isName_v12 hU  ), .o, .o, .o, .o, .a 6, .a 4, .o, .o, .o, .o, .a 6, .o, .a 2, .o, .xg (memRS_ok (hd := hdS) (tl := tlS) (zs := 2) (e := 35) (T2 := 32) (f := c_Insn) (sz := 5) (N := w1) (k := 11) (m := 2) (B := (fun k => if k = 0 then (⟨183#8, 0#8, 0#8, 0#16, 0#32⟩ : Insn) else (⟨149#8, 0#8, 0#8, 0#16, 0#32⟩ : Insn))) (E := w3) rfl (fun _ => rfl) (fun _ => rfl) (fun _ => rfl) (by decide) (inR_nat hq1) (p0_object_rightProg_v1 hU (w0 : Int) )) [1], .o, .o, .o, .o]) [0, 1, 2, 3, 4] (fun b => rfl) (by decide) rfl rfl (fun b => by kernel_rfl)
          · replace e := cond_eq_or e
            rcases e with ⟨hq3, e⟩ | ⟨hq3, e⟩
            · cases e; exact ⟨ne_ret, goes_runM hU (P11 ++ [.xg (ldRSx_ok (T := 35) (e := 35) (T2 := 32) (f := c_Insn) (sz := 5) (N := w1) (k := 11) (m := 2) (B := (fun k => if k = 0 then (⟨183#8, 0#8, 0#8, 0#16, 0#32⟩ : Insn) else (⟨149#8, 0#8, 0#8, 0#16, 0#32⟩ : Insn))) (E := w3) hzS (fun w => by kernel_rfl) (fun w => by kernel_rfl) (by decide) (inR_nat hq1) (x := (⟨#[97]⟩ : ByteArray)) (ba_eq hq3)) [1], .o, .o, .a 6, .o, .o, .a 6, .a 4, .o, .a 4, .o, .a 6, .cg (ok_object_isName_v1 hU  ), .o, .o, .o, .o, .a 6, .a 4, .o, .o, .o, .o, .o, .o, .o]) [0, 1, 2, 3, 4] (fun b => rfl) (by decide) rfl rfl (fun b => by kernel_rfl)⟩
            · exact none_some e
        · exact none_some e
      · cases e; exact ⟨ne_exit 2, goes_runM hU [.b (z_lssF hq0)] [0, 1, 2, 3, 4] (fun b => rfl) (by decide) rfl rfl (fun b => by kernel_rfl)⟩
    | c12  =>
      unfold st_object_Check_v5_L1 at e
      dsimp only at e
      replace e := cond_eq_or e
      rcases e with ⟨hq0, e⟩ | ⟨hq0, e⟩
      · replace e := cond_eq_or e
        rcases e with ⟨hq1, e⟩ | ⟨hq1, e⟩
        · replace e := cond_eq_or e
          let P12 : List (PG Try.prog M B0 S) := [.b (z_lssT hq0), .o, .q (ixM_ok (kd := .i64) (T := 25) (x := 12) (N := w1) (sz := 2) rfl (fun w => by kernel_rfl) hq1)]
          rcases e with ⟨hq2, e⟩ | ⟨hq2, e⟩
          · cases e; exact goes_runM hU (P12 ++ [.xg (ldRSx_ok (T := 35) (e := 35) (T2 := 32) (f := c_Insn) (sz := 5) (N := w1) (k := 12) (m := 2) (B := (fun k => if k = 0 then (⟨183#8, 0#8, 0#8, 0#16, 0#32⟩ : Insn) else (⟨149#8, 0#8, 0#8, 0#16, 0#32⟩ : Insn))) (E := w3) hzS (fun w => by kernel_rfl) (fun w => by kernel_rfl) (by decide) (inR_nat hq1) (x := (⟨#[109]⟩ : ByteArray)) (ba_eq hq2)) [1], .o, .o, .a 6, .o, .o, .a 6, .a 4, .o, .a 4, .o, .a 6, .cg (ok_object_isName_v13 hU  ), .o, .o, .o, .o, .a 6, .a 4, .o, .o, .o, .o, .a 6, .o, .a 2, .o, .xg (memRS_ok (hd := hdS) (tl := tlS) (zs := 2) (e := 35) (T2 := 32) (f := c_Insn) (sz := 5) (N := w1) (k := 12) (m := 2) (B := (fun k => if k = 0 then (⟨183#8, 0#8, 0#8, 0#16, 0#32⟩ : Insn) else (⟨149#8, 0#8, 0#8, 0#16, 0#32⟩ : Insn))) (E := w3) rfl (fun _ => rfl) (fun _ => rfl) (fun _ => rfl) (by decide) (inR_nat hq1) (p0_object_rightProg_v1 hU (w0 : Int) )) [1], .o, .o, .o, .o]) [0, 1, 2, 3, 4] (fun b => rfl) (by decide) rfl rfl (fun b => by kernel_rfl)
          · replace e := cond_eq_or e
            rcases e with ⟨hq3, e⟩ | ⟨hq3, e⟩
            · cases e; exact ⟨ne_ret, goes_runM hU (P12 ++ [.xg (ldRSx_ok (T := 35) (e := 35) (T2 := 32) (f := c_Insn) (sz := 5) (N := w1) (k := 12) (m := 2) (B := (fun k => if k = 0 then (⟨183#8, 0#8, 0#8, 0#16, 0#32⟩ : Insn) else (⟨149#8, 0#8, 0#8, 0#16, 0#32⟩ : Insn))) (E := w3) hzS (fun w => by kernel_rfl) (fun w => by kernel_rfl) (by decide) (inR_nat hq1) (x := (⟨#[97]⟩ : ByteArray)) (ba_eq hq3)) [1], .o, .o, .a 6, .o, .o, .a 6, .a 4, .o, .a 4, .o, .a 6, .cg (ok_object_isName_v1 hU  ), .o, .o, .o, .o, .a 6, .a 4, .o, .o, .o, .o, .o, .o, .o]) [0, 1, 2, 3, 4] (fun b => rfl) (by decide) rfl rfl (fun b => by kernel_rfl)⟩
            · exact none_some e
        · exact none_some e
      · cases e; exact ⟨ne_exit 2, goes_runM hU [.b (z_lssF hq0)] [0, 1, 2, 3, 4] (fun b => rfl) (by decide) rfl rfl (fun b => by kernel_rfl)⟩
    | c13  =>
      unfold st_object_Check_v5_L1 at e
      dsimp only at e
      replace e := cond_eq_or e
      rcases e with ⟨hq0, e⟩ | ⟨hq0, e⟩
      · replace e := cond_eq_or e
        rcases e with ⟨hq1, e⟩ | ⟨hq1, e⟩
        · replace e := cond_eq_or e
          let P13 : List (PG Try.prog M B0 S) := [.b (z_lssT hq0), .o, .q (ixM_ok (kd := .i64) (T := 25) (x := 13) (N := w1) (sz := 2) rfl (fun w => by kernel_rfl) hq1)]
          rcases e with ⟨hq2, e⟩ | ⟨hq2, e⟩
          · cases e; exact goes_runM hU (P13 ++ [.xg (ldRSx_ok (T := 35) (e := 35) (T2 := 32) (f := c_Insn) (sz := 5) (N := w1) (k := 13) (m := 2) (B := (fun k => if k = 0 then (⟨183#8, 0#8, 0#8, 0#16, 0#32⟩ : Insn) else (⟨149#8, 0#8, 0#8, 0#16, 0#32⟩ : Insn))) (E := w3) hzS (fun w => by kernel_rfl) (fun w => by kernel_rfl) (by decide) (inR_nat hq1) (x := (⟨#[110]⟩ : ByteArray)) (ba_eq hq2)) [1], .o, .o, .a 6, .o, .o, .a 6, .a 4, .o, .a 4, .o, .a 6, .cg (ok_object_isName_v14 hU  ), .o, .o, .o, .o, .a 6, .a 4, .o, .o, .o, .o, .a 6, .o, .a 2, .o, .xg (memRS_ok (hd := hdS) (tl := tlS) (zs := 2) (e := 35) (T2 := 32) (f := c_Insn) (sz := 5) (N := w1) (k := 13) (m := 2) (B := (fun k => if k = 0 then (⟨183#8, 0#8, 0#8, 0#16, 0#32⟩ : Insn) else (⟨149#8, 0#8, 0#8, 0#16, 0#32⟩ : Insn))) (E := w3) rfl (fun _ => rfl) (fun _ => rfl) (fun _ => rfl) (by decide) (inR_nat hq1) (p0_object_rightProg_v1 hU (w0 : Int) )) [1], .o, .o, .o, .o]) [0, 1, 2, 3, 4] (fun b => rfl) (by decide) rfl rfl (fun b => by kernel_rfl)
          · replace e := cond_eq_or e
            rcases e with ⟨hq3, e⟩ | ⟨hq3, e⟩
            · cases e; exact ⟨ne_ret, goes_runM hU (P13 ++ [.xg (ldRSx_ok (T := 35) (e := 35) (T2 := 32) (f := c_Insn) (sz := 5) (N := w1) (k := 13) (m := 2) (B := (fun k => if k = 0 then (⟨183#8, 0#8, 0#8, 0#16, 0#32⟩ : Insn) else (⟨149#8, 0#8, 0#8, 0#16, 0#32⟩ : Insn))) (E := w3) hzS (fun w => by kernel_rfl) (fun w => by kernel_rfl) (by decide) (inR_nat hq1) (x := (⟨#[97]⟩ : ByteArray)) (ba_eq hq3)) [1], .o, .o, .a 6, .o, .o, .a 6, .a 4, .o, .a 4, .o, .a 6, .cg (ok_object_isName_v1 hU  ), .o, .o, .o, .o, .a 6, .a 4, .o, .o, .o, .o, .o, .o, .o]) [0, 1, 2, 3, 4] (fun b => rfl) (by decide) rfl rfl (fun b => by kernel_rfl)⟩
            · exact none_some e
        · exact none_some e
      · cases e; exact ⟨ne_exit 2, goes_runM hU [.b (z_lssF hq0)] [0, 1, 2, 3, 4] (fun b => rfl) (by decide) rfl rfl (fun b => by kernel_rfl)⟩
    | c14  =>
      unfold st_object_Check_v5_L1 at e
      dsimp only at e
      replace e := cond_eq_or e
      rcases e with ⟨hq0, e⟩ | ⟨hq0, e⟩
      · replace e := cond_eq_or e
        rcases e with ⟨hq1, e⟩ | ⟨hq1, e⟩
        · replace e := cond_eq_or e
          let P14 : List (PG Try.prog M B0 S) := [.b (z_lssT hq0), .o, .q (ixM_ok (kd := .i64) (T := 25) (x := 14) (N := w1) (sz := 2) rfl (fun w => by kernel_rfl) hq1)]
          rcases e with ⟨hq2, e⟩ | ⟨hq2, e⟩
          · cases e; exact goes_runM hU (P14 ++ [.xg (ldRSx_ok (T := 35) (e := 35) (T2 := 32) (f := c_Insn) (sz := 5) (N := w1) (k := 14) (m := 2) (B := (fun k => if k = 0 then (⟨183#8, 0#8, 0#8, 0#16, 0#32⟩ : Insn) else (⟨149#8, 0#8, 0#8, 0#16, 0#32⟩ : Insn))) (E := w3) hzS (fun w => by kernel_rfl) (fun w => by kernel_rfl) (by decide) (inR_nat hq1) (x := (⟨#[111]⟩ : ByteArray)) (ba_eq hq2)) [1], .o, .o, .a 6, .o, .o, .a 6, .a 4, .o, .a 4, .o, .a 6, .cg (ok_object_isName_v15 hU  ), .o, .o, .o, .o, .a 6, .a 4, .o, .o, .o, .o, .a 6, .o, .a 2, .o, .xg (memRS_ok (hd := hdS) (tl := tlS) (zs := 2) (e := 35) (T2 := 32) (f := c_Insn) (sz := 5) (N := w1) (k := 14) (m := 2) (B := (fun k => if k = 0 then (⟨183#8, 0#8, 0#8, 0#16, 0#32⟩ : Insn) else (⟨149#8, 0#8, 0#8, 0#16, 0#32⟩ : Insn))) (E := w3) rfl (fun _ => rfl) (fun _ => rfl) (fun _ => rfl) (by decide) (inR_nat hq1) (p0_object_rightProg_v1 hU (w0 : Int) )) [1], .o, .o, .o, .o]) [0, 1, 2, 3, 4] (fun b => rfl) (by decide) rfl rfl (fun b => by kernel_rfl)
          · replace e := cond_eq_or e
            rcases e with ⟨hq3, e⟩ | ⟨hq3, e⟩
            · cases e; exact ⟨ne_ret, goes_runM hU (P14 ++ [.xg (ldRSx_ok (T := 35) (e := 35) (T2 := 32) (f := c_Insn) (sz := 5) (N := w1) (k := 14) (m := 2) (B := (fun k => if k = 0 then (⟨183#8, 0#8, 0#8, 0#16, 0#32⟩ : Insn) else (⟨149#8, 0#8, 0#8, 0#16, 0#32⟩ : Insn))) (E := w3) hzS (fun w => by kernel_rfl) (fun w => by kernel_rfl) (by decide) (inR_nat hq1) (x := (⟨#[97]⟩ : ByteArray)) (ba_eq hq3)) [1], .o, .o, .a 6, .o, .o, .a 6, .a 4, .o, .a 4, .o, .a 6, .cg (ok_object_isName_v1 hU  ), .o, .o, .o, .o, .a 6, .a 4, .o, .o, .o, .o, .o, .o, .o]) [0, 1, 2, 3, 4] (fun b => rfl) (by decide) rfl rfl (fun b => by kernel_rfl)⟩
            · exact none_some e
        · exact none_some e
      · cases e; exact ⟨ne_exit 2, goes_runM hU [.b (z_lssF hq0)] [0, 1, 2, 3, 4] (fun b => rfl) (by decide) rfl rfl (fun b => by kernel_rfl)⟩
    | c15  =>
      unfold st_object_Check_v5_L1 at e
      dsimp only at e
      replace e := cond_eq_or e
      rcases e with ⟨hq0, e⟩ | ⟨hq0, e⟩
      · replace e := cond_eq_or e
        rcases e with ⟨hq1, e⟩ | ⟨hq1, e⟩
        · replace e := cond_eq_or e
          let P15 : List (PG Try.prog M B0 S) := [.b (z_lssT hq0), .o, .q (ixM_ok (kd := .i64) (T := 25) (x := 15) (N := w1) (sz := 2) rfl (fun w => by kernel_rfl) hq1)]
          rcases e with ⟨hq2, e⟩ | ⟨hq2, e⟩
          · cases e; exact goes_runM hU (P15 ++ [.xg (ldRSx_ok (T := 35) (e := 35) (T2 := 32) (f := c_Insn) (sz := 5) (N := w1) (k := 15) (m := 2) (B := (fun k => if k = 0 then (⟨183#8, 0#8, 0#8, 0#16, 0#32⟩ : Insn) else (⟨149#8, 0#8, 0#8, 0#16, 0#32⟩ : Insn))) (E := w3) hzS (fun w => by kernel_rfl) (fun w => by kernel_rfl) (by decide) (inR_nat hq1) (x := (⟨#[112]⟩ : ByteArray)) (ba_eq hq2)) [1], .o, .o, .a 6, .o, .o, .a 6, .a 4, .o, .a 4, .o, .a 6, .cg (ok_object_isName_v16 hU  ), .o, .o, .o, .o, .a 6, .a 4, .o, .o, .o, .o, .a 6, .o, .a 2, .o, .xg (memRS_ok (hd := hdS) (tl := tlS) (zs := 2) (e := 35) (T2 := 32) (f := c_Insn) (sz := 5) (N := w1) (k := 15) (m := 2) (B := (fun k => if k = 0 then (⟨183#8, 0#8, 0#8, 0#16, 0#32⟩ : Insn) else (⟨149#8, 0#8, 0#8, 0#16, 0#32⟩ : Insn))) (E := w3) rfl (fun _ => rfl) (fun _ => rfl) (fun _ => rfl) (by decide) (inR_nat hq1) (p0_object_rightProg_v1 hU (w0 : Int) )) [1], .o, .o, .o, .o]) [0, 1, 2, 3, 4] (fun b => rfl) (by decide) rfl rfl (fun b => by kernel_rfl)
          · replace e := cond_eq_or e
            rcases e with ⟨hq3, e⟩ | ⟨hq3, e⟩
            · cases e; exact ⟨ne_ret, goes_runM hU (P15 ++ [.xg (ldRSx_ok (T := 35) (e := 35) (T2 := 32) (f := c_Insn) (sz := 5) (N := w1) (k := 15) (m := 2) (B := (fun k => if k = 0 then (⟨183#8, 0#8, 0#8, 0#16, 0#32⟩ : Insn) else (⟨149#8, 0#8, 0#8, 0#16, 0#32⟩ : Insn))) (E := w3) hzS (fun w => by kernel_rfl) (fun w => by kernel_rfl) (by decide) (inR_nat hq1) (x := (⟨#[97]⟩ : ByteArray)) (ba_eq hq3)) [1], .o, .o, .a 6, .o, .o, .a 6, .a 4, .o, .a 4, .o, .a 6, .cg (ok_object_isName_v1 hU  ), .o, .o, .o, .o, .a 6, .a 4, .o, .o, .o, .o, .o, .o, .o]) [0, 1, 2, 3, 4] (fun b => rfl) (by decide) rfl rfl (fun b => by kernel_rfl)⟩
            · exact none_some e
        · exact none_some e
      · cases e; exact ⟨ne_exit 2, goes_runM hU [.b (z_lssF hq0)] [0, 1, 2, 3, 4] (fun b => rfl) (by decide) rfl rfl (fun b => by kernel_rfl)⟩
    | c16  =>
      unfold st_object_Check_v5_L1 at e
      dsimp only at e
      replace e := cond_eq_or e
      rcases e with ⟨hq0, e⟩ | ⟨hq0, e⟩
      · replace e := cond_eq_or e
        rcases e with ⟨hq1, e⟩ | ⟨hq1, e⟩
        · replace e := cond_eq_or e
          rcases e with ⟨hq2, e⟩ | ⟨hq2, e⟩
          · cases e; exact ⟨ne_ret, goes_runM hU [.b (z_lssT hq0), .o, .q (ixM_ok (kd := .i64) (T := 25) (x := 16) (N := w1) (sz := 2) rfl (fun w => by kernel_rfl) hq1), .xg (ldRSx_ok (T := 35) (e := 35) (T2 := 32) (f := c_Insn) (sz := 5) (N := w1) (k := 16) (m := 2) (B := (fun k => if k = 0 then (⟨183#8, 0#8, 0#8, 0#16, 0#32⟩ : Insn) else (⟨149#8, 0#8, 0#8, 0#16, 0#32⟩ : Insn))) (E := w3) hzS (fun w => by kernel_rfl) (fun w => by kernel_rfl) (by decide) (inR_nat hq1) (x := (⟨#[97]⟩ : ByteArray)) (ba_eq hq2)) [1], .o, .o, .a 6, .o, .o, .a 6, .a 4, .o, .a 4, .o, .a 6, .cg (ok_object_isName_v1 hU  ), .o, .o, .o, .o, .a 6, .a 4, .o, .o, .o, .o, .o, .o, .o] [0, 1, 2, 3, 4] (fun b => rfl) (by decide) rfl rfl (fun b => by kernel_rfl)⟩
          · exact none_some e
        · exact none_some e
      · cases e; exact ⟨ne_exit 2, goes_runM hU [.b (z_lssF hq0)] [0, 1, 2, 3, 4] (fun b => rfl) (by decide) rfl rfl (fun b => by kernel_rfl)⟩) s r h
noncomputable def t0_object_Check_v5_L1_0 (w0 : Nat) (w1 : Nat) (w2 : Nat → MapDef) (w3 : Nat → ByteArray)  (ls : List L1) : List Value := List.append [((lget ls 3).u 0), .pointer (some ⟨(lget ls 2).n, 0, none⟩), .int .i64 (0), .int .i64 (0)] (List.append (jks (lget ls 3).u 4 4) (List.append [.map (some (lget ls 4).n)] (List.append (jks (lget ls 3).u 9 13) (List.append [(rowV (lget ls 0) w0 6), .int .i64 ((w0 : Int))] (List.append (jks (lget ls 3).u 24 16) (List.append [.pointer (some ⟨(lget ls 2).n, 2, none⟩), (rowV (rrL (lget ls 1)) w1 2), .int .i64 ((w1 : Int)), .bool false, .bool false, .pointer (some ⟨(lget ls 2).n, 2, none⟩), (rowV (rrL (lget ls 1)) w1 2), .int .i64 ((w1 : Int)), .bool false, .bool false, .map (some (lget ls 4).n), .pointer (some ⟨(lget ls 2).n, 2, none⟩), (rowV (rrL (lget ls 1)) w1 2), .int .i64 ((w1 : Int)), .int .i64 (0)] (jks (lget ls 3).u 55 31)))))))
def pre_object_Check_v5_L1_0 (w0 : Nat) (w1 : Nat) (w2 : Nat → MapDef) (w3 : Nat → ByteArray)  (ls : List L1) : List Obj := [rowO (lget ls 0) (esG c_MapDef w0 w2) 29 w0 6, rsO hdS tlS 2 (lget ls 1) 35 32 c_Insn 5 w1 (fun _ => (2, (fun k => if k = 0 then (⟨183#8, 0#8, 0#8, 0#16, 0#32⟩ : Insn) else (⟨149#8, 0#8, 0#8, 0#16, 0#32⟩ : Insn)))) w3, .cells #[.slice none 0 0, (rowV (lget ls 0) w0 6), (rowV (rrL (lget ls 1)) w1 2)] 27, unb, .map #[] 0]
theorem sp0_object_Check_v5_L1_0_ok (h : lpO (st_object_Check_v5_L1 w1 w3) (.c0) = some (.e0 )) : SpcG Try.prog M B0 S ⟨fun ls => .code (.loop bd_object_Check_v5_L1) (t0_object_Check_v5_L1_0 w0 w1 w2 w3  ls), pre_object_Check_v5_L1_0 w0 w1 w2 w3 , 1, (.exit 2), fun ls => vf_object_Check_v5_L1 w0 w1 w2 w3 (.e0 ) (ls.take 5 ++ ls.drop 5), fun ls => (Hf_object_Check_v5_L1 w0 w1 w2 w3 (.e0 ) (ls.take 5 ++ ls.drop 5)).take 5 ++ List.replicate 0 unb, fun ls => (Hf_object_Check_v5_L1 w0 w1 w2 w3 (.e0 ) (ls.take 5 ++ ls.drop 5)).drop 5⟩ :=
  spc_of_goesM hU 0 (k0 := 5) (go_object_Check_v5_L1 hU w0 w1 w2 w3 _ _ h) (t0_object_Check_v5_L1_0 w0 w1 w2 w3 ) (pre_object_Check_v5_L1_0 w0 w1 w2 w3 ) (fun _ => rfl) (fun ls h => by match ls, h with | [l0, l1, l2, l3, l4], _ => exact ⟨by kernel_rfl, by kernel_rfl⟩) (fun ls h => by match ls, h with | [l0, l1, l2, l3, l4], _ => rfl) (by decide) (by decide) (fun ls => rfl)
theorem sp1_object_Check_v5_L1_0_ok (h : lpO (st_object_Check_v5_L1 w1 w3) (.c0) = some (.e1 )) : SpcG Try.prog M B0 S ⟨fun ls => .code (.loop bd_object_Check_v5_L1) (t0_object_Check_v5_L1_0 w0 w1 w2 w3  ls), pre_object_Check_v5_L1_0 w0 w1 w2 w3 , 1, (.exit 2), fun ls => vf_object_Check_v5_L1 w0 w1 w2 w3 (.e1 ) (ls.take 5 ++ ls.drop 5), fun ls => (Hf_object_Check_v5_L1 w0 w1 w2 w3 (.e1 ) (ls.take 5 ++ ls.drop 5)).take 5 ++ List.replicate 0 unb, fun ls => (Hf_object_Check_v5_L1 w0 w1 w2 w3 (.e1 ) (ls.take 5 ++ ls.drop 5)).drop 5⟩ :=
  spc_of_goesM hU 0 (k0 := 5) (go_object_Check_v5_L1 hU w0 w1 w2 w3 _ _ h) (t0_object_Check_v5_L1_0 w0 w1 w2 w3 ) (pre_object_Check_v5_L1_0 w0 w1 w2 w3 ) (fun _ => rfl) (fun ls h => by match ls, h with | [l0, l1, l2, l3, l4], _ => exact ⟨by kernel_rfl, by kernel_rfl⟩) (fun ls h => by match ls, h with | [l0, l1, l2, l3, l4], _ => rfl) (by decide) (by decide) (fun ls => rfl)
theorem sp2_object_Check_v5_L1_0_ok (h : lpO (st_object_Check_v5_L1 w1 w3) (.c0) = some (.e2 )) : SpcG Try.prog M B0 S ⟨fun ls => .code (.loop bd_object_Check_v5_L1) (t0_object_Check_v5_L1_0 w0 w1 w2 w3  ls), pre_object_Check_v5_L1_0 w0 w1 w2 w3 , 1, (.exit 2), fun ls => vf_object_Check_v5_L1 w0 w1 w2 w3 (.e2 ) (ls.take 5 ++ ls.drop 5), fun ls => (Hf_object_Check_v5_L1 w0 w1 w2 w3 (.e2 ) (ls.take 5 ++ ls.drop 5)).take 5 ++ List.replicate 0 unb, fun ls => (Hf_object_Check_v5_L1 w0 w1 w2 w3 (.e2 ) (ls.take 5 ++ ls.drop 5)).drop 5⟩ :=
  spc_of_goesM hU 0 (k0 := 5) (go_object_Check_v5_L1 hU w0 w1 w2 w3 _ _ h) (t0_object_Check_v5_L1_0 w0 w1 w2 w3 ) (pre_object_Check_v5_L1_0 w0 w1 w2 w3 ) (fun _ => rfl) (fun ls h => by match ls, h with | [l0, l1, l2, l3, l4], _ => exact ⟨by kernel_rfl, by kernel_rfl⟩) (fun ls h => by match ls, h with | [l0, l1, l2, l3, l4], _ => rfl) (by decide) (by decide) (fun ls => rfl)
theorem sp3_object_Check_v5_L1_0_ok (h : lpO (st_object_Check_v5_L1 w1 w3) (.c0) = some (.e3 )) : SpcG Try.prog M B0 S ⟨fun ls => .code (.loop bd_object_Check_v5_L1) (t0_object_Check_v5_L1_0 w0 w1 w2 w3  ls), pre_object_Check_v5_L1_0 w0 w1 w2 w3 , 1, (.exit 2), fun ls => vf_object_Check_v5_L1 w0 w1 w2 w3 (.e3 ) (ls.take 5 ++ ls.drop 5), fun ls => (Hf_object_Check_v5_L1 w0 w1 w2 w3 (.e3 ) (ls.take 5 ++ ls.drop 5)).take 5 ++ List.replicate 0 unb, fun ls => (Hf_object_Check_v5_L1 w0 w1 w2 w3 (.e3 ) (ls.take 5 ++ ls.drop 5)).drop 5⟩ :=
  spc_of_goesM hU 0 (k0 := 5) (go_object_Check_v5_L1 hU w0 w1 w2 w3 _ _ h) (t0_object_Check_v5_L1_0 w0 w1 w2 w3 ) (pre_object_Check_v5_L1_0 w0 w1 w2 w3 ) (fun _ => rfl) (fun ls h => by match ls, h with | [l0, l1, l2, l3, l4], _ => exact ⟨by kernel_rfl, by kernel_rfl⟩) (fun ls h => by match ls, h with | [l0, l1, l2, l3, l4], _ => rfl) (by decide) (by decide) (fun ls => rfl)
theorem sp4_object_Check_v5_L1_0_ok (h : lpO (st_object_Check_v5_L1 w1 w3) (.c0) = some (.e4 )) : SpcG Try.prog M B0 S ⟨fun ls => .code (.loop bd_object_Check_v5_L1) (t0_object_Check_v5_L1_0 w0 w1 w2 w3  ls), pre_object_Check_v5_L1_0 w0 w1 w2 w3 , 1, (.exit 2), fun ls => vf_object_Check_v5_L1 w0 w1 w2 w3 (.e4 ) (ls.take 5 ++ ls.drop 5), fun ls => (Hf_object_Check_v5_L1 w0 w1 w2 w3 (.e4 ) (ls.take 5 ++ ls.drop 5)).take 5 ++ List.replicate 0 unb, fun ls => (Hf_object_Check_v5_L1 w0 w1 w2 w3 (.e4 ) (ls.take 5 ++ ls.drop 5)).drop 5⟩ :=
  spc_of_goesM hU 0 (k0 := 5) (go_object_Check_v5_L1 hU w0 w1 w2 w3 _ _ h) (t0_object_Check_v5_L1_0 w0 w1 w2 w3 ) (pre_object_Check_v5_L1_0 w0 w1 w2 w3 ) (fun _ => rfl) (fun ls h => by match ls, h with | [l0, l1, l2, l3, l4], _ => exact ⟨by kernel_rfl, by kernel_rfl⟩) (fun ls h => by match ls, h with | [l0, l1, l2, l3, l4], _ => rfl) (by decide) (by decide) (fun ls => rfl)
theorem sp5_object_Check_v5_L1_0_ok (h : lpO (st_object_Check_v5_L1 w1 w3) (.c0) = some (.e5 )) : SpcG Try.prog M B0 S ⟨fun ls => .code (.loop bd_object_Check_v5_L1) (t0_object_Check_v5_L1_0 w0 w1 w2 w3  ls), pre_object_Check_v5_L1_0 w0 w1 w2 w3 , 1, (.exit 2), fun ls => vf_object_Check_v5_L1 w0 w1 w2 w3 (.e5 ) (ls.take 5 ++ ls.drop 5), fun ls => (Hf_object_Check_v5_L1 w0 w1 w2 w3 (.e5 ) (ls.take 5 ++ ls.drop 5)).take 5 ++ List.replicate 0 unb, fun ls => (Hf_object_Check_v5_L1 w0 w1 w2 w3 (.e5 ) (ls.take 5 ++ ls.drop 5)).drop 5⟩ :=
  spc_of_goesM hU 0 (k0 := 5) (go_object_Check_v5_L1 hU w0 w1 w2 w3 _ _ h) (t0_object_Check_v5_L1_0 w0 w1 w2 w3 ) (pre_object_Check_v5_L1_0 w0 w1 w2 w3 ) (fun _ => rfl) (fun ls h => by match ls, h with | [l0, l1, l2, l3, l4], _ => exact ⟨by kernel_rfl, by kernel_rfl⟩) (fun ls h => by match ls, h with | [l0, l1, l2, l3, l4], _ => rfl) (by decide) (by decide) (fun ls => rfl)
theorem sp6_object_Check_v5_L1_0_ok (h : lpO (st_object_Check_v5_L1 w1 w3) (.c0) = some (.e6 )) : SpcG Try.prog M B0 S ⟨fun ls => .code (.loop bd_object_Check_v5_L1) (t0_object_Check_v5_L1_0 w0 w1 w2 w3  ls), pre_object_Check_v5_L1_0 w0 w1 w2 w3 , 1, (.exit 2), fun ls => vf_object_Check_v5_L1 w0 w1 w2 w3 (.e6 ) (ls.take 5 ++ ls.drop 5), fun ls => (Hf_object_Check_v5_L1 w0 w1 w2 w3 (.e6 ) (ls.take 5 ++ ls.drop 5)).take 5 ++ List.replicate 0 unb, fun ls => (Hf_object_Check_v5_L1 w0 w1 w2 w3 (.e6 ) (ls.take 5 ++ ls.drop 5)).drop 5⟩ :=
  spc_of_goesM hU 0 (k0 := 5) (go_object_Check_v5_L1 hU w0 w1 w2 w3 _ _ h) (t0_object_Check_v5_L1_0 w0 w1 w2 w3 ) (pre_object_Check_v5_L1_0 w0 w1 w2 w3 ) (fun _ => rfl) (fun ls h => by match ls, h with | [l0, l1, l2, l3, l4], _ => exact ⟨by kernel_rfl, by kernel_rfl⟩) (fun ls h => by match ls, h with | [l0, l1, l2, l3, l4], _ => rfl) (by decide) (by decide) (fun ls => rfl)
theorem sp7_object_Check_v5_L1_0_ok (h : lpO (st_object_Check_v5_L1 w1 w3) (.c0) = some (.e7 )) : SpcG Try.prog M B0 S ⟨fun ls => .code (.loop bd_object_Check_v5_L1) (t0_object_Check_v5_L1_0 w0 w1 w2 w3  ls), pre_object_Check_v5_L1_0 w0 w1 w2 w3 , 1, (.exit 2), fun ls => vf_object_Check_v5_L1 w0 w1 w2 w3 (.e7 ) (ls.take 5 ++ ls.drop 5), fun ls => (Hf_object_Check_v5_L1 w0 w1 w2 w3 (.e7 ) (ls.take 5 ++ ls.drop 5)).take 5 ++ List.replicate 0 unb, fun ls => (Hf_object_Check_v5_L1 w0 w1 w2 w3 (.e7 ) (ls.take 5 ++ ls.drop 5)).drop 5⟩ :=
  spc_of_goesM hU 0 (k0 := 5) (go_object_Check_v5_L1 hU w0 w1 w2 w3 _ _ h) (t0_object_Check_v5_L1_0 w0 w1 w2 w3 ) (pre_object_Check_v5_L1_0 w0 w1 w2 w3 ) (fun _ => rfl) (fun ls h => by match ls, h with | [l0, l1, l2, l3, l4], _ => exact ⟨by kernel_rfl, by kernel_rfl⟩) (fun ls h => by match ls, h with | [l0, l1, l2, l3, l4], _ => rfl) (by decide) (by decide) (fun ls => rfl)
theorem sp8_object_Check_v5_L1_0_ok (h : lpO (st_object_Check_v5_L1 w1 w3) (.c0) = some (.e8 )) : SpcG Try.prog M B0 S ⟨fun ls => .code (.loop bd_object_Check_v5_L1) (t0_object_Check_v5_L1_0 w0 w1 w2 w3  ls), pre_object_Check_v5_L1_0 w0 w1 w2 w3 , 1, (.exit 2), fun ls => vf_object_Check_v5_L1 w0 w1 w2 w3 (.e8 ) (ls.take 5 ++ ls.drop 5), fun ls => (Hf_object_Check_v5_L1 w0 w1 w2 w3 (.e8 ) (ls.take 5 ++ ls.drop 5)).take 5 ++ List.replicate 0 unb, fun ls => (Hf_object_Check_v5_L1 w0 w1 w2 w3 (.e8 ) (ls.take 5 ++ ls.drop 5)).drop 5⟩ :=
  spc_of_goesM hU 0 (k0 := 5) (go_object_Check_v5_L1 hU w0 w1 w2 w3 _ _ h) (t0_object_Check_v5_L1_0 w0 w1 w2 w3 ) (pre_object_Check_v5_L1_0 w0 w1 w2 w3 ) (fun _ => rfl) (fun ls h => by match ls, h with | [l0, l1, l2, l3, l4], _ => exact ⟨by kernel_rfl, by kernel_rfl⟩) (fun ls h => by match ls, h with | [l0, l1, l2, l3, l4], _ => rfl) (by decide) (by decide) (fun ls => rfl)
theorem sp9_object_Check_v5_L1_0_ok (h : lpO (st_object_Check_v5_L1 w1 w3) (.c0) = some (.e9 )) : SpcG Try.prog M B0 S ⟨fun ls => .code (.loop bd_object_Check_v5_L1) (t0_object_Check_v5_L1_0 w0 w1 w2 w3  ls), pre_object_Check_v5_L1_0 w0 w1 w2 w3 , 1, (.exit 2), fun ls => vf_object_Check_v5_L1 w0 w1 w2 w3 (.e9 ) (ls.take 5 ++ ls.drop 5), fun ls => (Hf_object_Check_v5_L1 w0 w1 w2 w3 (.e9 ) (ls.take 5 ++ ls.drop 5)).take 5 ++ List.replicate 0 unb, fun ls => (Hf_object_Check_v5_L1 w0 w1 w2 w3 (.e9 ) (ls.take 5 ++ ls.drop 5)).drop 5⟩ :=
  spc_of_goesM hU 0 (k0 := 5) (go_object_Check_v5_L1 hU w0 w1 w2 w3 _ _ h) (t0_object_Check_v5_L1_0 w0 w1 w2 w3 ) (pre_object_Check_v5_L1_0 w0 w1 w2 w3 ) (fun _ => rfl) (fun ls h => by match ls, h with | [l0, l1, l2, l3, l4], _ => exact ⟨by kernel_rfl, by kernel_rfl⟩) (fun ls h => by match ls, h with | [l0, l1, l2, l3, l4], _ => rfl) (by decide) (by decide) (fun ls => rfl)
theorem sp10_object_Check_v5_L1_0_ok (h : lpO (st_object_Check_v5_L1 w1 w3) (.c0) = some (.e10 )) : SpcG Try.prog M B0 S ⟨fun ls => .code (.loop bd_object_Check_v5_L1) (t0_object_Check_v5_L1_0 w0 w1 w2 w3  ls), pre_object_Check_v5_L1_0 w0 w1 w2 w3 , 1, (.exit 2), fun ls => vf_object_Check_v5_L1 w0 w1 w2 w3 (.e10 ) (ls.take 5 ++ ls.drop 5), fun ls => (Hf_object_Check_v5_L1 w0 w1 w2 w3 (.e10 ) (ls.take 5 ++ ls.drop 5)).take 5 ++ List.replicate 0 unb, fun ls => (Hf_object_Check_v5_L1 w0 w1 w2 w3 (.e10 ) (ls.take 5 ++ ls.drop 5)).drop 5⟩ :=
  spc_of_goesM hU 0 (k0 := 5) (go_object_Check_v5_L1 hU w0 w1 w2 w3 _ _ h) (t0_object_Check_v5_L1_0 w0 w1 w2 w3 ) (pre_object_Check_v5_L1_0 w0 w1 w2 w3 ) (fun _ => rfl) (fun ls h => by match ls, h with | [l0, l1, l2, l3, l4], _ => exact ⟨by kernel_rfl, by kernel_rfl⟩) (fun ls h => by match ls, h with | [l0, l1, l2, l3, l4], _ => rfl) (by decide) (by decide) (fun ls => rfl)
theorem sp11_object_Check_v5_L1_0_ok (h : lpO (st_object_Check_v5_L1 w1 w3) (.c0) = some (.e11 )) : SpcG Try.prog M B0 S ⟨fun ls => .code (.loop bd_object_Check_v5_L1) (t0_object_Check_v5_L1_0 w0 w1 w2 w3  ls), pre_object_Check_v5_L1_0 w0 w1 w2 w3 , 1, (.exit 2), fun ls => vf_object_Check_v5_L1 w0 w1 w2 w3 (.e11 ) (ls.take 5 ++ ls.drop 5), fun ls => (Hf_object_Check_v5_L1 w0 w1 w2 w3 (.e11 ) (ls.take 5 ++ ls.drop 5)).take 5 ++ List.replicate 0 unb, fun ls => (Hf_object_Check_v5_L1 w0 w1 w2 w3 (.e11 ) (ls.take 5 ++ ls.drop 5)).drop 5⟩ :=
  spc_of_goesM hU 0 (k0 := 5) (go_object_Check_v5_L1 hU w0 w1 w2 w3 _ _ h) (t0_object_Check_v5_L1_0 w0 w1 w2 w3 ) (pre_object_Check_v5_L1_0 w0 w1 w2 w3 ) (fun _ => rfl) (fun ls h => by match ls, h with | [l0, l1, l2, l3, l4], _ => exact ⟨by kernel_rfl, by kernel_rfl⟩) (fun ls h => by match ls, h with | [l0, l1, l2, l3, l4], _ => rfl) (by decide) (by decide) (fun ls => rfl)
theorem sp12_object_Check_v5_L1_0_ok (h : lpO (st_object_Check_v5_L1 w1 w3) (.c0) = some (.e12 )) : SpcG Try.prog M B0 S ⟨fun ls => .code (.loop bd_object_Check_v5_L1) (t0_object_Check_v5_L1_0 w0 w1 w2 w3  ls), pre_object_Check_v5_L1_0 w0 w1 w2 w3 , 1, (.exit 2), fun ls => vf_object_Check_v5_L1 w0 w1 w2 w3 (.e12 ) (ls.take 5 ++ ls.drop 5), fun ls => (Hf_object_Check_v5_L1 w0 w1 w2 w3 (.e12 ) (ls.take 5 ++ ls.drop 5)).take 5 ++ List.replicate 0 unb, fun ls => (Hf_object_Check_v5_L1 w0 w1 w2 w3 (.e12 ) (ls.take 5 ++ ls.drop 5)).drop 5⟩ :=
  spc_of_goesM hU 0 (k0 := 5) (go_object_Check_v5_L1 hU w0 w1 w2 w3 _ _ h) (t0_object_Check_v5_L1_0 w0 w1 w2 w3 ) (pre_object_Check_v5_L1_0 w0 w1 w2 w3 ) (fun _ => rfl) (fun ls h => by match ls, h with | [l0, l1, l2, l3, l4], _ => exact ⟨by kernel_rfl, by kernel_rfl⟩) (fun ls h => by match ls, h with | [l0, l1, l2, l3, l4], _ => rfl) (by decide) (by decide) (fun ls => rfl)
theorem sp13_object_Check_v5_L1_0_ok (h : lpO (st_object_Check_v5_L1 w1 w3) (.c0) = some (.e13 )) : SpcG Try.prog M B0 S ⟨fun ls => .code (.loop bd_object_Check_v5_L1) (t0_object_Check_v5_L1_0 w0 w1 w2 w3  ls), pre_object_Check_v5_L1_0 w0 w1 w2 w3 , 1, (.exit 2), fun ls => vf_object_Check_v5_L1 w0 w1 w2 w3 (.e13 ) (ls.take 5 ++ ls.drop 5), fun ls => (Hf_object_Check_v5_L1 w0 w1 w2 w3 (.e13 ) (ls.take 5 ++ ls.drop 5)).take 5 ++ List.replicate 0 unb, fun ls => (Hf_object_Check_v5_L1 w0 w1 w2 w3 (.e13 ) (ls.take 5 ++ ls.drop 5)).drop 5⟩ :=
  spc_of_goesM hU 0 (k0 := 5) (go_object_Check_v5_L1 hU w0 w1 w2 w3 _ _ h) (t0_object_Check_v5_L1_0 w0 w1 w2 w3 ) (pre_object_Check_v5_L1_0 w0 w1 w2 w3 ) (fun _ => rfl) (fun ls h => by match ls, h with | [l0, l1, l2, l3, l4], _ => exact ⟨by kernel_rfl, by kernel_rfl⟩) (fun ls h => by match ls, h with | [l0, l1, l2, l3, l4], _ => rfl) (by decide) (by decide) (fun ls => rfl)
theorem sp14_object_Check_v5_L1_0_ok (h : lpO (st_object_Check_v5_L1 w1 w3) (.c0) = some (.e14 )) : SpcG Try.prog M B0 S ⟨fun ls => .code (.loop bd_object_Check_v5_L1) (t0_object_Check_v5_L1_0 w0 w1 w2 w3  ls), pre_object_Check_v5_L1_0 w0 w1 w2 w3 , 1, (.exit 2), fun ls => vf_object_Check_v5_L1 w0 w1 w2 w3 (.e14 ) (ls.take 5 ++ ls.drop 5), fun ls => (Hf_object_Check_v5_L1 w0 w1 w2 w3 (.e14 ) (ls.take 5 ++ ls.drop 5)).take 5 ++ List.replicate 0 unb, fun ls => (Hf_object_Check_v5_L1 w0 w1 w2 w3 (.e14 ) (ls.take 5 ++ ls.drop 5)).drop 5⟩ :=
  spc_of_goesM hU 0 (k0 := 5) (go_object_Check_v5_L1 hU w0 w1 w2 w3 _ _ h) (t0_object_Check_v5_L1_0 w0 w1 w2 w3 ) (pre_object_Check_v5_L1_0 w0 w1 w2 w3 ) (fun _ => rfl) (fun ls h => by match ls, h with | [l0, l1, l2, l3, l4], _ => exact ⟨by kernel_rfl, by kernel_rfl⟩) (fun ls h => by match ls, h with | [l0, l1, l2, l3, l4], _ => rfl) (by decide) (by decide) (fun ls => rfl)
theorem sp15_object_Check_v5_L1_0_ok (h : lpO (st_object_Check_v5_L1 w1 w3) (.c0) = some (.e15 )) : SpcG Try.prog M B0 S ⟨fun ls => .code (.loop bd_object_Check_v5_L1) (t0_object_Check_v5_L1_0 w0 w1 w2 w3  ls), pre_object_Check_v5_L1_0 w0 w1 w2 w3 , 1, (.exit 2), fun ls => vf_object_Check_v5_L1 w0 w1 w2 w3 (.e15 ) (ls.take 5 ++ ls.drop 5), fun ls => (Hf_object_Check_v5_L1 w0 w1 w2 w3 (.e15 ) (ls.take 5 ++ ls.drop 5)).take 5 ++ List.replicate 0 unb, fun ls => (Hf_object_Check_v5_L1 w0 w1 w2 w3 (.e15 ) (ls.take 5 ++ ls.drop 5)).drop 5⟩ :=
  spc_of_goesM hU 0 (k0 := 5) (go_object_Check_v5_L1 hU w0 w1 w2 w3 _ _ h) (t0_object_Check_v5_L1_0 w0 w1 w2 w3 ) (pre_object_Check_v5_L1_0 w0 w1 w2 w3 ) (fun _ => rfl) (fun ls h => by match ls, h with | [l0, l1, l2, l3, l4], _ => exact ⟨by kernel_rfl, by kernel_rfl⟩) (fun ls h => by match ls, h with | [l0, l1, l2, l3, l4], _ => rfl) (by decide) (by decide) (fun ls => rfl)
theorem sp16_object_Check_v5_L1_0_ok (h : lpO (st_object_Check_v5_L1 w1 w3) (.c0) = some (.e16 )) : SpcG Try.prog M B0 S ⟨fun ls => .code (.loop bd_object_Check_v5_L1) (t0_object_Check_v5_L1_0 w0 w1 w2 w3  ls), pre_object_Check_v5_L1_0 w0 w1 w2 w3 , 1, (.exit 2), fun ls => vf_object_Check_v5_L1 w0 w1 w2 w3 (.e16 ) (ls.take 5 ++ ls.drop 5), fun ls => (Hf_object_Check_v5_L1 w0 w1 w2 w3 (.e16 ) (ls.take 5 ++ ls.drop 5)).take 5 ++ List.replicate 0 unb, fun ls => (Hf_object_Check_v5_L1 w0 w1 w2 w3 (.e16 ) (ls.take 5 ++ ls.drop 5)).drop 5⟩ :=
  spc_of_goesM hU 0 (k0 := 5) (go_object_Check_v5_L1 hU w0 w1 w2 w3 _ _ h) (t0_object_Check_v5_L1_0 w0 w1 w2 w3 ) (pre_object_Check_v5_L1_0 w0 w1 w2 w3 ) (fun _ => rfl) (fun ls h => by match ls, h with | [l0, l1, l2, l3, l4], _ => exact ⟨by kernel_rfl, by kernel_rfl⟩) (fun ls h => by match ls, h with | [l0, l1, l2, l3, l4], _ => rfl) (by decide) (by decide) (fun ls => rfl)
theorem sp17_object_Check_v5_L1_0_ok (h : lpO (st_object_Check_v5_L1 w1 w3) (.c0) = some (.e17 )) : SpcG Try.prog M B0 S ⟨fun ls => .code (.loop bd_object_Check_v5_L1) (t0_object_Check_v5_L1_0 w0 w1 w2 w3  ls), pre_object_Check_v5_L1_0 w0 w1 w2 w3 , 1, .ret, fun ls => vf_object_Check_v5_L1 w0 w1 w2 w3 (.e17 ) (ls.take 5 ++ ls.drop 5), fun ls => (Hf_object_Check_v5_L1 w0 w1 w2 w3 (.e17 ) (ls.take 5 ++ ls.drop 5)).take 5 ++ List.replicate 0 unb, fun ls => (Hf_object_Check_v5_L1 w0 w1 w2 w3 (.e17 ) (ls.take 5 ++ ls.drop 5)).drop 5⟩ :=
  spc_of_goesM hU 0 (k0 := 5) (go_object_Check_v5_L1 hU w0 w1 w2 w3 _ _ h) (t0_object_Check_v5_L1_0 w0 w1 w2 w3 ) (pre_object_Check_v5_L1_0 w0 w1 w2 w3 ) (fun _ => rfl) (fun ls h => by match ls, h with | [l0, l1, l2, l3, l4], _ => exact ⟨by kernel_rfl, by kernel_rfl⟩) (fun ls h => by match ls, h with | [l0, l1, l2, l3, l4], _ => rfl) (by decide) (by decide) (fun ls => rfl)
theorem sp18_object_Check_v5_L1_0_ok (h : lpO (st_object_Check_v5_L1 w1 w3) (.c0) = some (.e18 )) : SpcG Try.prog M B0 S ⟨fun ls => .code (.loop bd_object_Check_v5_L1) (t0_object_Check_v5_L1_0 w0 w1 w2 w3  ls), pre_object_Check_v5_L1_0 w0 w1 w2 w3 , 1, .ret, fun ls => vf_object_Check_v5_L1 w0 w1 w2 w3 (.e18 ) (ls.take 5 ++ ls.drop 5), fun ls => (Hf_object_Check_v5_L1 w0 w1 w2 w3 (.e18 ) (ls.take 5 ++ ls.drop 5)).take 5 ++ List.replicate 0 unb, fun ls => (Hf_object_Check_v5_L1 w0 w1 w2 w3 (.e18 ) (ls.take 5 ++ ls.drop 5)).drop 5⟩ :=
  spc_of_goesM hU 0 (k0 := 5) (go_object_Check_v5_L1 hU w0 w1 w2 w3 _ _ h) (t0_object_Check_v5_L1_0 w0 w1 w2 w3 ) (pre_object_Check_v5_L1_0 w0 w1 w2 w3 ) (fun _ => rfl) (fun ls h => by match ls, h with | [l0, l1, l2, l3, l4], _ => exact ⟨by kernel_rfl, by kernel_rfl⟩) (fun ls h => by match ls, h with | [l0, l1, l2, l3, l4], _ => rfl) (by decide) (by decide) (fun ls => rfl)
theorem sp19_object_Check_v5_L1_0_ok (h : lpO (st_object_Check_v5_L1 w1 w3) (.c0) = some (.e19 )) : SpcG Try.prog M B0 S ⟨fun ls => .code (.loop bd_object_Check_v5_L1) (t0_object_Check_v5_L1_0 w0 w1 w2 w3  ls), pre_object_Check_v5_L1_0 w0 w1 w2 w3 , 1, .ret, fun ls => vf_object_Check_v5_L1 w0 w1 w2 w3 (.e19 ) (ls.take 5 ++ ls.drop 5), fun ls => (Hf_object_Check_v5_L1 w0 w1 w2 w3 (.e19 ) (ls.take 5 ++ ls.drop 5)).take 5 ++ List.replicate 0 unb, fun ls => (Hf_object_Check_v5_L1 w0 w1 w2 w3 (.e19 ) (ls.take 5 ++ ls.drop 5)).drop 5⟩ :=
  spc_of_goesM hU 0 (k0 := 5) (go_object_Check_v5_L1 hU w0 w1 w2 w3 _ _ h) (t0_object_Check_v5_L1_0 w0 w1 w2 w3 ) (pre_object_Check_v5_L1_0 w0 w1 w2 w3 ) (fun _ => rfl) (fun ls h => by match ls, h with | [l0, l1, l2, l3, l4], _ => exact ⟨by kernel_rfl, by kernel_rfl⟩) (fun ls h => by match ls, h with | [l0, l1, l2, l3, l4], _ => rfl) (by decide) (by decide) (fun ls => rfl)
theorem sp20_object_Check_v5_L1_0_ok (h : lpO (st_object_Check_v5_L1 w1 w3) (.c0) = some (.e20 )) : SpcG Try.prog M B0 S ⟨fun ls => .code (.loop bd_object_Check_v5_L1) (t0_object_Check_v5_L1_0 w0 w1 w2 w3  ls), pre_object_Check_v5_L1_0 w0 w1 w2 w3 , 1, .ret, fun ls => vf_object_Check_v5_L1 w0 w1 w2 w3 (.e20 ) (ls.take 5 ++ ls.drop 5), fun ls => (Hf_object_Check_v5_L1 w0 w1 w2 w3 (.e20 ) (ls.take 5 ++ ls.drop 5)).take 5 ++ List.replicate 0 unb, fun ls => (Hf_object_Check_v5_L1 w0 w1 w2 w3 (.e20 ) (ls.take 5 ++ ls.drop 5)).drop 5⟩ :=
  spc_of_goesM hU 0 (k0 := 5) (go_object_Check_v5_L1 hU w0 w1 w2 w3 _ _ h) (t0_object_Check_v5_L1_0 w0 w1 w2 w3 ) (pre_object_Check_v5_L1_0 w0 w1 w2 w3 ) (fun _ => rfl) (fun ls h => by match ls, h with | [l0, l1, l2, l3, l4], _ => exact ⟨by kernel_rfl, by kernel_rfl⟩) (fun ls h => by match ls, h with | [l0, l1, l2, l3, l4], _ => rfl) (by decide) (by decide) (fun ls => rfl)
theorem sp21_object_Check_v5_L1_0_ok (h : lpO (st_object_Check_v5_L1 w1 w3) (.c0) = some (.e21 )) : SpcG Try.prog M B0 S ⟨fun ls => .code (.loop bd_object_Check_v5_L1) (t0_object_Check_v5_L1_0 w0 w1 w2 w3  ls), pre_object_Check_v5_L1_0 w0 w1 w2 w3 , 1, .ret, fun ls => vf_object_Check_v5_L1 w0 w1 w2 w3 (.e21 ) (ls.take 5 ++ ls.drop 5), fun ls => (Hf_object_Check_v5_L1 w0 w1 w2 w3 (.e21 ) (ls.take 5 ++ ls.drop 5)).take 5 ++ List.replicate 0 unb, fun ls => (Hf_object_Check_v5_L1 w0 w1 w2 w3 (.e21 ) (ls.take 5 ++ ls.drop 5)).drop 5⟩ :=
  spc_of_goesM hU 0 (k0 := 5) (go_object_Check_v5_L1 hU w0 w1 w2 w3 _ _ h) (t0_object_Check_v5_L1_0 w0 w1 w2 w3 ) (pre_object_Check_v5_L1_0 w0 w1 w2 w3 ) (fun _ => rfl) (fun ls h => by match ls, h with | [l0, l1, l2, l3, l4], _ => exact ⟨by kernel_rfl, by kernel_rfl⟩) (fun ls h => by match ls, h with | [l0, l1, l2, l3, l4], _ => rfl) (by decide) (by decide) (fun ls => rfl)
theorem sp22_object_Check_v5_L1_0_ok (h : lpO (st_object_Check_v5_L1 w1 w3) (.c0) = some (.e22 )) : SpcG Try.prog M B0 S ⟨fun ls => .code (.loop bd_object_Check_v5_L1) (t0_object_Check_v5_L1_0 w0 w1 w2 w3  ls), pre_object_Check_v5_L1_0 w0 w1 w2 w3 , 1, .ret, fun ls => vf_object_Check_v5_L1 w0 w1 w2 w3 (.e22 ) (ls.take 5 ++ ls.drop 5), fun ls => (Hf_object_Check_v5_L1 w0 w1 w2 w3 (.e22 ) (ls.take 5 ++ ls.drop 5)).take 5 ++ List.replicate 0 unb, fun ls => (Hf_object_Check_v5_L1 w0 w1 w2 w3 (.e22 ) (ls.take 5 ++ ls.drop 5)).drop 5⟩ :=
  spc_of_goesM hU 0 (k0 := 5) (go_object_Check_v5_L1 hU w0 w1 w2 w3 _ _ h) (t0_object_Check_v5_L1_0 w0 w1 w2 w3 ) (pre_object_Check_v5_L1_0 w0 w1 w2 w3 ) (fun _ => rfl) (fun ls h => by match ls, h with | [l0, l1, l2, l3, l4], _ => exact ⟨by kernel_rfl, by kernel_rfl⟩) (fun ls h => by match ls, h with | [l0, l1, l2, l3, l4], _ => rfl) (by decide) (by decide) (fun ls => rfl)
theorem sp23_object_Check_v5_L1_0_ok (h : lpO (st_object_Check_v5_L1 w1 w3) (.c0) = some (.e23 )) : SpcG Try.prog M B0 S ⟨fun ls => .code (.loop bd_object_Check_v5_L1) (t0_object_Check_v5_L1_0 w0 w1 w2 w3  ls), pre_object_Check_v5_L1_0 w0 w1 w2 w3 , 1, .ret, fun ls => vf_object_Check_v5_L1 w0 w1 w2 w3 (.e23 ) (ls.take 5 ++ ls.drop 5), fun ls => (Hf_object_Check_v5_L1 w0 w1 w2 w3 (.e23 ) (ls.take 5 ++ ls.drop 5)).take 5 ++ List.replicate 0 unb, fun ls => (Hf_object_Check_v5_L1 w0 w1 w2 w3 (.e23 ) (ls.take 5 ++ ls.drop 5)).drop 5⟩ :=
  spc_of_goesM hU 0 (k0 := 5) (go_object_Check_v5_L1 hU w0 w1 w2 w3 _ _ h) (t0_object_Check_v5_L1_0 w0 w1 w2 w3 ) (pre_object_Check_v5_L1_0 w0 w1 w2 w3 ) (fun _ => rfl) (fun ls h => by match ls, h with | [l0, l1, l2, l3, l4], _ => exact ⟨by kernel_rfl, by kernel_rfl⟩) (fun ls h => by match ls, h with | [l0, l1, l2, l3, l4], _ => rfl) (by decide) (by decide) (fun ls => rfl)
theorem sp24_object_Check_v5_L1_0_ok (h : lpO (st_object_Check_v5_L1 w1 w3) (.c0) = some (.e24 )) : SpcG Try.prog M B0 S ⟨fun ls => .code (.loop bd_object_Check_v5_L1) (t0_object_Check_v5_L1_0 w0 w1 w2 w3  ls), pre_object_Check_v5_L1_0 w0 w1 w2 w3 , 1, .ret, fun ls => vf_object_Check_v5_L1 w0 w1 w2 w3 (.e24 ) (ls.take 5 ++ ls.drop 5), fun ls => (Hf_object_Check_v5_L1 w0 w1 w2 w3 (.e24 ) (ls.take 5 ++ ls.drop 5)).take 5 ++ List.replicate 0 unb, fun ls => (Hf_object_Check_v5_L1 w0 w1 w2 w3 (.e24 ) (ls.take 5 ++ ls.drop 5)).drop 5⟩ :=
  spc_of_goesM hU 0 (k0 := 5) (go_object_Check_v5_L1 hU w0 w1 w2 w3 _ _ h) (t0_object_Check_v5_L1_0 w0 w1 w2 w3 ) (pre_object_Check_v5_L1_0 w0 w1 w2 w3 ) (fun _ => rfl) (fun ls h => by match ls, h with | [l0, l1, l2, l3, l4], _ => exact ⟨by kernel_rfl, by kernel_rfl⟩) (fun ls h => by match ls, h with | [l0, l1, l2, l3, l4], _ => rfl) (by decide) (by decide) (fun ls => rfl)
theorem sp25_object_Check_v5_L1_0_ok (h : lpO (st_object_Check_v5_L1 w1 w3) (.c0) = some (.e25 )) : SpcG Try.prog M B0 S ⟨fun ls => .code (.loop bd_object_Check_v5_L1) (t0_object_Check_v5_L1_0 w0 w1 w2 w3  ls), pre_object_Check_v5_L1_0 w0 w1 w2 w3 , 1, .ret, fun ls => vf_object_Check_v5_L1 w0 w1 w2 w3 (.e25 ) (ls.take 5 ++ ls.drop 5), fun ls => (Hf_object_Check_v5_L1 w0 w1 w2 w3 (.e25 ) (ls.take 5 ++ ls.drop 5)).take 5 ++ List.replicate 0 unb, fun ls => (Hf_object_Check_v5_L1 w0 w1 w2 w3 (.e25 ) (ls.take 5 ++ ls.drop 5)).drop 5⟩ :=
  spc_of_goesM hU 0 (k0 := 5) (go_object_Check_v5_L1 hU w0 w1 w2 w3 _ _ h) (t0_object_Check_v5_L1_0 w0 w1 w2 w3 ) (pre_object_Check_v5_L1_0 w0 w1 w2 w3 ) (fun _ => rfl) (fun ls h => by match ls, h with | [l0, l1, l2, l3, l4], _ => exact ⟨by kernel_rfl, by kernel_rfl⟩) (fun ls h => by match ls, h with | [l0, l1, l2, l3, l4], _ => rfl) (by decide) (by decide) (fun ls => rfl)
theorem sp26_object_Check_v5_L1_0_ok (h : lpO (st_object_Check_v5_L1 w1 w3) (.c0) = some (.e26 )) : SpcG Try.prog M B0 S ⟨fun ls => .code (.loop bd_object_Check_v5_L1) (t0_object_Check_v5_L1_0 w0 w1 w2 w3  ls), pre_object_Check_v5_L1_0 w0 w1 w2 w3 , 1, .ret, fun ls => vf_object_Check_v5_L1 w0 w1 w2 w3 (.e26 ) (ls.take 5 ++ ls.drop 5), fun ls => (Hf_object_Check_v5_L1 w0 w1 w2 w3 (.e26 ) (ls.take 5 ++ ls.drop 5)).take 5 ++ List.replicate 0 unb, fun ls => (Hf_object_Check_v5_L1 w0 w1 w2 w3 (.e26 ) (ls.take 5 ++ ls.drop 5)).drop 5⟩ :=
  spc_of_goesM hU 0 (k0 := 5) (go_object_Check_v5_L1 hU w0 w1 w2 w3 _ _ h) (t0_object_Check_v5_L1_0 w0 w1 w2 w3 ) (pre_object_Check_v5_L1_0 w0 w1 w2 w3 ) (fun _ => rfl) (fun ls h => by match ls, h with | [l0, l1, l2, l3, l4], _ => exact ⟨by kernel_rfl, by kernel_rfl⟩) (fun ls h => by match ls, h with | [l0, l1, l2, l3, l4], _ => rfl) (by decide) (by decide) (fun ls => rfl)
theorem sp27_object_Check_v5_L1_0_ok (h : lpO (st_object_Check_v5_L1 w1 w3) (.c0) = some (.e27 )) : SpcG Try.prog M B0 S ⟨fun ls => .code (.loop bd_object_Check_v5_L1) (t0_object_Check_v5_L1_0 w0 w1 w2 w3  ls), pre_object_Check_v5_L1_0 w0 w1 w2 w3 , 1, .ret, fun ls => vf_object_Check_v5_L1 w0 w1 w2 w3 (.e27 ) (ls.take 5 ++ ls.drop 5), fun ls => (Hf_object_Check_v5_L1 w0 w1 w2 w3 (.e27 ) (ls.take 5 ++ ls.drop 5)).take 5 ++ List.replicate 0 unb, fun ls => (Hf_object_Check_v5_L1 w0 w1 w2 w3 (.e27 ) (ls.take 5 ++ ls.drop 5)).drop 5⟩ :=
  spc_of_goesM hU 0 (k0 := 5) (go_object_Check_v5_L1 hU w0 w1 w2 w3 _ _ h) (t0_object_Check_v5_L1_0 w0 w1 w2 w3 ) (pre_object_Check_v5_L1_0 w0 w1 w2 w3 ) (fun _ => rfl) (fun ls h => by match ls, h with | [l0, l1, l2, l3, l4], _ => exact ⟨by kernel_rfl, by kernel_rfl⟩) (fun ls h => by match ls, h with | [l0, l1, l2, l3, l4], _ => rfl) (by decide) (by decide) (fun ls => rfl)
theorem sp28_object_Check_v5_L1_0_ok (h : lpO (st_object_Check_v5_L1 w1 w3) (.c0) = some (.e28 )) : SpcG Try.prog M B0 S ⟨fun ls => .code (.loop bd_object_Check_v5_L1) (t0_object_Check_v5_L1_0 w0 w1 w2 w3  ls), pre_object_Check_v5_L1_0 w0 w1 w2 w3 , 1, .ret, fun ls => vf_object_Check_v5_L1 w0 w1 w2 w3 (.e28 ) (ls.take 5 ++ ls.drop 5), fun ls => (Hf_object_Check_v5_L1 w0 w1 w2 w3 (.e28 ) (ls.take 5 ++ ls.drop 5)).take 5 ++ List.replicate 0 unb, fun ls => (Hf_object_Check_v5_L1 w0 w1 w2 w3 (.e28 ) (ls.take 5 ++ ls.drop 5)).drop 5⟩ :=
  spc_of_goesM hU 0 (k0 := 5) (go_object_Check_v5_L1 hU w0 w1 w2 w3 _ _ h) (t0_object_Check_v5_L1_0 w0 w1 w2 w3 ) (pre_object_Check_v5_L1_0 w0 w1 w2 w3 ) (fun _ => rfl) (fun ls h => by match ls, h with | [l0, l1, l2, l3, l4], _ => exact ⟨by kernel_rfl, by kernel_rfl⟩) (fun ls h => by match ls, h with | [l0, l1, l2, l3, l4], _ => rfl) (by decide) (by decide) (fun ls => rfl)
theorem sp29_object_Check_v5_L1_0_ok (h : lpO (st_object_Check_v5_L1 w1 w3) (.c0) = some (.e29 )) : SpcG Try.prog M B0 S ⟨fun ls => .code (.loop bd_object_Check_v5_L1) (t0_object_Check_v5_L1_0 w0 w1 w2 w3  ls), pre_object_Check_v5_L1_0 w0 w1 w2 w3 , 1, .ret, fun ls => vf_object_Check_v5_L1 w0 w1 w2 w3 (.e29 ) (ls.take 5 ++ ls.drop 5), fun ls => (Hf_object_Check_v5_L1 w0 w1 w2 w3 (.e29 ) (ls.take 5 ++ ls.drop 5)).take 5 ++ List.replicate 0 unb, fun ls => (Hf_object_Check_v5_L1 w0 w1 w2 w3 (.e29 ) (ls.take 5 ++ ls.drop 5)).drop 5⟩ :=
  spc_of_goesM hU 0 (k0 := 5) (go_object_Check_v5_L1 hU w0 w1 w2 w3 _ _ h) (t0_object_Check_v5_L1_0 w0 w1 w2 w3 ) (pre_object_Check_v5_L1_0 w0 w1 w2 w3 ) (fun _ => rfl) (fun ls h => by match ls, h with | [l0, l1, l2, l3, l4], _ => exact ⟨by kernel_rfl, by kernel_rfl⟩) (fun ls h => by match ls, h with | [l0, l1, l2, l3, l4], _ => rfl) (by decide) (by decide) (fun ls => rfl)
theorem sp30_object_Check_v5_L1_0_ok (h : lpO (st_object_Check_v5_L1 w1 w3) (.c0) = some (.e30 )) : SpcG Try.prog M B0 S ⟨fun ls => .code (.loop bd_object_Check_v5_L1) (t0_object_Check_v5_L1_0 w0 w1 w2 w3  ls), pre_object_Check_v5_L1_0 w0 w1 w2 w3 , 1, .ret, fun ls => vf_object_Check_v5_L1 w0 w1 w2 w3 (.e30 ) (ls.take 5 ++ ls.drop 5), fun ls => (Hf_object_Check_v5_L1 w0 w1 w2 w3 (.e30 ) (ls.take 5 ++ ls.drop 5)).take 5 ++ List.replicate 0 unb, fun ls => (Hf_object_Check_v5_L1 w0 w1 w2 w3 (.e30 ) (ls.take 5 ++ ls.drop 5)).drop 5⟩ :=
  spc_of_goesM hU 0 (k0 := 5) (go_object_Check_v5_L1 hU w0 w1 w2 w3 _ _ h) (t0_object_Check_v5_L1_0 w0 w1 w2 w3 ) (pre_object_Check_v5_L1_0 w0 w1 w2 w3 ) (fun _ => rfl) (fun ls h => by match ls, h with | [l0, l1, l2, l3, l4], _ => exact ⟨by kernel_rfl, by kernel_rfl⟩) (fun ls h => by match ls, h with | [l0, l1, l2, l3, l4], _ => rfl) (by decide) (by decide) (fun ls => rfl)
theorem sp31_object_Check_v5_L1_0_ok (h : lpO (st_object_Check_v5_L1 w1 w3) (.c0) = some (.e31 )) : SpcG Try.prog M B0 S ⟨fun ls => .code (.loop bd_object_Check_v5_L1) (t0_object_Check_v5_L1_0 w0 w1 w2 w3  ls), pre_object_Check_v5_L1_0 w0 w1 w2 w3 , 1, .ret, fun ls => vf_object_Check_v5_L1 w0 w1 w2 w3 (.e31 ) (ls.take 5 ++ ls.drop 5), fun ls => (Hf_object_Check_v5_L1 w0 w1 w2 w3 (.e31 ) (ls.take 5 ++ ls.drop 5)).take 5 ++ List.replicate 0 unb, fun ls => (Hf_object_Check_v5_L1 w0 w1 w2 w3 (.e31 ) (ls.take 5 ++ ls.drop 5)).drop 5⟩ :=
  spc_of_goesM hU 0 (k0 := 5) (go_object_Check_v5_L1 hU w0 w1 w2 w3 _ _ h) (t0_object_Check_v5_L1_0 w0 w1 w2 w3 ) (pre_object_Check_v5_L1_0 w0 w1 w2 w3 ) (fun _ => rfl) (fun ls h => by match ls, h with | [l0, l1, l2, l3, l4], _ => exact ⟨by kernel_rfl, by kernel_rfl⟩) (fun ls h => by match ls, h with | [l0, l1, l2, l3, l4], _ => rfl) (by decide) (by decide) (fun ls => rfl)
theorem sp32_object_Check_v5_L1_0_ok (h : lpO (st_object_Check_v5_L1 w1 w3) (.c0) = some (.e32 )) : SpcG Try.prog M B0 S ⟨fun ls => .code (.loop bd_object_Check_v5_L1) (t0_object_Check_v5_L1_0 w0 w1 w2 w3  ls), pre_object_Check_v5_L1_0 w0 w1 w2 w3 , 1, .ret, fun ls => vf_object_Check_v5_L1 w0 w1 w2 w3 (.e32 ) (ls.take 5 ++ ls.drop 5), fun ls => (Hf_object_Check_v5_L1 w0 w1 w2 w3 (.e32 ) (ls.take 5 ++ ls.drop 5)).take 5 ++ List.replicate 0 unb, fun ls => (Hf_object_Check_v5_L1 w0 w1 w2 w3 (.e32 ) (ls.take 5 ++ ls.drop 5)).drop 5⟩ :=
  spc_of_goesM hU 0 (k0 := 5) (go_object_Check_v5_L1 hU w0 w1 w2 w3 _ _ h) (t0_object_Check_v5_L1_0 w0 w1 w2 w3 ) (pre_object_Check_v5_L1_0 w0 w1 w2 w3 ) (fun _ => rfl) (fun ls h => by match ls, h with | [l0, l1, l2, l3, l4], _ => exact ⟨by kernel_rfl, by kernel_rfl⟩) (fun ls h => by match ls, h with | [l0, l1, l2, l3, l4], _ => rfl) (by decide) (by decide) (fun ls => rfl)
inductive R_object_Check_v5 where
  | e0 (c0_0 : Int) (c0_1 : Int)
noncomputable def m_object_Check_v5 (w0 : Nat) (w1 : Nat) (w2 : Nat → MapDef) (w3 : Nat → ByteArray) : Option R_object_Check_v5 :=
  (lpO (st_object_Check_v5_L0 w0 w2) (.c0 0)).bind fun g0 => match g0 with
  | .e0  => (bif (w1 : Int) == 0 then
      (some (.e0 0 52))
    else (bif decide (16 < (w1 : Int)) then
      (some (.e0 0 52))
    else ((lpO (st_object_Check_v5_L1 w1 w3) (.c0)).bind fun g1 => match g1 with
    | .e0  => (some (.e0 0 0))
    | .e1  => (some (.e0 0 0))
    | .e2  => (some (.e0 0 0))
    | .e3  => (some (.e0 0 0))
    | .e4  => (some (.e0 0 0))
    | .e5  => (some (.e0 0 0))
    | .e6  => (some (.e0 0 0))
    | .e7  => (some (.e0 0 0))
    | .e8  => (some (.e0 0 0))
    | .e9  => (some (.e0 0 0))
    | .e10  => (some (.e0 0 0))
    | .e11  => (some (.e0 0 0))
    | .e12  => (some (.e0 0 0))
    | .e13  => (some (.e0 0 0))
    | .e14  => (some (.e0 0 0))
    | .e15  => (some (.e0 0 0))
    | .e16  => (some (.e0 0 0))
    | .e17  => (some (.e0 1 52))
    | .e18  => (some (.e0 2 52))
    | .e19  => (some (.e0 3 52))
    | .e20  => (some (.e0 4 52))
    | .e21  => (some (.e0 5 52))
    | .e22  => (some (.e0 6 52))
    | .e23  => (some (.e0 7 52))
    | .e24  => (some (.e0 8 52))
    | .e25  => (some (.e0 9 52))
    | .e26  => (some (.e0 10 52))
    | .e27  => (some (.e0 11 52))
    | .e28  => (some (.e0 12 52))
    | .e29  => (some (.e0 13 52))
    | .e30  => (some (.e0 14 52))
    | .e31  => (some (.e0 15 52))
    | .e32  => (some (.e0 16 52)))))
  | .e1 g0_0 => (some (.e0 g0_0 51))
def sq0_object_Check_v5 (w0 : Nat) (w1 : Nat) (w2 : Nat → MapDef) (w3 : Nat → ByteArray) (c0_0 : Int) (c0_1 : Int) : Spc := ⟨fun ls => .call 5 #[.agg #[.slice none 0 0, (rowV (lget ls 0) w0 6), (rowV (rrL (lget ls 1)) w1 2)]], fun ls => [rowO (lget ls 0) (esG c_MapDef w0 w2) 29 w0 6, rsO hdS tlS 2 (lget ls 1) 35 32 c_Insn 5 w1 (fun _ => (2, (fun k => if k = 0 then (⟨183#8, 0#8, 0#8, 0#16, 0#32⟩ : Insn) else (⟨149#8, 0#8, 0#8, 0#16, 0#32⟩ : Insn)))) w3], 0, .normal, fun ls => [.tuple #[.int .i64 (c0_0), .int .i64 (c0_1)]], fun ls => [rowO (lget ls 0) (esG c_MapDef w0 w2) 29 w0 6, rsO hdS tlS 2 (lget ls 1) 35 32 c_Insn 5 w1 (fun _ => (2, (fun k => if k = 0 then (⟨183#8, 0#8, 0#8, 0#16, 0#32⟩ : Insn) else (⟨149#8, 0#8, 0#8, 0#16, 0#32⟩ : Insn)))) w3], fun ls => []⟩
theorem ok0_object_Check_v5 (c0_0 : Int) (c0_1 : Int) (e : m_object_Check_v5 w0 w1 w2 w3 = some (.e0 c0_0 c0_1)) : SpcG Try.prog M B0 S (sq0_object_Check_v5 w0 w1 w2 w3 c0_0 c0_1) := by
  unfold m_object_Check_v5 at e
  replace e := bindO_eq e
  obtain ⟨g0, e_g0, e⟩ := e
  let P1 : List (PG Try.prog M B0 S) := [.o, .o, .o, .o, .a 2, .cg (ok_btf_Check_v2 hU  ), .o, .o, .o, .o, .o, .o, .o, .o, .a 2, .o, .o, .cp]
  rcases g0 with _ | ⟨g0_0⟩
  · try dsimp only at e
    replace e := cond_eq_or e
    let P2 : List (PG Try.prog M B0 S) := P1 ++ [.cx (sp0_object_Check_v5_L0_0_ok hU w0 w1 w2 w3 0  e_g0) [0, 1, 2], .o, .a 2, .o]
    rcases e with ⟨hq0, e⟩ | ⟨hq0, e⟩
    · injection e with e; injection e with i0 i1; subst i0 i1; exact fn_specG hU (P := Try.prog) Try.func5 (fun xs w => by kernel_rfl) 2 _ _ (fun _ => rfl) _ _ _ [] (P2 ++ [.b (z_eqlT hq0), .o, .o, .o, .o]) [] (fun b => by kernel_rfl)
    · replace e := cond_eq_or e
      let P3 : List (PG Try.prog M B0 S) := P2 ++ [.b (z_eqlF hq0), .o, .o, .a 2, .o]
      rcases e with ⟨hq1, e⟩ | ⟨hq1, e⟩
      · injection e with e; injection e with i0 i1; subst i0 i1; exact fn_specG hU (P := Try.prog) Try.func5 (fun xs w => by kernel_rfl) 2 _ _ (fun _ => rfl) _ _ _ [] (P3 ++ [.b (z_gtrT hq1), .o, .o, .o]) [] (fun b => by kernel_rfl)
      · replace e := bindO_eq e
        obtain ⟨g1, e_g1, e⟩ := e
        let P4 : List (PG Try.prog M B0 S) := P3 ++ [.b (z_gtrF hq1), .o, .o, .o, .o, .a 2, .o, .o, .cp]
        rcases g1 with _ | _ | _ | _ | _ | _ | _ | _ | _ | _ | _ | _ | _ | _ | _ | _ | _ | _ | _ | _ | _ | _ | _ | _ | _ | _ | _ | _ | _ | _ | _ | _ | _
        · try dsimp only at e
          injection e with e; injection e with i0 i1; subst i0 i1; exact fn_specG hU (P := Try.prog) Try.func5 (fun xs w => by kernel_rfl) 2 _ _ (fun _ => rfl) _ _ _ [] (P4 ++ [.cx (sp0_object_Check_v5_L1_0_ok hU w0 w1 w2 w3   e_g1) [0, 1, 2, 3, 4], .o, .o]) [] (fun b => by kernel_rfl)
        · try dsimp only at e
          injection e with e; injection e with i0 i1; subst i0 i1; exact fn_specG hU (P := Try.prog) Try.func5 (fun xs w => by kernel_rfl) 2 _ _ (fun _ => rfl) _ _ _ [] (P4 ++ [.cx (sp1_object_Check_v5_L1_0_ok hU w0 w1 w2 w3   e_g1) [0, 1, 2, 3, 4], .o, .o]) [] (fun b => by kernel_rfl)
        · try dsimp only at e
          injection e with e; injection e with i0 i1; subst i0 i1; exact fn_specG hU (P := Try.prog) Try.func5 (fun xs w => by kernel_rfl) 2 _ _ (fun _ => rfl) _ _ _ [] (P4 ++ [.cx (sp2_object_Check_v5_L1_0_ok hU w0 w1 w2 w3   e_g1) [0, 1, 2, 3, 4], .o, .o]) [] (fun b => by kernel_rfl)
        · try dsimp only at e
          injection e with e; injection e with i0 i1; subst i0 i1; exact fn_specG hU (P := Try.prog) Try.func5 (fun xs w => by kernel_rfl) 2 _ _ (fun _ => rfl) _ _ _ [] (P4 ++ [.cx (sp3_object_Check_v5_L1_0_ok hU w0 w1 w2 w3   e_g1) [0, 1, 2, 3, 4], .o, .o]) [] (fun b => by kernel_rfl)
        · try dsimp only at e
          injection e with e; injection e with i0 i1; subst i0 i1; exact fn_specG hU (P := Try.prog) Try.func5 (fun xs w => by kernel_rfl) 2 _ _ (fun _ => rfl) _ _ _ [] (P4 ++ [.cx (sp4_object_Check_v5_L1_0_ok hU w0 w1 w2 w3   e_g1) [0, 1, 2, 3, 4], .o, .o]) [] (fun b => by kernel_rfl)
        · try dsimp only at e
          injection e with e; injection e with i0 i1; subst i0 i1; exact fn_specG hU (P := Try.prog) Try.func5 (fun xs w => by kernel_rfl) 2 _ _ (fun _ => rfl) _ _ _ [] (P4 ++ [.cx (sp5_object_Check_v5_L1_0_ok hU w0 w1 w2 w3   e_g1) [0, 1, 2, 3, 4], .o, .o]) [] (fun b => by kernel_rfl)
        · try dsimp only at e
          injection e with e; injection e with i0 i1; subst i0 i1; exact fn_specG hU (P := Try.prog) Try.func5 (fun xs w => by kernel_rfl) 2 _ _ (fun _ => rfl) _ _ _ [] (P4 ++ [.cx (sp6_object_Check_v5_L1_0_ok hU w0 w1 w2 w3   e_g1) [0, 1, 2, 3, 4], .o, .o]) [] (fun b => by kernel_rfl)
        · try dsimp only at e
          injection e with e; injection e with i0 i1; subst i0 i1; exact fn_specG hU (P := Try.prog) Try.func5 (fun xs w => by kernel_rfl) 2 _ _ (fun _ => rfl) _ _ _ [] (P4 ++ [.cx (sp7_object_Check_v5_L1_0_ok hU w0 w1 w2 w3   e_g1) [0, 1, 2, 3, 4], .o, .o]) [] (fun b => by kernel_rfl)
        · try dsimp only at e
          injection e with e; injection e with i0 i1; subst i0 i1; exact fn_specG hU (P := Try.prog) Try.func5 (fun xs w => by kernel_rfl) 2 _ _ (fun _ => rfl) _ _ _ [] (P4 ++ [.cx (sp8_object_Check_v5_L1_0_ok hU w0 w1 w2 w3   e_g1) [0, 1, 2, 3, 4], .o, .o]) [] (fun b => by kernel_rfl)
        · try dsimp only at e
          injection e with e; injection e with i0 i1; subst i0 i1; exact fn_specG hU (P := Try.prog) Try.func5 (fun xs w => by kernel_rfl) 2 _ _ (fun _ => rfl) _ _ _ [] (P4 ++ [.cx (sp9_object_Check_v5_L1_0_ok hU w0 w1 w2 w3   e_g1) [0, 1, 2, 3, 4], .o, .o]) [] (fun b => by kernel_rfl)
        · try dsimp only at e
          injection e with e; injection e with i0 i1; subst i0 i1; exact fn_specG hU (P := Try.prog) Try.func5 (fun xs w => by kernel_rfl) 2 _ _ (fun _ => rfl) _ _ _ [] (P4 ++ [.cx (sp10_object_Check_v5_L1_0_ok hU w0 w1 w2 w3   e_g1) [0, 1, 2, 3, 4], .o, .o]) [] (fun b => by kernel_rfl)
        · try dsimp only at e
          injection e with e; injection e with i0 i1; subst i0 i1; exact fn_specG hU (P := Try.prog) Try.func5 (fun xs w => by kernel_rfl) 2 _ _ (fun _ => rfl) _ _ _ [] (P4 ++ [.cx (sp11_object_Check_v5_L1_0_ok hU w0 w1 w2 w3   e_g1) [0, 1, 2, 3, 4], .o, .o]) [] (fun b => by kernel_rfl)
        · try dsimp only at e
          injection e with e; injection e with i0 i1; subst i0 i1; exact fn_specG hU (P := Try.prog) Try.func5 (fun xs w => by kernel_rfl) 2 _ _ (fun _ => rfl) _ _ _ [] (P4 ++ [.cx (sp12_object_Check_v5_L1_0_ok hU w0 w1 w2 w3   e_g1) [0, 1, 2, 3, 4], .o, .o]) [] (fun b => by kernel_rfl)
        · try dsimp only at e
          injection e with e; injection e with i0 i1; subst i0 i1; exact fn_specG hU (P := Try.prog) Try.func5 (fun xs w => by kernel_rfl) 2 _ _ (fun _ => rfl) _ _ _ [] (P4 ++ [.cx (sp13_object_Check_v5_L1_0_ok hU w0 w1 w2 w3   e_g1) [0, 1, 2, 3, 4], .o, .o]) [] (fun b => by kernel_rfl)
        · try dsimp only at e
          injection e with e; injection e with i0 i1; subst i0 i1; exact fn_specG hU (P := Try.prog) Try.func5 (fun xs w => by kernel_rfl) 2 _ _ (fun _ => rfl) _ _ _ [] (P4 ++ [.cx (sp14_object_Check_v5_L1_0_ok hU w0 w1 w2 w3   e_g1) [0, 1, 2, 3, 4], .o, .o]) [] (fun b => by kernel_rfl)
        · try dsimp only at e
          injection e with e; injection e with i0 i1; subst i0 i1; exact fn_specG hU (P := Try.prog) Try.func5 (fun xs w => by kernel_rfl) 2 _ _ (fun _ => rfl) _ _ _ [] (P4 ++ [.cx (sp15_object_Check_v5_L1_0_ok hU w0 w1 w2 w3   e_g1) [0, 1, 2, 3, 4], .o, .o]) [] (fun b => by kernel_rfl)
        · try dsimp only at e
          injection e with e; injection e with i0 i1; subst i0 i1; exact fn_specG hU (P := Try.prog) Try.func5 (fun xs w => by kernel_rfl) 2 _ _ (fun _ => rfl) _ _ _ [] (P4 ++ [.cx (sp16_object_Check_v5_L1_0_ok hU w0 w1 w2 w3   e_g1) [0, 1, 2, 3, 4], .o, .o]) [] (fun b => by kernel_rfl)
        · try dsimp only at e
          injection e with e; injection e with i0 i1; subst i0 i1; exact fn_specG hU (P := Try.prog) Try.func5 (fun xs w => by kernel_rfl) 2 _ _ (fun _ => rfl) _ _ _ [] (P4 ++ [.cx (sp17_object_Check_v5_L1_0_ok hU w0 w1 w2 w3   e_g1) [0, 1, 2, 3, 4]]) [] (fun b => by kernel_rfl)
        · try dsimp only at e
          injection e with e; injection e with i0 i1; subst i0 i1; exact fn_specG hU (P := Try.prog) Try.func5 (fun xs w => by kernel_rfl) 2 _ _ (fun _ => rfl) _ _ _ [] (P4 ++ [.cx (sp18_object_Check_v5_L1_0_ok hU w0 w1 w2 w3   e_g1) [0, 1, 2, 3, 4]]) [] (fun b => by kernel_rfl)
        · try dsimp only at e
          injection e with e; injection e with i0 i1; subst i0 i1; exact fn_specG hU (P := Try.prog) Try.func5 (fun xs w => by kernel_rfl) 2 _ _ (fun _ => rfl) _ _ _ [] (P4 ++ [.cx (sp19_object_Check_v5_L1_0_ok hU w0 w1 w2 w3   e_g1) [0, 1, 2, 3, 4]]) [] (fun b => by kernel_rfl)
        · try dsimp only at e
          injection e with e; injection e with i0 i1; subst i0 i1; exact fn_specG hU (P := Try.prog) Try.func5 (fun xs w => by kernel_rfl) 2 _ _ (fun _ => rfl) _ _ _ [] (P4 ++ [.cx (sp20_object_Check_v5_L1_0_ok hU w0 w1 w2 w3   e_g1) [0, 1, 2, 3, 4]]) [] (fun b => by kernel_rfl)
        · try dsimp only at e
          injection e with e; injection e with i0 i1; subst i0 i1; exact fn_specG hU (P := Try.prog) Try.func5 (fun xs w => by kernel_rfl) 2 _ _ (fun _ => rfl) _ _ _ [] (P4 ++ [.cx (sp21_object_Check_v5_L1_0_ok hU w0 w1 w2 w3   e_g1) [0, 1, 2, 3, 4]]) [] (fun b => by kernel_rfl)
        · try dsimp only at e
          injection e with e; injection e with i0 i1; subst i0 i1; exact fn_specG hU (P := Try.prog) Try.func5 (fun xs w => by kernel_rfl) 2 _ _ (fun _ => rfl) _ _ _ [] (P4 ++ [.cx (sp22_object_Check_v5_L1_0_ok hU w0 w1 w2 w3   e_g1) [0, 1, 2, 3, 4]]) [] (fun b => by kernel_rfl)
        · try dsimp only at e
          injection e with e; injection e with i0 i1; subst i0 i1; exact fn_specG hU (P := Try.prog) Try.func5 (fun xs w => by kernel_rfl) 2 _ _ (fun _ => rfl) _ _ _ [] (P4 ++ [.cx (sp23_object_Check_v5_L1_0_ok hU w0 w1 w2 w3   e_g1) [0, 1, 2, 3, 4]]) [] (fun b => by kernel_rfl)
        · try dsimp only at e
          injection e with e; injection e with i0 i1; subst i0 i1; exact fn_specG hU (P := Try.prog) Try.func5 (fun xs w => by kernel_rfl) 2 _ _ (fun _ => rfl) _ _ _ [] (P4 ++ [.cx (sp24_object_Check_v5_L1_0_ok hU w0 w1 w2 w3   e_g1) [0, 1, 2, 3, 4]]) [] (fun b => by kernel_rfl)
        · try dsimp only at e
          injection e with e; injection e with i0 i1; subst i0 i1; exact fn_specG hU (P := Try.prog) Try.func5 (fun xs w => by kernel_rfl) 2 _ _ (fun _ => rfl) _ _ _ [] (P4 ++ [.cx (sp25_object_Check_v5_L1_0_ok hU w0 w1 w2 w3   e_g1) [0, 1, 2, 3, 4]]) [] (fun b => by kernel_rfl)
        · try dsimp only at e
          injection e with e; injection e with i0 i1; subst i0 i1; exact fn_specG hU (P := Try.prog) Try.func5 (fun xs w => by kernel_rfl) 2 _ _ (fun _ => rfl) _ _ _ [] (P4 ++ [.cx (sp26_object_Check_v5_L1_0_ok hU w0 w1 w2 w3   e_g1) [0, 1, 2, 3, 4]]) [] (fun b => by kernel_rfl)
        · try dsimp only at e
          injection e with e; injection e with i0 i1; subst i0 i1; exact fn_specG hU (P := Try.prog) Try.func5 (fun xs w => by kernel_rfl) 2 _ _ (fun _ => rfl) _ _ _ [] (P4 ++ [.cx (sp27_object_Check_v5_L1_0_ok hU w0 w1 w2 w3   e_g1) [0, 1, 2, 3, 4]]) [] (fun b => by kernel_rfl)
        · try dsimp only at e
          injection e with e; injection e with i0 i1; subst i0 i1; exact fn_specG hU (P := Try.prog) Try.func5 (fun xs w => by kernel_rfl) 2 _ _ (fun _ => rfl) _ _ _ [] (P4 ++ [.cx (sp28_object_Check_v5_L1_0_ok hU w0 w1 w2 w3   e_g1) [0, 1, 2, 3, 4]]) [] (fun b => by kernel_rfl)
        · try dsimp only at e
          injection e with e; injection e with i0 i1; subst i0 i1; exact fn_specG hU (P := Try.prog) Try.func5 (fun xs w => by kernel_rfl) 2 _ _ (fun _ => rfl) _ _ _ [] (P4 ++ [.cx (sp29_object_Check_v5_L1_0_ok hU w0 w1 w2 w3   e_g1) [0, 1, 2, 3, 4]]) [] (fun b => by kernel_rfl)
        · try dsimp only at e
          injection e with e; injection e with i0 i1; subst i0 i1; exact fn_specG hU (P := Try.prog) Try.func5 (fun xs w => by kernel_rfl) 2 _ _ (fun _ => rfl) _ _ _ [] (P4 ++ [.cx (sp30_object_Check_v5_L1_0_ok hU w0 w1 w2 w3   e_g1) [0, 1, 2, 3, 4]]) [] (fun b => by kernel_rfl)
        · try dsimp only at e
          injection e with e; injection e with i0 i1; subst i0 i1; exact fn_specG hU (P := Try.prog) Try.func5 (fun xs w => by kernel_rfl) 2 _ _ (fun _ => rfl) _ _ _ [] (P4 ++ [.cx (sp31_object_Check_v5_L1_0_ok hU w0 w1 w2 w3   e_g1) [0, 1, 2, 3, 4]]) [] (fun b => by kernel_rfl)
        · try dsimp only at e
          injection e with e; injection e with i0 i1; subst i0 i1; exact fn_specG hU (P := Try.prog) Try.func5 (fun xs w => by kernel_rfl) 2 _ _ (fun _ => rfl) _ _ _ [] (P4 ++ [.cx (sp32_object_Check_v5_L1_0_ok hU w0 w1 w2 w3   e_g1) [0, 1, 2, 3, 4]]) [] (fun b => by kernel_rfl)
  · try dsimp only at e
    injection e with e; injection e with i0 i1; subst i0 i1; exact fn_specG hU (P := Try.prog) Try.func5 (fun xs w => by kernel_rfl) 2 _ _ (fun _ => rfl) _ _ _ [] (P1 ++ [.cx (sp1_object_Check_v5_L0_0_ok hU w0 w1 w2 w3 0 g0_0 e_g0) [0, 1, 2]]) [] (fun b => by kernel_rfl)
inductive Sh_barbicanlaw5_ObjectMany_L0 where
  | c0 
  | c1 (s0_0 : Nat) (s0_1 : Nat → MapDef) (s0_2 : Int)
inductive Ex_barbicanlaw5_ObjectMany_L0 where
  | e0 
  | e1 (c1_0 : Nat) (c1_1 : Nat → MapDef)
noncomputable def st_barbicanlaw5_ObjectMany_L0 (y0 : Int) : Sh_barbicanlaw5_ObjectMany_L0 → Option (Sh_barbicanlaw5_ObjectMany_L0 ⊕ Ex_barbicanlaw5_ObjectMany_L0)
  | .c0  =>
    bif decide (0 < y0) then
      (some (.inl (.c1 1 (fun _ => (⟨4, 0, 0, 8, false, 0⟩ : MapDef)) 1)))
    else (some (.inr (.e0 )))
  | .c1 s0_0 s0_1 s0_2 =>
    bif decide (s0_2 < y0) then
      (bif decide (s0_0 ≤ 1000000) then
        (some (.inl (.c1 (s0_0 + 1) (updF s0_1 s0_0 (⟨4, 0, 0, 8, false, 0⟩ : MapDef)) (IntKind.i64.wrap (s0_2 + 1)))))
      else (none))
    else (some (.inr (.e1 s0_0 s0_1)))
noncomputable def bd_barbicanlaw5_ObjectMany_L0 : Code := codeOf Try.f3 [1, 1, 1, 1, 0, 1, 0, 0]
def fl_barbicanlaw5_ObjectMany_L0 (y0 : Int) (y1 : Int) (y2 : Int) : Sh_barbicanlaw5_ObjectMany_L0 → List L1 → List Value
  | .c0 , ls => [.int .i64 (y0), .int .i64 (y1), .int .i64 (y2), .pointer (some ⟨(lget ls 0).n, 0, none⟩), .int .i64 (0)]
  | .c1 s0_0 s0_1 s0_2, ls => [.int .i64 (y0), .int .i64 (y1), .int .i64 (y2), .pointer (some ⟨(lget ls 0).n, 0, none⟩), .int .i64 (s0_2)]
def mf_barbicanlaw5_ObjectMany_L0 : Sh_barbicanlaw5_ObjectMany_L0 → List (Nat × Nat)
  | .c0  => [(3, 4), (2, 107)]
  | .c1 _ _ _ => [(3, 4), (2, 107)]
noncomputable def fr_barbicanlaw5_ObjectMany_L0 (y0 : Int) (y1 : Int) (y2 : Int) (s : Sh_barbicanlaw5_ObjectMany_L0) : List L1 → List Value := mrgF (mf_barbicanlaw5_ObjectMany_L0 s) (fl_barbicanlaw5_ObjectMany_L0 y0 y1 y2 s) 2
def Hs_barbicanlaw5_ObjectMany_L0 (y0 : Int) (y1 : Int) (y2 : Int) : Sh_barbicanlaw5_ObjectMany_L0 → List L1 → List Obj
  | .c0 , ls => [.cells #[.slice none 0 0, .slice none 0 0, .slice none 0 0] 27, unb, unb]
  | .c1 s0_0 s0_1 s0_2, ls => [.cells #[.slice none 0 0, (rowV (lget ls 1) s0_0 6), .slice none 0 0] 27, rowO (lget ls 1) (esG c_MapDef s0_0 s0_1) 29 s0_0 6, unb]
def vl_barbicanlaw5_ObjectMany_L0 (y0 : Int) (y1 : Int) (y2 : Int) : Ex_barbicanlaw5_ObjectMany_L0 → List L1 → List Value
  | .e0 , ls => [.int .i64 (y0), .int .i64 (y1), .int .i64 (y2), .pointer (some ⟨(lget ls 0).n, 0, none⟩)]
  | .e1 c1_0 c1_1, ls => [.int .i64 (y0), .int .i64 (y1), .int .i64 (y2), .pointer (some ⟨(lget ls 0).n, 0, none⟩)]
def mk_barbicanlaw5_ObjectMany_L0 : Ex_barbicanlaw5_ObjectMany_L0 → List (Nat × Nat)
  | .e0  => [(3, 4), (1, 108)]
  | .e1 _ _ => [(3, 4), (1, 108)]
noncomputable def vf_barbicanlaw5_ObjectMany_L0 (y0 : Int) (y1 : Int) (y2 : Int) (r : Ex_barbicanlaw5_ObjectMany_L0) : List L1 → List Value := mrgF (mk_barbicanlaw5_ObjectMany_L0 r) (vl_barbicanlaw5_ObjectMany_L0 y0 y1 y2 r) 2
def Hf_barbicanlaw5_ObjectMany_L0 (y0 : Int) (y1 : Int) (y2 : Int) : Ex_barbicanlaw5_ObjectMany_L0 → List L1 → List Obj
  | .e0 , ls => [.cells #[.slice none 0 0, .slice none 0 0, .slice none 0 0] 27, unb, unb]
  | .e1 c1_0 c1_1, ls => [.cells #[.slice none 0 0, (rowV (lget ls 1) c1_0 6), .slice none 0 0] 27, rowO (lget ls 1) (esG c_MapDef c1_0 c1_1) 29 c1_0 6, unb]
def ex_barbicanlaw5_ObjectMany_L0 : Ex_barbicanlaw5_ObjectMany_L0 → Ex
  | .e0  => (.exit 0)
  | .e1 _ _ => (.exit 0)
end
section
variable {M : Nat → Prop} {B0 : Nat} {S : World → Prop} (hU : Up M B0 S) (y0 : Int) (y1 : Int) (y2 : Int)
include hU y0 y1 y2
theorem go_barbicanlaw5_ObjectMany_L0 (s : Sh_barbicanlaw5_ObjectMany_L0) (r : Ex_barbicanlaw5_ObjectMany_L0) (h : lpO (st_barbicanlaw5_ObjectMany_L0 y0) s = some r) : GoesG Try.prog M B0 S (.loop bd_barbicanlaw5_ObjectMany_L0) 3 (fr_barbicanlaw5_ObjectMany_L0 y0 y1 y2 s) (Hs_barbicanlaw5_ObjectMany_L0 y0 y1 y2 s) (ex_barbicanlaw5_ObjectMany_L0 r) 1 (vf_barbicanlaw5_ObjectMany_L0 y0 y1 y2 r) (Hf_barbicanlaw5_ObjectMany_L0 y0 y1 y2 r) 3 :=
  goes_lpO (fun s q e => by
    cases s with
    | c0  =>
      unfold st_barbicanlaw5_ObjectMany_L0 at e
      dsimp only at e
      replace e := cond_eq_or e
      rcases e with ⟨hq0, e⟩ | ⟨hq0, e⟩
      · cases e; exact goes_runM hU [.o, .o, .b (z_lssT hq0), .o, .a 0, .o, .o, .x (sqAppL1_ok (ty := 24) rt24 #[false, false] (f := c_MapDef) (c := 1) (⟨4, 0, 0, 8, false, 0⟩ : MapDef) (T' := 29) c_MapDef_len c_MapDef_one (by decide)) [3], .o, .a 0, .o, .o, .o] [0, 4] (fun b => rfl) (by decide) rfl rfl (fun b => by kernel_rfl)
      · cases e; exact ⟨ne_exit 0, goes_runM hU [.o, .o, .b (z_lssF hq0)] [0, 1] (fun b => rfl) (by decide) rfl rfl (fun b => by kernel_rfl)⟩
    | c1 s0_0 s0_1 s0_2 =>
      unfold st_barbicanlaw5_ObjectMany_L0 at e
      dsimp only at e
      replace e := cond_eq_or e
      rcases e with ⟨hq0, e⟩ | ⟨hq0, e⟩
      · replace e := cond_eq_or e
        rcases e with ⟨hq1, e⟩ | ⟨hq1, e⟩
        · cases e; exact goes_runM hU [.o, .o, .b (z_lssT hq0), .o, .a 0, .o, .o, .x (sqAppL_ok (ty := 24) rt24 #[false, false] (f := c_MapDef) (N := s0_0) (A := s0_1) (c := 1) [(⟨4, 0, 0, 8, false, 0⟩ : MapDef)] (T' := 29) .row c_MapDef_len c_MapDef_one hq1 rfl (by decide)) [1, 3], .o, .a 0, .o, .o, .o] [0, 4] (fun b => rfl) (by decide) rfl rfl (fun b => by kernel_rfl)
        · exact none_some e
      · cases e; exact ⟨ne_exit 0, goes_runM hU [.o, .o, .b (z_lssF hq0)] [0, 1] (fun b => rfl) (by decide) rfl rfl (fun b => by kernel_rfl)⟩) s r h
noncomputable def t0_barbicanlaw5_ObjectMany_L0_0 (y0 : Int) (y1 : Int) (y2 : Int)  (ls : List L1) : List Value := List.append [.int .i64 (y0), .int .i64 (y1), .int .i64 (y2), undef, undef, undef, .bool false, .pointer (some ⟨(lget ls 0).n, 0, none⟩), .int .i64 (0)] (List.append (und 5) (List.append [.bool true, .bool false, .int .i64 (y0), .bool false, .bool false, .int .i64 (y0), .bool false, .bool false, .bool false, .int .i64 (y1), .bool false, .bool false, .bool false, .int .i64 (y1), .bool false, .bool false, .agg #[.slice none 0 0, .slice none 0 0, .slice none 0 0]] (und 85)))
def pre_barbicanlaw5_ObjectMany_L0_0 (y0 : Int) (y1 : Int) (y2 : Int)  (ls : List L1) : List Obj := [.cells #[.slice none 0 0, .slice none 0 0, .slice none 0 0] 27]
theorem sp0_barbicanlaw5_ObjectMany_L0_0_ok (h : lpO (st_barbicanlaw5_ObjectMany_L0 y0) (.c0) = some (.e0 )) : SpcG Try.prog M B0 S ⟨fun ls => .code (.loop bd_barbicanlaw5_ObjectMany_L0) (t0_barbicanlaw5_ObjectMany_L0_0 y0 y1 y2  ls), pre_barbicanlaw5_ObjectMany_L0_0 y0 y1 y2 , 2, (.exit 0), fun ls => vf_barbicanlaw5_ObjectMany_L0 y0 y1 y2 (.e0 ) (ls.take 1 ++ ls.drop 1), fun ls => (Hf_barbicanlaw5_ObjectMany_L0 y0 y1 y2 (.e0 ) (ls.take 1 ++ ls.drop 1)).take 1 ++ List.replicate 0 unb, fun ls => (Hf_barbicanlaw5_ObjectMany_L0 y0 y1 y2 (.e0 ) (ls.take 1 ++ ls.drop 1)).drop 1⟩ :=
  spc_of_goesM hU 1 (k0 := 1) (go_barbicanlaw5_ObjectMany_L0 hU y0 y1 y2 _ _ h) (t0_barbicanlaw5_ObjectMany_L0_0 y0 y1 y2 ) (pre_barbicanlaw5_ObjectMany_L0_0 y0 y1 y2 ) (fun _ => rfl) (fun ls h => by match ls, h with | [l0], _ => exact ⟨by kernel_rfl, by kernel_rfl⟩) (fun ls h => by match ls, h with | [l0], _ => rfl) (by decide) (by decide) (fun ls => rfl)
theorem sp1_barbicanlaw5_ObjectMany_L0_0_ok (c1_0 : Nat) (c1_1 : Nat → MapDef) (h : lpO (st_barbicanlaw5_ObjectMany_L0 y0) (.c0) = some (.e1 c1_0 c1_1)) : SpcG Try.prog M B0 S ⟨fun ls => .code (.loop bd_barbicanlaw5_ObjectMany_L0) (t0_barbicanlaw5_ObjectMany_L0_0 y0 y1 y2  ls), pre_barbicanlaw5_ObjectMany_L0_0 y0 y1 y2 , 2, (.exit 0), fun ls => vf_barbicanlaw5_ObjectMany_L0 y0 y1 y2 (.e1 c1_0 c1_1) (ls.take 1 ++ ls.drop 1), fun ls => (Hf_barbicanlaw5_ObjectMany_L0 y0 y1 y2 (.e1 c1_0 c1_1) (ls.take 1 ++ ls.drop 1)).take 1 ++ List.replicate 0 unb, fun ls => (Hf_barbicanlaw5_ObjectMany_L0 y0 y1 y2 (.e1 c1_0 c1_1) (ls.take 1 ++ ls.drop 1)).drop 1⟩ :=
  spc_of_goesM hU 1 (k0 := 1) (go_barbicanlaw5_ObjectMany_L0 hU y0 y1 y2 _ _ h) (t0_barbicanlaw5_ObjectMany_L0_0 y0 y1 y2 ) (pre_barbicanlaw5_ObjectMany_L0_0 y0 y1 y2 ) (fun _ => rfl) (fun ls h => by match ls, h with | [l0], _ => exact ⟨by kernel_rfl, by kernel_rfl⟩) (fun ls h => by match ls, h with | [l0], _ => rfl) (by decide) (by decide) (fun ls => rfl)
inductive Sh_barbicanlaw5_ObjectMany_L1 where
  | c0 
  | c1 (s0_0 : Nat) (s0_1 : Nat → ByteArray) (s0_2 : Int)
inductive Ex_barbicanlaw5_ObjectMany_L1 where
  | e0 
  | e1 (c1_0 : Nat) (c1_1 : Nat → ByteArray)
noncomputable def st_barbicanlaw5_ObjectMany_L1 (y1 : Int) : Sh_barbicanlaw5_ObjectMany_L1 → Option (Sh_barbicanlaw5_ObjectMany_L1 ⊕ Ex_barbicanlaw5_ObjectMany_L1)
  | .c0  =>
    bif decide (0 < y1) then
      (some (.inl (.c1 1 (fun _ => (⟨#[97]⟩ : ByteArray)) 1)))
    else (some (.inr (.e0 )))
  | .c1 s0_0 s0_1 s0_2 =>
    bif decide (s0_2 < y1) then
      (bif inR (IntKind.i64.wrap (s0_2 + 1)) (26 + 1) then
        (bif inR s0_2 (((IntKind.i64.wrap (s0_2 + 1))).toNat + 1) then
          (bif decide (s0_0 ≤ 1000000) then
            (some (.inl (.c1 (s0_0 + 1) (updF s0_1 s0_0 ((⟨#[97, 98, 99, 100, 101, 102, 103, 104, 105, 106, 107, 108, 109, 110, 111, 112, 113, 114, 115, 116, 117, 118, 119, 120, 121, 122]⟩ : ByteArray).extract (s0_2).toNat ((IntKind.i64.wrap (s0_2 + 1))).toNat)) (IntKind.i64.wrap (s0_2 + 1)))))
          else (none))
        else (none))
      else (none))
    else (some (.inr (.e1 s0_0 s0_1)))
noncomputable def bd_barbicanlaw5_ObjectMany_L1 : Code := codeOf Try.f3 [1, 1, 1, 1, 1, 1, 0, 1, 0, 0]
def fl_barbicanlaw5_ObjectMany_L1 (y0 : Int) (y1 : Int) (y2 : Int) : Sh_barbicanlaw5_ObjectMany_L1 → List L1 → List Value
  | .c0 , ls => [.int .i64 (y0), .int .i64 (y1), .int .i64 (y2), .pointer (some ⟨(lget ls 0).n, 0, none⟩), .string (⟨#[97, 98, 99, 100, 101, 102, 103, 104, 105, 106, 107, 108, 109, 110, 111, 112, 113, 114, 115, 116, 117, 118, 119, 120, 121, 122]⟩ : ByteArray), .int .i64 (0)]
  | .c1 s0_0 s0_1 s0_2, ls => [.int .i64 (y0), .int .i64 (y1), .int .i64 (y2), .pointer (some ⟨(lget ls 0).n, 0, none⟩), .string (⟨#[97, 98, 99, 100, 101, 102, 103, 104, 105, 106, 107, 108, 109, 110, 111, 112, 113, 114, 115, 116, 117, 118, 119, 120, 121, 122]⟩ : ByteArray), .int .i64 (s0_2)]
def mf_barbicanlaw5_ObjectMany_L1 : Sh_barbicanlaw5_ObjectMany_L1 → List (Nat × Nat)
  | .c0  => [(3, 4), (1, 1), (2, 105)]
  | .c1 _ _ _ => [(3, 4), (1, 1), (2, 105)]
noncomputable def fr_barbicanlaw5_ObjectMany_L1 (y0 : Int) (y1 : Int) (y2 : Int) (s : Sh_barbicanlaw5_ObjectMany_L1) : List L1 → List Value := mrgF (mf_barbicanlaw5_ObjectMany_L1 s) (fl_barbicanlaw5_ObjectMany_L1 y0 y1 y2 s) 4
def Hs_barbicanlaw5_ObjectMany_L1 (y0 : Int) (y1 : Int) (y2 : Int) : Sh_barbicanlaw5_ObjectMany_L1 → List L1 → List Obj
  | .c0 , ls => [.cells #[.slice none 0 0, .slice none 0 0, .slice none 0 0] 27, unb, unb, unb, unb]
  | .c1 s0_0 s0_1 s0_2, ls => [.cells #[.slice none 0 0, .slice none 0 0, (rowV (rrL (lget ls 3)) s0_0 2)] 27, unb, unb, rsO hdS tlS 2 (lget ls 3) 35 32 c_Insn 5 s0_0 (fun _ => (2, (fun k => if k = 0 then (⟨183#8, 0#8, 0#8, 0#16, 0#32⟩ : Insn) else (⟨149#8, 0#8, 0#8, 0#16, 0#32⟩ : Insn)))) s0_1, unb]
def vl_barbicanlaw5_ObjectMany_L1 (y0 : Int) (y1 : Int) (y2 : Int) : Ex_barbicanlaw5_ObjectMany_L1 → List L1 → List Value
  | .e0 , ls => [.int .i64 (y0), .int .i64 (y1), .int .i64 (y2), .pointer (some ⟨(lget ls 0).n, 0, none⟩), .string (⟨#[97, 98, 99, 100, 101, 102, 103, 104, 105, 106, 107, 108, 109, 110, 111, 112, 113, 114, 115, 116, 117, 118, 119, 120, 121, 122]⟩ : ByteArray)]
  | .e1 c1_0 c1_1, ls => [.int .i64 (y0), .int .i64 (y1), .int .i64 (y2), .pointer (some ⟨(lget ls 0).n, 0, none⟩), .string (⟨#[97, 98, 99, 100, 101, 102, 103, 104, 105, 106, 107, 108, 109, 110, 111, 112, 113, 114, 115, 116, 117, 118, 119, 120, 121, 122]⟩ : ByteArray)]
def mk_barbicanlaw5_ObjectMany_L1 : Ex_barbicanlaw5_ObjectMany_L1 → List (Nat × Nat)
  | .e0  => [(3, 4), (1, 1), (1, 106)]
  | .e1 _ _ => [(3, 4), (1, 1), (1, 106)]
noncomputable def vf_barbicanlaw5_ObjectMany_L1 (y0 : Int) (y1 : Int) (y2 : Int) (r : Ex_barbicanlaw5_ObjectMany_L1) : List L1 → List Value := mrgF (mk_barbicanlaw5_ObjectMany_L1 r) (vl_barbicanlaw5_ObjectMany_L1 y0 y1 y2 r) 4
def Hf_barbicanlaw5_ObjectMany_L1 (y0 : Int) (y1 : Int) (y2 : Int) : Ex_barbicanlaw5_ObjectMany_L1 → List L1 → List Obj
  | .e0 , ls => [.cells #[.slice none 0 0, .slice none 0 0, .slice none 0 0] 27, unb, unb, unb, unb]
  | .e1 c1_0 c1_1, ls => [.cells #[.slice none 0 0, .slice none 0 0, (rowV (rrL (lget ls 3)) c1_0 2)] 27, unb, unb, rsO hdS tlS 2 (lget ls 3) 35 32 c_Insn 5 c1_0 (fun _ => (2, (fun k => if k = 0 then (⟨183#8, 0#8, 0#8, 0#16, 0#32⟩ : Insn) else (⟨149#8, 0#8, 0#8, 0#16, 0#32⟩ : Insn)))) c1_1, unb]
def ex_barbicanlaw5_ObjectMany_L1 : Ex_barbicanlaw5_ObjectMany_L1 → Ex
  | .e0  => (.exit 2)
  | .e1 _ _ => (.exit 2)
theorem go_barbicanlaw5_ObjectMany_L1 (s : Sh_barbicanlaw5_ObjectMany_L1) (r : Ex_barbicanlaw5_ObjectMany_L1) (h : lpO (st_barbicanlaw5_ObjectMany_L1 y1) s = some r) : GoesG Try.prog M B0 S (.loop bd_barbicanlaw5_ObjectMany_L1) 5 (fr_barbicanlaw5_ObjectMany_L1 y0 y1 y2 s) (Hs_barbicanlaw5_ObjectMany_L1 y0 y1 y2 s) (ex_barbicanlaw5_ObjectMany_L1 r) 3 (vf_barbicanlaw5_ObjectMany_L1 y0 y1 y2 r) (Hf_barbicanlaw5_ObjectMany_L1 y0 y1 y2 r) 5 :=
  goes_lpO (fun s q e => by
    cases s with
    | c0  =>
      unfold st_barbicanlaw5_ObjectMany_L1 at e
      dsimp only at e
      replace e := cond_eq_or e
      rcases e with ⟨hq0, e⟩ | ⟨hq0, e⟩
      · cases e; exact goes_runM hU [.o, .o, .b (z_lssT hq0), .r [0, 1, 2, 3, 4, 5, 6, 7, 8] [] [9, 10, 11, 12, 13, 14], .o, .a 0, .o, .o, .o, .o, .o, .o, .o, .o, .o, .o, .xg (sqApRS0_ok (hd := hdS) (tl := tlS) (x0 := (⟨#[97]⟩ : ByteArray)) (ty := 25) (T2 := 32) (E := fun _ => (⟨#[97]⟩ : ByteArray)) hzS h1S h2S rt25 #[false, false] .plain (f := c_Insn) (sz := 5) (m := 2) (B := (fun k => if k = 0 then (⟨183#8, 0#8, 0#8, 0#16, 0#32⟩ : Insn) else (⟨149#8, 0#8, 0#8, 0#16, 0#32⟩ : Insn))) (c := 1) (T' := 35) (by decide) (by decide) (by decide)) [6, 5], .o, .a 0, .o, .o, .o] [0, 1, 2, 7] (fun b => rfl) (by decide) rfl rfl (fun b => by kernel_rfl)
      · cases e; exact ⟨ne_exit 2, goes_runM hU [.o, .o, .b (z_lssF hq0)] [0, 1, 2, 3] (fun b => rfl) (by decide) rfl rfl (fun b => by kernel_rfl)⟩
    | c1 s0_0 s0_1 s0_2 =>
      unfold st_barbicanlaw5_ObjectMany_L1 at e
      dsimp only at e
      replace e := cond_eq_or e
      rcases e with ⟨hq0, e⟩ | ⟨hq0, e⟩
      · replace e := cond_eq_or e
        rcases e with ⟨hq1, e⟩ | ⟨hq1, e⟩
        · replace e := cond_eq_or e
          rcases e with ⟨hq2, e⟩ | ⟨hq2, e⟩
          · replace e := cond_eq_or e
            rcases e with ⟨hq3, e⟩ | ⟨hq3, e⟩
            · cases e; exact goes_runM hU [.o, .o, .b (z_lssT hq0), .r [0, 1, 2, 3, 4, 5, 6, 7, 8] [] [9, 10, 11, 12, 13, 14], .o, .a 0, .o, .o, .o, .o, .ov (slcS_ok (T := 9) (s := (⟨#[97, 98, 99, 100, 101, 102, 103, 104, 105, 106, 107, 108, 109, 110, 111, 112, 113, 114, 115, 116, 117, 118, 119, 120, 121, 122]⟩ : ByteArray)) (x := s0_2) (y := (IntKind.i64.wrap (s0_2 + 1))) (by kernel_rfl) hq2 hq1), .o, .o, .o, .o, .o, .xg (sqApRSc_ok (hd := hdS) (tl := tlS) (E := s0_1) (x0 := ((⟨#[97, 98, 99, 100, 101, 102, 103, 104, 105, 106, 107, 108, 109, 110, 111, 112, 113, 114, 115, 116, 117, 118, 119, 120, 121, 122]⟩ : ByteArray).extract (s0_2).toNat ((IntKind.i64.wrap (s0_2 + 1))).toNat)) (ty := 25) (T2 := 32) hzS h1S h2S rt25 #[false, false] .plain (f := c_Insn) (sz := 5) (N := s0_0) (m := 2) (B := (fun k => if k = 0 then (⟨183#8, 0#8, 0#8, 0#16, 0#32⟩ : Insn) else (⟨149#8, 0#8, 0#8, 0#16, 0#32⟩ : Insn))) (c := 1) (T' := 35) (by decide) (by decide) hq3 (by decide)) [3, 6, 5], .o, .a 0, .o, .o, .o] [0, 1, 2, 7] (fun b => rfl) (by decide) rfl rfl (fun b => by kernel_rfl)
            · exact none_some e
          · exact none_some e
        · exact none_some e
      · cases e; exact ⟨ne_exit 2, goes_runM hU [.o, .o, .b (z_lssF hq0)] [0, 1, 2, 3] (fun b => rfl) (by decide) rfl rfl (fun b => by kernel_rfl)⟩) s r h
noncomputable def t0_barbicanlaw5_ObjectMany_L1_0 (y0 : Int) (y1 : Int) (y2 : Int)  (ls : List L1) : List Value := List.append [.int .i64 (y0), .int .i64 (y1), .int .i64 (y2)] (List.append (jks (lget ls 2).u 3 4) (List.append [.pointer (some ⟨(lget ls 0).n, 0, none⟩), ((lget ls 2).u 8), .string (⟨#[97, 98, 99, 100, 101, 102, 103, 104, 105, 106, 107, 108, 109, 110, 111, 112, 113, 114, 115, 116, 117, 118, 119, 120, 121, 122]⟩ : ByteArray), .int .i64 (0)] (jks (lget ls 2).u 11 105)))
def pre_barbicanlaw5_ObjectMany_L1_0 (y0 : Int) (y1 : Int) (y2 : Int)  (ls : List L1) : List Obj := [.cells #[.slice none 0 0, .slice none 0 0, .slice none 0 0] 27, unb, unb]
theorem sp0_barbicanlaw5_ObjectMany_L1_0_ok (h : lpO (st_barbicanlaw5_ObjectMany_L1 y1) (.c0) = some (.e0 )) : SpcG Try.prog M B0 S ⟨fun ls => .code (.loop bd_barbicanlaw5_ObjectMany_L1) (t0_barbicanlaw5_ObjectMany_L1_0 y0 y1 y2  ls), pre_barbicanlaw5_ObjectMany_L1_0 y0 y1 y2 , 2, (.exit 2), fun ls => vf_barbicanlaw5_ObjectMany_L1 y0 y1 y2 (.e0 ) (ls.take 3 ++ ls.drop 3), fun ls => (Hf_barbicanlaw5_ObjectMany_L1 y0 y1 y2 (.e0 ) (ls.take 3 ++ ls.drop 3)).take 3 ++ List.replicate 0 unb, fun ls => (Hf_barbicanlaw5_ObjectMany_L1 y0 y1 y2 (.e0 ) (ls.take 3 ++ ls.drop 3)).drop 3⟩ :=
  spc_of_goesM hU 1 (k0 := 3) (go_barbicanlaw5_ObjectMany_L1 hU y0 y1 y2 _ _ h) (t0_barbicanlaw5_ObjectMany_L1_0 y0 y1 y2 ) (pre_barbicanlaw5_ObjectMany_L1_0 y0 y1 y2 ) (fun _ => rfl) (fun ls h => by match ls, h with | [l0, l1, l2], _ => exact ⟨by kernel_rfl, by kernel_rfl⟩) (fun ls h => by match ls, h with | [l0, l1, l2], _ => rfl) (by decide) (by decide) (fun ls => rfl)
theorem sp1_barbicanlaw5_ObjectMany_L1_0_ok (c1_0 : Nat) (c1_1 : Nat → ByteArray) (h : lpO (st_barbicanlaw5_ObjectMany_L1 y1) (.c0) = some (.e1 c1_0 c1_1)) : SpcG Try.prog M B0 S ⟨fun ls => .code (.loop bd_barbicanlaw5_ObjectMany_L1) (t0_barbicanlaw5_ObjectMany_L1_0 y0 y1 y2  ls), pre_barbicanlaw5_ObjectMany_L1_0 y0 y1 y2 , 2, (.exit 2), fun ls => vf_barbicanlaw5_ObjectMany_L1 y0 y1 y2 (.e1 c1_0 c1_1) (ls.take 3 ++ ls.drop 3), fun ls => (Hf_barbicanlaw5_ObjectMany_L1 y0 y1 y2 (.e1 c1_0 c1_1) (ls.take 3 ++ ls.drop 3)).take 3 ++ List.replicate 0 unb, fun ls => (Hf_barbicanlaw5_ObjectMany_L1 y0 y1 y2 (.e1 c1_0 c1_1) (ls.take 3 ++ ls.drop 3)).drop 3⟩ :=
  spc_of_goesM hU 1 (k0 := 3) (go_barbicanlaw5_ObjectMany_L1 hU y0 y1 y2 _ _ h) (t0_barbicanlaw5_ObjectMany_L1_0 y0 y1 y2 ) (pre_barbicanlaw5_ObjectMany_L1_0 y0 y1 y2 ) (fun _ => rfl) (fun ls h => by match ls, h with | [l0, l1, l2], _ => exact ⟨by kernel_rfl, by kernel_rfl⟩) (fun ls h => by match ls, h with | [l0, l1, l2], _ => rfl) (by decide) (by decide) (fun ls => rfl)
inductive Sh_barbicanlaw5_ObjectMany_L1v1 where
  | c0 
  | c1 (s0_0 : Nat) (s0_1 : Nat → ByteArray) (s0_2 : Int)
inductive Ex_barbicanlaw5_ObjectMany_L1v1 where
  | e0 
  | e1 (c1_0 : Nat) (c1_1 : Nat → ByteArray)
noncomputable def st_barbicanlaw5_ObjectMany_L1v1 (y1 : Int) : Sh_barbicanlaw5_ObjectMany_L1v1 → Option (Sh_barbicanlaw5_ObjectMany_L1v1 ⊕ Ex_barbicanlaw5_ObjectMany_L1v1)
  | .c0  =>
    bif decide (0 < y1) then
      (some (.inl (.c1 1 (fun _ => (⟨#[97]⟩ : ByteArray)) 1)))
    else (some (.inr (.e0 )))
  | .c1 s0_0 s0_1 s0_2 =>
    bif decide (s0_2 < y1) then
      (bif inR (IntKind.i64.wrap (s0_2 + 1)) (26 + 1) then
        (bif inR s0_2 (((IntKind.i64.wrap (s0_2 + 1))).toNat + 1) then
          (bif decide (s0_0 ≤ 1000000) then
            (some (.inl (.c1 (s0_0 + 1) (updF s0_1 s0_0 ((⟨#[97, 98, 99, 100, 101, 102, 103, 104, 105, 106, 107, 108, 109, 110, 111, 112, 113, 114, 115, 116, 117, 118, 119, 120, 121, 122]⟩ : ByteArray).extract (s0_2).toNat ((IntKind.i64.wrap (s0_2 + 1))).toNat)) (IntKind.i64.wrap (s0_2 + 1)))))
          else (none))
        else (none))
      else (none))
    else (some (.inr (.e1 s0_0 s0_1)))
noncomputable def bd_barbicanlaw5_ObjectMany_L1v1 : Code := codeOf Try.f3 [1, 1, 1, 1, 1, 1, 0, 1, 0, 0]
def fl_barbicanlaw5_ObjectMany_L1v1 (y0 : Int) (y1 : Int) (y2 : Int) (g0_0 : Nat) (g0_1 : Nat → MapDef) : Sh_barbicanlaw5_ObjectMany_L1v1 → List L1 → List Value
  | .c0 , ls => [.int .i64 (y0), .int .i64 (y1), .int .i64 (y2), .pointer (some ⟨(lget ls 0).n, 0, none⟩), .string (⟨#[97, 98, 99, 100, 101, 102, 103, 104, 105, 106, 107, 108, 109, 110, 111, 112, 113, 114, 115, 116, 117, 118, 119, 120, 121, 122]⟩ : ByteArray), .int .i64 (0)]
  | .c1 s0_0 s0_1 s0_2, ls => [.int .i64 (y0), .int .i64 (y1), .int .i64 (y2), .pointer (some ⟨(lget ls 0).n, 0, none⟩), .string (⟨#[97, 98, 99, 100, 101, 102, 103, 104, 105, 106, 107, 108, 109, 110, 111, 112, 113, 114, 115, 116, 117, 118, 119, 120, 121, 122]⟩ : ByteArray), .int .i64 (s0_2)]
def mf_barbicanlaw5_ObjectMany_L1v1 : Sh_barbicanlaw5_ObjectMany_L1v1 → List (Nat × Nat)
  | .c0  => [(3, 4), (1, 1), (2, 105)]
  | .c1 _ _ _ => [(3, 4), (1, 1), (2, 105)]
noncomputable def fr_barbicanlaw5_ObjectMany_L1v1 (y0 : Int) (y1 : Int) (y2 : Int) (g0_0 : Nat) (g0_1 : Nat → MapDef) (s : Sh_barbicanlaw5_ObjectMany_L1v1) : List L1 → List Value := mrgF (mf_barbicanlaw5_ObjectMany_L1v1 s) (fl_barbicanlaw5_ObjectMany_L1v1 y0 y1 y2 g0_0 g0_1 s) 4
def Hs_barbicanlaw5_ObjectMany_L1v1 (y0 : Int) (y1 : Int) (y2 : Int) (g0_0 : Nat) (g0_1 : Nat → MapDef) : Sh_barbicanlaw5_ObjectMany_L1v1 → List L1 → List Obj
  | .c0 , ls => [.cells #[.slice none 0 0, (rowV (lget ls 1) g0_0 6), .slice none 0 0] 27, rowO (lget ls 1) (esG c_MapDef g0_0 g0_1) 29 g0_0 6, unb, unb, unb]
  | .c1 s0_0 s0_1 s0_2, ls => [.cells #[.slice none 0 0, (rowV (lget ls 1) g0_0 6), (rowV (rrL (lget ls 3)) s0_0 2)] 27, rowO (lget ls 1) (esG c_MapDef g0_0 g0_1) 29 g0_0 6, unb, rsO hdS tlS 2 (lget ls 3) 35 32 c_Insn 5 s0_0 (fun _ => (2, (fun k => if k = 0 then (⟨183#8, 0#8, 0#8, 0#16, 0#32⟩ : Insn) else (⟨149#8, 0#8, 0#8, 0#16, 0#32⟩ : Insn)))) s0_1, unb]
def vl_barbicanlaw5_ObjectMany_L1v1 (y0 : Int) (y1 : Int) (y2 : Int) (g0_0 : Nat) (g0_1 : Nat → MapDef) : Ex_barbicanlaw5_ObjectMany_L1v1 → List L1 → List Value
  | .e0 , ls => [.int .i64 (y0), .int .i64 (y1), .int .i64 (y2), .pointer (some ⟨(lget ls 0).n, 0, none⟩), .string (⟨#[97, 98, 99, 100, 101, 102, 103, 104, 105, 106, 107, 108, 109, 110, 111, 112, 113, 114, 115, 116, 117, 118, 119, 120, 121, 122]⟩ : ByteArray)]
  | .e1 c1_0 c1_1, ls => [.int .i64 (y0), .int .i64 (y1), .int .i64 (y2), .pointer (some ⟨(lget ls 0).n, 0, none⟩), .string (⟨#[97, 98, 99, 100, 101, 102, 103, 104, 105, 106, 107, 108, 109, 110, 111, 112, 113, 114, 115, 116, 117, 118, 119, 120, 121, 122]⟩ : ByteArray)]
def mk_barbicanlaw5_ObjectMany_L1v1 : Ex_barbicanlaw5_ObjectMany_L1v1 → List (Nat × Nat)
  | .e0  => [(3, 4), (1, 1), (1, 106)]
  | .e1 _ _ => [(3, 4), (1, 1), (1, 106)]
noncomputable def vf_barbicanlaw5_ObjectMany_L1v1 (y0 : Int) (y1 : Int) (y2 : Int) (g0_0 : Nat) (g0_1 : Nat → MapDef) (r : Ex_barbicanlaw5_ObjectMany_L1v1) : List L1 → List Value := mrgF (mk_barbicanlaw5_ObjectMany_L1v1 r) (vl_barbicanlaw5_ObjectMany_L1v1 y0 y1 y2 g0_0 g0_1 r) 4
def Hf_barbicanlaw5_ObjectMany_L1v1 (y0 : Int) (y1 : Int) (y2 : Int) (g0_0 : Nat) (g0_1 : Nat → MapDef) : Ex_barbicanlaw5_ObjectMany_L1v1 → List L1 → List Obj
  | .e0 , ls => [.cells #[.slice none 0 0, (rowV (lget ls 1) g0_0 6), .slice none 0 0] 27, rowO (lget ls 1) (esG c_MapDef g0_0 g0_1) 29 g0_0 6, unb, unb, unb]
  | .e1 c1_0 c1_1, ls => [.cells #[.slice none 0 0, (rowV (lget ls 1) g0_0 6), (rowV (rrL (lget ls 3)) c1_0 2)] 27, rowO (lget ls 1) (esG c_MapDef g0_0 g0_1) 29 g0_0 6, unb, rsO hdS tlS 2 (lget ls 3) 35 32 c_Insn 5 c1_0 (fun _ => (2, (fun k => if k = 0 then (⟨183#8, 0#8, 0#8, 0#16, 0#32⟩ : Insn) else (⟨149#8, 0#8, 0#8, 0#16, 0#32⟩ : Insn)))) c1_1, unb]
def ex_barbicanlaw5_ObjectMany_L1v1 : Ex_barbicanlaw5_ObjectMany_L1v1 → Ex
  | .e0  => (.exit 2)
  | .e1 _ _ => (.exit 2)
theorem go_barbicanlaw5_ObjectMany_L1v1 (g0_0 : Nat) (g0_1 : Nat → MapDef) (s : Sh_barbicanlaw5_ObjectMany_L1v1) (r : Ex_barbicanlaw5_ObjectMany_L1v1) (h : lpO (st_barbicanlaw5_ObjectMany_L1v1 y1) s = some r) : GoesG Try.prog M B0 S (.loop bd_barbicanlaw5_ObjectMany_L1v1) 5 (fr_barbicanlaw5_ObjectMany_L1v1 y0 y1 y2 g0_0 g0_1 s) (Hs_barbicanlaw5_ObjectMany_L1v1 y0 y1 y2 g0_0 g0_1 s) (ex_barbicanlaw5_ObjectMany_L1v1 r) 3 (vf_barbicanlaw5_ObjectMany_L1v1 y0 y1 y2 g0_0 g0_1 r) (Hf_barbicanlaw5_ObjectMany_L1v1 y0 y1 y2 g0_0 g0_1 r) 5 :=
  goes_lpO (fun s q e => by
    cases s with
    | c0  =>
      unfold st_barbicanlaw5_ObjectMany_L1v1 at e
      dsimp only at e
      replace e := cond_eq_or e
      rcases e with ⟨hq0, e⟩ | ⟨hq0, e⟩
      · cases e; exact goes_runM hU [.o, .o, .b (z_lssT hq0), .r [0, 1, 2, 3, 4, 5, 6, 7, 8] [] [9, 10, 11, 12, 13, 14], .o, .a 0, .o, .o, .o, .o, .o, .o, .o, .o, .o, .o, .xg (sqApRS0_ok (hd := hdS) (tl := tlS) (x0 := (⟨#[97]⟩ : ByteArray)) (ty := 25) (T2 := 32) (E := fun _ => (⟨#[97]⟩ : ByteArray)) hzS h1S h2S rt25 #[false, false] .plain (f := c_Insn) (sz := 5) (m := 2) (B := (fun k => if k = 0 then (⟨183#8, 0#8, 0#8, 0#16, 0#32⟩ : Insn) else (⟨149#8, 0#8, 0#8, 0#16, 0#32⟩ : Insn))) (c := 1) (T' := 35) (by decide) (by decide) (by decide)) [6, 5], .o, .a 0, .o, .o, .o] [0, 1, 2, 7] (fun b => rfl) (by decide) rfl rfl (fun b => by kernel_rfl)
      · cases e; exact ⟨ne_exit 2, goes_runM hU [.o, .o, .b (z_lssF hq0)] [0, 1, 2, 3] (fun b => rfl) (by decide) rfl rfl (fun b => by kernel_rfl)⟩
    | c1 s0_0 s0_1 s0_2 =>
      unfold st_barbicanlaw5_ObjectMany_L1v1 at e
      dsimp only at e
      replace e := cond_eq_or e
      rcases e with ⟨hq0, e⟩ | ⟨hq0, e⟩
      · replace e := cond_eq_or e
        rcases e with ⟨hq1, e⟩ | ⟨hq1, e⟩
        · replace e := cond_eq_or e
          rcases e with ⟨hq2, e⟩ | ⟨hq2, e⟩
          · replace e := cond_eq_or e
            rcases e with ⟨hq3, e⟩ | ⟨hq3, e⟩
            · cases e; exact goes_runM hU [.o, .o, .b (z_lssT hq0), .r [0, 1, 2, 3, 4, 5, 6, 7, 8] [] [9, 10, 11, 12, 13, 14], .o, .a 0, .o, .o, .o, .o, .ov (slcS_ok (T := 9) (s := (⟨#[97, 98, 99, 100, 101, 102, 103, 104, 105, 106, 107, 108, 109, 110, 111, 112, 113, 114, 115, 116, 117, 118, 119, 120, 121, 122]⟩ : ByteArray)) (x := s0_2) (y := (IntKind.i64.wrap (s0_2 + 1))) (by kernel_rfl) hq2 hq1), .o, .o, .o, .o, .o, .xg (sqApRSc_ok (hd := hdS) (tl := tlS) (E := s0_1) (x0 := ((⟨#[97, 98, 99, 100, 101, 102, 103, 104, 105, 106, 107, 108, 109, 110, 111, 112, 113, 114, 115, 116, 117, 118, 119, 120, 121, 122]⟩ : ByteArray).extract (s0_2).toNat ((IntKind.i64.wrap (s0_2 + 1))).toNat)) (ty := 25) (T2 := 32) hzS h1S h2S rt25 #[false, false] .plain (f := c_Insn) (sz := 5) (N := s0_0) (m := 2) (B := (fun k => if k = 0 then (⟨183#8, 0#8, 0#8, 0#16, 0#32⟩ : Insn) else (⟨149#8, 0#8, 0#8, 0#16, 0#32⟩ : Insn))) (c := 1) (T' := 35) (by decide) (by decide) hq3 (by decide)) [3, 6, 5], .o, .a 0, .o, .o, .o] [0, 1, 2, 7] (fun b => rfl) (by decide) rfl rfl (fun b => by kernel_rfl)
            · exact none_some e
          · exact none_some e
        · exact none_some e
      · cases e; exact ⟨ne_exit 2, goes_runM hU [.o, .o, .b (z_lssF hq0)] [0, 1, 2, 3] (fun b => rfl) (by decide) rfl rfl (fun b => by kernel_rfl)⟩) s r h
noncomputable def t0_barbicanlaw5_ObjectMany_L1v1_0 (y0 : Int) (y1 : Int) (y2 : Int) (g0_0 : Nat) (g0_1 : Nat → MapDef)  (ls : List L1) : List Value := List.append [.int .i64 (y0), .int .i64 (y1), .int .i64 (y2)] (List.append (jks (lget ls 2).u 3 4) (List.append [.pointer (some ⟨(lget ls 0).n, 0, none⟩), ((lget ls 2).u 8), .string (⟨#[97, 98, 99, 100, 101, 102, 103, 104, 105, 106, 107, 108, 109, 110, 111, 112, 113, 114, 115, 116, 117, 118, 119, 120, 121, 122]⟩ : ByteArray), .int .i64 (0)] (jks (lget ls 2).u 11 105)))
def pre_barbicanlaw5_ObjectMany_L1v1_0 (y0 : Int) (y1 : Int) (y2 : Int) (g0_0 : Nat) (g0_1 : Nat → MapDef)  (ls : List L1) : List Obj := [.cells #[.slice none 0 0, (rowV (lget ls 1) g0_0 6), .slice none 0 0] 27, rowO (lget ls 1) (esG c_MapDef g0_0 g0_1) 29 g0_0 6, unb]
theorem sp0_barbicanlaw5_ObjectMany_L1v1_0_ok (g0_0 : Nat) (g0_1 : Nat → MapDef) (h : lpO (st_barbicanlaw5_ObjectMany_L1v1 y1) (.c0) = some (.e0 )) : SpcG Try.prog M B0 S ⟨fun ls => .code (.loop bd_barbicanlaw5_ObjectMany_L1v1) (t0_barbicanlaw5_ObjectMany_L1v1_0 y0 y1 y2 g0_0 g0_1  ls), pre_barbicanlaw5_ObjectMany_L1v1_0 y0 y1 y2 g0_0 g0_1 , 2, (.exit 2), fun ls => vf_barbicanlaw5_ObjectMany_L1v1 y0 y1 y2 g0_0 g0_1 (.e0 ) (ls.take 3 ++ ls.drop 3), fun ls => (Hf_barbicanlaw5_ObjectMany_L1v1 y0 y1 y2 g0_0 g0_1 (.e0 ) (ls.take 3 ++ ls.drop 3)).take 3 ++ List.replicate 0 unb, fun ls => (Hf_barbicanlaw5_ObjectMany_L1v1 y0 y1 y2 g0_0 g0_1 (.e0 ) (ls.take 3 ++ ls.drop 3)).drop 3⟩ :=
  spc_of_goesM hU 1 (k0 := 3) (go_barbicanlaw5_ObjectMany_L1v1 hU y0 y1 y2 g0_0 g0_1 _ _ h) (t0_barbicanlaw5_ObjectMany_L1v1_0 y0 y1 y2 g0_0 g0_1 ) (pre_barbicanlaw5_ObjectMany_L1v1_0 y0 y1 y2 g0_0 g0_1 ) (fun _ => rfl) (fun ls h => by match ls, h with | [l0, l1, l2], _ => exact ⟨by kernel_rfl, by kernel_rfl⟩) (fun ls h => by match ls, h with | [l0, l1, l2], _ => rfl) (by decide) (by decide) (fun ls => rfl)
theorem sp1_barbicanlaw5_ObjectMany_L1v1_0_ok (g0_0 : Nat) (g0_1 : Nat → MapDef) (c1_0 : Nat) (c1_1 : Nat → ByteArray) (h : lpO (st_barbicanlaw5_ObjectMany_L1v1 y1) (.c0) = some (.e1 c1_0 c1_1)) : SpcG Try.prog M B0 S ⟨fun ls => .code (.loop bd_barbicanlaw5_ObjectMany_L1v1) (t0_barbicanlaw5_ObjectMany_L1v1_0 y0 y1 y2 g0_0 g0_1  ls), pre_barbicanlaw5_ObjectMany_L1v1_0 y0 y1 y2 g0_0 g0_1 , 2, (.exit 2), fun ls => vf_barbicanlaw5_ObjectMany_L1v1 y0 y1 y2 g0_0 g0_1 (.e1 c1_0 c1_1) (ls.take 3 ++ ls.drop 3), fun ls => (Hf_barbicanlaw5_ObjectMany_L1v1 y0 y1 y2 g0_0 g0_1 (.e1 c1_0 c1_1) (ls.take 3 ++ ls.drop 3)).take 3 ++ List.replicate 0 unb, fun ls => (Hf_barbicanlaw5_ObjectMany_L1v1 y0 y1 y2 g0_0 g0_1 (.e1 c1_0 c1_1) (ls.take 3 ++ ls.drop 3)).drop 3⟩ :=
  spc_of_goesM hU 1 (k0 := 3) (go_barbicanlaw5_ObjectMany_L1v1 hU y0 y1 y2 g0_0 g0_1 _ _ h) (t0_barbicanlaw5_ObjectMany_L1v1_0 y0 y1 y2 g0_0 g0_1 ) (pre_barbicanlaw5_ObjectMany_L1v1_0 y0 y1 y2 g0_0 g0_1 ) (fun _ => rfl) (fun ls h => by match ls, h with | [l0, l1, l2], _ => exact ⟨by kernel_rfl, by kernel_rfl⟩) (fun ls h => by match ls, h with | [l0, l1, l2], _ => rfl) (by decide) (by decide) (fun ls => rfl)
noncomputable def m_barbicanlaw5_ObjectMany (y0 : Int) (y1 : Int) (y2 : Int) : Option (Bool) :=
  bif decide (y0 < 0) then
    (some true)
  else (bif decide (20 < y0) then
    (some true)
  else (bif decide (y1 < 0) then
    (some true)
  else (bif decide (20 < y1) then
    (some true)
  else ((lpO (st_barbicanlaw5_ObjectMany_L0 y0) (.c0)).bind fun g0 => match g0 with
  | .e0  => ((lpO (st_barbicanlaw5_ObjectMany_L1 y1) (.c0)).bind fun g1 => match g1 with
    | .e0  => (bif decide (0 < y2) then
        (bif decide (y2 < y1) then
          (none)
        else (bif decide (16 < y0) then
          (some false)
        else (bif y1 == 0 then
          (some true)
        else (bif decide (16 < y1) then
          (some true)
        else (some false)))))
      else (bif decide (16 < y0) then
        (some false)
      else (bif y1 == 0 then
        (some true)
      else (bif decide (16 < y1) then
        (some true)
      else (some false)))))
    | .e1 g1_0 g1_1 => (bif decide (0 < y2) then
        (bif decide (y2 < y1) then
          (bif inR y2 g1_0 then
            ((m_object_Check_v3 g1_0 (updF g1_1 (y2).toNat (⟨#[97]⟩ : ByteArray))).bind fun g2 => match g2 with
            | .e0 g2_0 g2_1 =>
            bif decide (16 < y0) then
              (bif g2_1 == 51 then
                (some (g2_0 == 16))
              else (some false))
            else (bif y1 == 0 then
              (bif g2_1 == 52 then
                (some (g2_0 == 0))
              else (some false))
            else (bif decide (16 < y1) then
              (bif g2_1 == 52 then
                (some (g2_0 == 0))
              else (some false))
            else (bif g2_1 == 52 then
              (some (g2_0 == y2))
            else (some false)))))
          else (none))
        else ((m_object_Check_v3 g1_0 g1_1).bind fun g2 => match g2 with
        | .e0 g2_0 g2_1 =>
        bif decide (16 < y0) then
          (bif g2_1 == 51 then
            (some (g2_0 == 16))
          else (some false))
        else (bif y1 == 0 then
          (bif g2_1 == 52 then
            (some (g2_0 == 0))
          else (some false))
        else (bif decide (16 < y1) then
          (bif g2_1 == 52 then
            (some (g2_0 == 0))
          else (some false))
        else (bif g2_1 == 0 then
          (some (g2_0 == 0))
        else (some false))))))
      else ((m_object_Check_v3 g1_0 g1_1).bind fun g2 => match g2 with
      | .e0 g2_0 g2_1 =>
      bif decide (16 < y0) then
        (bif g2_1 == 51 then
          (some (g2_0 == 16))
        else (some false))
      else (bif y1 == 0 then
        (bif g2_1 == 52 then
          (some (g2_0 == 0))
        else (some false))
      else (bif decide (16 < y1) then
        (bif g2_1 == 52 then
          (some (g2_0 == 0))
        else (some false))
      else (bif g2_1 == 0 then
        (some (g2_0 == 0))
      else (some false)))))))
  | .e1 g0_0 g0_1 => ((lpO (st_barbicanlaw5_ObjectMany_L1v1 y1) (.c0)).bind fun g1 => match g1 with
    | .e0  => (bif decide (0 < y2) then
        (bif decide (y2 < y1) then
          (none)
        else ((m_object_Check_v4 g0_0 g0_1).bind fun g2 => match g2 with
        | .e0 g2_0 g2_1 =>
        bif decide (16 < y0) then
          (bif g2_1 == 51 then
            (some (g2_0 == 16))
          else (some false))
        else (bif y1 == 0 then
          (bif g2_1 == 52 then
            (some (g2_0 == 0))
          else (some false))
        else (bif decide (16 < y1) then
          (bif g2_1 == 52 then
            (some (g2_0 == 0))
          else (some false))
        else (bif g2_1 == 0 then
          (some (g2_0 == 0))
        else (some false))))))
      else ((m_object_Check_v4 g0_0 g0_1).bind fun g2 => match g2 with
      | .e0 g2_0 g2_1 =>
      bif decide (16 < y0) then
        (bif g2_1 == 51 then
          (some (g2_0 == 16))
        else (some false))
      else (bif y1 == 0 then
        (bif g2_1 == 52 then
          (some (g2_0 == 0))
        else (some false))
      else (bif decide (16 < y1) then
        (bif g2_1 == 52 then
          (some (g2_0 == 0))
        else (some false))
      else (bif g2_1 == 0 then
        (some (g2_0 == 0))
      else (some false))))))
    | .e1 g1_0 g1_1 => (bif decide (0 < y2) then
        (bif decide (y2 < y1) then
          (bif inR y2 g1_0 then
            ((m_object_Check_v5 g0_0 g1_0 g0_1 (updF g1_1 (y2).toNat (⟨#[97]⟩ : ByteArray))).bind fun g2 => match g2 with
            | .e0 g2_0 g2_1 =>
            bif decide (16 < y0) then
              (bif g2_1 == 51 then
                (some (g2_0 == 16))
              else (some false))
            else (bif y1 == 0 then
              (bif g2_1 == 52 then
                (some (g2_0 == 0))
              else (some false))
            else (bif decide (16 < y1) then
              (bif g2_1 == 52 then
                (some (g2_0 == 0))
              else (some false))
            else (bif g2_1 == 52 then
              (some (g2_0 == y2))
            else (some false)))))
          else (none))
        else ((m_object_Check_v5 g0_0 g1_0 g0_1 g1_1).bind fun g2 => match g2 with
        | .e0 g2_0 g2_1 =>
        bif decide (16 < y0) then
          (bif g2_1 == 51 then
            (some (g2_0 == 16))
          else (some false))
        else (bif y1 == 0 then
          (bif g2_1 == 52 then
            (some (g2_0 == 0))
          else (some false))
        else (bif decide (16 < y1) then
          (bif g2_1 == 52 then
            (some (g2_0 == 0))
          else (some false))
        else (bif g2_1 == 0 then
          (some (g2_0 == 0))
        else (some false))))))
      else ((m_object_Check_v5 g0_0 g1_0 g0_1 g1_1).bind fun g2 => match g2 with
      | .e0 g2_0 g2_1 =>
      bif decide (16 < y0) then
        (bif g2_1 == 51 then
          (some (g2_0 == 16))
        else (some false))
      else (bif y1 == 0 then
        (bif g2_1 == 52 then
          (some (g2_0 == 0))
        else (some false))
      else (bif decide (16 < y1) then
        (bif g2_1 == 52 then
          (some (g2_0 == 0))
        else (some false))
      else (bif g2_1 == 0 then
        (some (g2_0 == 0))
      else (some false)))))))))))
end

end Go.Proofs.Ytefmnjehhpceoaa


