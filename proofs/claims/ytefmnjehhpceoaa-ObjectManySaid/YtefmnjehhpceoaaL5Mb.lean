/-
  The law on many maps and programs, by the program's text.
-/
import Derived.Test.YtefmnjehhpceoaaL5M
import Derived.Test.YtefmnjehhpceoaaL5K
import Derived.Test.YtefmnjehhpceoaaRyQ
namespace Go.Proofs.Ytefmnjehhpceoaa
open Go.RowKit
set_option linter.unusedVariables false
set_option linter.unusedSimpArgs false
set_option linter.unusedSectionVars false
set_option maxRecDepth 100000
set_option maxHeartbeats 4000000
inductive Sh_object_Check_v3_L1 where
  | c0 
  | c1 
  | c2 
  | c3 
  | c4 
  | c5 
  | c6 
  | c7 
  | c8 
  | c9 
  | c10 
  | c11 
  | c12 
  | c13 
  | c14 
  | c15 
  | c16 
inductive Ex_object_Check_v3_L1 where
  | e0 
  | e1 
  | e2 
  | e3 
  | e4 
  | e5 
  | e6 
  | e7 
  | e8 
  | e9 
  | e10 
  | e11 
  | e12 
  | e13 
  | e14 
  | e15 
  | e16 
  | e17 
  | e18 
  | e19 
  | e20 
  | e21 
  | e22 
  | e23 
  | e24 
  | e25 
  | e26 
  | e27 
  | e28 
  | e29 
  | e30 
  | e31 
  | e32 
noncomputable def st_object_Check_v3_L1 (w0 : Nat) (w1 : Nat → ByteArray) : Sh_object_Check_v3_L1 → Option (Sh_object_Check_v3_L1 ⊕ Ex_object_Check_v3_L1)
  | .c0  =>
    bif decide (0 < (w0 : Int)) then
      (bif inR 0 w0 then
        (bif (w1 0) == (⟨#[97]⟩ : ByteArray) then
          (some (.inl (.c1)))
        else (none))
      else (none))
    else (some (.inr (.e0 )))
  | .c1  =>
    bif decide (1 < (w0 : Int)) then
      (bif inR 1 w0 then
        (bif (w1 1) == (⟨#[98]⟩ : ByteArray) then
          (some (.inl (.c2)))
        else (bif (w1 1) == (⟨#[97]⟩ : ByteArray) then
          (some (.inr (.e17 )))
        else (none)))
      else (none))
    else (some (.inr (.e1 )))
  | .c2  =>
    bif decide (2 < (w0 : Int)) then
      (bif inR 2 w0 then
        (bif (w1 2) == (⟨#[99]⟩ : ByteArray) then
          (some (.inl (.c3)))
        else (bif (w1 2) == (⟨#[97]⟩ : ByteArray) then
          (some (.inr (.e18 )))
        else (none)))
      else (none))
    else (some (.inr (.e2 )))
  | .c3  =>
    bif decide (3 < (w0 : Int)) then
      (bif inR 3 w0 then
        (bif (w1 3) == (⟨#[100]⟩ : ByteArray) then
          (some (.inl (.c4)))
        else (bif (w1 3) == (⟨#[97]⟩ : ByteArray) then
          (some (.inr (.e19 )))
        else (none)))
      else (none))
    else (some (.inr (.e3 )))
  | .c4  =>
    bif decide (4 < (w0 : Int)) then
      (bif inR 4 w0 then
        (bif (w1 4) == (⟨#[101]⟩ : ByteArray) then
          (some (.inl (.c5)))
        else (bif (w1 4) == (⟨#[97]⟩ : ByteArray) then
          (some (.inr (.e20 )))
        else (none)))
      else (none))
    else (some (.inr (.e4 )))
  | .c5  =>
    bif decide (5 < (w0 : Int)) then
      (bif inR 5 w0 then
        (bif (w1 5) == (⟨#[102]⟩ : ByteArray) then
          (some (.inl (.c6)))
        else (bif (w1 5) == (⟨#[97]⟩ : ByteArray) then
          (some (.inr (.e21 )))
        else (none)))
      else (none))
    else (some (.inr (.e5 )))
  | .c6  =>
    bif decide (6 < (w0 : Int)) then
      (bif inR 6 w0 then
        (bif (w1 6) == (⟨#[103]⟩ : ByteArray) then
          (some (.inl (.c7)))
        else (bif (w1 6) == (⟨#[97]⟩ : ByteArray) then
          (some (.inr (.e22 )))
        else (none)))
      else (none))
    else (some (.inr (.e6 )))
  | .c7  =>
    bif decide (7 < (w0 : Int)) then
      (bif inR 7 w0 then
        (bif (w1 7) == (⟨#[104]⟩ : ByteArray) then
          (some (.inl (.c8)))
        else (bif (w1 7) == (⟨#[97]⟩ : ByteArray) then
          (some (.inr (.e23 )))
        else (none)))
      else (none))
    else (some (.inr (.e7 )))
  | .c8  =>
    bif decide (8 < (w0 : Int)) then
      (bif inR 8 w0 then
        (bif (w1 8) == (⟨#[105]⟩ : ByteArray) then
          (some (.inl (.c9)))
        else (bif (w1 8) == (⟨#[97]⟩ : ByteArray) then
          (some (.inr (.e24 )))
        else (none)))
      else (none))
    else (some (.inr (.e8 )))
  | .c9  =>
    bif decide (9 < (w0 : Int)) then
      (bif inR 9 w0 then
        (bif (w1 9) == (⟨#[106]⟩ : ByteArray) then
          (some (.inl (.c10)))
        else (bif (w1 9) == (⟨#[97]⟩ : ByteArray) then
          (some (.inr (.e25 )))
        else (none)))
      else (none))
    else (some (.inr (.e9 )))
  | .c10  =>
    bif decide (10 < (w0 : Int)) then
      (bif inR 10 w0 then
        (bif (w1 10) == (⟨#[107]⟩ : ByteArray) then
          (some (.inl (.c11)))
        else (bif (w1 10) == (⟨#[97]⟩ : ByteArray) then
          (some (.inr (.e26 )))
        else (none)))
      else (none))
    else (some (.inr (.e10 )))
  | .c11  =>
    bif decide (11 < (w0 : Int)) then
      (bif inR 11 w0 then
        (bif (w1 11) == (⟨#[108]⟩ : ByteArray) then
          (some (.inl (.c12)))
        else (bif (w1 11) == (⟨#[97]⟩ : ByteArray) then
          (some (.inr (.e27 )))
        else (none)))
      else (none))
    else (some (.inr (.e11 )))
  | .c12  =>
    bif decide (12 < (w0 : Int)) then
      (bif inR 12 w0 then
        (bif (w1 12) == (⟨#[109]⟩ : ByteArray) then
          (some (.inl (.c13)))
        else (bif (w1 12) == (⟨#[97]⟩ : ByteArray) then
          (some (.inr (.e28 )))
        else (none)))
      else (none))
    else (some (.inr (.e12 )))
  | .c13  =>
    bif decide (13 < (w0 : Int)) then
      (bif inR 13 w0 then
        (bif (w1 13) == (⟨#[110]⟩ : ByteArray) then
          (some (.inl (.c14)))
        else (bif (w1 13) == (⟨#[97]⟩ : ByteArray) then
          (some (.inr (.e29 )))
        else (none)))
      else (none))
    else (some (.inr (.e13 )))
  | .c14  =>
    bif decide (14 < (w0 : Int)) then
      (bif inR 14 w0 then
        (bif (w1 14) == (⟨#[111]⟩ : ByteArray) then
          (some (.inl (.c15)))
        else (bif (w1 14) == (⟨#[97]⟩ : ByteArray) then
          (some (.inr (.e30 )))
        else (none)))
      else (none))
    else (some (.inr (.e14 )))
  | .c15  =>
    bif decide (15 < (w0 : Int)) then
      (bif inR 15 w0 then
        (bif (w1 15) == (⟨#[112]⟩ : ByteArray) then
          (some (.inl (.c16)))
        else (bif (w1 15) == (⟨#[97]⟩ : ByteArray) then
          (some (.inr (.e31 )))
        else (none)))
      else (none))
    else (some (.inr (.e15 )))
  | .c16  =>
    bif decide (16 < (w0 : Int)) then
      (bif inR 16 w0 then
        (bif (w1 16) == (⟨#[97]⟩ : ByteArray) then
          (some (.inr (.e32 )))
        else (none))
      else (none))
    else (some (.inr (.e16 )))
noncomputable def bd_object_Check_v3_L1 : Code := codeOf Try.f5 [1, 1, 1, 1, 1, 0, 1, 0, 0]
def fl_object_Check_v3_L1 (w0 : Nat) (w1 : Nat → ByteArray) : Sh_object_Check_v3_L1 → List L1 → List Value
  | .c0 , ls => [.pointer (some ⟨(lget ls 1).n, 0, none⟩), .int .i64 (0), .int .i64 (0), .map (some (lget ls 2).n), (rowV (rrL (lget ls 0)) w0 2), .int .i64 ((w0 : Int)), .int .i64 (0)]
  | .c1 , ls => [.pointer (some ⟨(lget ls 1).n, 0, none⟩), .int .i64 (0), .int .i64 (0), .map (some (lget ls 2).n), (rowV (rrL (lget ls 0)) w0 2), .int .i64 ((w0 : Int)), .int .i64 (1)]
  | .c2 , ls => [.pointer (some ⟨(lget ls 1).n, 0, none⟩), .int .i64 (0), .int .i64 (0), .map (some (lget ls 2).n), (rowV (rrL (lget ls 0)) w0 2), .int .i64 ((w0 : Int)), .int .i64 (2)]
  | .c3 , ls => [.pointer (some ⟨(lget ls 1).n, 0, none⟩), .int .i64 (0), .int .i64 (0), .map (some (lget ls 2).n), (rowV (rrL (lget ls 0)) w0 2), .int .i64 ((w0 : Int)), .int .i64 (3)]
  | .c4 , ls => [.pointer (some ⟨(lget ls 1).n, 0, none⟩), .int .i64 (0), .int .i64 (0), .map (some (lget ls 2).n), (rowV (rrL (lget ls 0)) w0 2), .int .i64 ((w0 : Int)), .int .i64 (4)]
  | .c5 , ls => [.pointer (some ⟨(lget ls 1).n, 0, none⟩), .int .i64 (0), .int .i64 (0), .map (some (lget ls 2).n), (rowV (rrL (lget ls 0)) w0 2), .int .i64 ((w0 : Int)), .int .i64 (5)]
  | .c6 , ls => [.pointer (some ⟨(lget ls 1).n, 0, none⟩), .int .i64 (0), .int .i64 (0), .map (some (lget ls 2).n), (rowV (rrL (lget ls 0)) w0 2), .int .i64 ((w0 : Int)), .int .i64 (6)]
  | .c7 , ls => [.pointer (some ⟨(lget ls 1).n, 0, none⟩), .int .i64 (0), .int .i64 (0), .map (some (lget ls 2).n), (rowV (rrL (lget ls 0)) w0 2), .int .i64 ((w0 : Int)), .int .i64 (7)]
  | .c8 , ls => [.pointer (some ⟨(lget ls 1).n, 0, none⟩), .int .i64 (0), .int .i64 (0), .map (some (lget ls 2).n), (rowV (rrL (lget ls 0)) w0 2), .int .i64 ((w0 : Int)), .int .i64 (8)]
  | .c9 , ls => [.pointer (some ⟨(lget ls 1).n, 0, none⟩), .int .i64 (0), .int .i64 (0), .map (some (lget ls 2).n), (rowV (rrL (lget ls 0)) w0 2), .int .i64 ((w0 : Int)), .int .i64 (9)]
  | .c10 , ls => [.pointer (some ⟨(lget ls 1).n, 0, none⟩), .int .i64 (0), .int .i64 (0), .map (some (lget ls 2).n), (rowV (rrL (lget ls 0)) w0 2), .int .i64 ((w0 : Int)), .int .i64 (10)]
  | .c11 , ls => [.pointer (some ⟨(lget ls 1).n, 0, none⟩), .int .i64 (0), .int .i64 (0), .map (some (lget ls 2).n), (rowV (rrL (lget ls 0)) w0 2), .int .i64 ((w0 : Int)), .int .i64 (11)]
  | .c12 , ls => [.pointer (some ⟨(lget ls 1).n, 0, none⟩), .int .i64 (0), .int .i64 (0), .map (some (lget ls 2).n), (rowV (rrL (lget ls 0)) w0 2), .int .i64 ((w0 : Int)), .int .i64 (12)]
  | .c13 , ls => [.pointer (some ⟨(lget ls 1).n, 0, none⟩), .int .i64 (0), .int .i64 (0), .map (some (lget ls 2).n), (rowV (rrL (lget ls 0)) w0 2), .int .i64 ((w0 : Int)), .int .i64 (13)]
  | .c14 , ls => [.pointer (some ⟨(lget ls 1).n, 0, none⟩), .int .i64 (0), .int .i64 (0), .map (some (lget ls 2).n), (rowV (rrL (lget ls 0)) w0 2), .int .i64 ((w0 : Int)), .int .i64 (14)]
  | .c15 , ls => [.pointer (some ⟨(lget ls 1).n, 0, none⟩), .int .i64 (0), .int .i64 (0), .map (some (lget ls 2).n), (rowV (rrL (lget ls 0)) w0 2), .int .i64 ((w0 : Int)), .int .i64 (15)]
  | .c16 , ls => [.pointer (some ⟨(lget ls 1).n, 0, none⟩), .int .i64 (0), .int .i64 (0), .map (some (lget ls 2).n), (rowV (rrL (lget ls 0)) w0 2), .int .i64 ((w0 : Int)), .int .i64 (16)]
def mf_object_Check_v3_L1 : Sh_object_Check_v3_L1 → List (Nat × Nat)
  | .c0  => [(0, 1), (3, 4), (1, 43), (3, 31)]
  | .c1  => [(0, 1), (3, 4), (1, 43), (3, 31)]
  | .c2  => [(0, 1), (3, 4), (1, 43), (3, 31)]
  | .c3  => [(0, 1), (3, 4), (1, 43), (3, 31)]
  | .c4  => [(0, 1), (3, 4), (1, 43), (3, 31)]
  | .c5  => [(0, 1), (3, 4), (1, 43), (3, 31)]
  | .c6  => [(0, 1), (3, 4), (1, 43), (3, 31)]
  | .c7  => [(0, 1), (3, 4), (1, 43), (3, 31)]
  | .c8  => [(0, 1), (3, 4), (1, 43), (3, 31)]
  | .c9  => [(0, 1), (3, 4), (1, 43), (3, 31)]
  | .c10  => [(0, 1), (3, 4), (1, 43), (3, 31)]
  | .c11  => [(0, 1), (3, 4), (1, 43), (3, 31)]
  | .c12  => [(0, 1), (3, 4), (1, 43), (3, 31)]
  | .c13  => [(0, 1), (3, 4), (1, 43), (3, 31)]
  | .c14  => [(0, 1), (3, 4), (1, 43), (3, 31)]
  | .c15  => [(0, 1), (3, 4), (1, 43), (3, 31)]
  | .c16  => [(0, 1), (3, 4), (1, 43), (3, 31)]
noncomputable def fr_object_Check_v3_L1 (w0 : Nat) (w1 : Nat → ByteArray) (s : Sh_object_Check_v3_L1) : List L1 → List Value := mrgF (mf_object_Check_v3_L1 s) (fl_object_Check_v3_L1 w0 w1 s) 3
def Hs_object_Check_v3_L1 (w0 : Nat) (w1 : Nat → ByteArray) : Sh_object_Check_v3_L1 → List L1 → List Obj
  | .c0 , ls => [rsO hdS tlS 2 (lget ls 0) 35 32 c_Insn 5 w0 (fun _ => (2, (fun k => if k = 0 then (⟨183#8, 0#8, 0#8, 0#16, 0#32⟩ : Insn) else (⟨149#8, 0#8, 0#8, 0#16, 0#32⟩ : Insn)))) w1, .cells #[.slice none 0 0, .slice none 0 0, (rowV (rrL (lget ls 0)) w0 2)] 27, .map #[] 0, unb]
  | .c1 , ls => [rsO hdS tlS 2 (lget ls 0) 35 32 c_Insn 5 w0 (fun _ => (2, (fun k => if k = 0 then (⟨183#8, 0#8, 0#8, 0#16, 0#32⟩ : Insn) else (⟨149#8, 0#8, 0#8, 0#16, 0#32⟩ : Insn)))) w1, .cells #[.slice none 0 0, .slice none 0 0, (rowV (rrL (lget ls 0)) w0 2)] 27, .map #[⟨.string (⟨#[97]⟩ : ByteArray), .int .i64 (1), 0⟩] 1, unb]
  | .c2 , ls => [rsO hdS tlS 2 (lget ls 0) 35 32 c_Insn 5 w0 (fun _ => (2, (fun k => if k = 0 then (⟨183#8, 0#8, 0#8, 0#16, 0#32⟩ : Insn) else (⟨149#8, 0#8, 0#8, 0#16, 0#32⟩ : Insn)))) w1, .cells #[.slice none 0 0, .slice none 0 0, (rowV (rrL (lget ls 0)) w0 2)] 27, .map #[⟨.string (⟨#[97]⟩ : ByteArray), .int .i64 (1), 0⟩, ⟨.string (⟨#[98]⟩ : ByteArray), .int .i64 (1), 1⟩] 2, unb]
  | .c3 , ls => [rsO hdS tlS 2 (lget ls 0) 35 32 c_Insn 5 w0 (fun _ => (2, (fun k => if k = 0 then (⟨183#8, 0#8, 0#8, 0#16, 0#32⟩ : Insn) else (⟨149#8, 0#8, 0#8, 0#16, 0#32⟩ : Insn)))) w1, .cells #[.slice none 0 0, .slice none 0 0, (rowV (rrL (lget ls 0)) w0 2)] 27, .map #[⟨.string (⟨#[97]⟩ : ByteArray), .int .i64 (1), 0⟩, ⟨.string (⟨#[98]⟩ : ByteArray), .int .i64 (1), 1⟩, ⟨.string (⟨#[99]⟩ : ByteArray), .int .i64 (1), 2⟩] 3, unb]
  | .c4 , ls => [rsO hdS tlS 2 (lget ls 0) 35 32 c_Insn 5 w0 (fun _ => (2, (fun k => if k = 0 then (⟨183#8, 0#8, 0#8, 0#16, 0#32⟩ : Insn) else (⟨149#8, 0#8, 0#8, 0#16, 0#32⟩ : Insn)))) w1, .cells #[.slice none 0 0, .slice none 0 0, (rowV (rrL (lget ls 0)) w0 2)] 27, .map #[⟨.string (⟨#[97]⟩ : ByteArray), .int .i64 (1), 0⟩, ⟨.string (⟨#[98]⟩ : ByteArray), .int .i64 (1), 1⟩, ⟨.string (⟨#[99]⟩ : ByteArray), .int .i64 (1), 2⟩, ⟨.string (⟨#[100]⟩ : ByteArray), .int .i64 (1), 3⟩] 4, unb]
  | .c5 , ls => [rsO hdS tlS 2 (lget ls 0) 35 32 c_Insn 5 w0 (fun _ => (2, (fun k => if k = 0 then (⟨183#8, 0#8, 0#8, 0#16, 0#32⟩ : Insn) else (⟨149#8, 0#8, 0#8, 0#16, 0#32⟩ : Insn)))) w1, .cells #[.slice none 0 0, .slice none 0 0, (rowV (rrL (lget ls 0)) w0 2)] 27, .map #[⟨.string (⟨#[97]⟩ : ByteArray), .int .i64 (1), 0⟩, ⟨.string (⟨#[98]⟩ : ByteArray), .int .i64 (1), 1⟩, ⟨.string (⟨#[99]⟩ : ByteArray), .int .i64 (1), 2⟩, ⟨.string (⟨#[100]⟩ : ByteArray), .int .i64 (1), 3⟩, ⟨.string (⟨#[101]⟩ : ByteArray), .int .i64 (1), 4⟩] 5, unb]
  | .c6 , ls => [rsO hdS tlS 2 (lget ls 0) 35 32 c_Insn 5 w0 (fun _ => (2, (fun k => if k = 0 then (⟨183#8, 0#8, 0#8, 0#16, 0#32⟩ : Insn) else (⟨149#8, 0#8, 0#8, 0#16, 0#32⟩ : Insn)))) w1, .cells #[.slice none 0 0, .slice none 0 0, (rowV (rrL (lget ls 0)) w0 2)] 27, .map #[⟨.string (⟨#[97]⟩ : ByteArray), .int .i64 (1), 0⟩, ⟨.string (⟨#[98]⟩ : ByteArray), .int .i64 (1), 1⟩, ⟨.string (⟨#[99]⟩ : ByteArray), .int .i64 (1), 2⟩, ⟨.string (⟨#[100]⟩ : ByteArray), .int .i64 (1), 3⟩, ⟨.string (⟨#[101]⟩ : ByteArray), .int .i64 (1), 4⟩, ⟨.string (⟨#[102]⟩ : ByteArray), .int .i64 (1), 5⟩] 6, unb]
  | .c7 , ls => [rsO hdS tlS 2 (lget ls 0) 35 32 c_Insn 5 w0 (fun _ => (2, (fun k => if k = 0 then (⟨183#8, 0#8, 0#8, 0#16, 0#32⟩ : Insn) else (⟨149#8, 0#8, 0#8, 0#16, 0#32⟩ : Insn)))) w1, .cells #[.slice none 0 0, .slice none 0 0, (rowV (rrL (lget ls 0)) w0 2)] 27, .map #[⟨.string (⟨#[97]⟩ : ByteArray), .int .i64 (1), 0⟩, ⟨.string (⟨#[98]⟩ : ByteArray), .int .i64 (1), 1⟩, ⟨.string (⟨#[99]⟩ : ByteArray), .int .i64 (1), 2⟩, ⟨.string (⟨#[100]⟩ : ByteArray), .int .i64 (1), 3⟩, ⟨.string (⟨#[101]⟩ : ByteArray), .int .i64 (1), 4⟩, ⟨.string (⟨#[102]⟩ : ByteArray), .int .i64 (1), 5⟩, ⟨.string (⟨#[103]⟩ : ByteArray), .int .i64 (1), 6⟩] 7, unb]
  | .c8 , ls => [rsO hdS tlS 2 (lget ls 0) 35 32 c_Insn 5 w0 (fun _ => (2, (fun k => if k = 0 then (⟨183#8, 0#8, 0#8, 0#16, 0#32⟩ : Insn) else (⟨149#8, 0#8, 0#8, 0#16, 0#32⟩ : Insn)))) w1, .cells #[.slice none 0 0, .slice none 0 0, (rowV (rrL (lget ls 0)) w0 2)] 27, .map #[⟨.string (⟨#[97]⟩ : ByteArray), .int .i64 (1), 0⟩, ⟨.string (⟨#[98]⟩ : ByteArray), .int .i64 (1), 1⟩, ⟨.string (⟨#[99]⟩ : ByteArray), .int .i64 (1), 2⟩, ⟨.string (⟨#[100]⟩ : ByteArray), .int .i64 (1), 3⟩, ⟨.string (⟨#[101]⟩ : ByteArray), .int .i64 (1), 4⟩, ⟨.string (⟨#[102]⟩ : ByteArray), .int .i64 (1), 5⟩, ⟨.string (⟨#[103]⟩ : ByteArray), .int .i64 (1), 6⟩, ⟨.string (⟨#[104]⟩ : ByteArray), .int .i64 (1), 7⟩] 8, unb]
  | .c9 , ls => [rsO hdS tlS 2 (lget ls 0) 35 32 c_Insn 5 w0 (fun _ => (2, (fun k => if k = 0 then (⟨183#8, 0#8, 0#8, 0#16, 0#32⟩ : Insn) else (⟨149#8, 0#8, 0#8, 0#16, 0#32⟩ : Insn)))) w1, .cells #[.slice none 0 0, .slice none 0 0, (rowV (rrL (lget ls 0)) w0 2)] 27, .map #[⟨.string (⟨#[97]⟩ : ByteArray), .int .i64 (1), 0⟩, ⟨.string (⟨#[98]⟩ : ByteArray), .int .i64 (1), 1⟩, ⟨.string (⟨#[99]⟩ : ByteArray), .int .i64 (1), 2⟩, ⟨.string (⟨#[100]⟩ : ByteArray), .int .i64 (1), 3⟩, ⟨.string (⟨#[101]⟩ : ByteArray), .int .i64 (1), 4⟩, ⟨.string (⟨#[102]⟩ : ByteArray), .int .i64 (1), 5⟩, ⟨.string (⟨#[103]⟩ : ByteArray), .int .i64 (1), 6⟩, ⟨.string (⟨#[104]⟩ : ByteArray), .int .i64 (1), 7⟩, ⟨.string (⟨#[105]⟩ : ByteArray), .int .i64 (1), 8⟩] 9, unb]
  | .c10 , ls => [rsO hdS tlS 2 (lget ls 0) 35 32 c_Insn 5 w0 (fun _ => (2, (fun k => if k = 0 then (⟨183#8, 0#8, 0#8, 0#16, 0#32⟩ : Insn) else (⟨149#8, 0#8, 0#8, 0#16, 0#32⟩ : Insn)))) w1, .cells #[.slice none 0 0, .slice none 0 0, (rowV (rrL (lget ls 0)) w0 2)] 27, .map #[⟨.string (⟨#[97]⟩ : ByteArray), .int .i64 (1), 0⟩, ⟨.string (⟨#[98]⟩ : ByteArray), .int .i64 (1), 1⟩, ⟨.string (⟨#[99]⟩ : ByteArray), .int .i64 (1), 2⟩, ⟨.string (⟨#[100]⟩ : ByteArray), .int .i64 (1), 3⟩, ⟨.string (⟨#[101]⟩ : ByteArray), .int .i64 (1), 4⟩, ⟨.string (⟨#[102]⟩ : ByteArray), .int .i64 (1), 5⟩, ⟨.string (⟨#[103]⟩ : ByteArray), .int .i64 (1), 6⟩, ⟨.string (⟨#[104]⟩ : ByteArray), .int .i64 (1), 7⟩, ⟨.string (⟨#[105]⟩ : ByteArray), .int .i64 (1), 8⟩, ⟨.string (⟨#[106]⟩ : ByteArray), .int .i64 (1), 9⟩] 10, unb]
  | .c11 , ls => [rsO hdS tlS 2 (lget ls 0) 35 32 c_Insn 5 w0 (fun _ => (2, (fun k => if k = 0 then (⟨183#8, 0#8, 0#8, 0#16, 0#32⟩ : Insn) else (⟨149#8, 0#8, 0#8, 0#16, 0#32⟩ : Insn)))) w1, .cells #[.slice none 0 0, .slice none 0 0, (rowV (rrL (lget ls 0)) w0 2)] 27, .map #[⟨.string (⟨#[97]⟩ : ByteArray), .int .i64 (1), 0⟩, ⟨.string (⟨#[98]⟩ : ByteArray), .int .i64 (1), 1⟩, ⟨.string (⟨#[99]⟩ : ByteArray), .int .i64 (1), 2⟩, ⟨.string (⟨#[100]⟩ : ByteArray), .int .i64 (1), 3⟩, ⟨.string (⟨#[101]⟩ : ByteArray), .int .i64 (1), 4⟩, ⟨.string (⟨#[102]⟩ : ByteArray), .int .i64 (1), 5⟩, ⟨.string (⟨#[103]⟩ : ByteArray), .int .i64 (1), 6⟩, ⟨.string (⟨#[104]⟩ : ByteArray), .int .i64 (1), 7⟩, ⟨.string (⟨#[105]⟩ : ByteArray), .int .i64 (1), 8⟩, ⟨.string (⟨#[106]⟩ : ByteArray), .int .i64 (1), 9⟩, ⟨.string (⟨#[107]⟩ : ByteArray), .int .i64 (1), 10⟩] 11, unb]
  | .c12 , ls => [rsO hdS tlS 2 (lget ls 0) 35 32 c_Insn 5 w0 (fun _ => (2, (fun k => if k = 0 then (⟨183#8, 0#8, 0#8, 0#16, 0#32⟩ : Insn) else (⟨149#8, 0#8, 0#8, 0#16, 0#32⟩ : Insn)))) w1, .cells #[.slice none 0 0, .slice none 0 0, (rowV (rrL (lget ls 0)) w0 2)] 27, .map #[⟨.string (⟨#[97]⟩ : ByteArray), .int .i64 (1), 0⟩, ⟨.string (⟨#[98]⟩ : ByteArray), .int .i64 (1), 1⟩, ⟨.string (⟨#[99]⟩ : ByteArray), .int .i64 (1), 2⟩, ⟨.string (⟨#[100]⟩ : ByteArray), .int .i64 (1), 3⟩, ⟨.string (⟨#[101]⟩ : ByteArray), .int .i64 (1), 4⟩, ⟨.string (⟨#[102]⟩ : ByteArray), .int .i64 (1), 5⟩, ⟨.string (⟨#[103]⟩ : ByteArray), .int .i64 (1), 6⟩, ⟨.string (⟨#[104]⟩ : ByteArray), .int .i64 (1), 7⟩, ⟨.string (⟨#[105]⟩ : ByteArray), .int .i64 (1), 8⟩, ⟨.string (⟨#[106]⟩ : ByteArray), .int .i64 (1), 9⟩, ⟨.string (⟨#[107]⟩ : ByteArray), .int .i64 (1), 10⟩, ⟨.string (⟨#[108]⟩ : ByteArray), .int .i64 (1), 11⟩] 12, unb]
  | .c13 , ls => [rsO hdS tlS 2 (lget ls 0) 35 32 c_Insn 5 w0 (fun _ => (2, (fun k => if k = 0 then (⟨183#8, 0#8, 0#8, 0#16, 0#32⟩ : Insn) else (⟨149#8, 0#8, 0#8, 0#16, 0#32⟩ : Insn)))) w1, .cells #[.slice none 0 0, .slice none 0 0, (rowV (rrL (lget ls 0)) w0 2)] 27, .map #[⟨.string (⟨#[97]⟩ : ByteArray), .int .i64 (1), 0⟩, ⟨.string (⟨#[98]⟩ : ByteArray), .int .i64 (1), 1⟩, ⟨.string (⟨#[99]⟩ : ByteArray), .int .i64 (1), 2⟩, ⟨.string (⟨#[100]⟩ : ByteArray), .int .i64 (1), 3⟩, ⟨.string (⟨#[101]⟩ : ByteArray), .int .i64 (1), 4⟩, ⟨.string (⟨#[102]⟩ : ByteArray), .int .i64 (1), 5⟩, ⟨.string (⟨#[103]⟩ : ByteArray), .int .i64 (1), 6⟩, ⟨.string (⟨#[104]⟩ : ByteArray), .int .i64 (1), 7⟩, ⟨.string (⟨#[105]⟩ : ByteArray), .int .i64 (1), 8⟩, ⟨.string (⟨#[106]⟩ : ByteArray), .int .i64 (1), 9⟩, ⟨.string (⟨#[107]⟩ : ByteArray), .int .i64 (1), 10⟩, ⟨.string (⟨#[108]⟩ : ByteArray), .int .i64 (1), 11⟩, ⟨.string (⟨#[109]⟩ : ByteArray), .int .i64 (1), 12⟩] 13, unb]
  | .c14 , ls => [rsO hdS tlS 2 (lget ls 0) 35 32 c_Insn 5 w0 (fun _ => (2, (fun k => if k = 0 then (⟨183#8, 0#8, 0#8, 0#16, 0#32⟩ : Insn) else (⟨149#8, 0#8, 0#8, 0#16, 0#32⟩ : Insn)))) w1, .cells #[.slice none 0 0, .slice none 0 0, (rowV (rrL (lget ls 0)) w0 2)] 27, .map #[⟨.string (⟨#[97]⟩ : ByteArray), .int .i64 (1), 0⟩, ⟨.string (⟨#[98]⟩ : ByteArray), .int .i64 (1), 1⟩, ⟨.string (⟨#[99]⟩ : ByteArray), .int .i64 (1), 2⟩, ⟨.string (⟨#[100]⟩ : ByteArray), .int .i64 (1), 3⟩, ⟨.string (⟨#[101]⟩ : ByteArray), .int .i64 (1), 4⟩, ⟨.string (⟨#[102]⟩ : ByteArray), .int .i64 (1), 5⟩, ⟨.string (⟨#[103]⟩ : ByteArray), .int .i64 (1), 6⟩, ⟨.string (⟨#[104]⟩ : ByteArray), .int .i64 (1), 7⟩, ⟨.string (⟨#[105]⟩ : ByteArray), .int .i64 (1), 8⟩, ⟨.string (⟨#[106]⟩ : ByteArray), .int .i64 (1), 9⟩, ⟨.string (⟨#[107]⟩ : ByteArray), .int .i64 (1), 10⟩, ⟨.string (⟨#[108]⟩ : ByteArray), .int .i64 (1), 11⟩, ⟨.string (⟨#[109]⟩ : ByteArray), .int .i64 (1), 12⟩, ⟨.string (⟨#[110]⟩ : ByteArray), .int .i64 (1), 13⟩] 14, unb]
  | .c15 , ls => [rsO hdS tlS 2 (lget ls 0) 35 32 c_Insn 5 w0 (fun _ => (2, (fun k => if k = 0 then (⟨183#8, 0#8, 0#8, 0#16, 0#32⟩ : Insn) else (⟨149#8, 0#8, 0#8, 0#16, 0#32⟩ : Insn)))) w1, .cells #[.slice none 0 0, .slice none 0 0, (rowV (rrL (lget ls 0)) w0 2)] 27, .map #[⟨.string (⟨#[97]⟩ : ByteArray), .int .i64 (1), 0⟩, ⟨.string (⟨#[98]⟩ : ByteArray), .int .i64 (1), 1⟩, ⟨.string (⟨#[99]⟩ : ByteArray), .int .i64 (1), 2⟩, ⟨.string (⟨#[100]⟩ : ByteArray), .int .i64 (1), 3⟩, ⟨.string (⟨#[101]⟩ : ByteArray), .int .i64 (1), 4⟩, ⟨.string (⟨#[102]⟩ : ByteArray), .int .i64 (1), 5⟩, ⟨.string (⟨#[103]⟩ : ByteArray), .int .i64 (1), 6⟩, ⟨.string (⟨#[104]⟩ : ByteArray), .int .i64 (1), 7⟩, ⟨.string (⟨#[105]⟩ : ByteArray), .int .i64 (1), 8⟩, ⟨.string (⟨#[106]⟩ : ByteArray), .int .i64 (1), 9⟩, ⟨.string (⟨#[107]⟩ : ByteArray), .int .i64 (1), 10⟩, ⟨.string (⟨#[108]⟩ : ByteArray), .int .i64 (1), 11⟩, ⟨.string (⟨#[109]⟩ : ByteArray), .int .i64 (1), 12⟩, ⟨.string (⟨#[110]⟩ : ByteArray), .int .i64 (1), 13⟩, ⟨.string (⟨#[111]⟩ : ByteArray), .int .i64 (1), 14⟩] 15, unb]
  | .c16 , ls => [rsO hdS tlS 2 (lget ls 0) 35 32 c_Insn 5 w0 (fun _ => (2, (fun k => if k = 0 then (⟨183#8, 0#8, 0#8, 0#16, 0#32⟩ : Insn) else (⟨149#8, 0#8, 0#8, 0#16, 0#32⟩ : Insn)))) w1, .cells #[.slice none 0 0, .slice none 0 0, (rowV (rrL (lget ls 0)) w0 2)] 27, .map #[⟨.string (⟨#[97]⟩ : ByteArray), .int .i64 (1), 0⟩, ⟨.string (⟨#[98]⟩ : ByteArray), .int .i64 (1), 1⟩, ⟨.string (⟨#[99]⟩ : ByteArray), .int .i64 (1), 2⟩, ⟨.string (⟨#[100]⟩ : ByteArray), .int .i64 (1), 3⟩, ⟨.string (⟨#[101]⟩ : ByteArray), .int .i64 (1), 4⟩, ⟨.string (⟨#[102]⟩ : ByteArray), .int .i64 (1), 5⟩, ⟨.string (⟨#[103]⟩ : ByteArray), .int .i64 (1), 6⟩, ⟨.string (⟨#[104]⟩ : ByteArray), .int .i64 (1), 7⟩, ⟨.string (⟨#[105]⟩ : ByteArray), .int .i64 (1), 8⟩, ⟨.string (⟨#[106]⟩ : ByteArray), .int .i64 (1), 9⟩, ⟨.string (⟨#[107]⟩ : ByteArray), .int .i64 (1), 10⟩, ⟨.string (⟨#[108]⟩ : ByteArray), .int .i64 (1), 11⟩, ⟨.string (⟨#[109]⟩ : ByteArray), .int .i64 (1), 12⟩, ⟨.string (⟨#[110]⟩ : ByteArray), .int .i64 (1), 13⟩, ⟨.string (⟨#[111]⟩ : ByteArray), .int .i64 (1), 14⟩, ⟨.string (⟨#[112]⟩ : ByteArray), .int .i64 (1), 15⟩] 16, unb]
def vl_object_Check_v3_L1 (w0 : Nat) (w1 : Nat → ByteArray) : Ex_object_Check_v3_L1 → List L1 → List Value
  | .e0 , ls => [.pointer (some ⟨(lget ls 1).n, 0, none⟩), .int .i64 (0), .int .i64 (0), .map (some (lget ls 2).n), (rowV (rrL (lget ls 0)) w0 2), .int .i64 ((w0 : Int))]
  | .e1 , ls => [.pointer (some ⟨(lget ls 1).n, 0, none⟩), .int .i64 (0), .int .i64 (0), .map (some (lget ls 2).n), (rowV (rrL (lget ls 0)) w0 2), .int .i64 ((w0 : Int))]
  | .e2 , ls => [.pointer (some ⟨(lget ls 1).n, 0, none⟩), .int .i64 (0), .int .i64 (0), .map (some (lget ls 2).n), (rowV (rrL (lget ls 0)) w0 2), .int .i64 ((w0 : Int))]
  | .e3 , ls => [.pointer (some ⟨(lget ls 1).n, 0, none⟩), .int .i64 (0), .int .i64 (0), .map (some (lget ls 2).n), (rowV (rrL (lget ls 0)) w0 2), .int .i64 ((w0 : Int))]
  | .e4 , ls => [.pointer (some ⟨(lget ls 1).n, 0, none⟩), .int .i64 (0), .int .i64 (0), .map (some (lget ls 2).n), (rowV (rrL (lget ls 0)) w0 2), .int .i64 ((w0 : Int))]
  | .e5 , ls => [.pointer (some ⟨(lget ls 1).n, 0, none⟩), .int .i64 (0), .int .i64 (0), .map (some (lget ls 2).n), (rowV (rrL (lget ls 0)) w0 2), .int .i64 ((w0 : Int))]
  | .e6 , ls => [.pointer (some ⟨(lget ls 1).n, 0, none⟩), .int .i64 (0), .int .i64 (0), .map (some (lget ls 2).n), (rowV (rrL (lget ls 0)) w0 2), .int .i64 ((w0 : Int))]
  | .e7 , ls => [.pointer (some ⟨(lget ls 1).n, 0, none⟩), .int .i64 (0), .int .i64 (0), .map (some (lget ls 2).n), (rowV (rrL (lget ls 0)) w0 2), .int .i64 ((w0 : Int))]
  | .e8 , ls => [.pointer (some ⟨(lget ls 1).n, 0, none⟩), .int .i64 (0), .int .i64 (0), .map (some (lget ls 2).n), (rowV (rrL (lget ls 0)) w0 2), .int .i64 ((w0 : Int))]
  | .e9 , ls => [.pointer (some ⟨(lget ls 1).n, 0, none⟩), .int .i64 (0), .int .i64 (0), .map (some (lget ls 2).n), (rowV (rrL (lget ls 0)) w0 2), .int .i64 ((w0 : Int))]
  | .e10 , ls => [.pointer (some ⟨(lget ls 1).n, 0, none⟩), .int .i64 (0), .int .i64 (0), .map (some (lget ls 2).n), (rowV (rrL (lget ls 0)) w0 2), .int .i64 ((w0 : Int))]
  | .e11 , ls => [.pointer (some ⟨(lget ls 1).n, 0, none⟩), .int .i64 (0), .int .i64 (0), .map (some (lget ls 2).n), (rowV (rrL (lget ls 0)) w0 2), .int .i64 ((w0 : Int))]
  | .e12 , ls => [.pointer (some ⟨(lget ls 1).n, 0, none⟩), .int .i64 (0), .int .i64 (0), .map (some (lget ls 2).n), (rowV (rrL (lget ls 0)) w0 2), .int .i64 ((w0 : Int))]
  | .e13 , ls => [.pointer (some ⟨(lget ls 1).n, 0, none⟩), .int .i64 (0), .int .i64 (0), .map (some (lget ls 2).n), (rowV (rrL (lget ls 0)) w0 2), .int .i64 ((w0 : Int))]
  | .e14 , ls => [.pointer (some ⟨(lget ls 1).n, 0, none⟩), .int .i64 (0), .int .i64 (0), .map (some (lget ls 2).n), (rowV (rrL (lget ls 0)) w0 2), .int .i64 ((w0 : Int))]
  | .e15 , ls => [.pointer (some ⟨(lget ls 1).n, 0, none⟩), .int .i64 (0), .int .i64 (0), .map (some (lget ls 2).n), (rowV (rrL (lget ls 0)) w0 2), .int .i64 ((w0 : Int))]
  | .e16 , ls => [.pointer (some ⟨(lget ls 1).n, 0, none⟩), .int .i64 (0), .int .i64 (0), .map (some (lget ls 2).n), (rowV (rrL (lget ls 0)) w0 2), .int .i64 ((w0 : Int))]
  | .e17 , ls => [.pointer (some ⟨(lget ls 1).n, 0, none⟩), .int .i64 (1), .int .i64 (52), .map (some (lget ls 2).n), (rowV (rrL (lget ls 0)) w0 2), .int .i64 ((w0 : Int))]
  | .e18 , ls => [.pointer (some ⟨(lget ls 1).n, 0, none⟩), .int .i64 (2), .int .i64 (52), .map (some (lget ls 2).n), (rowV (rrL (lget ls 0)) w0 2), .int .i64 ((w0 : Int))]
  | .e19 , ls => [.pointer (some ⟨(lget ls 1).n, 0, none⟩), .int .i64 (3), .int .i64 (52), .map (some (lget ls 2).n), (rowV (rrL (lget ls 0)) w0 2), .int .i64 ((w0 : Int))]
  | .e20 , ls => [.pointer (some ⟨(lget ls 1).n, 0, none⟩), .int .i64 (4), .int .i64 (52), .map (some (lget ls 2).n), (rowV (rrL (lget ls 0)) w0 2), .int .i64 ((w0 : Int))]
  | .e21 , ls => [.pointer (some ⟨(lget ls 1).n, 0, none⟩), .int .i64 (5), .int .i64 (52), .map (some (lget ls 2).n), (rowV (rrL (lget ls 0)) w0 2), .int .i64 ((w0 : Int))]
  | .e22 , ls => [.pointer (some ⟨(lget ls 1).n, 0, none⟩), .int .i64 (6), .int .i64 (52), .map (some (lget ls 2).n), (rowV (rrL (lget ls 0)) w0 2), .int .i64 ((w0 : Int))]
  | .e23 , ls => [.pointer (some ⟨(lget ls 1).n, 0, none⟩), .int .i64 (7), .int .i64 (52), .map (some (lget ls 2).n), (rowV (rrL (lget ls 0)) w0 2), .int .i64 ((w0 : Int))]
  | .e24 , ls => [.pointer (some ⟨(lget ls 1).n, 0, none⟩), .int .i64 (8), .int .i64 (52), .map (some (lget ls 2).n), (rowV (rrL (lget ls 0)) w0 2), .int .i64 ((w0 : Int))]
  | .e25 , ls => [.pointer (some ⟨(lget ls 1).n, 0, none⟩), .int .i64 (9), .int .i64 (52), .map (some (lget ls 2).n), (rowV (rrL (lget ls 0)) w0 2), .int .i64 ((w0 : Int))]
  | .e26 , ls => [.pointer (some ⟨(lget ls 1).n, 0, none⟩), .int .i64 (10), .int .i64 (52), .map (some (lget ls 2).n), (rowV (rrL (lget ls 0)) w0 2), .int .i64 ((w0 : Int))]
  | .e27 , ls => [.pointer (some ⟨(lget ls 1).n, 0, none⟩), .int .i64 (11), .int .i64 (52), .map (some (lget ls 2).n), (rowV (rrL (lget ls 0)) w0 2), .int .i64 ((w0 : Int))]
  | .e28 , ls => [.pointer (some ⟨(lget ls 1).n, 0, none⟩), .int .i64 (12), .int .i64 (52), .map (some (lget ls 2).n), (rowV (rrL (lget ls 0)) w0 2), .int .i64 ((w0 : Int))]
  | .e29 , ls => [.pointer (some ⟨(lget ls 1).n, 0, none⟩), .int .i64 (13), .int .i64 (52), .map (some (lget ls 2).n), (rowV (rrL (lget ls 0)) w0 2), .int .i64 ((w0 : Int))]
  | .e30 , ls => [.pointer (some ⟨(lget ls 1).n, 0, none⟩), .int .i64 (14), .int .i64 (52), .map (some (lget ls 2).n), (rowV (rrL (lget ls 0)) w0 2), .int .i64 ((w0 : Int))]
  | .e31 , ls => [.pointer (some ⟨(lget ls 1).n, 0, none⟩), .int .i64 (15), .int .i64 (52), .map (some (lget ls 2).n), (rowV (rrL (lget ls 0)) w0 2), .int .i64 ((w0 : Int))]
  | .e32 , ls => [.pointer (some ⟨(lget ls 1).n, 0, none⟩), .int .i64 (16), .int .i64 (52), .map (some (lget ls 2).n), (rowV (rrL (lget ls 0)) w0 2), .int .i64 ((w0 : Int))]
def mk_object_Check_v3_L1 : Ex_object_Check_v3_L1 → List (Nat × Nat)
  | .e0  => [(0, 1), (3, 4), (1, 43), (2, 32)]
  | .e1  => [(0, 1), (3, 4), (1, 43), (2, 32)]
  | .e2  => [(0, 1), (3, 4), (1, 43), (2, 32)]
  | .e3  => [(0, 1), (3, 4), (1, 43), (2, 32)]
  | .e4  => [(0, 1), (3, 4), (1, 43), (2, 32)]
  | .e5  => [(0, 1), (3, 4), (1, 43), (2, 32)]
  | .e6  => [(0, 1), (3, 4), (1, 43), (2, 32)]
  | .e7  => [(0, 1), (3, 4), (1, 43), (2, 32)]
  | .e8  => [(0, 1), (3, 4), (1, 43), (2, 32)]
  | .e9  => [(0, 1), (3, 4), (1, 43), (2, 32)]
  | .e10  => [(0, 1), (3, 4), (1, 43), (2, 32)]
  | .e11  => [(0, 1), (3, 4), (1, 43), (2, 32)]
  | .e12  => [(0, 1), (3, 4), (1, 43), (2, 32)]
  | .e13  => [(0, 1), (3, 4), (1, 43), (2, 32)]
  | .e14  => [(0, 1), (3, 4), (1, 43), (2, 32)]
  | .e15  => [(0, 1), (3, 4), (1, 43), (2, 32)]
  | .e16  => [(0, 1), (3, 4), (1, 43), (2, 32)]
  | .e17  => [(0, 1), (3, 4), (1, 43), (2, 32)]
  | .e18  => [(0, 1), (3, 4), (1, 43), (2, 32)]
  | .e19  => [(0, 1), (3, 4), (1, 43), (2, 32)]
  | .e20  => [(0, 1), (3, 4), (1, 43), (2, 32)]
  | .e21  => [(0, 1), (3, 4), (1, 43), (2, 32)]
  | .e22  => [(0, 1), (3, 4), (1, 43), (2, 32)]
  | .e23  => [(0, 1), (3, 4), (1, 43), (2, 32)]
  | .e24  => [(0, 1), (3, 4), (1, 43), (2, 32)]
  | .e25  => [(0, 1), (3, 4), (1, 43), (2, 32)]
  | .e26  => [(0, 1), (3, 4), (1, 43), (2, 32)]
  | .e27  => [(0, 1), (3, 4), (1, 43), (2, 32)]
  | .e28  => [(0, 1), (3, 4), (1, 43), (2, 32)]
  | .e29  => [(0, 1), (3, 4), (1, 43), (2, 32)]
  | .e30  => [(0, 1), (3, 4), (1, 43), (2, 32)]
  | .e31  => [(0, 1), (3, 4), (1, 43), (2, 32)]
  | .e32  => [(0, 1), (3, 4), (1, 43), (2, 32)]
noncomputable def vf_object_Check_v3_L1 (w0 : Nat) (w1 : Nat → ByteArray) (r : Ex_object_Check_v3_L1) : List L1 → List Value := mrgF (mk_object_Check_v3_L1 r) (vl_object_Check_v3_L1 w0 w1 r) 3
def Hf_object_Check_v3_L1 (w0 : Nat) (w1 : Nat → ByteArray) : Ex_object_Check_v3_L1 → List L1 → List Obj
  | .e0 , ls => [rsO hdS tlS 2 (lget ls 0) 35 32 c_Insn 5 w0 (fun _ => (2, (fun k => if k = 0 then (⟨183#8, 0#8, 0#8, 0#16, 0#32⟩ : Insn) else (⟨149#8, 0#8, 0#8, 0#16, 0#32⟩ : Insn)))) w1, .cells #[.slice none 0 0, .slice none 0 0, (rowV (rrL (lget ls 0)) w0 2)] 27, .map #[] 0, unb]
  | .e1 , ls => [rsO hdS tlS 2 (lget ls 0) 35 32 c_Insn 5 w0 (fun _ => (2, (fun k => if k = 0 then (⟨183#8, 0#8, 0#8, 0#16, 0#32⟩ : Insn) else (⟨149#8, 0#8, 0#8, 0#16, 0#32⟩ : Insn)))) w1, .cells #[.slice none 0 0, .slice none 0 0, (rowV (rrL (lget ls 0)) w0 2)] 27, .map #[⟨.string (⟨#[97]⟩ : ByteArray), .int .i64 (1), 0⟩] 1, unb]
  | .e2 , ls => [rsO hdS tlS 2 (lget ls 0) 35 32 c_Insn 5 w0 (fun _ => (2, (fun k => if k = 0 then (⟨183#8, 0#8, 0#8, 0#16, 0#32⟩ : Insn) else (⟨149#8, 0#8, 0#8, 0#16, 0#32⟩ : Insn)))) w1, .cells #[.slice none 0 0, .slice none 0 0, (rowV (rrL (lget ls 0)) w0 2)] 27, .map #[⟨.string (⟨#[97]⟩ : ByteArray), .int .i64 (1), 0⟩, ⟨.string (⟨#[98]⟩ : ByteArray), .int .i64 (1), 1⟩] 2, unb]
  | .e3 , ls => [rsO hdS tlS 2 (lget ls 0) 35 32 c_Insn 5 w0 (fun _ => (2, (fun k => if k = 0 then (⟨183#8, 0#8, 0#8, 0#16, 0#32⟩ : Insn) else (⟨149#8, 0#8, 0#8, 0#16, 0#32⟩ : Insn)))) w1, .cells #[.slice none 0 0, .slice none 0 0, (rowV (rrL (lget ls 0)) w0 2)] 27, .map #[⟨.string (⟨#[97]⟩ : ByteArray), .int .i64 (1), 0⟩, ⟨.string (⟨#[98]⟩ : ByteArray), .int .i64 (1), 1⟩, ⟨.string (⟨#[99]⟩ : ByteArray), .int .i64 (1), 2⟩] 3, unb]
  | .e4 , ls => [rsO hdS tlS 2 (lget ls 0) 35 32 c_Insn 5 w0 (fun _ => (2, (fun k => if k = 0 then (⟨183#8, 0#8, 0#8, 0#16, 0#32⟩ : Insn) else (⟨149#8, 0#8, 0#8, 0#16, 0#32⟩ : Insn)))) w1, .cells #[.slice none 0 0, .slice none 0 0, (rowV (rrL (lget ls 0)) w0 2)] 27, .map #[⟨.string (⟨#[97]⟩ : ByteArray), .int .i64 (1), 0⟩, ⟨.string (⟨#[98]⟩ : ByteArray), .int .i64 (1), 1⟩, ⟨.string (⟨#[99]⟩ : ByteArray), .int .i64 (1), 2⟩, ⟨.string (⟨#[100]⟩ : ByteArray), .int .i64 (1), 3⟩] 4, unb]
  | .e5 , ls => [rsO hdS tlS 2 (lget ls 0) 35 32 c_Insn 5 w0 (fun _ => (2, (fun k => if k = 0 then (⟨183#8, 0#8, 0#8, 0#16, 0#32⟩ : Insn) else (⟨149#8, 0#8, 0#8, 0#16, 0#32⟩ : Insn)))) w1, .cells #[.slice none 0 0, .slice none 0 0, (rowV (rrL (lget ls 0)) w0 2)] 27, .map #[⟨.string (⟨#[97]⟩ : ByteArray), .int .i64 (1), 0⟩, ⟨.string (⟨#[98]⟩ : ByteArray), .int .i64 (1), 1⟩, ⟨.string (⟨#[99]⟩ : ByteArray), .int .i64 (1), 2⟩, ⟨.string (⟨#[100]⟩ : ByteArray), .int .i64 (1), 3⟩, ⟨.string (⟨#[101]⟩ : ByteArray), .int .i64 (1), 4⟩] 5, unb]
  | .e6 , ls => [rsO hdS tlS 2 (lget ls 0) 35 32 c_Insn 5 w0 (fun _ => (2, (fun k => if k = 0 then (⟨183#8, 0#8, 0#8, 0#16, 0#32⟩ : Insn) else (⟨149#8, 0#8, 0#8, 0#16, 0#32⟩ : Insn)))) w1, .cells #[.slice none 0 0, .slice none 0 0, (rowV (rrL (lget ls 0)) w0 2)] 27, .map #[⟨.string (⟨#[97]⟩ : ByteArray), .int .i64 (1), 0⟩, ⟨.string (⟨#[98]⟩ : ByteArray), .int .i64 (1), 1⟩, ⟨.string (⟨#[99]⟩ : ByteArray), .int .i64 (1), 2⟩, ⟨.string (⟨#[100]⟩ : ByteArray), .int .i64 (1), 3⟩, ⟨.string (⟨#[101]⟩ : ByteArray), .int .i64 (1), 4⟩, ⟨.string (⟨#[102]⟩ : ByteArray), .int .i64 (1), 5⟩] 6, unb]
  | .e7 , ls => [rsO hdS tlS 2 (lget ls 0) 35 32 c_Insn 5 w0 (fun _ => (2, (fun k => if k = 0 then (⟨183#8, 0#8, 0#8, 0#16, 0#32⟩ : Insn) else (⟨149#8, 0#8, 0#8, 0#16, 0#32⟩ : Insn)))) w1, .cells #[.slice none 0 0, .slice none 0 0, (rowV (rrL (lget ls 0)) w0 2)] 27, .map #[⟨.string (⟨#[97]⟩ : ByteArray), .int .i64 (1), 0⟩, ⟨.string (⟨#[98]⟩ : ByteArray), .int .i64 (1), 1⟩, ⟨.string (⟨#[99]⟩ : ByteArray), .int .i64 (1), 2⟩, ⟨.string (⟨#[100]⟩ : ByteArray), .int .i64 (1), 3⟩, ⟨.string (⟨#[101]⟩ : ByteArray), .int .i64 (1), 4⟩, ⟨.string (⟨#[102]⟩ : ByteArray), .int .i64 (1), 5⟩, ⟨.string (⟨#[103]⟩ : ByteArray), .int .i64 (1), 6⟩] 7, unb]
  | .e8 , ls => [rsO hdS tlS 2 (lget ls 0) 35 32 c_Insn 5 w0 (fun _ => (2, (fun k => if k = 0 then (⟨183#8, 0#8, 0#8, 0#16, 0#32⟩ : Insn) else (⟨149#8, 0#8, 0#8, 0#16, 0#32⟩ : Insn)))) w1, .cells #[.slice none 0 0, .slice none 0 0, (rowV (rrL (lget ls 0)) w0 2)] 27, .map #[⟨.string (⟨#[97]⟩ : ByteArray), .int .i64 (1), 0⟩, ⟨.string (⟨#[98]⟩ : ByteArray), .int .i64 (1), 1⟩, ⟨.string (⟨#[99]⟩ : ByteArray), .int .i64 (1), 2⟩, ⟨.string (⟨#[100]⟩ : ByteArray), .int .i64 (1), 3⟩, ⟨.string (⟨#[101]⟩ : ByteArray), .int .i64 (1), 4⟩, ⟨.string (⟨#[102]⟩ : ByteArray), .int .i64 (1), 5⟩, ⟨.string (⟨#[103]⟩ : ByteArray), .int .i64 (1), 6⟩, ⟨.string (⟨#[104]⟩ : ByteArray), .int .i64 (1), 7⟩] 8, unb]
  | .e9 , ls => [rsO hdS tlS 2 (lget ls 0) 35 32 c_Insn 5 w0 (fun _ => (2, (fun k => if k = 0 then (⟨183#8, 0#8, 0#8, 0#16, 0#32⟩ : Insn) else (⟨149#8, 0#8, 0#8, 0#16, 0#32⟩ : Insn)))) w1, .cells #[.slice none 0 0, .slice none 0 0, (rowV (rrL (lget ls 0)) w0 2)] 27, .map #[⟨.string (⟨#[97]⟩ : ByteArray), .int .i64 (1), 0⟩, ⟨.string (⟨#[98]⟩ : ByteArray), .int .i64 (1), 1⟩, ⟨.string (⟨#[99]⟩ : ByteArray), .int .i64 (1), 2⟩, ⟨.string (⟨#[100]⟩ : ByteArray), .int .i64 (1), 3⟩, ⟨.string (⟨#[101]⟩ : ByteArray), .int .i64 (1), 4⟩, ⟨.string (⟨#[102]⟩ : ByteArray), .int .i64 (1), 5⟩, ⟨.string (⟨#[103]⟩ : ByteArray), .int .i64 (1), 6⟩, ⟨.string (⟨#[104]⟩ : ByteArray), .int .i64 (1), 7⟩, ⟨.string (⟨#[105]⟩ : ByteArray), .int .i64 (1), 8⟩] 9, unb]
  | .e10 , ls => [rsO hdS tlS 2 (lget ls 0) 35 32 c_Insn 5 w0 (fun _ => (2, (fun k => if k = 0 then (⟨183#8, 0#8, 0#8, 0#16, 0#32⟩ : Insn) else (⟨149#8, 0#8, 0#8, 0#16, 0#32⟩ : Insn)))) w1, .cells #[.slice none 0 0, .slice none 0 0, (rowV (rrL (lget ls 0)) w0 2)] 27, .map #[⟨.string (⟨#[97]⟩ : ByteArray), .int .i64 (1), 0⟩, ⟨.string (⟨#[98]⟩ : ByteArray), .int .i64 (1), 1⟩, ⟨.string (⟨#[99]⟩ : ByteArray), .int .i64 (1), 2⟩, ⟨.string (⟨#[100]⟩ : ByteArray), .int .i64 (1), 3⟩, ⟨.string (⟨#[101]⟩ : ByteArray), .int .i64 (1), 4⟩, ⟨.string (⟨#[102]⟩ : ByteArray), .int .i64 (1), 5⟩, ⟨.string (⟨#[103]⟩ : ByteArray), .int .i64 (1), 6⟩, ⟨.string (⟨#[104]⟩ : ByteArray), .int .i64 (1), 7⟩, ⟨.string (⟨#[105]⟩ : ByteArray), .int .i64 (1), 8⟩, ⟨.string (⟨#[106]⟩ : ByteArray), .int .i64 (1), 9⟩] 10, unb]
  | .e11 , ls => [rsO hdS tlS 2 (lget ls 0) 35 32 c_Insn 5 w0 (fun _ => (2, (fun k => if k = 0 then (⟨183#8, 0#8, 0#8, 0#16, 0#32⟩ : Insn) else (⟨149#8, 0#8, 0#8, 0#16, 0#32⟩ : Insn)))) w1, .cells #[.slice none 0 0, .slice none 0 0, (rowV (rrL (lget ls 0)) w0 2)] 27, .map #[⟨.string (⟨#[97]⟩ : ByteArray), .int .i64 (1), 0⟩, ⟨.string (⟨#[98]⟩ : ByteArray), .int .i64 (1), 1⟩, ⟨.string (⟨#[99]⟩ : ByteArray), .int .i64 (1), 2⟩, ⟨.string (⟨#[100]⟩ : ByteArray), .int .i64 (1), 3⟩, ⟨.string (⟨#[101]⟩ : ByteArray), .int .i64 (1), 4⟩, ⟨.string (⟨#[102]⟩ : ByteArray), .int .i64 (1), 5⟩, ⟨.string (⟨#[103]⟩ : ByteArray), .int .i64 (1), 6⟩, ⟨.string (⟨#[104]⟩ : ByteArray), .int .i64 (1), 7⟩, ⟨.string (⟨#[105]⟩ : ByteArray), .int .i64 (1), 8⟩, ⟨.string (⟨#[106]⟩ : ByteArray), .int .i64 (1), 9⟩, ⟨.string (⟨#[107]⟩ : ByteArray), .int .i64 (1), 10⟩] 11, unb]
  | .e12 , ls => [rsO hdS tlS 2 (lget ls 0) 35 32 c_Insn 5 w0 (fun _ => (2, (fun k => if k = 0 then (⟨183#8, 0#8, 0#8, 0#16, 0#32⟩ : Insn) else (⟨149#8, 0#8, 0#8, 0#16, 0#32⟩ : Insn)))) w1, .cells #[.slice none 0 0, .slice none 0 0, (rowV (rrL (lget ls 0)) w0 2)] 27, .map #[⟨.string (⟨#[97]⟩ : ByteArray), .int .i64 (1), 0⟩, ⟨.string (⟨#[98]⟩ : ByteArray), .int .i64 (1), 1⟩, ⟨.string (⟨#[99]⟩ : ByteArray), .int .i64 (1), 2⟩, ⟨.string (⟨#[100]⟩ : ByteArray), .int .i64 (1), 3⟩, ⟨.string (⟨#[101]⟩ : ByteArray), .int .i64 (1), 4⟩, ⟨.string (⟨#[102]⟩ : ByteArray), .int .i64 (1), 5⟩, ⟨.string (⟨#[103]⟩ : ByteArray), .int .i64 (1), 6⟩, ⟨.string (⟨#[104]⟩ : ByteArray), .int .i64 (1), 7⟩, ⟨.string (⟨#[105]⟩ : ByteArray), .int .i64 (1), 8⟩, ⟨.string (⟨#[106]⟩ : ByteArray), .int .i64 (1), 9⟩, ⟨.string (⟨#[107]⟩ : ByteArray), .int .i64 (1), 10⟩, ⟨.string (⟨#[108]⟩ : ByteArray), .int .i64 (1), 11⟩] 12, unb]
  | .e13 , ls => [rsO hdS tlS 2 (lget ls 0) 35 32 c_Insn 5 w0 (fun _ => (2, (fun k => if k = 0 then (⟨183#8, 0#8, 0#8, 0#16, 0#32⟩ : Insn) else (⟨149#8, 0#8, 0#8, 0#16, 0#32⟩ : Insn)))) w1, .cells #[.slice none 0 0, .slice none 0 0, (rowV (rrL (lget ls 0)) w0 2)] 27, .map #[⟨.string (⟨#[97]⟩ : ByteArray), .int .i64 (1), 0⟩, ⟨.string (⟨#[98]⟩ : ByteArray), .int .i64 (1), 1⟩, ⟨.string (⟨#[99]⟩ : ByteArray), .int .i64 (1), 2⟩, ⟨.string (⟨#[100]⟩ : ByteArray), .int .i64 (1), 3⟩, ⟨.string (⟨#[101]⟩ : ByteArray), .int .i64 (1), 4⟩, ⟨.string (⟨#[102]⟩ : ByteArray), .int .i64 (1), 5⟩, ⟨.string (⟨#[103]⟩ : ByteArray), .int .i64 (1), 6⟩, ⟨.string (⟨#[104]⟩ : ByteArray), .int .i64 (1), 7⟩, ⟨.string (⟨#[105]⟩ : ByteArray), .int .i64 (1), 8⟩, ⟨.string (⟨#[106]⟩ : ByteArray), .int .i64 (1), 9⟩, ⟨.string (⟨#[107]⟩ : ByteArray), .int .i64 (1), 10⟩, ⟨.string (⟨#[108]⟩ : ByteArray), .int .i64 (1), 11⟩, ⟨.string (⟨#[109]⟩ : ByteArray), .int .i64 (1), 12⟩] 13, unb]
  | .e14 , ls => [rsO hdS tlS 2 (lget ls 0) 35 32 c_Insn 5 w0 (fun _ => (2, (fun k => if k = 0 then (⟨183#8, 0#8, 0#8, 0#16, 0#32⟩ : Insn) else (⟨149#8, 0#8, 0#8, 0#16, 0#32⟩ : Insn)))) w1, .cells #[.slice none 0 0, .slice none 0 0, (rowV (rrL (lget ls 0)) w0 2)] 27, .map #[⟨.string (⟨#[97]⟩ : ByteArray), .int .i64 (1), 0⟩, ⟨.string (⟨#[98]⟩ : ByteArray), .int .i64 (1), 1⟩, ⟨.string (⟨#[99]⟩ : ByteArray), .int .i64 (1), 2⟩, ⟨.string (⟨#[100]⟩ : ByteArray), .int .i64 (1), 3⟩, ⟨.string (⟨#[101]⟩ : ByteArray), .int .i64 (1), 4⟩, ⟨.string (⟨#[102]⟩ : ByteArray), .int .i64 (1), 5⟩, ⟨.string (⟨#[103]⟩ : ByteArray), .int .i64 (1), 6⟩, ⟨.string (⟨#[104]⟩ : ByteArray), .int .i64 (1), 7⟩, ⟨.string (⟨#[105]⟩ : ByteArray), .int .i64 (1), 8⟩, ⟨.string (⟨#[106]⟩ : ByteArray), .int .i64 (1), 9⟩, ⟨.string (⟨#[107]⟩ : ByteArray), .int .i64 (1), 10⟩, ⟨.string (⟨#[108]⟩ : ByteArray), .int .i64 (1), 11⟩, ⟨.string (⟨#[109]⟩ : ByteArray), .int .i64 (1), 12⟩, ⟨.string (⟨#[110]⟩ : ByteArray), .int .i64 (1), 13⟩] 14, unb]
  | .e15 , ls => [rsO hdS tlS 2 (lget ls 0) 35 32 c_Insn 5 w0 (fun _ => (2, (fun k => if k = 0 then (⟨183#8, 0#8, 0#8, 0#16, 0#32⟩ : Insn) else (⟨149#8, 0#8, 0#8, 0#16, 0#32⟩ : Insn)))) w1, .cells #[.slice none 0 0, .slice none 0 0, (rowV (rrL (lget ls 0)) w0 2)] 27, .map #[⟨.string (⟨#[97]⟩ : ByteArray), .int .i64 (1), 0⟩, ⟨.string (⟨#[98]⟩ : ByteArray), .int .i64 (1), 1⟩, ⟨.string (⟨#[99]⟩ : ByteArray), .int .i64 (1), 2⟩, ⟨.string (⟨#[100]⟩ : ByteArray), .int .i64 (1), 3⟩, ⟨.string (⟨#[101]⟩ : ByteArray), .int .i64 (1), 4⟩, ⟨.string (⟨#[102]⟩ : ByteArray), .int .i64 (1), 5⟩, ⟨.string (⟨#[103]⟩ : ByteArray), .int .i64 (1), 6⟩, ⟨.string (⟨#[104]⟩ : ByteArray), .int .i64 (1), 7⟩, ⟨.string (⟨#[105]⟩ : ByteArray), .int .i64 (1), 8⟩, ⟨.string (⟨#[106]⟩ : ByteArray), .int .i64 (1), 9⟩, ⟨.string (⟨#[107]⟩ : ByteArray), .int .i64 (1), 10⟩, ⟨.string (⟨#[108]⟩ : ByteArray), .int .i64 (1), 11⟩, ⟨.string (⟨#[109]⟩ : ByteArray), .int .i64 (1), 12⟩, ⟨.string (⟨#[110]⟩ : ByteArray), .int .i64 (1), 13⟩, ⟨.string (⟨#[111]⟩ : ByteArray), .int .i64 (1), 14⟩] 15, unb]
  | .e16 , ls => [rsO hdS tlS 2 (lget ls 0) 35 32 c_Insn 5 w0 (fun _ => (2, (fun k => if k = 0 then (⟨183#8, 0#8, 0#8, 0#16, 0#32⟩ : Insn) else (⟨149#8, 0#8, 0#8, 0#16, 0#32⟩ : Insn)))) w1, .cells #[.slice none 0 0, .slice none 0 0, (rowV (rrL (lget ls 0)) w0 2)] 27, .map #[⟨.string (⟨#[97]⟩ : ByteArray), .int .i64 (1), 0⟩, ⟨.string (⟨#[98]⟩ : ByteArray), .int .i64 (1), 1⟩, ⟨.string (⟨#[99]⟩ : ByteArray), .int .i64 (1), 2⟩, ⟨.string (⟨#[100]⟩ : ByteArray), .int .i64 (1), 3⟩, ⟨.string (⟨#[101]⟩ : ByteArray), .int .i64 (1), 4⟩, ⟨.string (⟨#[102]⟩ : ByteArray), .int .i64 (1), 5⟩, ⟨.string (⟨#[103]⟩ : ByteArray), .int .i64 (1), 6⟩, ⟨.string (⟨#[104]⟩ : ByteArray), .int .i64 (1), 7⟩, ⟨.string (⟨#[105]⟩ : ByteArray), .int .i64 (1), 8⟩, ⟨.string (⟨#[106]⟩ : ByteArray), .int .i64 (1), 9⟩, ⟨.string (⟨#[107]⟩ : ByteArray), .int .i64 (1), 10⟩, ⟨.string (⟨#[108]⟩ : ByteArray), .int .i64 (1), 11⟩, ⟨.string (⟨#[109]⟩ : ByteArray), .int .i64 (1), 12⟩, ⟨.string (⟨#[110]⟩ : ByteArray), .int .i64 (1), 13⟩, ⟨.string (⟨#[111]⟩ : ByteArray), .int .i64 (1), 14⟩, ⟨.string (⟨#[112]⟩ : ByteArray), .int .i64 (1), 15⟩] 16, unb]
  | .e17 , ls => [rsO hdS tlS 2 (lget ls 0) 35 32 c_Insn 5 w0 (fun _ => (2, (fun k => if k = 0 then (⟨183#8, 0#8, 0#8, 0#16, 0#32⟩ : Insn) else (⟨149#8, 0#8, 0#8, 0#16, 0#32⟩ : Insn)))) w1, .cells #[.slice none 0 0, .slice none 0 0, (rowV (rrL (lget ls 0)) w0 2)] 27, .map #[⟨.string (⟨#[97]⟩ : ByteArray), .int .i64 (2), 0⟩] 1, unb]
  | .e18 , ls => [rsO hdS tlS 2 (lget ls 0) 35 32 c_Insn 5 w0 (fun _ => (2, (fun k => if k = 0 then (⟨183#8, 0#8, 0#8, 0#16, 0#32⟩ : Insn) else (⟨149#8, 0#8, 0#8, 0#16, 0#32⟩ : Insn)))) w1, .cells #[.slice none 0 0, .slice none 0 0, (rowV (rrL (lget ls 0)) w0 2)] 27, .map #[⟨.string (⟨#[97]⟩ : ByteArray), .int .i64 (2), 0⟩, ⟨.string (⟨#[98]⟩ : ByteArray), .int .i64 (1), 1⟩] 2, unb]
  | .e19 , ls => [rsO hdS tlS 2 (lget ls 0) 35 32 c_Insn 5 w0 (fun _ => (2, (fun k => if k = 0 then (⟨183#8, 0#8, 0#8, 0#16, 0#32⟩ : Insn) else (⟨149#8, 0#8, 0#8, 0#16, 0#32⟩ : Insn)))) w1, .cells #[.slice none 0 0, .slice none 0 0, (rowV (rrL (lget ls 0)) w0 2)] 27, .map #[⟨.string (⟨#[97]⟩ : ByteArray), .int .i64 (2), 0⟩, ⟨.string (⟨#[98]⟩ : ByteArray), .int .i64 (1), 1⟩, ⟨.string (⟨#[99]⟩ : ByteArray), .int .i64 (1), 2⟩] 3, unb]
  | .e20 , ls => [rsO hdS tlS 2 (lget ls 0) 35 32 c_Insn 5 w0 (fun _ => (2, (fun k => if k = 0 then (⟨183#8, 0#8, 0#8, 0#16, 0#32⟩ : Insn) else (⟨149#8, 0#8, 0#8, 0#16, 0#32⟩ : Insn)))) w1, .cells #[.slice none 0 0, .slice none 0 0, (rowV (rrL (lget ls 0)) w0 2)] 27, .map #[⟨.string (⟨#[97]⟩ : ByteArray), .int .i64 (2), 0⟩, ⟨.string (⟨#[98]⟩ : ByteArray), .int .i64 (1), 1⟩, ⟨.string (⟨#[99]⟩ : ByteArray), .int .i64 (1), 2⟩, ⟨.string (⟨#[100]⟩ : ByteArray), .int .i64 (1), 3⟩] 4, unb]
  | .e21 , ls => [rsO hdS tlS 2 (lget ls 0) 35 32 c_Insn 5 w0 (fun _ => (2, (fun k => if k = 0 then (⟨183#8, 0#8, 0#8, 0#16, 0#32⟩ : Insn) else (⟨149#8, 0#8, 0#8, 0#16, 0#32⟩ : Insn)))) w1, .cells #[.slice none 0 0, .slice none 0 0, (rowV (rrL (lget ls 0)) w0 2)] 27, .map #[⟨.string (⟨#[97]⟩ : ByteArray), .int .i64 (2), 0⟩, ⟨.string (⟨#[98]⟩ : ByteArray), .int .i64 (1), 1⟩, ⟨.string (⟨#[99]⟩ : ByteArray), .int .i64 (1), 2⟩, ⟨.string (⟨#[100]⟩ : ByteArray), .int .i64 (1), 3⟩, ⟨.string (⟨#[101]⟩ : ByteArray), .int .i64 (1), 4⟩] 5, unb]
  | .e22 , ls => [rsO hdS tlS 2 (lget ls 0) 35 32 c_Insn 5 w0 (fun _ => (2, (fun k => if k = 0 then (⟨183#8, 0#8, 0#8, 0#16, 0#32⟩ : Insn) else (⟨149#8, 0#8, 0#8, 0#16, 0#32⟩ : Insn)))) w1, .cells #[.slice none 0 0, .slice none 0 0, (rowV (rrL (lget ls 0)) w0 2)] 27, .map #[⟨.string (⟨#[97]⟩ : ByteArray), .int .i64 (2), 0⟩, ⟨.string (⟨#[98]⟩ : ByteArray), .int .i64 (1), 1⟩, ⟨.string (⟨#[99]⟩ : ByteArray), .int .i64 (1), 2⟩, ⟨.string (⟨#[100]⟩ : ByteArray), .int .i64 (1), 3⟩, ⟨.string (⟨#[101]⟩ : ByteArray), .int .i64 (1), 4⟩, ⟨.string (⟨#[102]⟩ : ByteArray), .int .i64 (1), 5⟩] 6, unb]
  | .e23 , ls => [rsO hdS tlS 2 (lget ls 0) 35 32 c_Insn 5 w0 (fun _ => (2, (fun k => if k = 0 then (⟨183#8, 0#8, 0#8, 0#16, 0#32⟩ : Insn) else (⟨149#8, 0#8, 0#8, 0#16, 0#32⟩ : Insn)))) w1, .cells #[.slice none 0 0, .slice none 0 0, (rowV (rrL (lget ls 0)) w0 2)] 27, .map #[⟨.string (⟨#[97]⟩ : ByteArray), .int .i64 (2), 0⟩, ⟨.string (⟨#[98]⟩ : ByteArray), .int .i64 (1), 1⟩, ⟨.string (⟨#[99]⟩ : ByteArray), .int .i64 (1), 2⟩, ⟨.string (⟨#[100]⟩ : ByteArray), .int .i64 (1), 3⟩, ⟨.string (⟨#[101]⟩ : ByteArray), .int .i64 (1), 4⟩, ⟨.string (⟨#[102]⟩ : ByteArray), .int .i64 (1), 5⟩, ⟨.string (⟨#[103]⟩ : ByteArray), .int .i64 (1), 6⟩] 7, unb]
  | .e24 , ls => [rsO hdS tlS 2 (lget ls 0) 35 32 c_Insn 5 w0 (fun _ => (2, (fun k => if k = 0 then (⟨183#8, 0#8, 0#8, 0#16, 0#32⟩ : Insn) else (⟨149#8, 0#8, 0#8, 0#16, 0#32⟩ : Insn)))) w1, .cells #[.slice none 0 0, .slice none 0 0, (rowV (rrL (lget ls 0)) w0 2)] 27, .map #[⟨.string (⟨#[97]⟩ : ByteArray), .int .i64 (2), 0⟩, ⟨.string (⟨#[98]⟩ : ByteArray), .int .i64 (1), 1⟩, ⟨.string (⟨#[99]⟩ : ByteArray), .int .i64 (1), 2⟩, ⟨.string (⟨#[100]⟩ : ByteArray), .int .i64 (1), 3⟩, ⟨.string (⟨#[101]⟩ : ByteArray), .int .i64 (1), 4⟩, ⟨.string (⟨#[102]⟩ : ByteArray), .int .i64 (1), 5⟩, ⟨.string (⟨#[103]⟩ : ByteArray), .int .i64 (1), 6⟩, ⟨.string (⟨#[104]⟩ : ByteArray), .int .i64 (1), 7⟩] 8, unb]
  | .e25 , ls => [rsO hdS tlS 2 (lget ls 0) 35 32 c_Insn 5 w0 (fun _ => (2, (fun k => if k = 0 then (⟨183#8, 0#8, 0#8, 0#16, 0#32⟩ : Insn) else (⟨149#8, 0#8, 0#8, 0#16, 0#32⟩ : Insn)))) w1, .cells #[.slice none 0 0, .slice none 0 0, (rowV (rrL (lget ls 0)) w0 2)] 27, .map #[⟨.string (⟨#[97]⟩ : ByteArray), .int .i64 (2), 0⟩, ⟨.string (⟨#[98]⟩ : ByteArray), .int .i64 (1), 1⟩, ⟨.string (⟨#[99]⟩ : ByteArray), .int .i64 (1), 2⟩, ⟨.string (⟨#[100]⟩ : ByteArray), .int .i64 (1), 3⟩, ⟨.string (⟨#[101]⟩ : ByteArray), .int .i64 (1), 4⟩, ⟨.string (⟨#[102]⟩ : ByteArray), .int .i64 (1), 5⟩, ⟨.string (⟨#[103]⟩ : ByteArray), .int .i64 (1), 6⟩, ⟨.string (⟨#[104]⟩ : ByteArray), .int .i64 (1), 7⟩, ⟨.string (⟨#[105]⟩ : ByteArray), .int .i64 (1), 8⟩] 9, unb]
  | .e26 , ls => [rsO hdS tlS 2 (lget ls 0) 35 32 c_Insn 5 w0 (fun _ => (2, (fun k => if k = 0 then (⟨183#8, 0#8, 0#8, 0#16, 0#32⟩ : Insn) else (⟨149#8, 0#8, 0#8, 0#16, 0#32⟩ : Insn)))) w1, .cells #[.slice none 0 0, .slice none 0 0, (rowV (rrL (lget ls 0)) w0 2)] 27, .map #[⟨.string (⟨#[97]⟩ : ByteArray), .int .i64 (2), 0⟩, ⟨.string (⟨#[98]⟩ : ByteArray), .int .i64 (1), 1⟩, ⟨.string (⟨#[99]⟩ : ByteArray), .int .i64 (1), 2⟩, ⟨.string (⟨#[100]⟩ : ByteArray), .int .i64 (1), 3⟩, ⟨.string (⟨#[101]⟩ : ByteArray), .int .i64 (1), 4⟩, ⟨.string (⟨#[102]⟩ : ByteArray), .int .i64 (1), 5⟩, ⟨.string (⟨#[103]⟩ : ByteArray), .int .i64 (1), 6⟩, ⟨.string (⟨#[104]⟩ : ByteArray), .int .i64 (1), 7⟩, ⟨.string (⟨#[105]⟩ : ByteArray), .int .i64 (1), 8⟩, ⟨.string (⟨#[106]⟩ : ByteArray), .int .i64 (1), 9⟩] 10, unb]
  | .e27 , ls => [rsO hdS tlS 2 (lget ls 0) 35 32 c_Insn 5 w0 (fun _ => (2, (fun k => if k = 0 then (⟨183#8, 0#8, 0#8, 0#16, 0#32⟩ : Insn) else (⟨149#8, 0#8, 0#8, 0#16, 0#32⟩ : Insn)))) w1, .cells #[.slice none 0 0, .slice none 0 0, (rowV (rrL (lget ls 0)) w0 2)] 27, .map #[⟨.string (⟨#[97]⟩ : ByteArray), .int .i64 (2), 0⟩, ⟨.string (⟨#[98]⟩ : ByteArray), .int .i64 (1), 1⟩, ⟨.string (⟨#[99]⟩ : ByteArray), .int .i64 (1), 2⟩, ⟨.string (⟨#[100]⟩ : ByteArray), .int .i64 (1), 3⟩, ⟨.string (⟨#[101]⟩ : ByteArray), .int .i64 (1), 4⟩, ⟨.string (⟨#[102]⟩ : ByteArray), .int .i64 (1), 5⟩, ⟨.string (⟨#[103]⟩ : ByteArray), .int .i64 (1), 6⟩, ⟨.string (⟨#[104]⟩ : ByteArray), .int .i64 (1), 7⟩, ⟨.string (⟨#[105]⟩ : ByteArray), .int .i64 (1), 8⟩, ⟨.string (⟨#[106]⟩ : ByteArray), .int .i64 (1), 9⟩, ⟨.string (⟨#[107]⟩ : ByteArray), .int .i64 (1), 10⟩] 11, unb]
  | .e28 , ls => [rsO hdS tlS 2 (lget ls 0) 35 32 c_Insn 5 w0 (fun _ => (2, (fun k => if k = 0 then (⟨183#8, 0#8, 0#8, 0#16, 0#32⟩ : Insn) else (⟨149#8, 0#8, 0#8, 0#16, 0#32⟩ : Insn)))) w1, .cells #[.slice none 0 0, .slice none 0 0, (rowV (rrL (lget ls 0)) w0 2)] 27, .map #[⟨.string (⟨#[97]⟩ : ByteArray), .int .i64 (2), 0⟩, ⟨.string (⟨#[98]⟩ : ByteArray), .int .i64 (1), 1⟩, ⟨.string (⟨#[99]⟩ : ByteArray), .int .i64 (1), 2⟩, ⟨.string (⟨#[100]⟩ : ByteArray), .int .i64 (1), 3⟩, ⟨.string (⟨#[101]⟩ : ByteArray), .int .i64 (1), 4⟩, ⟨.string (⟨#[102]⟩ : ByteArray), .int .i64 (1), 5⟩, ⟨.string (⟨#[103]⟩ : ByteArray), .int .i64 (1), 6⟩, ⟨.string (⟨#[104]⟩ : ByteArray), .int .i64 (1), 7⟩, ⟨.string (⟨#[105]⟩ : ByteArray), .int .i64 (1), 8⟩, ⟨.string (⟨#[106]⟩ : ByteArray), .int .i64 (1), 9⟩, ⟨.string (⟨#[107]⟩ : ByteArray), .int .i64 (1), 10⟩, ⟨.string (⟨#[108]⟩ : ByteArray), .int .i64 (1), 11⟩] 12, unb]
  | .e29 , ls => [rsO hdS tlS 2 (lget ls 0) 35 32 c_Insn 5 w0 (fun _ => (2, (fun k => if k = 0 then (⟨183#8, 0#8, 0#8, 0#16, 0#32⟩ : Insn) else (⟨149#8, 0#8, 0#8, 0#16, 0#32⟩ : Insn)))) w1, .cells #[.slice none 0 0, .slice none 0 0, (rowV (rrL (lget ls 0)) w0 2)] 27, .map #[⟨.string (⟨#[97]⟩ : ByteArray), .int .i64 (2), 0⟩, ⟨.string (⟨#[98]⟩ : ByteArray), .int .i64 (1), 1⟩, ⟨.string (⟨#[99]⟩ : ByteArray), .int .i64 (1), 2⟩, ⟨.string (⟨#[100]⟩ : ByteArray), .int .i64 (1), 3⟩, ⟨.string (⟨#[101]⟩ : ByteArray), .int .i64 (1), 4⟩, ⟨.string (⟨#[102]⟩ : ByteArray), .int .i64 (1), 5⟩, ⟨.string (⟨#[103]⟩ : ByteArray), .int .i64 (1), 6⟩, ⟨.string (⟨#[104]⟩ : ByteArray), .int .i64 (1), 7⟩, ⟨.string (⟨#[105]⟩ : ByteArray), .int .i64 (1), 8⟩, ⟨.string (⟨#[106]⟩ : ByteArray), .int .i64 (1), 9⟩, ⟨.string (⟨#[107]⟩ : ByteArray), .int .i64 (1), 10⟩, ⟨.string (⟨#[108]⟩ : ByteArray), .int .i64 (1), 11⟩, ⟨.string (⟨#[109]⟩ : ByteArray), .int .i64 (1), 12⟩] 13, unb]
  | .e30 , ls => [rsO hdS tlS 2 (lget ls 0) 35 32 c_Insn 5 w0 (fun _ => (2, (fun k => if k = 0 then (⟨183#8, 0#8, 0#8, 0#16, 0#32⟩ : Insn) else (⟨149#8, 0#8, 0#8, 0#16, 0#32⟩ : Insn)))) w1, .cells #[.slice none 0 0, .slice none 0 0, (rowV (rrL (lget ls 0)) w0 2)] 27, .map #[⟨.string (⟨#[97]⟩ : ByteArray), .int .i64 (2), 0⟩, ⟨.string (⟨#[98]⟩ : ByteArray), .int .i64 (1), 1⟩, ⟨.string (⟨#[99]⟩ : ByteArray), .int .i64 (1), 2⟩, ⟨.string (⟨#[100]⟩ : ByteArray), .int .i64 (1), 3⟩, ⟨.string (⟨#[101]⟩ : ByteArray), .int .i64 (1), 4⟩, ⟨.string (⟨#[102]⟩ : ByteArray), .int .i64 (1), 5⟩, ⟨.string (⟨#[103]⟩ : ByteArray), .int .i64 (1), 6⟩, ⟨.string (⟨#[104]⟩ : ByteArray), .int .i64 (1), 7⟩, ⟨.string (⟨#[105]⟩ : ByteArray), .int .i64 (1), 8⟩, ⟨.string (⟨#[106]⟩ : ByteArray), .int .i64 (1), 9⟩, ⟨.string (⟨#[107]⟩ : ByteArray), .int .i64 (1), 10⟩, ⟨.string (⟨#[108]⟩ : ByteArray), .int .i64 (1), 11⟩, ⟨.string (⟨#[109]⟩ : ByteArray), .int .i64 (1), 12⟩, ⟨.string (⟨#[110]⟩ : ByteArray), .int .i64 (1), 13⟩] 14, unb]
  | .e31 , ls => [rsO hdS tlS 2 (lget ls 0) 35 32 c_Insn 5 w0 (fun _ => (2, (fun k => if k = 0 then (⟨183#8, 0#8, 0#8, 0#16, 0#32⟩ : Insn) else (⟨149#8, 0#8, 0#8, 0#16, 0#32⟩ : Insn)))) w1, .cells #[.slice none 0 0, .slice none 0 0, (rowV (rrL (lget ls 0)) w0 2)] 27, .map #[⟨.string (⟨#[97]⟩ : ByteArray), .int .i64 (2), 0⟩, ⟨.string (⟨#[98]⟩ : ByteArray), .int .i64 (1), 1⟩, ⟨.string (⟨#[99]⟩ : ByteArray), .int .i64 (1), 2⟩, ⟨.string (⟨#[100]⟩ : ByteArray), .int .i64 (1), 3⟩, ⟨.string (⟨#[101]⟩ : ByteArray), .int .i64 (1), 4⟩, ⟨.string (⟨#[102]⟩ : ByteArray), .int .i64 (1), 5⟩, ⟨.string (⟨#[103]⟩ : ByteArray), .int .i64 (1), 6⟩, ⟨.string (⟨#[104]⟩ : ByteArray), .int .i64 (1), 7⟩, ⟨.string (⟨#[105]⟩ : ByteArray), .int .i64 (1), 8⟩, ⟨.string (⟨#[106]⟩ : ByteArray), .int .i64 (1), 9⟩, ⟨.string (⟨#[107]⟩ : ByteArray), .int .i64 (1), 10⟩, ⟨.string (⟨#[108]⟩ : ByteArray), .int .i64 (1), 11⟩, ⟨.string (⟨#[109]⟩ : ByteArray), .int .i64 (1), 12⟩, ⟨.string (⟨#[110]⟩ : ByteArray), .int .i64 (1), 13⟩, ⟨.string (⟨#[111]⟩ : ByteArray), .int .i64 (1), 14⟩] 15, unb]
  | .e32 , ls => [rsO hdS tlS 2 (lget ls 0) 35 32 c_Insn 5 w0 (fun _ => (2, (fun k => if k = 0 then (⟨183#8, 0#8, 0#8, 0#16, 0#32⟩ : Insn) else (⟨149#8, 0#8, 0#8, 0#16, 0#32⟩ : Insn)))) w1, .cells #[.slice none 0 0, .slice none 0 0, (rowV (rrL (lget ls 0)) w0 2)] 27, .map #[⟨.string (⟨#[97]⟩ : ByteArray), .int .i64 (2), 0⟩, ⟨.string (⟨#[98]⟩ : ByteArray), .int .i64 (1), 1⟩, ⟨.string (⟨#[99]⟩ : ByteArray), .int .i64 (1), 2⟩, ⟨.string (⟨#[100]⟩ : ByteArray), .int .i64 (1), 3⟩, ⟨.string (⟨#[101]⟩ : ByteArray), .int .i64 (1), 4⟩, ⟨.string (⟨#[102]⟩ : ByteArray), .int .i64 (1), 5⟩, ⟨.string (⟨#[103]⟩ : ByteArray), .int .i64 (1), 6⟩, ⟨.string (⟨#[104]⟩ : ByteArray), .int .i64 (1), 7⟩, ⟨.string (⟨#[105]⟩ : ByteArray), .int .i64 (1), 8⟩, ⟨.string (⟨#[106]⟩ : ByteArray), .int .i64 (1), 9⟩, ⟨.string (⟨#[107]⟩ : ByteArray), .int .i64 (1), 10⟩, ⟨.string (⟨#[108]⟩ : ByteArray), .int .i64 (1), 11⟩, ⟨.string (⟨#[109]⟩ : ByteArray), .int .i64 (1), 12⟩, ⟨.string (⟨#[110]⟩ : ByteArray), .int .i64 (1), 13⟩, ⟨.string (⟨#[111]⟩ : ByteArray), .int .i64 (1), 14⟩, ⟨.string (⟨#[112]⟩ : ByteArray), .int .i64 (1), 15⟩] 16, unb]
def ex_object_Check_v3_L1 : Ex_object_Check_v3_L1 → Ex
  | .e0  => (.exit 2)
  | .e1  => (.exit 2)
  | .e2  => (.exit 2)
  | .e3  => (.exit 2)
  | .e4  => (.exit 2)
  | .e5  => (.exit 2)
  | .e6  => (.exit 2)
  | .e7  => (.exit 2)
  | .e8  => (.exit 2)
  | .e9  => (.exit 2)
  | .e10  => (.exit 2)
  | .e11  => (.exit 2)
  | .e12  => (.exit 2)
  | .e13  => (.exit 2)
  | .e14  => (.exit 2)
  | .e15  => (.exit 2)
  | .e16  => (.exit 2)
  | .e17  => .ret
  | .e18  => .ret
  | .e19  => .ret
  | .e20  => .ret
  | .e21  => .ret
  | .e22  => .ret
  | .e23  => .ret
  | .e24  => .ret
  | .e25  => .ret
  | .e26  => .ret
  | .e27  => .ret
  | .e28  => .ret
  | .e29  => .ret
  | .e30  => .ret
  | .e31  => .ret
  | .e32  => .ret
section
variable {M : Nat → Prop} {B0 : Nat} {S : World → Prop} (hU : Up M B0 S) (w0 : Nat) (w1 : Nat → ByteArray)
include hU w0 w1
theorem go_object_Check_v3_L1 (s : Sh_object_Check_v3_L1) (r : Ex_object_Check_v3_L1) (h : lpO (st_object_Check_v3_L1 w0 w1) s = some r) : GoesG Try.prog M B0 S (.loop bd_object_Check_v3_L1) 4 (fr_object_Check_v3_L1 w0 w1 s) (Hs_object_Check_v3_L1 w0 w1 s) (ex_object_Check_v3_L1 r) 3 (vf_object_Check_v3_L1 w0 w1 r) (Hf_object_Check_v3_L1 w0 w1 r) 4 :=
  goes_lpO (fun s q e => by
    cases s with
    | c0  =>
      unfold st_object_Check_v3_L1 at e
      dsimp only at e
      replace e := cond_eq_or e
      rcases e with ⟨hq0, e⟩ | ⟨hq0, e⟩
      · replace e := cond_eq_or e
        rcases e with ⟨hq1, e⟩ | ⟨hq1, e⟩
        · replace e := cond_eq_or e
          rcases e with ⟨hq2, e⟩ | ⟨hq2, e⟩
          · cases e; exact goes_runM hU [.b (z_lssT hq0), .o, .q (ixM_ok (kd := .i64) (T := 25) (x := 0) (N := w0) (sz := 2) rfl (fun w => by kernel_rfl) hq1), .xg (ldRSx_ok (T := 35) (e := 35) (T2 := 32) (f := c_Insn) (sz := 5) (N := w0) (k := 0) (m := 2) (B := (fun k => if k = 0 then (⟨183#8, 0#8, 0#8, 0#16, 0#32⟩ : Insn) else (⟨149#8, 0#8, 0#8, 0#16, 0#32⟩ : Insn))) (E := w1) hzS (fun w => by kernel_rfl) (fun w => by kernel_rfl) (by decide) (inR_nat hq1) (x := (⟨#[97]⟩ : ByteArray)) (ba_eq hq2)) [0], .o, .o, .a 4, .o, .o, .a 4, .a 2, .o, .a 2, .o, .a 4, .cg (ok_object_isName_v1 hU  ), .o, .o, .o, .o, .a 4, .a 2, .o, .o, .o, .o, .a 4, .o, .a 1, .o, .xg (memRS_ok (hd := hdS) (tl := tlS) (zs := 2) (e := 35) (T2 := 32) (f := c_Insn) (sz := 5) (N := w0) (k := 0) (m := 2) (B := (fun k => if k = 0 then (⟨183#8, 0#8, 0#8, 0#16, 0#32⟩ : Insn) else (⟨149#8, 0#8, 0#8, 0#16, 0#32⟩ : Insn))) (E := w1) rfl (fun _ => rfl) (fun _ => rfl) (fun _ => rfl) (by decide) (inR_nat hq1) (p0_object_rightProg_v1 hU 0 )) [0], .o, .o, .o, .o] [0, 1, 2] (fun b => rfl) (by decide) rfl rfl (fun b => by kernel_rfl)
          · exact none_some e
        · exact none_some e
      · cases e; exact ⟨ne_exit 2, goes_runM hU [.b (z_lssF hq0)] [0, 1, 2] (fun b => rfl) (by decide) rfl rfl (fun b => by kernel_rfl)⟩
    | c1  =>
      unfold st_object_Check_v3_L1 at e
      dsimp only at e
      replace e := cond_eq_or e
      rcases e with ⟨hq0, e⟩ | ⟨hq0, e⟩
      · replace e := cond_eq_or e
        rcases e with ⟨hq1, e⟩ | ⟨hq1, e⟩
        · replace e := cond_eq_or e
          let P1 : List (PG Try.prog M B0 S) := [.b (z_lssT hq0), .o, .q (ixM_ok (kd := .i64) (T := 25) (x := 1) (N := w0) (sz := 2) rfl (fun w => by kernel_rfl) hq1)]
          rcases e with ⟨hq2, e⟩ | ⟨hq2, e⟩
          · cases e; exact goes_runM hU (P1 ++ [.xg (ldRSx_ok (T := 35) (e := 35) (T2 := 32) (f := c_Insn) (sz := 5) (N := w0) (k := 1) (m := 2) (B := (fun k => if k = 0 then (⟨183#8, 0#8, 0#8, 0#16, 0#32⟩ : Insn) else (⟨149#8, 0#8, 0#8, 0#16, 0#32⟩ : Insn))) (E := w1) hzS (fun w => by kernel_rfl) (fun w => by kernel_rfl) (by decide) (inR_nat hq1) (x := (⟨#[98]⟩ : ByteArray)) (ba_eq hq2)) [0], .o, .o, .a 4, .o, .o, .a 4, .a 2, .o, .a 2, .o, .a 4, .cg (ok_object_isName_v2 hU  ), .o, .o, .o, .o, .a 4, .a 2, .o, .o, .o, .o, .a 4, .o, .a 1, .o, .xg (memRS_ok (hd := hdS) (tl := tlS) (zs := 2) (e := 35) (T2 := 32) (f := c_Insn) (sz := 5) (N := w0) (k := 1) (m := 2) (B := (fun k => if k = 0 then (⟨183#8, 0#8, 0#8, 0#16, 0#32⟩ : Insn) else (⟨149#8, 0#8, 0#8, 0#16, 0#32⟩ : Insn))) (E := w1) rfl (fun _ => rfl) (fun _ => rfl) (fun _ => rfl) (by decide) (inR_nat hq1) (p0_object_rightProg_v1 hU 0 )) [0], .o, .o, .o, .o]) [0, 1, 2] (fun b => rfl) (by decide) rfl rfl (fun b => by kernel_rfl)
          · replace e := cond_eq_or e
            rcases e with ⟨hq3, e⟩ | ⟨hq3, e⟩
            · cases e; exact ⟨ne_ret, goes_runM hU (P1 ++ [.xg (ldRSx_ok (T := 35) (e := 35) (T2 := 32) (f := c_Insn) (sz := 5) (N := w0) (k := 1) (m := 2) (B := (fun k => if k = 0 then (⟨183#8, 0#8, 0#8, 0#16, 0#32⟩ : Insn) else (⟨149#8, 0#8, 0#8, 0#16, 0#32⟩ : Insn))) (E := w1) hzS (fun w => by kernel_rfl) (fun w => by kernel_rfl) (by decide) (inR_nat hq1) (x := (⟨#[97]⟩ : ByteArray)) (ba_eq hq3)) [0], .o, .o, .a 4, .o, .o, .a 4, .a 2, .o, .a 2, .o, .a 4, .cg (ok_object_isName_v1 hU  ), .o, .o, .o, .o, .a 4, .a 2, .o, .o, .o, .o, .o, .o, .o]) [0, 1, 2] (fun b => rfl) (by decide) rfl rfl (fun b => by kernel_rfl)⟩
            · exact none_some e
        · exact none_some e
      · cases e; exact ⟨ne_exit 2, goes_runM hU [.b (z_lssF hq0)] [0, 1, 2] (fun b => rfl) (by decide) rfl rfl (fun b => by kernel_rfl)⟩
    | c2  =>
      unfold st_object_Check_v3_L1 at e
      dsimp only at e
      replace e := cond_eq_or e
      rcases e with ⟨hq0, e⟩ | ⟨hq0, e⟩
      · replace e := cond_eq_or e
        rcases e with ⟨hq1, e⟩ | ⟨hq1, e⟩
        · replace e := cond_eq_or e
          let P2 : List (PG Try.prog M B0 S) := [.b (z_lssT hq0), .o, .q (ixM_ok (kd := .i64) (T := 25) (x := 2) (N := w0) (sz := 2) rfl (fun w => by kernel_rfl) hq1)]
          rcases e with ⟨hq2, e⟩ | ⟨hq2, e⟩
          · cases e; exact goes_runM hU (P2 ++ [.xg (ldRSx_ok (T := 35) (e := 35) (T2 := 32) (f := c_Insn) (sz := 5) (N := w0) (k := 2) (m := 2) (B := (fun k => if k = 0 then (⟨183#8, 0#8, 0#8, 0#16, 0#32⟩ : Insn) else (⟨149#8, 0#8, 0#8, 0#16, 0#32⟩ : Insn))) (E := w1) hzS (fun w => by kernel_rfl) (fun w => by kernel_rfl) (by decide) (inR_nat hq1) (x := (⟨#[99]⟩ : ByteArray)) (ba_eq hq2)) [0], .o, .o, .a 4, .o, .o, .a 4, .a 2, .o, .a 2, .o, .a 4, .cg (ok_object_isName_v3 hU  ), .o, .o, .o, .o, .a 4, .a 2, .o, .o, .o, .o, .a 4, .o, .a 1, .o, .xg (memRS_ok (hd := hdS) (tl := tlS) (zs := 2) (e := 35) (T2 := 32) (f := c_Insn) (sz := 5) (N := w0) (k := 2) (m := 2) (B := (fun k => if k = 0 then (⟨183#8, 0#8, 0#8, 0#16, 0#32⟩ : Insn) else (⟨149#8, 0#8, 0#8, 0#16, 0#32⟩ : Insn))) (E := w1) rfl (fun _ => rfl) (fun _ => rfl) (fun _ => rfl) (by decide) (inR_nat hq1) (p0_object_rightProg_v1 hU 0 )) [0], .o, .o, .o, .o]) [0, 1, 2] (fun b => rfl) (by decide) rfl rfl (fun b => by kernel_rfl)
          · replace e := cond_eq_or e
            rcases e with ⟨hq3, e⟩ | ⟨hq3, e⟩
            · cases e; exact ⟨ne_ret, goes_runM hU (P2 ++ [.xg (ldRSx_ok (T := 35) (e := 35) (T2 := 32) (f := c_Insn) (sz := 5) (N := w0) (k := 2) (m := 2) (B := (fun k => if k = 0 then (⟨183#8, 0#8, 0#8, 0#16, 0#32⟩ : Insn) else (⟨149#8, 0#8, 0#8, 0#16, 0#32⟩ : Insn))) (E := w1) hzS (fun w => by kernel_rfl) (fun w => by kernel_rfl) (by decide) (inR_nat hq1) (x := (⟨#[97]⟩ : ByteArray)) (ba_eq hq3)) [0], .o, .o, .a 4, .o, .o, .a 4, .a 2, .o, .a 2, .o, .a 4, .cg (ok_object_isName_v1 hU  ), .o, .o, .o, .o, .a 4, .a 2, .o, .o, .o, .o, .o, .o, .o]) [0, 1, 2] (fun b => rfl) (by decide) rfl rfl (fun b => by kernel_rfl)⟩
            · exact none_some e
        · exact none_some e
      · cases e; exact ⟨ne_exit 2, goes_runM hU [.b (z_lssF hq0)] [0, 1, 2] (fun b => rfl) (by decide) rfl rfl (fun b => by kernel_rfl)⟩
    | c3  =>
      unfold st_object_Check_v3_L1 at e
      dsimp only at e
      replace e := cond_eq_or e
      rcases e with ⟨hq0, e⟩ | ⟨hq0, e⟩
      · replace e := cond_eq_or e
        rcases e with ⟨hq1, e⟩ | ⟨hq1, e⟩
        · replace e := cond_eq_or e
          let P3 : List (PG Try.prog M B0 S) := [.b (z_lssT hq0), .o, .q (ixM_ok (kd := .i64) (T := 25) (x := 3) (N := w0) (sz := 2) rfl (fun w => by kernel_rfl) hq1)]
          rcases e with ⟨hq2, e⟩ | ⟨hq2, e⟩
          · cases e; exact goes_runM hU (P3 ++ [.xg (ldRSx_ok (T := 35) (e := 35) (T2 := 32) (f := c_Insn) (sz := 5) (N := w0) (k := 3) (m := 2) (B := (fun k => if k = 0 then (⟨183#8, 0#8, 0#8, 0#16, 0#32⟩ : Insn) else (⟨149#8, 0#8, 0#8, 0#16, 0#32⟩ : Insn))) (E := w1) hzS (fun w => by kernel_rfl) (fun w => by kernel_rfl) (by decide) (inR_nat hq1) (x := (⟨#[100]⟩ : ByteArray)) (ba_eq hq2)) [0], .o, .o, .a 4, .o, .o, .a 4, .a 2, .o, .a 2, .o, .a 4, .cg (ok_object_isName_v4 hU  ), .o, .o, .o, .o, .a 4, .a 2, .o, .o, .o, .o, .a 4, .o, .a 1, .o, .xg (memRS_ok (hd := hdS) (tl := tlS) (zs := 2) (e := 35) (T2 := 32) (f := c_Insn) (sz := 5) (N := w0) (k := 3) (m := 2) (B := (fun k => if k = 0 then (⟨183#8, 0#8, 0#8, 0#16, 0#32⟩ : Insn) else (⟨149#8, 0#8, 0#8, 0#16, 0#32⟩ : Insn))) (E := w1) rfl (fun _ => rfl) (fun _ => rfl) (fun _ => rfl) (by decide) (inR_nat hq1) (p0_object_rightProg_v1 hU 0 )) [0], .o, .o, .o, .o]) [0, 1, 2] (fun b => rfl) (by decide) rfl rfl (fun b => by kernel_rfl)
          · replace e := cond_eq_or e
            rcases e with ⟨hq3, e⟩ | ⟨hq3, e⟩
            · cases e; exact ⟨ne_ret, goes_runM hU (P3 ++ [.xg (ldRSx_ok (T := 35) (e := 35) (T2 := 32) (f := c_Insn) (sz := 5) (N := w0) (k := 3) (m := 2) (B := (fun k => if k = 0 then (⟨183#8, 0#8, 0#8, 0#16, 0#32⟩ : Insn) else (⟨149#8, 0#8, 0#8, 0#16, 0#32⟩ : Insn))) (E := w1) hzS (fun w => by kernel_rfl) (fun w => by kernel_rfl) (by decide) (inR_nat hq1) (x := (⟨#[97]⟩ : ByteArray)) (ba_eq hq3)) [0], .o, .o, .a 4, .o, .o, .a 4, .a 2, .o, .a 2, .o, .a 4, .cg (ok_object_isName_v1 hU  ), .o, .o, .o, .o, .a 4, .a 2, .o, .o, .o, .o, .o, .o, .o]) [0, 1, 2] (fun b => rfl) (by decide) rfl rfl (fun b => by kernel_rfl)⟩
            · exact none_some e
        · exact none_some e
      · cases e; exact ⟨ne_exit 2, goes_runM hU [.b (z_lssF hq0)] [0, 1, 2] (fun b => rfl) (by decide) rfl rfl (fun b => by kernel_rfl)⟩
    | c4  =>
      unfold st_object_Check_v3_L1 at e
      dsimp only at e
      replace e := cond_eq_or e
      rcases e with ⟨hq0, e⟩ | ⟨hq0, e⟩
      · replace e := cond_eq_or e
        rcases e with ⟨hq1, e⟩ | ⟨hq1, e⟩
        · replace e := cond_eq_or e
          let P4 : List (PG Try.prog M B0 S) := [.b (z_lssT hq0), .o, .q (ixM_ok (kd := .i64) (T := 25) (x := 4) (N := w0) (sz := 2) rfl (fun w => by kernel_rfl) hq1)]
          rcases e with ⟨hq2, e⟩ | ⟨hq2, e⟩
          · cases e; exact goes_runM hU (P4 ++ [.xg (ldRSx_ok (T := 35) (e := 35) (T2 := 32) (f := c_Insn) (sz := 5) (N := w0) (k := 4) (m := 2) (B := (fun k => if k = 0 then (⟨183#8, 0#8, 0#8, 0#16, 0#32⟩ : Insn) else (⟨149#8, 0#8, 0#8, 0#16, 0#32⟩ : Insn))) (E := w1) hzS (fun w => by kernel_rfl) (fun w => by kernel_rfl) (by decide) (inR_nat hq1) (x := (⟨#[101]⟩ : ByteArray)) (ba_eq hq2)) [0], .o, .o, .a 4, .o, .o, .a 4, .a 2, .o, .a 2, .o, .a 4, .cg (ok_object_isName_v5 hU  ), .o, .o, .o, .o, .a 4, .a 2, .o, .o, .o, .o, .a 4, .o, .a 1, .o, .xg (memRS_ok (hd := hdS) (tl := tlS) (zs := 2) (e := 35) (T2 := 32) (f := c_Insn) (sz := 5) (N := w0) (k := 4) (m := 2) (B := (fun k => if k = 0 then (⟨183#8, 0#8, 0#8, 0#16, 0#32⟩ : Insn) else (⟨149#8, 0#8, 0#8, 0#16, 0#32⟩ : Insn))) (E := w1) rfl (fun _ => rfl) (fun _ => rfl) (fun _ => rfl) (by decide) (inR_nat hq1) (p0_object_rightProg_v1 hU 0 )) [0], .o, .o, .o, .o]) [0, 1, 2] (fun b => rfl) (by decide) rfl rfl (fun b => by kernel_rfl)
          · replace e := cond_eq_or e
            rcases e with ⟨hq3, e⟩ | ⟨hq3, e⟩
            · cases e; exact ⟨ne_ret, goes_runM hU (P4 ++ [.xg (ldRSx_ok (T := 35) (e := 35) (T2 := 32) (f := c_Insn) (sz := 5) (N := w0) (k := 4) (m := 2) (B := (fun k => if k = 0 then (⟨183#8, 0#8, 0#8, 0#16, 0#32⟩ : Insn) else (⟨149#8, 0#8, 0#8, 0#16, 0#32⟩ : Insn))) (E := w1) hzS (fun w => by kernel_rfl) (fun w => by kernel_rfl) (by decide) (inR_nat hq1) (x := (⟨#[97]⟩ : ByteArray)) (ba_eq hq3)) [0], .o, .o, .a 4, .o, .o, .a 4, .a 2, .o, .a 2, .o, .a 4, .cg (ok_object_isName_v1 hU  ), .o, .o, .o, .o, .a 4, .a 2, .o, .o, .o, .o, .o, .o, .o]) [0, 1, 2] (fun b => rfl) (by decide) rfl rfl (fun b => by kernel_rfl)⟩
            · exact none_some e
        · exact none_some e
      · cases e; exact ⟨ne_exit 2, goes_runM hU [.b (z_lssF hq0)] [0, 1, 2] (fun b => rfl) (by decide) rfl rfl (fun b => by kernel_rfl)⟩
    | c5  =>
      unfold st_object_Check_v3_L1 at e
      dsimp only at e
      replace e := cond_eq_or e
      rcases e with ⟨hq0, e⟩ | ⟨hq0, e⟩
      · replace e := cond_eq_or e
        rcases e with ⟨hq1, e⟩ | ⟨hq1, e⟩
        · replace e := cond_eq_or e
          let P5 : List (PG Try.prog M B0 S) := [.b (z_lssT hq0), .o, .q (ixM_ok (kd := .i64) (T := 25) (x := 5) (N := w0) (sz := 2) rfl (fun w => by kernel_rfl) hq1)]
          rcases e with ⟨hq2, e⟩ | ⟨hq2, e⟩
          · cases e; exact goes_runM hU (P5 ++ [.xg (ldRSx_ok (T := 35) (e := 35) (T2 := 32) (f := c_Insn) (sz := 5) (N := w0) (k := 5) (m := 2) (B := (fun k => if k = 0 then (⟨183#8, 0#8, 0#8, 0#16, 0#32⟩ : Insn) else (⟨149#8, 0#8, 0#8, 0#16, 0#32⟩ : Insn))) (E := w1) hzS (fun w => by kernel_rfl) (fun w => by kernel_rfl) (by decide) (inR_nat hq1) (x := (⟨#[102]⟩ : ByteArray)) (ba_eq hq2)) [0], .o, .o, .a 4, .o, .o, .a 4, .a 2, .o, .a 2, .o, .a 4, .cg (ok_object_isName_v6 hU  ), .o, .o, .o, .o, .a 4, .a 2, .o, .o, .o, .o, .a 4, .o, .a 1, .o, .xg (memRS_ok (hd := hdS) (tl := tlS) (zs := 2) (e := 35) (T2 := 32) (f := c_Insn) (sz := 5) (N := w0) (k := 5) (m := 2) (B := (fun k => if k = 0 then (⟨183#8, 0#8, 0#8, 0#16, 0#32⟩ : Insn) else (⟨149#8, 0#8, 0#8, 0#16, 0#32⟩ : Insn))) (E := w1) rfl (fun _ => rfl) (fun _ => rfl) (fun _ => rfl) (by decide) (inR_nat hq1) (p0_object_rightProg_v1 hU 0 )) [0], .o, .o, .o, .o]) [0, 1, 2] (fun b => rfl) (by decide) rfl rfl (fun b => by kernel_rfl)
          · replace e := cond_eq_or e
            rcases e with ⟨hq3, e⟩ | ⟨hq3, e⟩
            · cases e; exact ⟨ne_ret, goes_runM hU (P5 ++ [.xg (ldRSx_ok (T := 35) (e := 35) (T2 := 32) (f := c_Insn) (sz := 5) (N := w0) (k := 5) (m := 2) (B := (fun k => if k = 0 then (⟨183#8, 0#8, 0#8, 0#16, 0#32⟩ : Insn) else (⟨149#8, 0#8, 0#8, 0#16, 0#32⟩ : Insn))) (E := w1) hzS (fun w => by kernel_rfl) (fun w => by kernel_rfl) (by decide) (inR_nat hq1) (x := (⟨#[97]⟩ : ByteArray)) (ba_eq hq3)) [0], .o, .o, .a 4, .o, .o, .a 4, .a 2, .o, .a 2, .o, .a 4, .cg (ok_object_isName_v1 hU  ), .o, .o, .o, .o, .a 4, .a 2, .o, .o, .o, .o, .o, .o, .o]) [0, 1, 2] (fun b => rfl) (by decide) rfl rfl (fun b => by kernel_rfl)⟩
            · exact none_some e
        · exact none_some e
      · cases e; exact ⟨ne_exit 2, goes_runM hU [.b (z_lssF hq0)] [0, 1, 2] (fun b => rfl) (by decide) rfl rfl (fun b => by kernel_rfl)⟩
    | c6  =>
      unfold st_object_Check_v3_L1 at e
      dsimp only at e
      replace e := cond_eq_or e
      rcases e with ⟨hq0, e⟩ | ⟨hq0, e⟩
      · replace e := cond_eq_or e
        rcases e with ⟨hq1, e⟩ | ⟨hq1, e⟩
        · replace e := cond_eq_or e
          let P6 : List (PG Try.prog M B0 S) := [.b (z_lssT hq0), .o, .q (ixM_ok (kd := .i64) (T := 25) (x := 6) (N := w0) (sz := 2) rfl (fun w => by kernel_rfl) hq1)]
          rcases e with ⟨hq2, e⟩ | ⟨hq2, e⟩
          · cases e; exact goes_runM hU (P6 ++ [.xg (ldRSx_ok (T := 35) (e := 35) (T2 := 32) (f := c_Insn) (sz := 5) (N := w0) (k := 6) (m := 2) (B := (fun k => if k = 0 then (⟨183#8, 0#8, 0#8, 0#16, 0#32⟩ : Insn) else (⟨149#8, 0#8, 0#8, 0#16, 0#32⟩ : Insn))) (E := w1) hzS (fun w => by kernel_rfl) (fun w => by kernel_rfl) (by decide) (inR_nat hq1) (x := (⟨#[103]⟩ : ByteArray)) (ba_eq hq2)) [0], .o, .o, .a 4, .o, .o, .a 4, .a 2, .o, .a 2, .o, .a 4, .cg (ok_object_isName_v7 hU  ), .o, .o, .o, .o, .a 4, .a 2, .o, .o, .o, .o, .a 4, .o, .a 1, .o, .xg (memRS_ok (hd := hdS) (tl := tlS) (zs := 2) (e := 35) (T2 := 32) (f := c_Insn) (sz := 5) (N := w0) (k := 6) (m := 2) (B := (fun k => if k = 0 then (⟨183#8, 0#8, 0#8, 0#16, 0#32⟩ : Insn) else (⟨149#8, 0#8, 0#8, 0#16, 0#32⟩ : Insn))) (E := w1) rfl (fun _ => rfl) (fun _ => rfl) (fun _ => rfl) (by decide) (inR_nat hq1) (p0_object_rightProg_v1 hU 0 )) [0], .o, .o, .o, .o]) [0, 1, 2] (fun b => rfl) (by decide) rfl rfl (fun b => by kernel_rfl)
          · replace e := cond_eq_or e
            rcases e with ⟨hq3, e⟩ | ⟨hq3, e⟩
            · cases e; exact ⟨ne_ret, goes_runM hU (P6 ++ [.xg (ldRSx_ok (T := 35) (e := 35) (T2 := 32) (f := c_Insn) (sz := 5) (N := w0) (k := 6) (m := 2) (B := (fun k => if k = 0 then (⟨183#8, 0#8, 0#8, 0#16, 0#32⟩ : Insn) else (⟨149#8, 0#8, 0#8, 0#16, 0#32⟩ : Insn))) (E := w1) hzS (fun w => by kernel_rfl) (fun w => by kernel_rfl) (by decide) (inR_nat hq1) (x := (⟨#[97]⟩ : ByteArray)) (ba_eq hq3)) [0], .o, .o, .a 4, .o, .o, .a 4, .a 2, .o, .a 2, .o, .a 4, .cg (ok_object_isName_v1 hU  ), .o, .o, .o, .o, .a 4, .a 2, .o, .o, .o, .o, .o, .o, .o]) [0, 1, 2] (fun b => rfl) (by decide) rfl rfl (fun b => by kernel_rfl)⟩
            · exact none_some e
        · exact none_some e
      · cases e; exact ⟨ne_exit 2, goes_runM hU [.b (z_lssF hq0)] [0, 1, 2] (fun b => rfl) (by decide) rfl rfl (fun b => by kernel_rfl)⟩
    | c7  =>
      unfold st_object_Check_v3_L1 at e
      dsimp only at e
      replace e := cond_eq_or e
      rcases e with ⟨hq0, e⟩ | ⟨hq0, e⟩
      · replace e := cond_eq_or e
        rcases e with ⟨hq1, e⟩ | ⟨hq1, e⟩
        · replace e := cond_eq_or e
          let P7 : List (PG Try.prog M B0 S) := [.b (z_lssT hq0), .o, .q (ixM_ok (kd := .i64) (T := 25) (x := 7) (N := w0) (sz := 2) rfl (fun w => by kernel_rfl) hq1)]
          rcases e with ⟨hq2, e⟩ | ⟨hq2, e⟩
          · cases e; exact goes_runM hU (P7 ++ [.xg (ldRSx_ok (T := 35) (e := 35) (T2 := 32) (f := c_Insn) (sz := 5) (N := w0) (k := 7) (m := 2) (B := (fun k => if k = 0 then (⟨183#8, 0#8, 0#8, 0#16, 0#32⟩ : Insn) else (⟨149#8, 0#8, 0#8, 0#16, 0#32⟩ : Insn))) (E := w1) hzS (fun w => by kernel_rfl) (fun w => by kernel_rfl) (by decide) (inR_nat hq1) (x := (⟨#[104]⟩ : ByteArray)) (ba_eq hq2)) [0], .o, .o, .a 4, .o, .o, .a 4, .a 2, .o, .a 2, .o, .a 4, .cg (ok_object_isName_v8 hU  ), .o, .o, .o, .o, .a 4, .a 2, .o, .o, .o, .o, .a 4, .o, .a 1, .o, .xg (memRS_ok (hd := hdS) (tl := tlS) (zs := 2) (e := 35) (T2 := 32) (f := c_Insn) (sz := 5) (N := w0) (k := 7) (m := 2) (B := (fun k => if k = 0 then (⟨183#8, 0#8, 0#8, 0#16, 0#32⟩ : Insn) else (⟨149#8, 0#8, 0#8, 0#16, 0#32⟩ : Insn))) (E := w1) rfl (fun _ => rfl) (fun _ => rfl) (fun _ => rfl) (by decide) (inR_nat hq1) (p0_object_rightProg_v1 hU 0 )) [0], .o, .o, .o, .o]) [0, 1, 2] (fun b => rfl) (by decide) rfl rfl (fun b => by kernel_rfl)
          · replace e := cond_eq_or e
            rcases e with ⟨hq3, e⟩ | ⟨hq3, e⟩
            · cases e; exact ⟨ne_ret, goes_runM hU (P7 ++ [.xg (ldRSx_ok (T := 35) (e := 35) (T2 := 32) (f := c_Insn) (sz := 5) (N := w0) (k := 7) (m := 2) (B := (fun k => if k = 0 then (⟨183#8, 0#8, 0#8, 0#16, 0#32⟩ : Insn) else (⟨149#8, 0#8, 0#8, 0#16, 0#32⟩ : Insn))) (E := w1) hzS (fun w => by kernel_rfl) (fun w => by kernel_rfl) (by decide) (inR_nat hq1) (x := (⟨#[97]⟩ : ByteArray)) (ba_eq hq3)) [0], .o, .o, .a 4, .o, .o, .a 4, .a 2, .o, .a 2, .o, .a 4, .cg (ok_object_isName_v1 hU  ), .o, .o, .o, .o, .a 4, .a 2, .o, .o, .o, .o, .o, .o, .o]) [0, 1, 2] (fun b => rfl) (by decide) rfl rfl (fun b => by kernel_rfl)⟩
            · exact none_some e
        · exact none_some e
      · cases e; exact ⟨ne_exit 2, goes_runM hU [.b (z_lssF hq0)] [0, 1, 2] (fun b => rfl) (by decide) rfl rfl (fun b => by kernel_rfl)⟩
    | c8  =>
      unfold st_object_Check_v3_L1 at e
      dsimp only at e
      replace e := cond_eq_or e
      rcases e with ⟨hq0, e⟩ | ⟨hq0, e⟩
      · replace e := cond_eq_or e
        rcases e with ⟨hq1, e⟩ | ⟨hq1, e⟩
        · replace e := cond_eq_or e
          let P8 : List (PG Try.prog M B0 S) := [.b (z_lssT hq0), .o, .q (ixM_ok (kd := .i64) (T := 25) (x := 8) (N := w0) (sz := 2) rfl (fun w => by kernel_rfl) hq1)]
          rcases e with ⟨hq2, e⟩ | ⟨hq2, e⟩
          · cases e; exact goes_runM hU (P8 ++ [.xg (ldRSx_ok (T := 35) (e := 35) (T2 := 32) (f := c_Insn) (sz := 5) (N := w0) (k := 8) (m := 2) (B := (fun k => if k = 0 then (⟨183#8, 0#8, 0#8, 0#16, 0#32⟩ : Insn) else (⟨149#8, 0#8, 0#8, 0#16, 0#32⟩ : Insn))) (E := w1) hzS (fun w => by kernel_rfl) (fun w => by kernel_rfl) (by decide) (inR_nat hq1) (x := (⟨#[105]⟩ : ByteArray)) (ba_eq hq2)) [0], .o, .o, .a 4, .o, .o, .a 4, .a 2, .o, .a 2, .o, .a 4, .cg (ok_object_isName_v9 hU  ), .o, .o, .o, .o, .a 4, .a 2, .o, .o, .o, .o, .a 4, .o, .a 1, .o, .xg (memRS_ok (hd := hdS) (tl := tlS) (zs := 2) (e := 35) (T2 := 32) (f := c_Insn) (sz := 5) (N := w0) (k := 8) (m := 2) (B := (fun k => if k = 0 then (⟨183#8, 0#8, 0#8, 0#16, 0#32⟩ : Insn) else (⟨149#8, 0#8, 0#8, 0#16, 0#32⟩ : Insn))) (E := w1) rfl (fun _ => rfl) (fun _ => rfl) (fun _ => rfl) (by decide) (inR_nat hq1) (p0_object_rightProg_v1 hU 0 )) [0], .o, .o, .o, .o]) [0, 1, 2] (fun b => rfl) (by decide) rfl rfl (fun b => by kernel_rfl)
          · replace e := cond_eq_or e
            rcases e with ⟨hq3, e⟩ | ⟨hq3, e⟩
            · cases e; exact ⟨ne_ret, goes_runM hU (P8 ++ [.xg (ldRSx_ok (T := 35) (e := 35) (T2 := 32) (f := c_Insn) (sz := 5) (N := w0) (k := 8) (m := 2) (B := (fun k => if k = 0 then (⟨183#8, 0#8, 0#8, 0#16, 0#32⟩ : Insn) else (⟨149#8, 0#8, 0#8, 0#16, 0#32⟩ : Insn))) (E := w1) hzS (fun w => by kernel_rfl) (fun w => by kernel_rfl) (by decide) (inR_nat hq1) (x := (⟨#[97]⟩ : ByteArray)) (ba_eq hq3)) [0], .o, .o, .a 4, .o, .o, .a 4, .a 2, .o, .a 2, .o, .a 4, .cg (ok_object_isName_v1 hU  ), .o, .o, .o, .o, .a 4, .a 2, .o, .o, .o, .o, .o, .o, .o]) [0, 1, 2] (fun b => rfl) (by decide) rfl rfl (fun b => by kernel_rfl)⟩
            · exact none_some e
        · exact none_some e
      · cases e; exact ⟨ne_exit 2, goes_runM hU [.b (z_lssF hq0)] [0, 1, 2] (fun b => rfl) (by decide) rfl rfl (fun b => by kernel_rfl)⟩
    | c9  =>
      unfold st_object_Check_v3_L1 at e
      dsimp only at e
      replace e := cond_eq_or e
      rcases e with ⟨hq0, e⟩ | ⟨hq0, e⟩
      · replace e := cond_eq_or e
        rcases e with ⟨hq1, e⟩ | ⟨hq1, e⟩
        · replace e := cond_eq_or e
          let P9 : List (PG Try.prog M B0 S) := [.b (z_lssT hq0), .o, .q (ixM_ok (kd := .i64) (T := 25) (x := 9) (N := w0) (sz := 2) rfl (fun w => by kernel_rfl) hq1)]
          rcases e with ⟨hq2, e⟩ | ⟨hq2, e⟩
          · cases e; exact goes_runM hU (P9 ++ [.xg (ldRSx_ok (T := 35) (e := 35) (T2 := 32) (f := c_Insn) (sz := 5) (N := w0) (k := 9) (m := 2) (B := (fun k => if k = 0 then (⟨183#8, 0#8, 0#8, 0#16, 0#32⟩ : Insn) else (⟨149#8, 0#8, 0#8, 0#16, 0#32⟩ : Insn))) (E := w1) hzS (fun w => by kernel_rfl) (fun w => by kernel_rfl) (by decide) (inR_nat hq1) (x := (⟨#[106]⟩ : ByteArray)) (ba_eq hq2)) [0], .o, .o, .a 4, .o, .o, .a 4, .a 2, .o, .a 2, .o, .a 4, .cg (ok_object_isName_v10 hU  ), .o, .o, .o, .o, .a 4, .a 2, .o, .o, .o, .o, .a 4, .o, .a 1, .o, .xg (memRS_ok (hd := hdS) (tl := tlS) (zs := 2) (e := 35) (T2 := 32) (f := c_Insn) (sz := 5) (N := w0) (k := 9) (m := 2) (B := (fun k => if k = 0 then (⟨183#8, 0#8, 0#8, 0#16, 0#32⟩ : Insn) else (⟨149#8, 0#8, 0#8, 0#16, 0#32⟩ : Insn))) (E := w1) rfl (fun _ => rfl) (fun _ => rfl) (fun _ => rfl) (by decide) (inR_nat hq1) (p0_object_rightProg_v1 hU 0 )) [0], .o, .o, .o, .o]) [0, 1, 2] (fun b => rfl) (by decide) rfl rfl (fun b => by kernel_rfl)
          · replace e := cond_eq_or e
            rcases e with ⟨hq3, e⟩ | ⟨hq3, e⟩
            · cases e; exact ⟨ne_ret, goes_runM hU (P9 ++ [.xg (ldRSx_ok (T := 35) (e := 35) (T2 := 32) (f := c_Insn) (sz := 5) (N := w0) (k := 9) (m := 2) (B := (fun k => if k = 0 then (⟨183#8, 0#8, 0#8, 0#16, 0#32⟩ : Insn) else (⟨149#8, 0#8, 0#8, 0#16, 0#32⟩ : Insn))) (E := w1) hzS (fun w => by kernel_rfl) (fun w => by kernel_rfl) (by decide) (inR_nat hq1) (x := (⟨#[97]⟩ : ByteArray)) (ba_eq hq3)) [0], .o, .o, .a 4, .o, .o, .a 4, .a 2, .o, .a 2, .o, .a 4, .cg (ok_object_isName_v1 hU  ), .o, .o, .o, .o, .a 4, .a 2, .o, .o, .o, .o, .o, .o, .o]) [0, 1, 2] (fun b => rfl) (by decide) rfl rfl (fun b => by kernel_rfl)⟩
            · exact none_some e
        · exact none_some e
      · cases e; exact ⟨ne_exit 2, goes_runM hU [.b (z_lssF hq0)] [0, 1, 2] (fun b => rfl) (by decide) rfl rfl (fun b => by kernel_rfl)⟩
    | c10  =>
      unfold st_object_Check_v3_L1 at e
      dsimp only at e
      replace e := cond_eq_or e
      rcases e with ⟨hq0, e⟩ | ⟨hq0, e⟩
      · replace e := cond_eq_or e
        rcases e with ⟨hq1, e⟩ | ⟨hq1, e⟩
        · replace e := cond_eq_or e
          let P10 : List (PG Try.prog M B0 S) := [.b (z_lssT hq0), .o, .q (ixM_ok (kd := .i64) (T := 25) (x := 10) (N := w0) (sz := 2) rfl (fun w => by kernel_rfl) hq1)]
          rcases e with ⟨hq2, e⟩ | ⟨hq2, e⟩
          · cases e; exact goes_runM hU (P10 ++ [.xg (ldRSx_ok (T := 35) (e := 35) (T2 := 32) (f := c_Insn) (sz := 5) (N := w0) (k := 10) (m := 2) (B := (fun k => if k = 0 then (⟨183#8, 0#8, 0#8, 0#16, 0#32⟩ : Insn) else (⟨149#8, 0#8, 0#8, 0#16, 0#32⟩ : Insn))) (E := w1) hzS (fun w => by kernel_rfl) (fun w => by kernel_rfl) (by decide) (inR_nat hq1) (x := (⟨#[107]⟩ : ByteArray)) (ba_eq hq2)) [0], .o, .o, .a 4, .o, .o, .a 4, .a 2, .o, .a 2, .o, .a 4, .cg (ok_object_isName_v11 hU  ), .o, .o, .o, .o, .a 4, .a 2, .o, .o, .o, .o, .a 4, .o, .a 1, .o, .xg (memRS_ok (hd := hdS) (tl := tlS) (zs := 2) (e := 35) (T2 := 32) (f := c_Insn) (sz := 5) (N := w0) (k := 10) (m := 2) (B := (fun k => if k = 0 then (⟨183#8, 0#8, 0#8, 0#16, 0#32⟩ : Insn) else (⟨149#8, 0#8, 0#8, 0#16, 0#32⟩ : Insn))) (E := w1) rfl (fun _ => rfl) (fun _ => rfl) (fun _ => rfl) (by decide) (inR_nat hq1) (p0_object_rightProg_v1 hU 0 )) [0], .o, .o, .o, .o]) [0, 1, 2] (fun b => rfl) (by decide) rfl rfl (fun b => by kernel_rfl)
          · replace e := cond_eq_or e
            rcases e with ⟨hq3, e⟩ | ⟨hq3, e⟩
            · cases e; exact ⟨ne_ret, goes_runM hU (P10 ++ [.xg (ldRSx_ok (T := 35) (e := 35) (T2 := 32) (f := c_Insn) (sz := 5) (N := w0) (k := 10) (m := 2) (B := (fun k => if k = 0 then (⟨183#8, 0#8, 0#8, 0#16, 0#32⟩ : Insn) else (⟨149#8, 0#8, 0#8, 0#16, 0#32⟩ : Insn))) (E := w1) hzS (fun w => by kernel_rfl) (fun w => by kernel_rfl) (by decide) (inR_nat hq1) (x := (⟨#[97]⟩ : ByteArray)) (ba_eq hq3)) [0], .o, .o, .a 4, .o, .o, .a 4, .a 2, .o, .a 2, .o, .a 4, .cg (ok_object_isName_v1 hU  ), .o, .o, .o, .o, .a 4, .a 2, .o, .o, .o, .o, .o, .o, .o]) [0, 1, 2] (fun b => rfl) (by decide) rfl rfl (fun b => by kernel_rfl)⟩
            · exact none_some e
        · exact none_some e
      · cases e; exact ⟨ne_exit 2, goes_runM hU [.b (z_lssF hq0)] [0, 1, 2] (fun b => rfl) (by decide) rfl rfl (fun b => by kernel_rfl)⟩
    | c11  =>
      unfold st_object_Check_v3_L1 at e
      dsimp only at e
      replace e := cond_eq_or e
      rcases e with ⟨hq0, e⟩ | ⟨hq0, e⟩
      · replace e := cond_eq_or e
        rcases e with ⟨hq1, e⟩ | ⟨hq1, e⟩
        · replace e := cond_eq_or e
          let P11 : List (PG Try.prog M B0 S) := [.b (z_lssT hq0), .o, .q (ixM_ok (kd := .i64) (T := 25) (x := 11) (N := w0) (sz := 2) rfl (fun w => by kernel_rfl) hq1)]
          rcases e with ⟨hq2, e⟩ | ⟨hq2, e⟩
          · cases e; exact goes_runM hU (P11 ++ [.xg (ldRSx_ok (T := 35) (e := 35) (T2 := 32) (f := c_Insn) (sz := 5) (N := w0) (k := 11) (m := 2) (B := (fun k => if k = 0 then (⟨183#8, 0#8, 0#8, 0#16, 0#32⟩ : Insn) else (⟨149#8, 0#8, 0#8, 0#16, 0#32⟩ : Insn))) (E := w1) hzS (fun w => by kernel_rfl) (fun w => by kernel_rfl) (by decide) (inR_nat hq1) (x := (⟨#[108]⟩ : ByteArray)) (ba_eq hq2)) [0], .o, .o, .a 4, .o, .o, .a 4, .a 2, .o, .a 2, .o, .a 4, .cg (ok_object_isName_v12 hU  ), .o, .o, .o, .o, .a 4, .a 2, .o, .o, .o, .o, .a 4, .o, .a 1, .o, .xg (memRS_ok (hd := hdS) (tl := tlS) (zs := 2) (e := 35) (T2 := 32) (f := c_Insn) (sz := 5) (N := w0) (k := 11) (m := 2) (B := (fun k => if k = 0 then (⟨183#8, 0#8, 0#8, 0#16, 0#32⟩ : Insn) else (⟨149#8, 0#8, 0#8, 0#16, 0#32⟩ : Insn))) (E := w1) rfl (fun _ => rfl) (fun _ => rfl) (fun _ => rfl) (by decide) (inR_nat hq1) (p0_object_rightProg_v1 hU 0 )) [0], .o, .o, .o, .o]) [0, 1, 2] (fun b => rfl) (by decide) rfl rfl (fun b => by kernel_rfl)
          · replace e := cond_eq_or e
            rcases e with ⟨hq3, e⟩ | ⟨hq3, e⟩
            · cases e; exact ⟨ne_ret, goes_runM hU (P11 ++ [.xg (ldRSx_ok (T := 35) (e := 35) (T2 := 32) (f := c_Insn) (sz := 5) (N := w0) (k := 11) (m := 2) (B := (fun k => if k = 0 then (⟨183#8, 0#8, 0#8, 0#16, 0#32⟩ : Insn) else (⟨149#8, 0#8, 0#8, 0#16, 0#32⟩ : Insn))) (E := w1) hzS (fun w => by kernel_rfl) (fun w => by kernel_rfl) (by decide) (inR_nat hq1) (x := (⟨#[97]⟩ : ByteArray)) (ba_eq hq3)) [0], .o, .o, .a 4, .o, .o, .a 4, .a 2, .o, .a 2, .o, .a 4, .cg (ok_object_isName_v1 hU  ), .o, .o, .o, .o, .a 4, .a 2, .o, .o, .o, .o, .o, .o, .o]) [0, 1, 2] (fun b => rfl) (by decide) rfl rfl (fun b => by kernel_rfl)⟩
            · exact none_some e
        · exact none_some e
      · cases e; exact ⟨ne_exit 2, goes_runM hU [.b (z_lssF hq0)] [0, 1, 2] (fun b => rfl) (by decide) rfl rfl (fun b => by kernel_rfl)⟩
    | c12  =>
      unfold st_object_Check_v3_L1 at e
      dsimp only at e
      replace e := cond_eq_or e
      rcases e with ⟨hq0, e⟩ | ⟨hq0, e⟩
      · replace e := cond_eq_or e
        rcases e with ⟨hq1, e⟩ | ⟨hq1, e⟩
        · replace e := cond_eq_or e
          let P12 : List (PG Try.prog M B0 S) := [.b (z_lssT hq0), .o, .q (ixM_ok (kd := .i64) (T := 25) (x := 12) (N := w0) (sz := 2) rfl (fun w => by kernel_rfl) hq1)]
          rcases e with ⟨hq2, e⟩ | ⟨hq2, e⟩
          · cases e; exact goes_runM hU (P12 ++ [.xg (ldRSx_ok (T := 35) (e := 35) (T2 := 32) (f := c_Insn) (sz := 5) (N := w0) (k := 12) (m := 2) (B := (fun k => if k = 0 then (⟨183#8, 0#8, 0#8, 0#16, 0#32⟩ : Insn) else (⟨149#8, 0#8, 0#8, 0#16, 0#32⟩ : Insn))) (E := w1) hzS (fun w => by kernel_rfl) (fun w => by kernel_rfl) (by decide) (inR_nat hq1) (x := (⟨#[109]⟩ : ByteArray)) (ba_eq hq2)) [0], .o, .o, .a 4, .o, .o, .a 4, .a 2, .o, .a 2, .o, .a 4, .cg (ok_object_isName_v13 hU  ), .o, .o, .o, .o, .a 4, .a 2, .o, .o, .o, .o, .a 4, .o, .a 1, .o, .xg (memRS_ok (hd := hdS) (tl := tlS) (zs := 2) (e := 35) (T2 := 32) (f := c_Insn) (sz := 5) (N := w0) (k := 12) (m := 2) (B := (fun k => if k = 0 then (⟨183#8, 0#8, 0#8, 0#16, 0#32⟩ : Insn) else (⟨149#8, 0#8, 0#8, 0#16, 0#32⟩ : Insn))) (E := w1) rfl (fun _ => rfl) (fun _ => rfl) (fun _ => rfl) (by decide) (inR_nat hq1) (p0_object_rightProg_v1 hU 0 )) [0], .o, .o, .o, .o]) [0, 1, 2] (fun b => rfl) (by decide) rfl rfl (fun b => by kernel_rfl)
          · replace e := cond_eq_or e
            rcases e with ⟨hq3, e⟩ | ⟨hq3, e⟩
            · cases e; exact ⟨ne_ret, goes_runM hU (P12 ++ [.xg (ldRSx_ok (T := 35) (e := 35) (T2 := 32) (f := c_Insn) (sz := 5) (N := w0) (k := 12) (m := 2) (B := (fun k => if k = 0 then (⟨183#8, 0#8, 0#8, 0#16, 0#32⟩ : Insn) else (⟨149#8, 0#8, 0#8, 0#16, 0#32⟩ : Insn))) (E := w1) hzS (fun w => by kernel_rfl) (fun w => by kernel_rfl) (by decide) (inR_nat hq1) (x := (⟨#[97]⟩ : ByteArray)) (ba_eq hq3)) [0], .o, .o, .a 4, .o, .o, .a 4, .a 2, .o, .a 2, .o, .a 4, .cg (ok_object_isName_v1 hU  ), .o, .o, .o, .o, .a 4, .a 2, .o, .o, .o, .o, .o, .o, .o]) [0, 1, 2] (fun b => rfl) (by decide) rfl rfl (fun b => by kernel_rfl)⟩
            · exact none_some e
        · exact none_some e
      · cases e; exact ⟨ne_exit 2, goes_runM hU [.b (z_lssF hq0)] [0, 1, 2] (fun b => rfl) (by decide) rfl rfl (fun b => by kernel_rfl)⟩
    | c13  =>
      unfold st_object_Check_v3_L1 at e
      dsimp only at e
      replace e := cond_eq_or e
      rcases e with ⟨hq0, e⟩ | ⟨hq0, e⟩
      · replace e := cond_eq_or e
        rcases e with ⟨hq1, e⟩ | ⟨hq1, e⟩
        · replace e := cond_eq_or e
          let P13 : List (PG Try.prog M B0 S) := [.b (z_lssT hq0), .o, .q (ixM_ok (kd := .i64) (T := 25) (x := 13) (N := w0) (sz := 2) rfl (fun w => by kernel_rfl) hq1)]
          rcases e with ⟨hq2, e⟩ | ⟨hq2, e⟩
          · cases e; exact goes_runM hU (P13 ++ [.xg (ldRSx_ok (T := 35) (e := 35) (T2 := 32) (f := c_Insn) (sz := 5) (N := w0) (k := 13) (m := 2) (B := (fun k => if k = 0 then (⟨183#8, 0#8, 0#8, 0#16, 0#32⟩ : Insn) else (⟨149#8, 0#8, 0#8, 0#16, 0#32⟩ : Insn))) (E := w1) hzS (fun w => by kernel_rfl) (fun w => by kernel_rfl) (by decide) (inR_nat hq1) (x := (⟨#[110]⟩ : ByteArray)) (ba_eq hq2)) [0], .o, .o, .a 4, .o, .o, .a 4, .a 2, .o, .a 2, .o, .a 4, .cg (ok_object_isName_v14 hU  ), .o, .o, .o, .o, .a 4, .a 2, .o, .o, .o, .o, .a 4, .o, .a 1, .o, .xg (memRS_ok (hd := hdS) (tl := tlS) (zs := 2) (e := 35) (T2 := 32) (f := c_Insn) (sz := 5) (N := w0) (k := 13) (m := 2) (B := (fun k => if k = 0 then (⟨183#8, 0#8, 0#8, 0#16, 0#32⟩ : Insn) else (⟨149#8, 0#8, 0#8, 0#16, 0#32⟩ : Insn))) (E := w1) rfl (fun _ => rfl) (fun _ => rfl) (fun _ => rfl) (by decide) (inR_nat hq1) (p0_object_rightProg_v1 hU 0 )) [0], .o, .o, .o, .o]) [0, 1, 2] (fun b => rfl) (by decide) rfl rfl (fun b => by kernel_rfl)
          · replace e := cond_eq_or e
            rcases e with ⟨hq3, e⟩ | ⟨hq3, e⟩
            · cases e; exact ⟨ne_ret, goes_runM hU (P13 ++ [.xg (ldRSx_ok (T := 35) (e := 35) (T2 := 32) (f := c_Insn) (sz := 5) (N := w0) (k := 13) (m := 2) (B := (fun k => if k = 0 then (⟨183#8, 0#8, 0#8, 0#16, 0#32⟩ : Insn) else (⟨149#8, 0#8, 0#8, 0#16, 0#32⟩ : Insn))) (E := w1) hzS (fun w => by kernel_rfl) (fun w => by kernel_rfl) (by decide) (inR_nat hq1) (x := (⟨#[97]⟩ : ByteArray)) (ba_eq hq3)) [0], .o, .o, .a 4, .o, .o, .a 4, .a 2, .o, .a 2, .o, .a 4, .cg (ok_object_isName_v1 hU  ), .o, .o, .o, .o, .a 4, .a 2, .o, .o, .o, .o, .o, .o, .o]) [0, 1, 2] (fun b => rfl) (by decide) rfl rfl (fun b => by kernel_rfl)⟩
            · exact none_some e
        · exact none_some e
      · cases e; exact ⟨ne_exit 2, goes_runM hU [.b (z_lssF hq0)] [0, 1, 2] (fun b => rfl) (by decide) rfl rfl (fun b => by kernel_rfl)⟩
    | c14  =>
      unfold st_object_Check_v3_L1 at e
      dsimp only at e
      replace e := cond_eq_or e
      rcases e with ⟨hq0, e⟩ | ⟨hq0, e⟩
      · replace e := cond_eq_or e
        rcases e with ⟨hq1, e⟩ | ⟨hq1, e⟩
        · replace e := cond_eq_or e
          let P14 : List (PG Try.prog M B0 S) := [.b (z_lssT hq0), .o, .q (ixM_ok (kd := .i64) (T := 25) (x := 14) (N := w0) (sz := 2) rfl (fun w => by kernel_rfl) hq1)]
          rcases e with ⟨hq2, e⟩ | ⟨hq2, e⟩
          · cases e; exact goes_runM hU (P14 ++ [.xg (ldRSx_ok (T := 35) (e := 35) (T2 := 32) (f := c_Insn) (sz := 5) (N := w0) (k := 14) (m := 2) (B := (fun k => if k = 0 then (⟨183#8, 0#8, 0#8, 0#16, 0#32⟩ : Insn) else (⟨149#8, 0#8, 0#8, 0#16, 0#32⟩ : Insn))) (E := w1) hzS (fun w => by kernel_rfl) (fun w => by kernel_rfl) (by decide) (inR_nat hq1) (x := (⟨#[111]⟩ : ByteArray)) (ba_eq hq2)) [0], .o, .o, .a 4, .o, .o, .a 4, .a 2, .o, .a 2, .o, .a 4, .cg (ok_object_isName_v15 hU  ), .o, .o, .o, .o, .a 4, .a 2, .o, .o, .o, .o, .a 4, .o, .a 1, .o, .xg (memRS_ok (hd := hdS) (tl := tlS) (zs := 2) (e := 35) (T2 := 32) (f := c_Insn) (sz := 5) (N := w0) (k := 14) (m := 2) (B := (fun k => if k = 0 then (⟨183#8, 0#8, 0#8, 0#16, 0#32⟩ : Insn) else (⟨149#8, 0#8, 0#8, 0#16, 0#32⟩ : Insn))) (E := w1) rfl (fun _ => rfl) (fun _ => rfl) (fun _ => rfl) (by decide) (inR_nat hq1) (p0_object_rightProg_v1 hU 0 )) [0], .o, .o, .o, .o]) [0, 1, 2] (fun b => rfl) (by decide) rfl rfl (fun b => by kernel_rfl)
          · replace e := cond_eq_or e
            rcases e with ⟨hq3, e⟩ | ⟨hq3, e⟩
            · cases e; exact ⟨ne_ret, goes_runM hU (P14 ++ [.xg (ldRSx_ok (T := 35) (e := 35) (T2 := 32) (f := c_Insn) (sz := 5) (N := w0) (k := 14) (m := 2) (B := (fun k => if k = 0 then (⟨183#8, 0#8, 0#8, 0#16, 0#32⟩ : Insn) else (⟨149#8, 0#8, 0#8, 0#16, 0#32⟩ : Insn))) (E := w1) hzS (fun w => by kernel_rfl) (fun w => by kernel_rfl) (by decide) (inR_nat hq1) (x := (⟨#[97]⟩ : ByteArray)) (ba_eq hq3)) [0], .o, .o, .a 4, .o, .o, .a 4, .a 2, .o, .a 2, .o, .a 4, .cg (ok_object_isName_v1 hU  ), .o, .o, .o, .o, .a 4, .a 2, .o, .o, .o, .o, .o, .o, .o]) [0, 1, 2] (fun b => rfl) (by decide) rfl rfl (fun b => by kernel_rfl)⟩
            · exact none_some e
        · exact none_some e
      · cases e; exact ⟨ne_exit 2, goes_runM hU [.b (z_lssF hq0)] [0, 1, 2] (fun b => rfl) (by decide) rfl rfl (fun b => by kernel_rfl)⟩
    | c15  =>
      unfold st_object_Check_v3_L1 at e
      dsimp only at e
      replace e := cond_eq_or e
      rcases e with ⟨hq0, e⟩ | ⟨hq0, e⟩
      · replace e := cond_eq_or e
        rcases e with ⟨hq1, e⟩ | ⟨hq1, e⟩
        · replace e := cond_eq_or e
          let P15 : List (PG Try.prog M B0 S) := [.b (z_lssT hq0), .o, .q (ixM_ok (kd := .i64) (T := 25) (x := 15) (N := w0) (sz := 2) rfl (fun w => by kernel_rfl) hq1)]
          rcases e with ⟨hq2, e⟩ | ⟨hq2, e⟩
          · cases e; exact goes_runM hU (P15 ++ [.xg (ldRSx_ok (T := 35) (e := 35) (T2 := 32) (f := c_Insn) (sz := 5) (N := w0) (k := 15) (m := 2) (B := (fun k => if k = 0 then (⟨183#8, 0#8, 0#8, 0#16, 0#32⟩ : Insn) else (⟨149#8, 0#8, 0#8, 0#16, 0#32⟩ : Insn))) (E := w1) hzS (fun w => by kernel_rfl) (fun w => by kernel_rfl) (by decide) (inR_nat hq1) (x := (⟨#[112]⟩ : ByteArray)) (ba_eq hq2)) [0], .o, .o, .a 4, .o, .o, .a 4, .a 2, .o, .a 2, .o, .a 4, .cg (ok_object_isName_v16 hU  ), .o, .o, .o, .o, .a 4, .a 2, .o, .o, .o, .o, .a 4, .o, .a 1, .o, .xg (memRS_ok (hd := hdS) (tl := tlS) (zs := 2) (e := 35) (T2 := 32) (f := c_Insn) (sz := 5) (N := w0) (k := 15) (m := 2) (B := (fun k => if k = 0 then (⟨183#8, 0#8, 0#8, 0#16, 0#32⟩ : Insn) else (⟨149#8, 0#8, 0#8, 0#16, 0#32⟩ : Insn))) (E := w1) rfl (fun _ => rfl) (fun _ => rfl) (fun _ => rfl) (by decide) (inR_nat hq1) (p0_object_rightProg_v1 hU 0 )) [0], .o, .o, .o, .o]) [0, 1, 2] (fun b => rfl) (by decide) rfl rfl (fun b => by kernel_rfl)
          · replace e := cond_eq_or e
            rcases e with ⟨hq3, e⟩ | ⟨hq3, e⟩
            · cases e; exact ⟨ne_ret, goes_runM hU (P15 ++ [.xg (ldRSx_ok (T := 35) (e := 35) (T2 := 32) (f := c_Insn) (sz := 5) (N := w0) (k := 15) (m := 2) (B := (fun k => if k = 0 then (⟨183#8, 0#8, 0#8, 0#16, 0#32⟩ : Insn) else (⟨149#8, 0#8, 0#8, 0#16, 0#32⟩ : Insn))) (E := w1) hzS (fun w => by kernel_rfl) (fun w => by kernel_rfl) (by decide) (inR_nat hq1) (x := (⟨#[97]⟩ : ByteArray)) (ba_eq hq3)) [0], .o, .o, .a 4, .o, .o, .a 4, .a 2, .o, .a 2, .o, .a 4, .cg (ok_object_isName_v1 hU  ), .o, .o, .o, .o, .a 4, .a 2, .o, .o, .o, .o, .o, .o, .o]) [0, 1, 2] (fun b => rfl) (by decide) rfl rfl (fun b => by kernel_rfl)⟩
            · exact none_some e
        · exact none_some e
      · cases e; exact ⟨ne_exit 2, goes_runM hU [.b (z_lssF hq0)] [0, 1, 2] (fun b => rfl) (by decide) rfl rfl (fun b => by kernel_rfl)⟩
    | c16  =>
      unfold st_object_Check_v3_L1 at e
      dsimp only at e
      replace e := cond_eq_or e
      rcases e with ⟨hq0, e⟩ | ⟨hq0, e⟩
      · replace e := cond_eq_or e
        rcases e with ⟨hq1, e⟩ | ⟨hq1, e⟩
        · replace e := cond_eq_or e
          rcases e with ⟨hq2, e⟩ | ⟨hq2, e⟩
          · cases e; exact ⟨ne_ret, goes_runM hU [.b (z_lssT hq0), .o, .q (ixM_ok (kd := .i64) (T := 25) (x := 16) (N := w0) (sz := 2) rfl (fun w => by kernel_rfl) hq1), .xg (ldRSx_ok (T := 35) (e := 35) (T2 := 32) (f := c_Insn) (sz := 5) (N := w0) (k := 16) (m := 2) (B := (fun k => if k = 0 then (⟨183#8, 0#8, 0#8, 0#16, 0#32⟩ : Insn) else (⟨149#8, 0#8, 0#8, 0#16, 0#32⟩ : Insn))) (E := w1) hzS (fun w => by kernel_rfl) (fun w => by kernel_rfl) (by decide) (inR_nat hq1) (x := (⟨#[97]⟩ : ByteArray)) (ba_eq hq2)) [0], .o, .o, .a 4, .o, .o, .a 4, .a 2, .o, .a 2, .o, .a 4, .cg (ok_object_isName_v1 hU  ), .o, .o, .o, .o, .a 4, .a 2, .o, .o, .o, .o, .o, .o, .o] [0, 1, 2] (fun b => rfl) (by decide) rfl rfl (fun b => by kernel_rfl)⟩
          · exact none_some e
        · exact none_some e
      · cases e; exact ⟨ne_exit 2, goes_runM hU [.b (z_lssF hq0)] [0, 1, 2] (fun b => rfl) (by decide) rfl rfl (fun b => by kernel_rfl)⟩) s r h
noncomputable def t0_object_Check_v3_L1_0 (w0 : Nat) (w1 : Nat → ByteArray)  (ls : List L1) : List Value := List.append [.agg #[.slice none 0 0, .slice none 0 0, (rowV (rrL (lget ls 0)) w0 2)], .pointer (some ⟨(lget ls 1).n, 0, none⟩), .int .i64 (0), .int .i64 (0), .int .i64 (0), .int .i64 (0), undef, undef, .map (some (lget ls 2).n), undef, undef, .tuple #[.int .i64 (0), .int .i64 (0)], .pointer (some ⟨(lget ls 1).n, 0, none⟩), .slice none 0 0, .tuple #[.int .i64 (0), .int .i64 (0)], .int .i64 (0), .int .i64 (0), .int .i64 (0), .bool false, undef, undef, .pointer (some ⟨(lget ls 1).n, 1, none⟩), .slice none 0 0, .int .i64 (0), .int .i64 (0), .bool false] (List.append (und 14) (List.append [.pointer (some ⟨(lget ls 1).n, 2, none⟩), (rowV (rrL (lget ls 0)) w0 2), .int .i64 ((w0 : Int)), .bool false, .bool false, .pointer (some ⟨(lget ls 1).n, 2, none⟩), (rowV (rrL (lget ls 0)) w0 2), .int .i64 ((w0 : Int)), .bool false, .bool false, .map (some (lget ls 2).n), .pointer (some ⟨(lget ls 1).n, 2, none⟩), (rowV (rrL (lget ls 0)) w0 2), .int .i64 ((w0 : Int)), .int .i64 (0)] (und 31)))
def pre_object_Check_v3_L1_0 (w0 : Nat) (w1 : Nat → ByteArray)  (ls : List L1) : List Obj := [rsO hdS tlS 2 (lget ls 0) 35 32 c_Insn 5 w0 (fun _ => (2, (fun k => if k = 0 then (⟨183#8, 0#8, 0#8, 0#16, 0#32⟩ : Insn) else (⟨149#8, 0#8, 0#8, 0#16, 0#32⟩ : Insn)))) w1, .cells #[.slice none 0 0, .slice none 0 0, (rowV (rrL (lget ls 0)) w0 2)] 27, .map #[] 0]
theorem sp0_object_Check_v3_L1_0_ok (h : lpO (st_object_Check_v3_L1 w0 w1) (.c0) = some (.e0 )) : SpcG Try.prog M B0 S ⟨fun ls => .code (.loop bd_object_Check_v3_L1) (t0_object_Check_v3_L1_0 w0 w1  ls), pre_object_Check_v3_L1_0 w0 w1 , 1, (.exit 2), fun ls => vf_object_Check_v3_L1 w0 w1 (.e0 ) (ls.take 3 ++ ls.drop 3), fun ls => (Hf_object_Check_v3_L1 w0 w1 (.e0 ) (ls.take 3 ++ ls.drop 3)).take 3 ++ List.replicate 0 unb, fun ls => (Hf_object_Check_v3_L1 w0 w1 (.e0 ) (ls.take 3 ++ ls.drop 3)).drop 3⟩ :=
  spc_of_goesM hU 0 (k0 := 3) (go_object_Check_v3_L1 hU w0 w1 _ _ h) (t0_object_Check_v3_L1_0 w0 w1 ) (pre_object_Check_v3_L1_0 w0 w1 ) (fun _ => rfl) (fun ls h => by match ls, h with | [l0, l1, l2], _ => exact ⟨by kernel_rfl, by kernel_rfl⟩) (fun ls h => by match ls, h with | [l0, l1, l2], _ => rfl) (by decide) (by decide) (fun ls => rfl)
theorem sp1_object_Check_v3_L1_0_ok (h : lpO (st_object_Check_v3_L1 w0 w1) (.c0) = some (.e1 )) : SpcG Try.prog M B0 S ⟨fun ls => .code (.loop bd_object_Check_v3_L1) (t0_object_Check_v3_L1_0 w0 w1  ls), pre_object_Check_v3_L1_0 w0 w1 , 1, (.exit 2), fun ls => vf_object_Check_v3_L1 w0 w1 (.e1 ) (ls.take 3 ++ ls.drop 3), fun ls => (Hf_object_Check_v3_L1 w0 w1 (.e1 ) (ls.take 3 ++ ls.drop 3)).take 3 ++ List.replicate 0 unb, fun ls => (Hf_object_Check_v3_L1 w0 w1 (.e1 ) (ls.take 3 ++ ls.drop 3)).drop 3⟩ :=
  spc_of_goesM hU 0 (k0 := 3) (go_object_Check_v3_L1 hU w0 w1 _ _ h) (t0_object_Check_v3_L1_0 w0 w1 ) (pre_object_Check_v3_L1_0 w0 w1 ) (fun _ => rfl) (fun ls h => by match ls, h with | [l0, l1, l2], _ => exact ⟨by kernel_rfl, by kernel_rfl⟩) (fun ls h => by match ls, h with | [l0, l1, l2], _ => rfl) (by decide) (by decide) (fun ls => rfl)
theorem sp2_object_Check_v3_L1_0_ok (h : lpO (st_object_Check_v3_L1 w0 w1) (.c0) = some (.e2 )) : SpcG Try.prog M B0 S ⟨fun ls => .code (.loop bd_object_Check_v3_L1) (t0_object_Check_v3_L1_0 w0 w1  ls), pre_object_Check_v3_L1_0 w0 w1 , 1, (.exit 2), fun ls => vf_object_Check_v3_L1 w0 w1 (.e2 ) (ls.take 3 ++ ls.drop 3), fun ls => (Hf_object_Check_v3_L1 w0 w1 (.e2 ) (ls.take 3 ++ ls.drop 3)).take 3 ++ List.replicate 0 unb, fun ls => (Hf_object_Check_v3_L1 w0 w1 (.e2 ) (ls.take 3 ++ ls.drop 3)).drop 3⟩ :=
  spc_of_goesM hU 0 (k0 := 3) (go_object_Check_v3_L1 hU w0 w1 _ _ h) (t0_object_Check_v3_L1_0 w0 w1 ) (pre_object_Check_v3_L1_0 w0 w1 ) (fun _ => rfl) (fun ls h => by match ls, h with | [l0, l1, l2], _ => exact ⟨by kernel_rfl, by kernel_rfl⟩) (fun ls h => by match ls, h with | [l0, l1, l2], _ => rfl) (by decide) (by decide) (fun ls => rfl)
theorem sp3_object_Check_v3_L1_0_ok (h : lpO (st_object_Check_v3_L1 w0 w1) (.c0) = some (.e3 )) : SpcG Try.prog M B0 S ⟨fun ls => .code (.loop bd_object_Check_v3_L1) (t0_object_Check_v3_L1_0 w0 w1  ls), pre_object_Check_v3_L1_0 w0 w1 , 1, (.exit 2), fun ls => vf_object_Check_v3_L1 w0 w1 (.e3 ) (ls.take 3 ++ ls.drop 3), fun ls => (Hf_object_Check_v3_L1 w0 w1 (.e3 ) (ls.take 3 ++ ls.drop 3)).take 3 ++ List.replicate 0 unb, fun ls => (Hf_object_Check_v3_L1 w0 w1 (.e3 ) (ls.take 3 ++ ls.drop 3)).drop 3⟩ :=
  spc_of_goesM hU 0 (k0 := 3) (go_object_Check_v3_L1 hU w0 w1 _ _ h) (t0_object_Check_v3_L1_0 w0 w1 ) (pre_object_Check_v3_L1_0 w0 w1 ) (fun _ => rfl) (fun ls h => by match ls, h with | [l0, l1, l2], _ => exact ⟨by kernel_rfl, by kernel_rfl⟩) (fun ls h => by match ls, h with | [l0, l1, l2], _ => rfl) (by decide) (by decide) (fun ls => rfl)
theorem sp4_object_Check_v3_L1_0_ok (h : lpO (st_object_Check_v3_L1 w0 w1) (.c0) = some (.e4 )) : SpcG Try.prog M B0 S ⟨fun ls => .code (.loop bd_object_Check_v3_L1) (t0_object_Check_v3_L1_0 w0 w1  ls), pre_object_Check_v3_L1_0 w0 w1 , 1, (.exit 2), fun ls => vf_object_Check_v3_L1 w0 w1 (.e4 ) (ls.take 3 ++ ls.drop 3), fun ls => (Hf_object_Check_v3_L1 w0 w1 (.e4 ) (ls.take 3 ++ ls.drop 3)).take 3 ++ List.replicate 0 unb, fun ls => (Hf_object_Check_v3_L1 w0 w1 (.e4 ) (ls.take 3 ++ ls.drop 3)).drop 3⟩ :=
  spc_of_goesM hU 0 (k0 := 3) (go_object_Check_v3_L1 hU w0 w1 _ _ h) (t0_object_Check_v3_L1_0 w0 w1 ) (pre_object_Check_v3_L1_0 w0 w1 ) (fun _ => rfl) (fun ls h => by match ls, h with | [l0, l1, l2], _ => exact ⟨by kernel_rfl, by kernel_rfl⟩) (fun ls h => by match ls, h with | [l0, l1, l2], _ => rfl) (by decide) (by decide) (fun ls => rfl)
theorem sp5_object_Check_v3_L1_0_ok (h : lpO (st_object_Check_v3_L1 w0 w1) (.c0) = some (.e5 )) : SpcG Try.prog M B0 S ⟨fun ls => .code (.loop bd_object_Check_v3_L1) (t0_object_Check_v3_L1_0 w0 w1  ls), pre_object_Check_v3_L1_0 w0 w1 , 1, (.exit 2), fun ls => vf_object_Check_v3_L1 w0 w1 (.e5 ) (ls.take 3 ++ ls.drop 3), fun ls => (Hf_object_Check_v3_L1 w0 w1 (.e5 ) (ls.take 3 ++ ls.drop 3)).take 3 ++ List.replicate 0 unb, fun ls => (Hf_object_Check_v3_L1 w0 w1 (.e5 ) (ls.take 3 ++ ls.drop 3)).drop 3⟩ :=
  spc_of_goesM hU 0 (k0 := 3) (go_object_Check_v3_L1 hU w0 w1 _ _ h) (t0_object_Check_v3_L1_0 w0 w1 ) (pre_object_Check_v3_L1_0 w0 w1 ) (fun _ => rfl) (fun ls h => by match ls, h with | [l0, l1, l2], _ => exact ⟨by kernel_rfl, by kernel_rfl⟩) (fun ls h => by match ls, h with | [l0, l1, l2], _ => rfl) (by decide) (by decide) (fun ls => rfl)
theorem sp6_object_Check_v3_L1_0_ok (h : lpO (st_object_Check_v3_L1 w0 w1) (.c0) = some (.e6 )) : SpcG Try.prog M B0 S ⟨fun ls => .code (.loop bd_object_Check_v3_L1) (t0_object_Check_v3_L1_0 w0 w1  ls), pre_object_Check_v3_L1_0 w0 w1 , 1, (.exit 2), fun ls => vf_object_Check_v3_L1 w0 w1 (.e6 ) (ls.take 3 ++ ls.drop 3), fun ls => (Hf_object_Check_v3_L1 w0 w1 (.e6 ) (ls.take 3 ++ ls.drop 3)).take 3 ++ List.replicate 0 unb, fun ls => (Hf_object_Check_v3_L1 w0 w1 (.e6 ) (ls.take 3 ++ ls.drop 3)).drop 3⟩ :=
  spc_of_goesM hU 0 (k0 := 3) (go_object_Check_v3_L1 hU w0 w1 _ _ h) (t0_object_Check_v3_L1_0 w0 w1 ) (pre_object_Check_v3_L1_0 w0 w1 ) (fun _ => rfl) (fun ls h => by match ls, h with | [l0, l1, l2], _ => exact ⟨by kernel_rfl, by kernel_rfl⟩) (fun ls h => by match ls, h with | [l0, l1, l2], _ => rfl) (by decide) (by decide) (fun ls => rfl)
theorem sp7_object_Check_v3_L1_0_ok (h : lpO (st_object_Check_v3_L1 w0 w1) (.c0) = some (.e7 )) : SpcG Try.prog M B0 S ⟨fun ls => .code (.loop bd_object_Check_v3_L1) (t0_object_Check_v3_L1_0 w0 w1  ls), pre_object_Check_v3_L1_0 w0 w1 , 1, (.exit 2), fun ls => vf_object_Check_v3_L1 w0 w1 (.e7 ) (ls.take 3 ++ ls.drop 3), fun ls => (Hf_object_Check_v3_L1 w0 w1 (.e7 ) (ls.take 3 ++ ls.drop 3)).take 3 ++ List.replicate 0 unb, fun ls => (Hf_object_Check_v3_L1 w0 w1 (.e7 ) (ls.take 3 ++ ls.drop 3)).drop 3⟩ :=
  spc_of_goesM hU 0 (k0 := 3) (go_object_Check_v3_L1 hU w0 w1 _ _ h) (t0_object_Check_v3_L1_0 w0 w1 ) (pre_object_Check_v3_L1_0 w0 w1 ) (fun _ => rfl) (fun ls h => by match ls, h with | [l0, l1, l2], _ => exact ⟨by kernel_rfl, by kernel_rfl⟩) (fun ls h => by match ls, h with | [l0, l1, l2], _ => rfl) (by decide) (by decide) (fun ls => rfl)
theorem sp8_object_Check_v3_L1_0_ok (h : lpO (st_object_Check_v3_L1 w0 w1) (.c0) = some (.e8 )) : SpcG Try.prog M B0 S ⟨fun ls => .code (.loop bd_object_Check_v3_L1) (t0_object_Check_v3_L1_0 w0 w1  ls), pre_object_Check_v3_L1_0 w0 w1 , 1, (.exit 2), fun ls => vf_object_Check_v3_L1 w0 w1 (.e8 ) (ls.take 3 ++ ls.drop 3), fun ls => (Hf_object_Check_v3_L1 w0 w1 (.e8 ) (ls.take 3 ++ ls.drop 3)).take 3 ++ List.replicate 0 unb, fun ls => (Hf_object_Check_v3_L1 w0 w1 (.e8 ) (ls.take 3 ++ ls.drop 3)).drop 3⟩ :=
  spc_of_goesM hU 0 (k0 := 3) (go_object_Check_v3_L1 hU w0 w1 _ _ h) (t0_object_Check_v3_L1_0 w0 w1 ) (pre_object_Check_v3_L1_0 w0 w1 ) (fun _ => rfl) (fun ls h => by match ls, h with | [l0, l1, l2], _ => exact ⟨by kernel_rfl, by kernel_rfl⟩) (fun ls h => by match ls, h with | [l0, l1, l2], _ => rfl) (by decide) (by decide) (fun ls => rfl)
theorem sp9_object_Check_v3_L1_0_ok (h : lpO (st_object_Check_v3_L1 w0 w1) (.c0) = some (.e9 )) : SpcG Try.prog M B0 S ⟨fun ls => .code (.loop bd_object_Check_v3_L1) (t0_object_Check_v3_L1_0 w0 w1  ls), pre_object_Check_v3_L1_0 w0 w1 , 1, (.exit 2), fun ls => vf_object_Check_v3_L1 w0 w1 (.e9 ) (ls.take 3 ++ ls.drop 3), fun ls => (Hf_object_Check_v3_L1 w0 w1 (.e9 ) (ls.take 3 ++ ls.drop 3)).take 3 ++ List.replicate 0 unb, fun ls => (Hf_object_Check_v3_L1 w0 w1 (.e9 ) (ls.take 3 ++ ls.drop 3)).drop 3⟩ :=
  spc_of_goesM hU 0 (k0 := 3) (go_object_Check_v3_L1 hU w0 w1 _ _ h) (t0_object_Check_v3_L1_0 w0 w1 ) (pre_object_Check_v3_L1_0 w0 w1 ) (fun _ => rfl) (fun ls h => by match ls, h with | [l0, l1, l2], _ => exact ⟨by kernel_rfl, by kernel_rfl⟩) (fun ls h => by match ls, h with | [l0, l1, l2], _ => rfl) (by decide) (by decide) (fun ls => rfl)
theorem sp10_object_Check_v3_L1_0_ok (h : lpO (st_object_Check_v3_L1 w0 w1) (.c0) = some (.e10 )) : SpcG Try.prog M B0 S ⟨fun ls => .code (.loop bd_object_Check_v3_L1) (t0_object_Check_v3_L1_0 w0 w1  ls), pre_object_Check_v3_L1_0 w0 w1 , 1, (.exit 2), fun ls => vf_object_Check_v3_L1 w0 w1 (.e10 ) (ls.take 3 ++ ls.drop 3), fun ls => (Hf_object_Check_v3_L1 w0 w1 (.e10 ) (ls.take 3 ++ ls.drop 3)).take 3 ++ List.replicate 0 unb, fun ls => (Hf_object_Check_v3_L1 w0 w1 (.e10 ) (ls.take 3 ++ ls.drop 3)).drop 3⟩ :=
  spc_of_goesM hU 0 (k0 := 3) (go_object_Check_v3_L1 hU w0 w1 _ _ h) (t0_object_Check_v3_L1_0 w0 w1 ) (pre_object_Check_v3_L1_0 w0 w1 ) (fun _ => rfl) (fun ls h => by match ls, h with | [l0, l1, l2], _ => exact ⟨by kernel_rfl, by kernel_rfl⟩) (fun ls h => by match ls, h with | [l0, l1, l2], _ => rfl) (by decide) (by decide) (fun ls => rfl)
theorem sp11_object_Check_v3_L1_0_ok (h : lpO (st_object_Check_v3_L1 w0 w1) (.c0) = some (.e11 )) : SpcG Try.prog M B0 S ⟨fun ls => .code (.loop bd_object_Check_v3_L1) (t0_object_Check_v3_L1_0 w0 w1  ls), pre_object_Check_v3_L1_0 w0 w1 , 1, (.exit 2), fun ls => vf_object_Check_v3_L1 w0 w1 (.e11 ) (ls.take 3 ++ ls.drop 3), fun ls => (Hf_object_Check_v3_L1 w0 w1 (.e11 ) (ls.take 3 ++ ls.drop 3)).take 3 ++ List.replicate 0 unb, fun ls => (Hf_object_Check_v3_L1 w0 w1 (.e11 ) (ls.take 3 ++ ls.drop 3)).drop 3⟩ :=
  spc_of_goesM hU 0 (k0 := 3) (go_object_Check_v3_L1 hU w0 w1 _ _ h) (t0_object_Check_v3_L1_0 w0 w1 ) (pre_object_Check_v3_L1_0 w0 w1 ) (fun _ => rfl) (fun ls h => by match ls, h with | [l0, l1, l2], _ => exact ⟨by kernel_rfl, by kernel_rfl⟩) (fun ls h => by match ls, h with | [l0, l1, l2], _ => rfl) (by decide) (by decide) (fun ls => rfl)
theorem sp12_object_Check_v3_L1_0_ok (h : lpO (st_object_Check_v3_L1 w0 w1) (.c0) = some (.e12 )) : SpcG Try.prog M B0 S ⟨fun ls => .code (.loop bd_object_Check_v3_L1) (t0_object_Check_v3_L1_0 w0 w1  ls), pre_object_Check_v3_L1_0 w0 w1 , 1, (.exit 2), fun ls => vf_object_Check_v3_L1 w0 w1 (.e12 ) (ls.take 3 ++ ls.drop 3), fun ls => (Hf_object_Check_v3_L1 w0 w1 (.e12 ) (ls.take 3 ++ ls.drop 3)).take 3 ++ List.replicate 0 unb, fun ls => (Hf_object_Check_v3_L1 w0 w1 (.e12 ) (ls.take 3 ++ ls.drop 3)).drop 3⟩ :=
  spc_of_goesM hU 0 (k0 := 3) (go_object_Check_v3_L1 hU w0 w1 _ _ h) (t0_object_Check_v3_L1_0 w0 w1 ) (pre_object_Check_v3_L1_0 w0 w1 ) (fun _ => rfl) (fun ls h => by match ls, h with | [l0, l1, l2], _ => exact ⟨by kernel_rfl, by kernel_rfl⟩) (fun ls h => by match ls, h with | [l0, l1, l2], _ => rfl) (by decide) (by decide) (fun ls => rfl)
theorem sp13_object_Check_v3_L1_0_ok (h : lpO (st_object_Check_v3_L1 w0 w1) (.c0) = some (.e13 )) : SpcG Try.prog M B0 S ⟨fun ls => .code (.loop bd_object_Check_v3_L1) (t0_object_Check_v3_L1_0 w0 w1  ls), pre_object_Check_v3_L1_0 w0 w1 , 1, (.exit 2), fun ls => vf_object_Check_v3_L1 w0 w1 (.e13 ) (ls.take 3 ++ ls.drop 3), fun ls => (Hf_object_Check_v3_L1 w0 w1 (.e13 ) (ls.take 3 ++ ls.drop 3)).take 3 ++ List.replicate 0 unb, fun ls => (Hf_object_Check_v3_L1 w0 w1 (.e13 ) (ls.take 3 ++ ls.drop 3)).drop 3⟩ :=
  spc_of_goesM hU 0 (k0 := 3) (go_object_Check_v3_L1 hU w0 w1 _ _ h) (t0_object_Check_v3_L1_0 w0 w1 ) (pre_object_Check_v3_L1_0 w0 w1 ) (fun _ => rfl) (fun ls h => by match ls, h with | [l0, l1, l2], _ => exact ⟨by kernel_rfl, by kernel_rfl⟩) (fun ls h => by match ls, h with | [l0, l1, l2], _ => rfl) (by decide) (by decide) (fun ls => rfl)
theorem sp14_object_Check_v3_L1_0_ok (h : lpO (st_object_Check_v3_L1 w0 w1) (.c0) = some (.e14 )) : SpcG Try.prog M B0 S ⟨fun ls => .code (.loop bd_object_Check_v3_L1) (t0_object_Check_v3_L1_0 w0 w1  ls), pre_object_Check_v3_L1_0 w0 w1 , 1, (.exit 2), fun ls => vf_object_Check_v3_L1 w0 w1 (.e14 ) (ls.take 3 ++ ls.drop 3), fun ls => (Hf_object_Check_v3_L1 w0 w1 (.e14 ) (ls.take 3 ++ ls.drop 3)).take 3 ++ List.replicate 0 unb, fun ls => (Hf_object_Check_v3_L1 w0 w1 (.e14 ) (ls.take 3 ++ ls.drop 3)).drop 3⟩ :=
  spc_of_goesM hU 0 (k0 := 3) (go_object_Check_v3_L1 hU w0 w1 _ _ h) (t0_object_Check_v3_L1_0 w0 w1 ) (pre_object_Check_v3_L1_0 w0 w1 ) (fun _ => rfl) (fun ls h => by match ls, h with | [l0, l1, l2], _ => exact ⟨by kernel_rfl, by kernel_rfl⟩) (fun ls h => by match ls, h with | [l0, l1, l2], _ => rfl) (by decide) (by decide) (fun ls => rfl)
theorem sp15_object_Check_v3_L1_0_ok (h : lpO (st_object_Check_v3_L1 w0 w1) (.c0) = some (.e15 )) : SpcG Try.prog M B0 S ⟨fun ls => .code (.loop bd_object_Check_v3_L1) (t0_object_Check_v3_L1_0 w0 w1  ls), pre_object_Check_v3_L1_0 w0 w1 , 1, (.exit 2), fun ls => vf_object_Check_v3_L1 w0 w1 (.e15 ) (ls.take 3 ++ ls.drop 3), fun ls => (Hf_object_Check_v3_L1 w0 w1 (.e15 ) (ls.take 3 ++ ls.drop 3)).take 3 ++ List.replicate 0 unb, fun ls => (Hf_object_Check_v3_L1 w0 w1 (.e15 ) (ls.take 3 ++ ls.drop 3)).drop 3⟩ :=
  spc_of_goesM hU 0 (k0 := 3) (go_object_Check_v3_L1 hU w0 w1 _ _ h) (t0_object_Check_v3_L1_0 w0 w1 ) (pre_object_Check_v3_L1_0 w0 w1 ) (fun _ => rfl) (fun ls h => by match ls, h with | [l0, l1, l2], _ => exact ⟨by kernel_rfl, by kernel_rfl⟩) (fun ls h => by match ls, h with | [l0, l1, l2], _ => rfl) (by decide) (by decide) (fun ls => rfl)
theorem sp16_object_Check_v3_L1_0_ok (h : lpO (st_object_Check_v3_L1 w0 w1) (.c0) = some (.e16 )) : SpcG Try.prog M B0 S ⟨fun ls => .code (.loop bd_object_Check_v3_L1) (t0_object_Check_v3_L1_0 w0 w1  ls), pre_object_Check_v3_L1_0 w0 w1 , 1, (.exit 2), fun ls => vf_object_Check_v3_L1 w0 w1 (.e16 ) (ls.take 3 ++ ls.drop 3), fun ls => (Hf_object_Check_v3_L1 w0 w1 (.e16 ) (ls.take 3 ++ ls.drop 3)).take 3 ++ List.replicate 0 unb, fun ls => (Hf_object_Check_v3_L1 w0 w1 (.e16 ) (ls.take 3 ++ ls.drop 3)).drop 3⟩ :=
  spc_of_goesM hU 0 (k0 := 3) (go_object_Check_v3_L1 hU w0 w1 _ _ h) (t0_object_Check_v3_L1_0 w0 w1 ) (pre_object_Check_v3_L1_0 w0 w1 ) (fun _ => rfl) (fun ls h => by match ls, h with | [l0, l1, l2], _ => exact ⟨by kernel_rfl, by kernel_rfl⟩) (fun ls h => by match ls, h with | [l0, l1, l2], _ => rfl) (by decide) (by decide) (fun ls => rfl)
theorem sp17_object_Check_v3_L1_0_ok (h : lpO (st_object_Check_v3_L1 w0 w1) (.c0) = some (.e17 )) : SpcG Try.prog M B0 S ⟨fun ls => .code (.loop bd_object_Check_v3_L1) (t0_object_Check_v3_L1_0 w0 w1  ls), pre_object_Check_v3_L1_0 w0 w1 , 1, .ret, fun ls => vf_object_Check_v3_L1 w0 w1 (.e17 ) (ls.take 3 ++ ls.drop 3), fun ls => (Hf_object_Check_v3_L1 w0 w1 (.e17 ) (ls.take 3 ++ ls.drop 3)).take 3 ++ List.replicate 0 unb, fun ls => (Hf_object_Check_v3_L1 w0 w1 (.e17 ) (ls.take 3 ++ ls.drop 3)).drop 3⟩ :=
  spc_of_goesM hU 0 (k0 := 3) (go_object_Check_v3_L1 hU w0 w1 _ _ h) (t0_object_Check_v3_L1_0 w0 w1 ) (pre_object_Check_v3_L1_0 w0 w1 ) (fun _ => rfl) (fun ls h => by match ls, h with | [l0, l1, l2], _ => exact ⟨by kernel_rfl, by kernel_rfl⟩) (fun ls h => by match ls, h with | [l0, l1, l2], _ => rfl) (by decide) (by decide) (fun ls => rfl)
theorem sp18_object_Check_v3_L1_0_ok (h : lpO (st_object_Check_v3_L1 w0 w1) (.c0) = some (.e18 )) : SpcG Try.prog M B0 S ⟨fun ls => .code (.loop bd_object_Check_v3_L1) (t0_object_Check_v3_L1_0 w0 w1  ls), pre_object_Check_v3_L1_0 w0 w1 , 1, .ret, fun ls => vf_object_Check_v3_L1 w0 w1 (.e18 ) (ls.take 3 ++ ls.drop 3), fun ls => (Hf_object_Check_v3_L1 w0 w1 (.e18 ) (ls.take 3 ++ ls.drop 3)).take 3 ++ List.replicate 0 unb, fun ls => (Hf_object_Check_v3_L1 w0 w1 (.e18 ) (ls.take 3 ++ ls.drop 3)).drop 3⟩ :=
  spc_of_goesM hU 0 (k0 := 3) (go_object_Check_v3_L1 hU w0 w1 _ _ h) (t0_object_Check_v3_L1_0 w0 w1 ) (pre_object_Check_v3_L1_0 w0 w1 ) (fun _ => rfl) (fun ls h => by match ls, h with | [l0, l1, l2], _ => exact ⟨by kernel_rfl, by kernel_rfl⟩) (fun ls h => by match ls, h with | [l0, l1, l2], _ => rfl) (by decide) (by decide) (fun ls => rfl)
theorem sp19_object_Check_v3_L1_0_ok (h : lpO (st_object_Check_v3_L1 w0 w1) (.c0) = some (.e19 )) : SpcG Try.prog M B0 S ⟨fun ls => .code (.loop bd_object_Check_v3_L1) (t0_object_Check_v3_L1_0 w0 w1  ls), pre_object_Check_v3_L1_0 w0 w1 , 1, .ret, fun ls => vf_object_Check_v3_L1 w0 w1 (.e19 ) (ls.take 3 ++ ls.drop 3), fun ls => (Hf_object_Check_v3_L1 w0 w1 (.e19 ) (ls.take 3 ++ ls.drop 3)).take 3 ++ List.replicate 0 unb, fun ls => (Hf_object_Check_v3_L1 w0 w1 (.e19 ) (ls.take 3 ++ ls.drop 3)).drop 3⟩ :=
  spc_of_goesM hU 0 (k0 := 3) (go_object_Check_v3_L1 hU w0 w1 _ _ h) (t0_object_Check_v3_L1_0 w0 w1 ) (pre_object_Check_v3_L1_0 w0 w1 ) (fun _ => rfl) (fun ls h => by match ls, h with | [l0, l1, l2], _ => exact ⟨by kernel_rfl, by kernel_rfl⟩) (fun ls h => by match ls, h with | [l0, l1, l2], _ => rfl) (by decide) (by decide) (fun ls => rfl)
theorem sp20_object_Check_v3_L1_0_ok (h : lpO (st_object_Check_v3_L1 w0 w1) (.c0) = some (.e20 )) : SpcG Try.prog M B0 S ⟨fun ls => .code (.loop bd_object_Check_v3_L1) (t0_object_Check_v3_L1_0 w0 w1  ls), pre_object_Check_v3_L1_0 w0 w1 , 1, .ret, fun ls => vf_object_Check_v3_L1 w0 w1 (.e20 ) (ls.take 3 ++ ls.drop 3), fun ls => (Hf_object_Check_v3_L1 w0 w1 (.e20 ) (ls.take 3 ++ ls.drop 3)).take 3 ++ List.replicate 0 unb, fun ls => (Hf_object_Check_v3_L1 w0 w1 (.e20 ) (ls.take 3 ++ ls.drop 3)).drop 3⟩ :=
  spc_of_goesM hU 0 (k0 := 3) (go_object_Check_v3_L1 hU w0 w1 _ _ h) (t0_object_Check_v3_L1_0 w0 w1 ) (pre_object_Check_v3_L1_0 w0 w1 ) (fun _ => rfl) (fun ls h => by match ls, h with | [l0, l1, l2], _ => exact ⟨by kernel_rfl, by kernel_rfl⟩) (fun ls h => by match ls, h with | [l0, l1, l2], _ => rfl) (by decide) (by decide) (fun ls => rfl)
theorem sp21_object_Check_v3_L1_0_ok (h : lpO (st_object_Check_v3_L1 w0 w1) (.c0) = some (.e21 )) : SpcG Try.prog M B0 S ⟨fun ls => .code (.loop bd_object_Check_v3_L1) (t0_object_Check_v3_L1_0 w0 w1  ls), pre_object_Check_v3_L1_0 w0 w1 , 1, .ret, fun ls => vf_object_Check_v3_L1 w0 w1 (.e21 ) (ls.take 3 ++ ls.drop 3), fun ls => (Hf_object_Check_v3_L1 w0 w1 (.e21 ) (ls.take 3 ++ ls.drop 3)).take 3 ++ List.replicate 0 unb, fun ls => (Hf_object_Check_v3_L1 w0 w1 (.e21 ) (ls.take 3 ++ ls.drop 3)).drop 3⟩ :=
  spc_of_goesM hU 0 (k0 := 3) (go_object_Check_v3_L1 hU w0 w1 _ _ h) (t0_object_Check_v3_L1_0 w0 w1 ) (pre_object_Check_v3_L1_0 w0 w1 ) (fun _ => rfl) (fun ls h => by match ls, h with | [l0, l1, l2], _ => exact ⟨by kernel_rfl, by kernel_rfl⟩) (fun ls h => by match ls, h with | [l0, l1, l2], _ => rfl) (by decide) (by decide) (fun ls => rfl)
theorem sp22_object_Check_v3_L1_0_ok (h : lpO (st_object_Check_v3_L1 w0 w1) (.c0) = some (.e22 )) : SpcG Try.prog M B0 S ⟨fun ls => .code (.loop bd_object_Check_v3_L1) (t0_object_Check_v3_L1_0 w0 w1  ls), pre_object_Check_v3_L1_0 w0 w1 , 1, .ret, fun ls => vf_object_Check_v3_L1 w0 w1 (.e22 ) (ls.take 3 ++ ls.drop 3), fun ls => (Hf_object_Check_v3_L1 w0 w1 (.e22 ) (ls.take 3 ++ ls.drop 3)).take 3 ++ List.replicate 0 unb, fun ls => (Hf_object_Check_v3_L1 w0 w1 (.e22 ) (ls.take 3 ++ ls.drop 3)).drop 3⟩ :=
  spc_of_goesM hU 0 (k0 := 3) (go_object_Check_v3_L1 hU w0 w1 _ _ h) (t0_object_Check_v3_L1_0 w0 w1 ) (pre_object_Check_v3_L1_0 w0 w1 ) (fun _ => rfl) (fun ls h => by match ls, h with | [l0, l1, l2], _ => exact ⟨by kernel_rfl, by kernel_rfl⟩) (fun ls h => by match ls, h with | [l0, l1, l2], _ => rfl) (by decide) (by decide) (fun ls => rfl)
theorem sp23_object_Check_v3_L1_0_ok (h : lpO (st_object_Check_v3_L1 w0 w1) (.c0) = some (.e23 )) : SpcG Try.prog M B0 S ⟨fun ls => .code (.loop bd_object_Check_v3_L1) (t0_object_Check_v3_L1_0 w0 w1  ls), pre_object_Check_v3_L1_0 w0 w1 , 1, .ret, fun ls => vf_object_Check_v3_L1 w0 w1 (.e23 ) (ls.take 3 ++ ls.drop 3), fun ls => (Hf_object_Check_v3_L1 w0 w1 (.e23 ) (ls.take 3 ++ ls.drop 3)).take 3 ++ List.replicate 0 unb, fun ls => (Hf_object_Check_v3_L1 w0 w1 (.e23 ) (ls.take 3 ++ ls.drop 3)).drop 3⟩ :=
  spc_of_goesM hU 0 (k0 := 3) (go_object_Check_v3_L1 hU w0 w1 _ _ h) (t0_object_Check_v3_L1_0 w0 w1 ) (pre_object_Check_v3_L1_0 w0 w1 ) (fun _ => rfl) (fun ls h => by match ls, h with | [l0, l1, l2], _ => exact ⟨by kernel_rfl, by kernel_rfl⟩) (fun ls h => by match ls, h with | [l0, l1, l2], _ => rfl) (by decide) (by decide) (fun ls => rfl)
theorem sp24_object_Check_v3_L1_0_ok (h : lpO (st_object_Check_v3_L1 w0 w1) (.c0) = some (.e24 )) : SpcG Try.prog M B0 S ⟨fun ls => .code (.loop bd_object_Check_v3_L1) (t0_object_Check_v3_L1_0 w0 w1  ls), pre_object_Check_v3_L1_0 w0 w1 , 1, .ret, fun ls => vf_object_Check_v3_L1 w0 w1 (.e24 ) (ls.take 3 ++ ls.drop 3), fun ls => (Hf_object_Check_v3_L1 w0 w1 (.e24 ) (ls.take 3 ++ ls.drop 3)).take 3 ++ List.replicate 0 unb, fun ls => (Hf_object_Check_v3_L1 w0 w1 (.e24 ) (ls.take 3 ++ ls.drop 3)).drop 3⟩ :=
  spc_of_goesM hU 0 (k0 := 3) (go_object_Check_v3_L1 hU w0 w1 _ _ h) (t0_object_Check_v3_L1_0 w0 w1 ) (pre_object_Check_v3_L1_0 w0 w1 ) (fun _ => rfl) (fun ls h => by match ls, h with | [l0, l1, l2], _ => exact ⟨by kernel_rfl, by kernel_rfl⟩) (fun ls h => by match ls, h with | [l0, l1, l2], _ => rfl) (by decide) (by decide) (fun ls => rfl)
theorem sp25_object_Check_v3_L1_0_ok (h : lpO (st_object_Check_v3_L1 w0 w1) (.c0) = some (.e25 )) : SpcG Try.prog M B0 S ⟨fun ls => .code (.loop bd_object_Check_v3_L1) (t0_object_Check_v3_L1_0 w0 w1  ls), pre_object_Check_v3_L1_0 w0 w1 , 1, .ret, fun ls => vf_object_Check_v3_L1 w0 w1 (.e25 ) (ls.take 3 ++ ls.drop 3), fun ls => (Hf_object_Check_v3_L1 w0 w1 (.e25 ) (ls.take 3 ++ ls.drop 3)).take 3 ++ List.replicate 0 unb, fun ls => (Hf_object_Check_v3_L1 w0 w1 (.e25 ) (ls.take 3 ++ ls.drop 3)).drop 3⟩ :=
  spc_of_goesM hU 0 (k0 := 3) (go_object_Check_v3_L1 hU w0 w1 _ _ h) (t0_object_Check_v3_L1_0 w0 w1 ) (pre_object_Check_v3_L1_0 w0 w1 ) (fun _ => rfl) (fun ls h => by match ls, h with | [l0, l1, l2], _ => exact ⟨by kernel_rfl, by kernel_rfl⟩) (fun ls h => by match ls, h with | [l0, l1, l2], _ => rfl) (by decide) (by decide) (fun ls => rfl)
theorem sp26_object_Check_v3_L1_0_ok (h : lpO (st_object_Check_v3_L1 w0 w1) (.c0) = some (.e26 )) : SpcG Try.prog M B0 S ⟨fun ls => .code (.loop bd_object_Check_v3_L1) (t0_object_Check_v3_L1_0 w0 w1  ls), pre_object_Check_v3_L1_0 w0 w1 , 1, .ret, fun ls => vf_object_Check_v3_L1 w0 w1 (.e26 ) (ls.take 3 ++ ls.drop 3), fun ls => (Hf_object_Check_v3_L1 w0 w1 (.e26 ) (ls.take 3 ++ ls.drop 3)).take 3 ++ List.replicate 0 unb, fun ls => (Hf_object_Check_v3_L1 w0 w1 (.e26 ) (ls.take 3 ++ ls.drop 3)).drop 3⟩ :=
  spc_of_goesM hU 0 (k0 := 3) (go_object_Check_v3_L1 hU w0 w1 _ _ h) (t0_object_Check_v3_L1_0 w0 w1 ) (pre_object_Check_v3_L1_0 w0 w1 ) (fun _ => rfl) (fun ls h => by match ls, h with | [l0, l1, l2], _ => exact ⟨by kernel_rfl, by kernel_rfl⟩) (fun ls h => by match ls, h with | [l0, l1, l2], _ => rfl) (by decide) (by decide) (fun ls => rfl)
theorem sp27_object_Check_v3_L1_0_ok (h : lpO (st_object_Check_v3_L1 w0 w1) (.c0) = some (.e27 )) : SpcG Try.prog M B0 S ⟨fun ls => .code (.loop bd_object_Check_v3_L1) (t0_object_Check_v3_L1_0 w0 w1  ls), pre_object_Check_v3_L1_0 w0 w1 , 1, .ret, fun ls => vf_object_Check_v3_L1 w0 w1 (.e27 ) (ls.take 3 ++ ls.drop 3), fun ls => (Hf_object_Check_v3_L1 w0 w1 (.e27 ) (ls.take 3 ++ ls.drop 3)).take 3 ++ List.replicate 0 unb, fun ls => (Hf_object_Check_v3_L1 w0 w1 (.e27 ) (ls.take 3 ++ ls.drop 3)).drop 3⟩ :=
  spc_of_goesM hU 0 (k0 := 3) (go_object_Check_v3_L1 hU w0 w1 _ _ h) (t0_object_Check_v3_L1_0 w0 w1 ) (pre_object_Check_v3_L1_0 w0 w1 ) (fun _ => rfl) (fun ls h => by match ls, h with | [l0, l1, l2], _ => exact ⟨by kernel_rfl, by kernel_rfl⟩) (fun ls h => by match ls, h with | [l0, l1, l2], _ => rfl) (by decide) (by decide) (fun ls => rfl)
theorem sp28_object_Check_v3_L1_0_ok (h : lpO (st_object_Check_v3_L1 w0 w1) (.c0) = some (.e28 )) : SpcG Try.prog M B0 S ⟨fun ls => .code (.loop bd_object_Check_v3_L1) (t0_object_Check_v3_L1_0 w0 w1  ls), pre_object_Check_v3_L1_0 w0 w1 , 1, .ret, fun ls => vf_object_Check_v3_L1 w0 w1 (.e28 ) (ls.take 3 ++ ls.drop 3), fun ls => (Hf_object_Check_v3_L1 w0 w1 (.e28 ) (ls.take 3 ++ ls.drop 3)).take 3 ++ List.replicate 0 unb, fun ls => (Hf_object_Check_v3_L1 w0 w1 (.e28 ) (ls.take 3 ++ ls.drop 3)).drop 3⟩ :=
  spc_of_goesM hU 0 (k0 := 3) (go_object_Check_v3_L1 hU w0 w1 _ _ h) (t0_object_Check_v3_L1_0 w0 w1 ) (pre_object_Check_v3_L1_0 w0 w1 ) (fun _ => rfl) (fun ls h => by match ls, h with | [l0, l1, l2], _ => exact ⟨by kernel_rfl, by kernel_rfl⟩) (fun ls h => by match ls, h with | [l0, l1, l2], _ => rfl) (by decide) (by decide) (fun ls => rfl)
theorem sp29_object_Check_v3_L1_0_ok (h : lpO (st_object_Check_v3_L1 w0 w1) (.c0) = some (.e29 )) : SpcG Try.prog M B0 S ⟨fun ls => .code (.loop bd_object_Check_v3_L1) (t0_object_Check_v3_L1_0 w0 w1  ls), pre_object_Check_v3_L1_0 w0 w1 , 1, .ret, fun ls => vf_object_Check_v3_L1 w0 w1 (.e29 ) (ls.take 3 ++ ls.drop 3), fun ls => (Hf_object_Check_v3_L1 w0 w1 (.e29 ) (ls.take 3 ++ ls.drop 3)).take 3 ++ List.replicate 0 unb, fun ls => (Hf_object_Check_v3_L1 w0 w1 (.e29 ) (ls.take 3 ++ ls.drop 3)).drop 3⟩ :=
  spc_of_goesM hU 0 (k0 := 3) (go_object_Check_v3_L1 hU w0 w1 _ _ h) (t0_object_Check_v3_L1_0 w0 w1 ) (pre_object_Check_v3_L1_0 w0 w1 ) (fun _ => rfl) (fun ls h => by match ls, h with | [l0, l1, l2], _ => exact ⟨by kernel_rfl, by kernel_rfl⟩) (fun ls h => by match ls, h with | [l0, l1, l2], _ => rfl) (by decide) (by decide) (fun ls => rfl)
theorem sp30_object_Check_v3_L1_0_ok (h : lpO (st_object_Check_v3_L1 w0 w1) (.c0) = some (.e30 )) : SpcG Try.prog M B0 S ⟨fun ls => .code (.loop bd_object_Check_v3_L1) (t0_object_Check_v3_L1_0 w0 w1  ls), pre_object_Check_v3_L1_0 w0 w1 , 1, .ret, fun ls => vf_object_Check_v3_L1 w0 w1 (.e30 ) (ls.take 3 ++ ls.drop 3), fun ls => (Hf_object_Check_v3_L1 w0 w1 (.e30 ) (ls.take 3 ++ ls.drop 3)).take 3 ++ List.replicate 0 unb, fun ls => (Hf_object_Check_v3_L1 w0 w1 (.e30 ) (ls.take 3 ++ ls.drop 3)).drop 3⟩ :=
  spc_of_goesM hU 0 (k0 := 3) (go_object_Check_v3_L1 hU w0 w1 _ _ h) (t0_object_Check_v3_L1_0 w0 w1 ) (pre_object_Check_v3_L1_0 w0 w1 ) (fun _ => rfl) (fun ls h => by match ls, h with | [l0, l1, l2], _ => exact ⟨by kernel_rfl, by kernel_rfl⟩) (fun ls h => by match ls, h with | [l0, l1, l2], _ => rfl) (by decide) (by decide) (fun ls => rfl)
theorem sp31_object_Check_v3_L1_0_ok (h : lpO (st_object_Check_v3_L1 w0 w1) (.c0) = some (.e31 )) : SpcG Try.prog M B0 S ⟨fun ls => .code (.loop bd_object_Check_v3_L1) (t0_object_Check_v3_L1_0 w0 w1  ls), pre_object_Check_v3_L1_0 w0 w1 , 1, .ret, fun ls => vf_object_Check_v3_L1 w0 w1 (.e31 ) (ls.take 3 ++ ls.drop 3), fun ls => (Hf_object_Check_v3_L1 w0 w1 (.e31 ) (ls.take 3 ++ ls.drop 3)).take 3 ++ List.replicate 0 unb, fun ls => (Hf_object_Check_v3_L1 w0 w1 (.e31 ) (ls.take 3 ++ ls.drop 3)).drop 3⟩ :=
  spc_of_goesM hU 0 (k0 := 3) (go_object_Check_v3_L1 hU w0 w1 _ _ h) (t0_object_Check_v3_L1_0 w0 w1 ) (pre_object_Check_v3_L1_0 w0 w1 ) (fun _ => rfl) (fun ls h => by match ls, h with | [l0, l1, l2], _ => exact ⟨by kernel_rfl, by kernel_rfl⟩) (fun ls h => by match ls, h with | [l0, l1, l2], _ => rfl) (by decide) (by decide) (fun ls => rfl)
theorem sp32_object_Check_v3_L1_0_ok (h : lpO (st_object_Check_v3_L1 w0 w1) (.c0) = some (.e32 )) : SpcG Try.prog M B0 S ⟨fun ls => .code (.loop bd_object_Check_v3_L1) (t0_object_Check_v3_L1_0 w0 w1  ls), pre_object_Check_v3_L1_0 w0 w1 , 1, .ret, fun ls => vf_object_Check_v3_L1 w0 w1 (.e32 ) (ls.take 3 ++ ls.drop 3), fun ls => (Hf_object_Check_v3_L1 w0 w1 (.e32 ) (ls.take 3 ++ ls.drop 3)).take 3 ++ List.replicate 0 unb, fun ls => (Hf_object_Check_v3_L1 w0 w1 (.e32 ) (ls.take 3 ++ ls.drop 3)).drop 3⟩ :=
  spc_of_goesM hU 0 (k0 := 3) (go_object_Check_v3_L1 hU w0 w1 _ _ h) (t0_object_Check_v3_L1_0 w0 w1 ) (pre_object_Check_v3_L1_0 w0 w1 ) (fun _ => rfl) (fun ls h => by match ls, h with | [l0, l1, l2], _ => exact ⟨by kernel_rfl, by kernel_rfl⟩) (fun ls h => by match ls, h with | [l0, l1, l2], _ => rfl) (by decide) (by decide) (fun ls => rfl)
inductive R_object_Check_v3 where
  | e0 (c0_0 : Int) (c0_1 : Int)
noncomputable def m_object_Check_v3 (w0 : Nat) (w1 : Nat → ByteArray) : Option R_object_Check_v3 :=
  bif (w0 : Int) == 0 then
    (some (.e0 0 52))
  else (bif decide (16 < (w0 : Int)) then
    (some (.e0 0 52))
  else ((lpO (st_object_Check_v3_L1 w0 w1) (.c0)).bind fun g0 => match g0 with
  | .e0  => (some (.e0 0 0))
  | .e1  => (some (.e0 0 0))
  | .e2  => (some (.e0 0 0))
  | .e3  => (some (.e0 0 0))
  | .e4  => (some (.e0 0 0))
  | .e5  => (some (.e0 0 0))
  | .e6  => (some (.e0 0 0))
  | .e7  => (some (.e0 0 0))
  | .e8  => (some (.e0 0 0))
  | .e9  => (some (.e0 0 0))
  | .e10  => (some (.e0 0 0))
  | .e11  => (some (.e0 0 0))
  | .e12  => (some (.e0 0 0))
  | .e13  => (some (.e0 0 0))
  | .e14  => (some (.e0 0 0))
  | .e15  => (some (.e0 0 0))
  | .e16  => (some (.e0 0 0))
  | .e17  => (some (.e0 1 52))
  | .e18  => (some (.e0 2 52))
  | .e19  => (some (.e0 3 52))
  | .e20  => (some (.e0 4 52))
  | .e21  => (some (.e0 5 52))
  | .e22  => (some (.e0 6 52))
  | .e23  => (some (.e0 7 52))
  | .e24  => (some (.e0 8 52))
  | .e25  => (some (.e0 9 52))
  | .e26  => (some (.e0 10 52))
  | .e27  => (some (.e0 11 52))
  | .e28  => (some (.e0 12 52))
  | .e29  => (some (.e0 13 52))
  | .e30  => (some (.e0 14 52))
  | .e31  => (some (.e0 15 52))
  | .e32  => (some (.e0 16 52))))
def sq0_object_Check_v3 (w0 : Nat) (w1 : Nat → ByteArray) (c0_0 : Int) (c0_1 : Int) : Spc := ⟨fun ls => .call 5 #[.agg #[.slice none 0 0, .slice none 0 0, (rowV (rrL (lget ls 0)) w0 2)]], fun ls => [rsO hdS tlS 2 (lget ls 0) 35 32 c_Insn 5 w0 (fun _ => (2, (fun k => if k = 0 then (⟨183#8, 0#8, 0#8, 0#16, 0#32⟩ : Insn) else (⟨149#8, 0#8, 0#8, 0#16, 0#32⟩ : Insn)))) w1], 0, .normal, fun ls => [.tuple #[.int .i64 (c0_0), .int .i64 (c0_1)]], fun ls => [rsO hdS tlS 2 (lget ls 0) 35 32 c_Insn 5 w0 (fun _ => (2, (fun k => if k = 0 then (⟨183#8, 0#8, 0#8, 0#16, 0#32⟩ : Insn) else (⟨149#8, 0#8, 0#8, 0#16, 0#32⟩ : Insn)))) w1], fun ls => []⟩
theorem ok0_object_Check_v3 (c0_0 : Int) (c0_1 : Int) (e : m_object_Check_v3 w0 w1 = some (.e0 c0_0 c0_1)) : SpcG Try.prog M B0 S (sq0_object_Check_v3 w0 w1 c0_0 c0_1) := by
  unfold m_object_Check_v3 at e
  replace e := cond_eq_or e
  let P1 : List (PG Try.prog M B0 S) := [.o, .o, .o, .o, .a 1, .cg (ok_btf_Check_v2 hU  ), .o, .o, .o, .o, .o, .o, .o, .o, .a 1, .o, .o, .o, .o, .a 1, .o]
  rcases e with ⟨hq0, e⟩ | ⟨hq0, e⟩
  · injection e with e; injection e with i0 i1; subst i0 i1; exact fn_specG hU (P := Try.prog) Try.func5 (fun xs w => by kernel_rfl) 1 _ _ (fun _ => rfl) _ _ _ [] (P1 ++ [.b (z_eqlT hq0), .o, .o, .o, .o]) [] (fun b => by kernel_rfl)
  · replace e := cond_eq_or e
    let P2 : List (PG Try.prog M B0 S) := P1 ++ [.b (z_eqlF hq0), .o, .o, .a 1, .o]
    rcases e with ⟨hq1, e⟩ | ⟨hq1, e⟩
    · injection e with e; injection e with i0 i1; subst i0 i1; exact fn_specG hU (P := Try.prog) Try.func5 (fun xs w => by kernel_rfl) 1 _ _ (fun _ => rfl) _ _ _ [] (P2 ++ [.b (z_gtrT hq1), .o, .o, .o]) [] (fun b => by kernel_rfl)
    · replace e := bindO_eq e
      obtain ⟨g0, e_g0, e⟩ := e
      let P3 : List (PG Try.prog M B0 S) := P2 ++ [.b (z_gtrF hq1), .o, .o, .o, .o, .a 1, .o, .o, .cp]
      rcases g0 with _ | _ | _ | _ | _ | _ | _ | _ | _ | _ | _ | _ | _ | _ | _ | _ | _ | _ | _ | _ | _ | _ | _ | _ | _ | _ | _ | _ | _ | _ | _ | _ | _
      · try dsimp only at e
        injection e with e; injection e with i0 i1; subst i0 i1; exact fn_specG hU (P := Try.prog) Try.func5 (fun xs w => by kernel_rfl) 1 _ _ (fun _ => rfl) _ _ _ [] (P3 ++ [.cx (sp0_object_Check_v3_L1_0_ok hU w0 w1   e_g0) [0, 1, 2], .o, .o]) [] (fun b => by kernel_rfl)
      · try dsimp only at e
        injection e with e; injection e with i0 i1; subst i0 i1; exact fn_specG hU (P := Try.prog) Try.func5 (fun xs w => by kernel_rfl) 1 _ _ (fun _ => rfl) _ _ _ [] (P3 ++ [.cx (sp1_object_Check_v3_L1_0_ok hU w0 w1   e_g0) [0, 1, 2], .o, .o]) [] (fun b => by kernel_rfl)
      · try dsimp only at e
        injection e with e; injection e with i0 i1; subst i0 i1; exact fn_specG hU (P := Try.prog) Try.func5 (fun xs w => by kernel_rfl) 1 _ _ (fun _ => rfl) _ _ _ [] (P3 ++ [.cx (sp2_object_Check_v3_L1_0_ok hU w0 w1   e_g0) [0, 1, 2], .o, .o]) [] (fun b => by kernel_rfl)
      · try dsimp only at e
        injection e with e; injection e with i0 i1; subst i0 i1; exact fn_specG hU (P := Try.prog) Try.func5 (fun xs w => by kernel_rfl) 1 _ _ (fun _ => rfl) _ _ _ [] (P3 ++ [.cx (sp3_object_Check_v3_L1_0_ok hU w0 w1   e_g0) [0, 1, 2], .o, .o]) [] (fun b => by kernel_rfl)
      · try dsimp only at e
        injection e with e; injection e with i0 i1; subst i0 i1; exact fn_specG hU (P := Try.prog) Try.func5 (fun xs w => by kernel_rfl) 1 _ _ (fun _ => rfl) _ _ _ [] (P3 ++ [.cx (sp4_object_Check_v3_L1_0_ok hU w0 w1   e_g0) [0, 1, 2], .o, .o]) [] (fun b => by kernel_rfl)
      · try dsimp only at e
        injection e with e; injection e with i0 i1; subst i0 i1; exact fn_specG hU (P := Try.prog) Try.func5 (fun xs w => by kernel_rfl) 1 _ _ (fun _ => rfl) _ _ _ [] (P3 ++ [.cx (sp5_object_Check_v3_L1_0_ok hU w0 w1   e_g0) [0, 1, 2], .o, .o]) [] (fun b => by kernel_rfl)
      · try dsimp only at e
        injection e with e; injection e with i0 i1; subst i0 i1; exact fn_specG hU (P := Try.prog) Try.func5 (fun xs w => by kernel_rfl) 1 _ _ (fun _ => rfl) _ _ _ [] (P3 ++ [.cx (sp6_object_Check_v3_L1_0_ok hU w0 w1   e_g0) [0, 1, 2], .o, .o]) [] (fun b => by kernel_rfl)
      · try dsimp only at e
        injection e with e; injection e with i0 i1; subst i0 i1; exact fn_specG hU (P := Try.prog) Try.func5 (fun xs w => by kernel_rfl) 1 _ _ (fun _ => rfl) _ _ _ [] (P3 ++ [.cx (sp7_object_Check_v3_L1_0_ok hU w0 w1   e_g0) [0, 1, 2], .o, .o]) [] (fun b => by kernel_rfl)
      · try dsimp only at e
        injection e with e; injection e with i0 i1; subst i0 i1; exact fn_specG hU (P := Try.prog) Try.func5 (fun xs w => by kernel_rfl) 1 _ _ (fun _ => rfl) _ _ _ [] (P3 ++ [.cx (sp8_object_Check_v3_L1_0_ok hU w0 w1   e_g0) [0, 1, 2], .o, .o]) [] (fun b => by kernel_rfl)
      · try dsimp only at e
        injection e with e; injection e with i0 i1; subst i0 i1; exact fn_specG hU (P := Try.prog) Try.func5 (fun xs w => by kernel_rfl) 1 _ _ (fun _ => rfl) _ _ _ [] (P3 ++ [.cx (sp9_object_Check_v3_L1_0_ok hU w0 w1   e_g0) [0, 1, 2], .o, .o]) [] (fun b => by kernel_rfl)
      · try dsimp only at e
        injection e with e; injection e with i0 i1; subst i0 i1; exact fn_specG hU (P := Try.prog) Try.func5 (fun xs w => by kernel_rfl) 1 _ _ (fun _ => rfl) _ _ _ [] (P3 ++ [.cx (sp10_object_Check_v3_L1_0_ok hU w0 w1   e_g0) [0, 1, 2], .o, .o]) [] (fun b => by kernel_rfl)
      · try dsimp only at e
        injection e with e; injection e with i0 i1; subst i0 i1; exact fn_specG hU (P := Try.prog) Try.func5 (fun xs w => by kernel_rfl) 1 _ _ (fun _ => rfl) _ _ _ [] (P3 ++ [.cx (sp11_object_Check_v3_L1_0_ok hU w0 w1   e_g0) [0, 1, 2], .o, .o]) [] (fun b => by kernel_rfl)
      · try dsimp only at e
        injection e with e; injection e with i0 i1; subst i0 i1; exact fn_specG hU (P := Try.prog) Try.func5 (fun xs w => by kernel_rfl) 1 _ _ (fun _ => rfl) _ _ _ [] (P3 ++ [.cx (sp12_object_Check_v3_L1_0_ok hU w0 w1   e_g0) [0, 1, 2], .o, .o]) [] (fun b => by kernel_rfl)
      · try dsimp only at e
        injection e with e; injection e with i0 i1; subst i0 i1; exact fn_specG hU (P := Try.prog) Try.func5 (fun xs w => by kernel_rfl) 1 _ _ (fun _ => rfl) _ _ _ [] (P3 ++ [.cx (sp13_object_Check_v3_L1_0_ok hU w0 w1   e_g0) [0, 1, 2], .o, .o]) [] (fun b => by kernel_rfl)
      · try dsimp only at e
        injection e with e; injection e with i0 i1; subst i0 i1; exact fn_specG hU (P := Try.prog) Try.func5 (fun xs w => by kernel_rfl) 1 _ _ (fun _ => rfl) _ _ _ [] (P3 ++ [.cx (sp14_object_Check_v3_L1_0_ok hU w0 w1   e_g0) [0, 1, 2], .o, .o]) [] (fun b => by kernel_rfl)
      · try dsimp only at e
        injection e with e; injection e with i0 i1; subst i0 i1; exact fn_specG hU (P := Try.prog) Try.func5 (fun xs w => by kernel_rfl) 1 _ _ (fun _ => rfl) _ _ _ [] (P3 ++ [.cx (sp15_object_Check_v3_L1_0_ok hU w0 w1   e_g0) [0, 1, 2], .o, .o]) [] (fun b => by kernel_rfl)
      · try dsimp only at e
        injection e with e; injection e with i0 i1; subst i0 i1; exact fn_specG hU (P := Try.prog) Try.func5 (fun xs w => by kernel_rfl) 1 _ _ (fun _ => rfl) _ _ _ [] (P3 ++ [.cx (sp16_object_Check_v3_L1_0_ok hU w0 w1   e_g0) [0, 1, 2], .o, .o]) [] (fun b => by kernel_rfl)
      · try dsimp only at e
        injection e with e; injection e with i0 i1; subst i0 i1; exact fn_specG hU (P := Try.prog) Try.func5 (fun xs w => by kernel_rfl) 1 _ _ (fun _ => rfl) _ _ _ [] (P3 ++ [.cx (sp17_object_Check_v3_L1_0_ok hU w0 w1   e_g0) [0, 1, 2]]) [] (fun b => by kernel_rfl)
      · try dsimp only at e
        injection e with e; injection e with i0 i1; subst i0 i1; exact fn_specG hU (P := Try.prog) Try.func5 (fun xs w => by kernel_rfl) 1 _ _ (fun _ => rfl) _ _ _ [] (P3 ++ [.cx (sp18_object_Check_v3_L1_0_ok hU w0 w1   e_g0) [0, 1, 2]]) [] (fun b => by kernel_rfl)
      · try dsimp only at e
        injection e with e; injection e with i0 i1; subst i0 i1; exact fn_specG hU (P := Try.prog) Try.func5 (fun xs w => by kernel_rfl) 1 _ _ (fun _ => rfl) _ _ _ [] (P3 ++ [.cx (sp19_object_Check_v3_L1_0_ok hU w0 w1   e_g0) [0, 1, 2]]) [] (fun b => by kernel_rfl)
      · try dsimp only at e
        injection e with e; injection e with i0 i1; subst i0 i1; exact fn_specG hU (P := Try.prog) Try.func5 (fun xs w => by kernel_rfl) 1 _ _ (fun _ => rfl) _ _ _ [] (P3 ++ [.cx (sp20_object_Check_v3_L1_0_ok hU w0 w1   e_g0) [0, 1, 2]]) [] (fun b => by kernel_rfl)
      · try dsimp only at e
        injection e with e; injection e with i0 i1; subst i0 i1; exact fn_specG hU (P := Try.prog) Try.func5 (fun xs w => by kernel_rfl) 1 _ _ (fun _ => rfl) _ _ _ [] (P3 ++ [.cx (sp21_object_Check_v3_L1_0_ok hU w0 w1   e_g0) [0, 1, 2]]) [] (fun b => by kernel_rfl)
      · try dsimp only at e
        injection e with e; injection e with i0 i1; subst i0 i1; exact fn_specG hU (P := Try.prog) Try.func5 (fun xs w => by kernel_rfl) 1 _ _ (fun _ => rfl) _ _ _ [] (P3 ++ [.cx (sp22_object_Check_v3_L1_0_ok hU w0 w1   e_g0) [0, 1, 2]]) [] (fun b => by kernel_rfl)
      · try dsimp only at e
        injection e with e; injection e with i0 i1; subst i0 i1; exact fn_specG hU (P := Try.prog) Try.func5 (fun xs w => by kernel_rfl) 1 _ _ (fun _ => rfl) _ _ _ [] (P3 ++ [.cx (sp23_object_Check_v3_L1_0_ok hU w0 w1   e_g0) [0, 1, 2]]) [] (fun b => by kernel_rfl)
      · try dsimp only at e
        injection e with e; injection e with i0 i1; subst i0 i1; exact fn_specG hU (P := Try.prog) Try.func5 (fun xs w => by kernel_rfl) 1 _ _ (fun _ => rfl) _ _ _ [] (P3 ++ [.cx (sp24_object_Check_v3_L1_0_ok hU w0 w1   e_g0) [0, 1, 2]]) [] (fun b => by kernel_rfl)
      · try dsimp only at e
        injection e with e; injection e with i0 i1; subst i0 i1; exact fn_specG hU (P := Try.prog) Try.func5 (fun xs w => by kernel_rfl) 1 _ _ (fun _ => rfl) _ _ _ [] (P3 ++ [.cx (sp25_object_Check_v3_L1_0_ok hU w0 w1   e_g0) [0, 1, 2]]) [] (fun b => by kernel_rfl)
      · try dsimp only at e
        injection e with e; injection e with i0 i1; subst i0 i1; exact fn_specG hU (P := Try.prog) Try.func5 (fun xs w => by kernel_rfl) 1 _ _ (fun _ => rfl) _ _ _ [] (P3 ++ [.cx (sp26_object_Check_v3_L1_0_ok hU w0 w1   e_g0) [0, 1, 2]]) [] (fun b => by kernel_rfl)
      · try dsimp only at e
        injection e with e; injection e with i0 i1; subst i0 i1; exact fn_specG hU (P := Try.prog) Try.func5 (fun xs w => by kernel_rfl) 1 _ _ (fun _ => rfl) _ _ _ [] (P3 ++ [.cx (sp27_object_Check_v3_L1_0_ok hU w0 w1   e_g0) [0, 1, 2]]) [] (fun b => by kernel_rfl)
      · try dsimp only at e
        injection e with e; injection e with i0 i1; subst i0 i1; exact fn_specG hU (P := Try.prog) Try.func5 (fun xs w => by kernel_rfl) 1 _ _ (fun _ => rfl) _ _ _ [] (P3 ++ [.cx (sp28_object_Check_v3_L1_0_ok hU w0 w1   e_g0) [0, 1, 2]]) [] (fun b => by kernel_rfl)
      · try dsimp only at e
        injection e with e; injection e with i0 i1; subst i0 i1; exact fn_specG hU (P := Try.prog) Try.func5 (fun xs w => by kernel_rfl) 1 _ _ (fun _ => rfl) _ _ _ [] (P3 ++ [.cx (sp29_object_Check_v3_L1_0_ok hU w0 w1   e_g0) [0, 1, 2]]) [] (fun b => by kernel_rfl)
      · try dsimp only at e
        injection e with e; injection e with i0 i1; subst i0 i1; exact fn_specG hU (P := Try.prog) Try.func5 (fun xs w => by kernel_rfl) 1 _ _ (fun _ => rfl) _ _ _ [] (P3 ++ [.cx (sp30_object_Check_v3_L1_0_ok hU w0 w1   e_g0) [0, 1, 2]]) [] (fun b => by kernel_rfl)
      · try dsimp only at e
        injection e with e; injection e with i0 i1; subst i0 i1; exact fn_specG hU (P := Try.prog) Try.func5 (fun xs w => by kernel_rfl) 1 _ _ (fun _ => rfl) _ _ _ [] (P3 ++ [.cx (sp31_object_Check_v3_L1_0_ok hU w0 w1   e_g0) [0, 1, 2]]) [] (fun b => by kernel_rfl)
      · try dsimp only at e
        injection e with e; injection e with i0 i1; subst i0 i1; exact fn_specG hU (P := Try.prog) Try.func5 (fun xs w => by kernel_rfl) 1 _ _ (fun _ => rfl) _ _ _ [] (P3 ++ [.cx (sp32_object_Check_v3_L1_0_ok hU w0 w1   e_g0) [0, 1, 2]]) [] (fun b => by kernel_rfl)
noncomputable def m_object_within (y0 : Int) (y1 : Int) (y2 : Int) : Bool :=
  bif decide (y1 ≤ y0) then
    ((decide (y0 ≤ y2)))
  else (false)
end
section
variable {M : Nat → Prop} {B0 : Nat} {S : World → Prop} (hU : Up M B0 S)
include hU
theorem ok_object_within (y0 : Int) (y1 : Int) (y2 : Int) (r : Bool) (e : m_object_within y0 y1 y2 = r) : ConG Try.prog S 28 #[.int .i64 (y0), .int .i64 (y1), .int .i64 (y2)] (.bool (r)) := by
  unfold m_object_within at e
  replace e := cond_eq_or e
  rcases e with ⟨hq0, e⟩ | ⟨hq0, e⟩
  · subst e; exact fn_conG hU (P := Try.prog) Try.func28 (fun xs w => by kernel_rfl) _ _ [.o, .o, .o, .b (z_geqT hq0), .o, .o, .o, .o, .o, .o] [] (fun b => by kernel_rfl)
  · subst e; exact fn_conG hU (P := Try.prog) Try.func28 (fun xs w => by kernel_rfl) _ _ [.o, .o, .o, .b (z_geqF hq0), .o, .o, .o] [] (fun b => by kernel_rfl)
noncomputable def m_object_plain (y0 : MapDef) : Bool :=
  bif y0.fTimer then
    (false)
  else ((y0.fType == 0))
theorem ok_object_plain (y0 : MapDef) (r : Bool) (e : m_object_plain y0 = r) : ConG Try.prog S 29 #[(v_MapDef y0)] (.bool (r)) := by
  unfold m_object_plain at e
  replace e := cond_eq_or e
  rcases e with ⟨hq0, e⟩ | ⟨hq0, e⟩
  · subst e; exact fn_conG hU (P := Try.prog) Try.func29 (fun xs w => by kernel_rfl) _ _ [.o, .o, .o, .l (accKn (i := 0) (c := #[.int .i64 (y0.fKind), .int .i64 (y0.fKey), .int .i64 (y0.fValue), .int .i64 (y0.fEntries), .bool (y0.fTimer), .int .i64 (y0.fType)]) 4 (congrArg (fun b => some (Value.bool b)) hq0)), .o, .o, .o, .o] [] (fun b => by kernel_rfl)
  · subst e; exact fn_conG hU (P := Try.prog) Try.func29 (fun xs w => by kernel_rfl) _ _ [.o, .o, .o, .l (accKn (i := 0) (c := #[.int .i64 (y0.fKind), .int .i64 (y0.fKey), .int .i64 (y0.fValue), .int .i64 (y0.fEntries), .bool (y0.fTimer), .int .i64 (y0.fType)]) 4 (congrArg (fun b => some (Value.bool b)) hq0)), .o, .o, .o, .a 0, .o, .o, .o] [] (fun b => by kernel_rfl)
noncomputable def m_object_Def (w0 : Int) (w1 : Int) (w2 : Int) (w3 : Bool) (w4 : Int) : Int :=
  bif w0 == 0 then
    (bif w1 == 0 then
      (bif m_object_within w2 8 4096 then
        (bif (zrem w2 8) == 0 then
          (bif m_object_plain (⟨4, w0, w1, w2, w3, w4⟩ : MapDef) then
            (0)
          else (51))
        else (51))
      else (51))
    else (51))
  else (51)
theorem ok_object_Def (w0 : Int) (w1 : Int) (w2 : Int) (w3 : Bool) (w4 : Int) (r : Int) (e : m_object_Def w0 w1 w2 w3 w4 = r) : ConG Try.prog S 10 #[.agg #[.int .i64 (4), .int .i64 (w0), .int .i64 (w1), .int .i64 (w2), .bool (w3), .int .i64 (w4)], .slice none 0 0] (.int .i64 (r)) := by
  unfold m_object_Def at e
  replace e := cond_eq_or e
  let P1 : List (PG Try.prog M B0 S) := [.o, .o, .o, .o, .a 0, .o, .o, .o, .o, .o, .o, .o, .o, .o, .a 0]
  rcases e with ⟨hq0, e⟩ | ⟨hq0, e⟩
  · replace e := cond_eq_or e
    let P2 : List (PG Try.prog M B0 S) := P1 ++ [.b (z_eqlT hq0), .o, .o, .a 0]
    rcases e with ⟨hq1, e⟩ | ⟨hq1, e⟩
    · replace e := cond_eq_or e
      let P3 : List (PG Try.prog M B0 S) := P2 ++ [.b (z_eqlT hq1), .o, .o, .o, .a 0]
      rcases e with ⟨hq2, e⟩ | ⟨hq2, e⟩
      · replace e := cond_eq_or e
        let P4 : List (PG Try.prog M B0 S) := P3 ++ [.cg (ok_object_within hU w2 8 4096 true hq2), .o, .o, .o, .a 0, .ov (z_rem Try.prog 3 (.tmp 64) (.const (.int .i64 (8))) w2 8 (by decide))]
        rcases e with ⟨hq3, e⟩ | ⟨hq3, e⟩
        · replace e := cond_eq_or e
          rcases e with ⟨hq4, e⟩ | ⟨hq4, e⟩
          · subst e; exact fn_conG hU (P := Try.prog) Try.func10 (fun xs w => by kernel_rfl) _ _ (P4 ++ [.b (z_eqlT hq3), .o, .o, .a 0, .cg (ok_object_plain hU (⟨4, w0, w1, w2, w3, w4⟩ : MapDef) true hq4), .o, .o, .o, .o, .o]) [] (fun b => by kernel_rfl)
          · subst e; exact fn_conG hU (P := Try.prog) Try.func10 (fun xs w => by kernel_rfl) _ _ (P4 ++ [.b (z_eqlT hq3), .o, .o, .a 0, .cg (ok_object_plain hU (⟨4, w0, w1, w2, w3, w4⟩ : MapDef) false hq4), .o, .o, .o, .o, .o]) [] (fun b => by kernel_rfl)
        · subst e; exact fn_conG hU (P := Try.prog) Try.func10 (fun xs w => by kernel_rfl) _ _ (P4 ++ [.b (z_eqlF hq3), .o, .o, .o, .o, .o, .o, .o]) [] (fun b => by kernel_rfl)
      · subst e; exact fn_conG hU (P := Try.prog) Try.func10 (fun xs w => by kernel_rfl) _ _ (P3 ++ [.cg (ok_object_within hU w2 8 4096 false hq2), .o, .o, .o, .o, .o, .o, .o, .o, .o]) [] (fun b => by kernel_rfl)
    · subst e; exact fn_conG hU (P := Try.prog) Try.func10 (fun xs w => by kernel_rfl) _ _ (P2 ++ [.b (z_eqlF hq1), .o, .o, .o, .o, .o, .o, .o, .o, .o, .o, .o]) [] (fun b => by kernel_rfl)
  · subst e; exact fn_conG hU (P := Try.prog) Try.func10 (fun xs w => by kernel_rfl) _ _ (P1 ++ [.b (z_eqlF hq0), .o, .o, .o, .o, .o, .o, .o, .o, .o, .o, .o, .o]) [] (fun b => by kernel_rfl)
inductive Sh_object_Check_v4_L0 where
  | c0 (s0_0 : Int)
inductive Ex_object_Check_v4_L0 where
  | e0 
  | e1 (c1_0 : Int)
noncomputable def st_object_Check_v4_L0 (w0 : Nat) (w1 : Nat → MapDef) : Sh_object_Check_v4_L0 → Option (Sh_object_Check_v4_L0 ⊕ Ex_object_Check_v4_L0)
  | .c0 s0_0 =>
    bif decide (s0_0 < (w0 : Int)) then
      (bif inR s0_0 w0 then
        (bif ((w1 (s0_0).toNat)).fKind == 4 then
          (bif decide (16 ≤ s0_0) then
            (some (.inr (.e1 s0_0)))
          else (bindT (m_object_Def ((w1 (s0_0).toNat)).fKey ((w1 (s0_0).toNat)).fValue ((w1 (s0_0).toNat)).fEntries ((w1 (s0_0).toNat)).fTimer ((w1 (s0_0).toNat)).fType) fun rb0 =>
          bif rb0 == 0 then
            (some (.inl (.c0 (IntKind.i64.wrap (s0_0 + 1)))))
          else (some (.inr (.e1 s0_0)))))
        else (none))
      else (none))
    else (some (.inr (.e0 )))
noncomputable def bd_object_Check_v4_L0 : Code := codeOf Try.f5 [1, 1, 0, 1, 0, 0]
def fl_object_Check_v4_L0 (w0 : Nat) (w1 : Nat → MapDef) : Sh_object_Check_v4_L0 → List L1 → List Value
  | .c0 s0_0, ls => [.pointer (some ⟨(lget ls 1).n, 0, none⟩), .int .i64 (0), .int .i64 (0), (rowV (lget ls 0) w0 6), .int .i64 ((w0 : Int)), .int .i64 (s0_0)]
def mf_object_Check_v4_L0 : Sh_object_Check_v4_L0 → List (Nat × Nat)
  | .c0 _ => [(0, 1), (3, 18), (3, 61)]
noncomputable def fr_object_Check_v4_L0 (w0 : Nat) (w1 : Nat → MapDef) (s : Sh_object_Check_v4_L0) : List L1 → List Value := mrgF (mf_object_Check_v4_L0 s) (fl_object_Check_v4_L0 w0 w1 s) 2
def Hs_object_Check_v4_L0 (w0 : Nat) (w1 : Nat → MapDef) : Sh_object_Check_v4_L0 → List L1 → List Obj
  | .c0 s0_0, ls => [rowO (lget ls 0) (esG c_MapDef w0 w1) 29 w0 6, .cells #[.slice none 0 0, (rowV (lget ls 0) w0 6), .slice none 0 0] 27, unb]
def vl_object_Check_v4_L0 (w0 : Nat) (w1 : Nat → MapDef) : Ex_object_Check_v4_L0 → List L1 → List Value
  | .e0 , ls => [.pointer (some ⟨(lget ls 1).n, 0, none⟩), .int .i64 (0), .int .i64 (0), (rowV (lget ls 0) w0 6), .int .i64 ((w0 : Int))]
  | .e1 c1_0, ls => [.pointer (some ⟨(lget ls 1).n, 0, none⟩), .int .i64 (c1_0), .int .i64 (51), (rowV (lget ls 0) w0 6), .int .i64 ((w0 : Int))]
def mk_object_Check_v4_L0 : Ex_object_Check_v4_L0 → List (Nat × Nat)
  | .e0  => [(0, 1), (3, 18), (2, 62)]
  | .e1 _ => [(0, 1), (3, 18), (2, 62)]
noncomputable def vf_object_Check_v4_L0 (w0 : Nat) (w1 : Nat → MapDef) (r : Ex_object_Check_v4_L0) : List L1 → List Value := mrgF (mk_object_Check_v4_L0 r) (vl_object_Check_v4_L0 w0 w1 r) 2
def Hf_object_Check_v4_L0 (w0 : Nat) (w1 : Nat → MapDef) : Ex_object_Check_v4_L0 → List L1 → List Obj
  | .e0 , ls => [rowO (lget ls 0) (esG c_MapDef w0 w1) 29 w0 6, .cells #[.slice none 0 0, (rowV (lget ls 0) w0 6), .slice none 0 0] 27, unb]
  | .e1 c1_0, ls => [rowO (lget ls 0) (esG c_MapDef w0 w1) 29 w0 6, .cells #[.slice none 0 0, (rowV (lget ls 0) w0 6), .slice none 0 0] 27, unb]
def ex_object_Check_v4_L0 : Ex_object_Check_v4_L0 → Ex
  | .e0  => (.exit 0)
  | .e1 _ => .ret
end
section
variable {M : Nat → Prop} {B0 : Nat} {S : World → Prop} (hU : Up M B0 S) (w0 : Nat) (w1 : Nat → MapDef)
include hU w0 w1
theorem go_object_Check_v4_L0 (s : Sh_object_Check_v4_L0) (r : Ex_object_Check_v4_L0) (h : lpO (st_object_Check_v4_L0 w0 w1) s = some r) : GoesG Try.prog M B0 S (.loop bd_object_Check_v4_L0) 3 (fr_object_Check_v4_L0 w0 w1 s) (Hs_object_Check_v4_L0 w0 w1 s) (ex_object_Check_v4_L0 r) 2 (vf_object_Check_v4_L0 w0 w1 r) (Hf_object_Check_v4_L0 w0 w1 r) 3 :=
  goes_lpO (fun s q e => by
    cases s with
    | c0 s0_0 =>
      unfold st_object_Check_v4_L0 at e
      dsimp only at e
      replace e := cond_eq_or e
      rcases e with ⟨hq0, e⟩ | ⟨hq0, e⟩
      · replace e := cond_eq_or e
        rcases e with ⟨hq1, e⟩ | ⟨hq1, e⟩
        · replace e := cond_eq_or e
          let P1 : List (PG Try.prog M B0 S) := [.b (z_lssT hq0), .o, .q (ixM_ok (kd := .i64) (T := 24) (x := s0_0) (N := w0) (sz := 6) rfl (fun w => by kernel_rfl) hq1)]
          rcases e with ⟨hq2, e⟩ | ⟨hq2, e⟩
          · replace e := cond_eq_or e
            let P2 : List (PG Try.prog M B0 S) := P1 ++ [.l (accG (i := 0) (f := c_MapDef) (A := w1) (k := (s0_0).toNat) 0 [.int .i64 (4), .int .i64 (((w1 (s0_0).toNat)).fKey), .int .i64 (((w1 (s0_0).toNat)).fValue), .int .i64 (((w1 (s0_0).toNat)).fEntries), .bool (((w1 (s0_0).toNat)).fTimer), .int .i64 (((w1 (s0_0).toNat)).fType)] c_MapDef_len (inR_nat hq1) (congrArg (fun x : Int => ([.int .i64 x, .int .i64 (((w1 (s0_0).toNat)).fKey), .int .i64 (((w1 (s0_0).toNat)).fValue), .int .i64 (((w1 (s0_0).toNat)).fEntries), .bool (((w1 (s0_0).toNat)).fTimer), .int .i64 (((w1 (s0_0).toNat)).fType)] : List Value)) (eq_of_beq hq2))), .o, .o, .a 3, .o]
            rcases e with ⟨hq3, e⟩ | ⟨hq3, e⟩
            · cases e; exact ⟨ne_ret, goes_runM hU (P2 ++ [.b (z_geqT hq3), .o, .o, .o, .o, .o]) [0, 1] (fun b => rfl) (by decide) rfl rfl (fun b => by kernel_rfl)⟩
            · replace e := bindT_eq e
              obtain ⟨rb0, e_rb0, e⟩ := e
              try dsimp only at e
              replace e := cond_eq_or e
              let P3 : List (PG Try.prog M B0 S) := P2 ++ [.b (z_geqF hq3), .o, .a 3, .o, .a 1, .cg (ok_object_Def hU ((w1 (s0_0).toNat)).fKey ((w1 (s0_0).toNat)).fValue ((w1 (s0_0).toNat)).fEntries ((w1 (s0_0).toNat)).fTimer ((w1 (s0_0).toNat)).fType rb0 e_rb0)]
              rcases e with ⟨hq4, e⟩ | ⟨hq4, e⟩
              · cases e; exact goes_runM hU (P3 ++ [.b (z_neqT hq4), .o, .o, .o]) [0, 1] (fun b => rfl) (by decide) rfl rfl (fun b => by kernel_rfl)
              · cases e; exact ⟨ne_ret, goes_runM hU (P3 ++ [.b (z_neqF hq4), .o, .o, .o, .o]) [0, 1] (fun b => rfl) (by decide) rfl rfl (fun b => by kernel_rfl)⟩
          · exact none_some e
        · exact none_some e
      · cases e; exact ⟨ne_exit 0, goes_runM hU [.b (z_lssF hq0)] [0, 1] (fun b => rfl) (by decide) rfl rfl (fun b => by kernel_rfl)⟩) s r h
noncomputable def t0_object_Check_v4_L0_0 (w0 : Nat) (w1 : Nat → MapDef) (s0_0 : Int) (ls : List L1) : List Value := List.append [.agg #[.slice none 0 0, (rowV (lget ls 0) w0 6), .slice none 0 0], .pointer (some ⟨(lget ls 1).n, 0, none⟩), .int .i64 (0), .int .i64 (0), .int .i64 (0), .int .i64 (0)] (List.append (und 5) (List.append [.tuple #[.int .i64 (0), .int .i64 (0)], .pointer (some ⟨(lget ls 1).n, 0, none⟩), .slice none 0 0, .tuple #[.int .i64 (0), .int .i64 (0)], .int .i64 (0), .int .i64 (0), .int .i64 (0), .bool false, undef, undef, .pointer (some ⟨(lget ls 1).n, 1, none⟩), (rowV (lget ls 0) w0 6), .int .i64 ((w0 : Int)), .int .i64 (s0_0)] (und 61)))
def pre_object_Check_v4_L0_0 (w0 : Nat) (w1 : Nat → MapDef) (s0_0 : Int) (ls : List L1) : List Obj := [rowO (lget ls 0) (esG c_MapDef w0 w1) 29 w0 6, .cells #[.slice none 0 0, (rowV (lget ls 0) w0 6), .slice none 0 0] 27]
theorem sp0_object_Check_v4_L0_0_ok (s0_0 : Int) (h : lpO (st_object_Check_v4_L0 w0 w1) (.c0 s0_0) = some (.e0 )) : SpcG Try.prog M B0 S ⟨fun ls => .code (.loop bd_object_Check_v4_L0) (t0_object_Check_v4_L0_0 w0 w1 s0_0 ls), pre_object_Check_v4_L0_0 w0 w1 s0_0, 1, (.exit 0), fun ls => vf_object_Check_v4_L0 w0 w1 (.e0 ) (ls.take 2 ++ ls.drop 2), fun ls => (Hf_object_Check_v4_L0 w0 w1 (.e0 ) (ls.take 2 ++ ls.drop 2)).take 2 ++ List.replicate 0 unb, fun ls => (Hf_object_Check_v4_L0 w0 w1 (.e0 ) (ls.take 2 ++ ls.drop 2)).drop 2⟩ :=
  spc_of_goesM hU 0 (k0 := 2) (go_object_Check_v4_L0 hU w0 w1 _ _ h) (t0_object_Check_v4_L0_0 w0 w1 s0_0) (pre_object_Check_v4_L0_0 w0 w1 s0_0) (fun _ => rfl) (fun ls h => by match ls, h with | [l0, l1], _ => exact ⟨by kernel_rfl, by kernel_rfl⟩) (fun ls h => by match ls, h with | [l0, l1], _ => rfl) (by decide) (by decide) (fun ls => rfl)
theorem sp1_object_Check_v4_L0_0_ok (s0_0 : Int) (c1_0 : Int) (h : lpO (st_object_Check_v4_L0 w0 w1) (.c0 s0_0) = some (.e1 c1_0)) : SpcG Try.prog M B0 S ⟨fun ls => .code (.loop bd_object_Check_v4_L0) (t0_object_Check_v4_L0_0 w0 w1 s0_0 ls), pre_object_Check_v4_L0_0 w0 w1 s0_0, 1, .ret, fun ls => vf_object_Check_v4_L0 w0 w1 (.e1 c1_0) (ls.take 2 ++ ls.drop 2), fun ls => (Hf_object_Check_v4_L0 w0 w1 (.e1 c1_0) (ls.take 2 ++ ls.drop 2)).take 2 ++ List.replicate 0 unb, fun ls => (Hf_object_Check_v4_L0 w0 w1 (.e1 c1_0) (ls.take 2 ++ ls.drop 2)).drop 2⟩ :=
  spc_of_goesM hU 0 (k0 := 2) (go_object_Check_v4_L0 hU w0 w1 _ _ h) (t0_object_Check_v4_L0_0 w0 w1 s0_0) (pre_object_Check_v4_L0_0 w0 w1 s0_0) (fun _ => rfl) (fun ls h => by match ls, h with | [l0, l1], _ => exact ⟨by kernel_rfl, by kernel_rfl⟩) (fun ls h => by match ls, h with | [l0, l1], _ => rfl) (by decide) (by decide) (fun ls => rfl)
inductive R_object_Check_v4 where
  | e0 (c0_0 : Int) (c0_1 : Int)
noncomputable def m_object_Check_v4 (w0 : Nat) (w1 : Nat → MapDef) : Option R_object_Check_v4 :=
  (lpO (st_object_Check_v4_L0 w0 w1) (.c0 0)).bind fun g0 => match g0 with
  | .e0  => (some (.e0 0 52))
  | .e1 g0_0 => (some (.e0 g0_0 51))
def sq0_object_Check_v4 (w0 : Nat) (w1 : Nat → MapDef) (c0_0 : Int) (c0_1 : Int) : Spc := ⟨fun ls => .call 5 #[.agg #[.slice none 0 0, (rowV (lget ls 0) w0 6), .slice none 0 0]], fun ls => [rowO (lget ls 0) (esG c_MapDef w0 w1) 29 w0 6], 0, .normal, fun ls => [.tuple #[.int .i64 (c0_0), .int .i64 (c0_1)]], fun ls => [rowO (lget ls 0) (esG c_MapDef w0 w1) 29 w0 6], fun ls => []⟩
theorem ok0_object_Check_v4 (c0_0 : Int) (c0_1 : Int) (e : m_object_Check_v4 w0 w1 = some (.e0 c0_0 c0_1)) : SpcG Try.prog M B0 S (sq0_object_Check_v4 w0 w1 c0_0 c0_1) := by
  unfold m_object_Check_v4 at e
  replace e := bindO_eq e
  obtain ⟨g0, e_g0, e⟩ := e
  let P1 : List (PG Try.prog M B0 S) := [.o, .o, .o, .o, .a 1, .cg (ok_btf_Check_v2 hU  ), .o, .o, .o, .o, .o, .o, .o, .o, .a 1, .o, .o, .cp]
  rcases g0 with _ | ⟨g0_0⟩
  · try dsimp only at e
    injection e with e; injection e with i0 i1; subst i0 i1; exact fn_specG hU (P := Try.prog) Try.func5 (fun xs w => by kernel_rfl) 1 _ _ (fun _ => rfl) _ _ _ [] (P1 ++ [.cx (sp0_object_Check_v4_L0_0_ok hU w0 w1 0  e_g0) [0, 1], .o, .a 1, .o, .o, .o, .o, .o, .o]) [] (fun b => by kernel_rfl)
  · try dsimp only at e
    injection e with e; injection e with i0 i1; subst i0 i1; exact fn_specG hU (P := Try.prog) Try.func5 (fun xs w => by kernel_rfl) 1 _ _ (fun _ => rfl) _ _ _ [] (P1 ++ [.cx (sp1_object_Check_v4_L0_0_ok hU w0 w1 0 g0_0 e_g0) [0, 1]]) [] (fun b => by kernel_rfl)
inductive Sh_object_Check_v5_L0 where
  | c0 (s0_0 : Int)
inductive Ex_object_Check_v5_L0 where
  | e0 
  | e1 (c1_0 : Int)
noncomputable def st_object_Check_v5_L0 (w0 : Nat) (w2 : Nat → MapDef) : Sh_object_Check_v5_L0 → Option (Sh_object_Check_v5_L0 ⊕ Ex_object_Check_v5_L0)
  | .c0 s0_0 =>
    bif decide (s0_0 < (w0 : Int)) then
      (bif inR s0_0 w0 then
        (bif ((w2 (s0_0).toNat)).fKind == 4 then
          (bif decide (16 ≤ s0_0) then
            (some (.inr (.e1 s0_0)))
          else (bindT (m_object_Def ((w2 (s0_0).toNat)).fKey ((w2 (s0_0).toNat)).fValue ((w2 (s0_0).toNat)).fEntries ((w2 (s0_0).toNat)).fTimer ((w2 (s0_0).toNat)).fType) fun rb0 =>
          bif rb0 == 0 then
            (some (.inl (.c0 (IntKind.i64.wrap (s0_0 + 1)))))
          else (some (.inr (.e1 s0_0)))))
        else (none))
      else (none))
    else (some (.inr (.e0 )))
noncomputable def bd_object_Check_v5_L0 : Code := codeOf Try.f5 [1, 1, 0, 1, 0, 0]
def fl_object_Check_v5_L0 (w0 : Nat) (w1 : Nat) (w2 : Nat → MapDef) (w3 : Nat → ByteArray) : Sh_object_Check_v5_L0 → List L1 → List Value
  | .c0 s0_0, ls => [.pointer (some ⟨(lget ls 2).n, 0, none⟩), .int .i64 (0), .int .i64 (0), (rowV (lget ls 0) w0 6), .int .i64 ((w0 : Int)), .int .i64 (s0_0)]
def mf_object_Check_v5_L0 : Sh_object_Check_v5_L0 → List (Nat × Nat)
  | .c0 _ => [(0, 1), (3, 18), (3, 61)]
noncomputable def fr_object_Check_v5_L0 (w0 : Nat) (w1 : Nat) (w2 : Nat → MapDef) (w3 : Nat → ByteArray) (s : Sh_object_Check_v5_L0) : List L1 → List Value := mrgF (mf_object_Check_v5_L0 s) (fl_object_Check_v5_L0 w0 w1 w2 w3 s) 3
def Hs_object_Check_v5_L0 (w0 : Nat) (w1 : Nat) (w2 : Nat → MapDef) (w3 : Nat → ByteArray) : Sh_object_Check_v5_L0 → List L1 → List Obj
  | .c0 s0_0, ls => [rowO (lget ls 0) (esG c_MapDef w0 w2) 29 w0 6, rsO hdS tlS 2 (lget ls 1) 35 32 c_Insn 5 w1 (fun _ => (2, (fun k => if k = 0 then (⟨183#8, 0#8, 0#8, 0#16, 0#32⟩ : Insn) else (⟨149#8, 0#8, 0#8, 0#16, 0#32⟩ : Insn)))) w3, .cells #[.slice none 0 0, (rowV (lget ls 0) w0 6), (rowV (rrL (lget ls 1)) w1 2)] 27, unb]
def vl_object_Check_v5_L0 (w0 : Nat) (w1 : Nat) (w2 : Nat → MapDef) (w3 : Nat → ByteArray) : Ex_object_Check_v5_L0 → List L1 → List Value
  | .e0 , ls => [.pointer (some ⟨(lget ls 2).n, 0, none⟩), .int .i64 (0), .int .i64 (0), (rowV (lget ls 0) w0 6), .int .i64 ((w0 : Int))]
  | .e1 c1_0, ls => [.pointer (some ⟨(lget ls 2).n, 0, none⟩), .int .i64 (c1_0), .int .i64 (51), (rowV (lget ls 0) w0 6), .int .i64 ((w0 : Int))]
def mk_object_Check_v5_L0 : Ex_object_Check_v5_L0 → List (Nat × Nat)
  | .e0  => [(0, 1), (3, 18), (2, 62)]
  | .e1 _ => [(0, 1), (3, 18), (2, 62)]
noncomputable def vf_object_Check_v5_L0 (w0 : Nat) (w1 : Nat) (w2 : Nat → MapDef) (w3 : Nat → ByteArray) (r : Ex_object_Check_v5_L0) : List L1 → List Value := mrgF (mk_object_Check_v5_L0 r) (vl_object_Check_v5_L0 w0 w1 w2 w3 r) 3
def Hf_object_Check_v5_L0 (w0 : Nat) (w1 : Nat) (w2 : Nat → MapDef) (w3 : Nat → ByteArray) : Ex_object_Check_v5_L0 → List L1 → List Obj
  | .e0 , ls => [rowO (lget ls 0) (esG c_MapDef w0 w2) 29 w0 6, rsO hdS tlS 2 (lget ls 1) 35 32 c_Insn 5 w1 (fun _ => (2, (fun k => if k = 0 then (⟨183#8, 0#8, 0#8, 0#16, 0#32⟩ : Insn) else (⟨149#8, 0#8, 0#8, 0#16, 0#32⟩ : Insn)))) w3, .cells #[.slice none 0 0, (rowV (lget ls 0) w0 6), (rowV (rrL (lget ls 1)) w1 2)] 27, unb]
  | .e1 c1_0, ls => [rowO (lget ls 0) (esG c_MapDef w0 w2) 29 w0 6, rsO hdS tlS 2 (lget ls 1) 35 32 c_Insn 5 w1 (fun _ => (2, (fun k => if k = 0 then (⟨183#8, 0#8, 0#8, 0#16, 0#32⟩ : Insn) else (⟨149#8, 0#8, 0#8, 0#16, 0#32⟩ : Insn)))) w3, .cells #[.slice none 0 0, (rowV (lget ls 0) w0 6), (rowV (rrL (lget ls 1)) w1 2)] 27, unb]
def ex_object_Check_v5_L0 : Ex_object_Check_v5_L0 → Ex
  | .e0  => (.exit 0)
  | .e1 _ => .ret
end
section
variable {M : Nat → Prop} {B0 : Nat} {S : World → Prop} (hU : Up M B0 S) (w0 : Nat) (w1 : Nat) (w2 : Nat → MapDef) (w3 : Nat → ByteArray)
include hU w0 w1 w2 w3
theorem go_object_Check_v5_L0 (s : Sh_object_Check_v5_L0) (r : Ex_object_Check_v5_L0) (h : lpO (st_object_Check_v5_L0 w0 w2) s = some r) : GoesG Try.prog M B0 S (.loop bd_object_Check_v5_L0) 4 (fr_object_Check_v5_L0 w0 w1 w2 w3 s) (Hs_object_Check_v5_L0 w0 w1 w2 w3 s) (ex_object_Check_v5_L0 r) 3 (vf_object_Check_v5_L0 w0 w1 w2 w3 r) (Hf_object_Check_v5_L0 w0 w1 w2 w3 r) 4 :=
  goes_lpO (fun s q e => by
    cases s with
    | c0 s0_0 =>
      unfold st_object_Check_v5_L0 at e
      dsimp only at e
      replace e := cond_eq_or e
      rcases e with ⟨hq0, e⟩ | ⟨hq0, e⟩
      · replace e := cond_eq_or e
        rcases e with ⟨hq1, e⟩ | ⟨hq1, e⟩
        · replace e := cond_eq_or e
          let P1 : List (PG Try.prog M B0 S) := [.b (z_lssT hq0), .o, .q (ixM_ok (kd := .i64) (T := 24) (x := s0_0) (N := w0) (sz := 6) rfl (fun w => by kernel_rfl) hq1)]
          rcases e with ⟨hq2, e⟩ | ⟨hq2, e⟩
          · replace e := cond_eq_or e
            let P2 : List (PG Try.prog M B0 S) := P1 ++ [.l (accG (i := 0) (f := c_MapDef) (A := w2) (k := (s0_0).toNat) 0 [.int .i64 (4), .int .i64 (((w2 (s0_0).toNat)).fKey), .int .i64 (((w2 (s0_0).toNat)).fValue), .int .i64 (((w2 (s0_0).toNat)).fEntries), .bool (((w2 (s0_0).toNat)).fTimer), .int .i64 (((w2 (s0_0).toNat)).fType)] c_MapDef_len (inR_nat hq1) (congrArg (fun x : Int => ([.int .i64 x, .int .i64 (((w2 (s0_0).toNat)).fKey), .int .i64 (((w2 (s0_0).toNat)).fValue), .int .i64 (((w2 (s0_0).toNat)).fEntries), .bool (((w2 (s0_0).toNat)).fTimer), .int .i64 (((w2 (s0_0).toNat)).fType)] : List Value)) (eq_of_beq hq2))), .o, .o, .a 4, .o]
            rcases e with ⟨hq3, e⟩ | ⟨hq3, e⟩
            · cases e; exact ⟨ne_ret, goes_runM hU (P2 ++ [.b (z_geqT hq3), .o, .o, .o, .o, .o]) [0, 1, 2] (fun b => rfl) (by decide) rfl rfl (fun b => by kernel_rfl)⟩
            · replace e := bindT_eq e
              obtain ⟨rb0, e_rb0, e⟩ := e
              try dsimp only at e
              replace e := cond_eq_or e
              let P3 : List (PG Try.prog M B0 S) := P2 ++ [.b (z_geqF hq3), .o, .a 4, .o, .a 2, .cg (ok_object_Def hU ((w2 (s0_0).toNat)).fKey ((w2 (s0_0).toNat)).fValue ((w2 (s0_0).toNat)).fEntries ((w2 (s0_0).toNat)).fTimer ((w2 (s0_0).toNat)).fType rb0 e_rb0)]
              rcases e with ⟨hq4, e⟩ | ⟨hq4, e⟩
              · cases e; exact goes_runM hU (P3 ++ [.b (z_neqT hq4), .o, .o, .o]) [0, 1, 2] (fun b => rfl) (by decide) rfl rfl (fun b => by kernel_rfl)
              · cases e; exact ⟨ne_ret, goes_runM hU (P3 ++ [.b (z_neqF hq4), .o, .o, .o, .o]) [0, 1, 2] (fun b => rfl) (by decide) rfl rfl (fun b => by kernel_rfl)⟩
          · exact none_some e
        · exact none_some e
      · cases e; exact ⟨ne_exit 0, goes_runM hU [.b (z_lssF hq0)] [0, 1, 2] (fun b => rfl) (by decide) rfl rfl (fun b => by kernel_rfl)⟩) s r h
noncomputable def t0_object_Check_v5_L0_0 (w0 : Nat) (w1 : Nat) (w2 : Nat → MapDef) (w3 : Nat → ByteArray) (s0_0 : Int) (ls : List L1) : List Value := List.append [.agg #[.slice none 0 0, (rowV (lget ls 0) w0 6), (rowV (rrL (lget ls 1)) w1 2)], .pointer (some ⟨(lget ls 2).n, 0, none⟩), .int .i64 (0), .int .i64 (0), .int .i64 (0), .int .i64 (0)] (List.append (und 5) (List.append [.tuple #[.int .i64 (0), .int .i64 (0)], .pointer (some ⟨(lget ls 2).n, 0, none⟩), .slice none 0 0, .tuple #[.int .i64 (0), .int .i64 (0)], .int .i64 (0), .int .i64 (0), .int .i64 (0), .bool false, undef, undef, .pointer (some ⟨(lget ls 2).n, 1, none⟩), (rowV (lget ls 0) w0 6), .int .i64 ((w0 : Int)), .int .i64 (s0_0)] (und 61)))
def pre_object_Check_v5_L0_0 (w0 : Nat) (w1 : Nat) (w2 : Nat → MapDef) (w3 : Nat → ByteArray) (s0_0 : Int) (ls : List L1) : List Obj := [rowO (lget ls 0) (esG c_MapDef w0 w2) 29 w0 6, rsO hdS tlS 2 (lget ls 1) 35 32 c_Insn 5 w1 (fun _ => (2, (fun k => if k = 0 then (⟨183#8, 0#8, 0#8, 0#16, 0#32⟩ : Insn) else (⟨149#8, 0#8, 0#8, 0#16, 0#32⟩ : Insn)))) w3, .cells #[.slice none 0 0, (rowV (lget ls 0) w0 6), (rowV (rrL (lget ls 1)) w1 2)] 27]
theorem sp0_object_Check_v5_L0_0_ok (s0_0 : Int) (h : lpO (st_object_Check_v5_L0 w0 w2) (.c0 s0_0) = some (.e0 )) : SpcG Try.prog M B0 S ⟨fun ls => .code (.loop bd_object_Check_v5_L0) (t0_object_Check_v5_L0_0 w0 w1 w2 w3 s0_0 ls), pre_object_Check_v5_L0_0 w0 w1 w2 w3 s0_0, 1, (.exit 0), fun ls => vf_object_Check_v5_L0 w0 w1 w2 w3 (.e0 ) (ls.take 3 ++ ls.drop 3), fun ls => (Hf_object_Check_v5_L0 w0 w1 w2 w3 (.e0 ) (ls.take 3 ++ ls.drop 3)).take 3 ++ List.replicate 0 unb, fun ls => (Hf_object_Check_v5_L0 w0 w1 w2 w3 (.e0 ) (ls.take 3 ++ ls.drop 3)).drop 3⟩ :=
  spc_of_goesM hU 0 (k0 := 3) (go_object_Check_v5_L0 hU w0 w1 w2 w3 _ _ h) (t0_object_Check_v5_L0_0 w0 w1 w2 w3 s0_0) (pre_object_Check_v5_L0_0 w0 w1 w2 w3 s0_0) (fun _ => rfl) (fun ls h => by match ls, h with | [l0, l1, l2], _ => exact ⟨by kernel_rfl, by kernel_rfl⟩) (fun ls h => by match ls, h with | [l0, l1, l2], _ => rfl) (by decide) (by decide) (fun ls => rfl)
theorem sp1_object_Check_v5_L0_0_ok (s0_0 : Int) (c1_0 : Int) (h : lpO (st_object_Check_v5_L0 w0 w2) (.c0 s0_0) = some (.e1 c1_0)) : SpcG Try.prog M B0 S ⟨fun ls => .code (.loop bd_object_Check_v5_L0) (t0_object_Check_v5_L0_0 w0 w1 w2 w3 s0_0 ls), pre_object_Check_v5_L0_0 w0 w1 w2 w3 s0_0, 1, .ret, fun ls => vf_object_Check_v5_L0 w0 w1 w2 w3 (.e1 c1_0) (ls.take 3 ++ ls.drop 3), fun ls => (Hf_object_Check_v5_L0 w0 w1 w2 w3 (.e1 c1_0) (ls.take 3 ++ ls.drop 3)).take 3 ++ List.replicate 0 unb, fun ls => (Hf_object_Check_v5_L0 w0 w1 w2 w3 (.e1 c1_0) (ls.take 3 ++ ls.drop 3)).drop 3⟩ :=
  spc_of_goesM hU 0 (k0 := 3) (go_object_Check_v5_L0 hU w0 w1 w2 w3 _ _ h) (t0_object_Check_v5_L0_0 w0 w1 w2 w3 s0_0) (pre_object_Check_v5_L0_0 w0 w1 w2 w3 s0_0) (fun _ => rfl) (fun ls h => by match ls, h with | [l0, l1, l2], _ => exact ⟨by kernel_rfl, by kernel_rfl⟩) (fun ls h => by match ls, h with | [l0, l1, l2], _ => rfl) (by decide) (by decide) (fun ls => rfl)
end

end Go.Proofs.Ytefmnjehhpceoaa


