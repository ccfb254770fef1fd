/-
  The law on ledgers, by the program's text.
-/
import Derived.Test.YtmopkmjddaaknaaT11K
import Derived.Test.YtmopkmjddaaknaaRxO
namespace Go.Proofs.Ytmopkmjddaaknaa
open Go.RowKit
set_option linter.unusedVariables false
set_option linter.unusedSimpArgs false
set_option linter.unusedSectionVars false
set_option maxRecDepth 100000
set_option maxHeartbeats 4000000
structure Step where
  fWhat : Int
  fI : Int
  fN : Int
  fM : Int
abbrev c_Step (x : Step) : List Value := [.int .i64 (x.fWhat), .int .i64 (x.fI), .int .i64 (x.fN), .int .i64 (x.fM)]
def v_Step (x : Step) : Value := .agg #[.int .i64 (x.fWhat), .int .i64 (x.fI), .int .i64 (x.fN), .int .i64 (x.fM)]
theorem c_Step_len (x : Step) : (c_Step x).length = 4 := rfl
theorem c_Step_one (x : Step) : ((c_Step x).all fun u => u.oneCell') = true := rfl
def sq0_sock_counting_begin_v2 (w0 : Int)  : Spc := ⟨fun ls => .call 33 #[.pointer (some ⟨(lget ls 0).n, 0, none⟩)], fun ls => [.cells #[.slice none 0 0, .slice none 0 0, .int .i64 (w0), .int .i64 (w0), .slice none 0 0] 78], 1, .normal, fun ls => [.int .i64 (0)], fun ls => [.cells #[(rowV (lget ls 1) 1 1), .slice none 0 0, .int .i64 (w0), .int .i64 (w0), .slice none 0 0] 78], fun ls => [rowO (lget ls 1) (esG cZ 1 (fun _ => 1)) 3 1 1]⟩
section
variable {M : Nat → Prop} {B0 : Nat} {S : World → Prop} (hU : Up M B0 S)
include hU
theorem p0_sock_counting_begin_v2 (w0 : Int) : SpcG Try.prog M B0 S (sq0_sock_counting_begin_v2 w0 ) :=
  fn_specG hU (P := Try.prog) Try.func33 (fun xs w => by kernel_rfl) 1 _ _ (fun _ => rfl) _ _ _ [2]
    [.o, .o, .o, .o, .o, .a 0, .o, .x (sqAppL1_ok (ty := 56) rt56 #[false, false] (f := cZ) (c := 1) 1 (T' := 3) cZ_len cZ_one (by decide)) [1], .o, .o, .a 0, .o, .o, .o, .a 0, .o, .o, .o]
    [] (fun b => by kernel_rfl)
inductive R_sock_Ledger_Acquire_v1 where
  | e0 
  | e1 (c1_0 : Nat → Int) (c1_1 : Nat → Reference) (c1_2 : Int) (c1_3 : Nat → Event)
noncomputable def m_sock_Ledger_Acquire_v1 (y1 : Int) (y2 : Int) (w0 : Int) : Option R_sock_Ledger_Acquire_v1 :=
  bif decide (256 ≤ w0) then
    (some (.e0))
  else (some (.e1 (fun _ => 1) (fun _ => (⟨y1, y2⟩ : Reference)) (IntKind.i64.wrap (w0 + 1)) (fun _ => (⟨false, 1, y1⟩ : Event))))
def sq0_sock_Ledger_Acquire_v1 (y1 : Int) (y2 : Int) (w0 : Int)  : Spc := ⟨fun ls => .call 17 #[.pointer (some ⟨(lget ls 0).n, 0, none⟩), .int .i64 (y1), .int .i64 (y2)], fun ls => [.cells #[.slice none 0 0, .slice none 0 0, .int .i64 (w0), .int .i64 (w0), .slice none 0 0] 78], 0, .normal, fun ls => [.tuple #[.int .i64 (0), .bool false]], fun ls => [.cells #[.slice none 0 0, .slice none 0 0, .int .i64 (w0), .int .i64 (w0), .slice none 0 0] 78], fun ls => []⟩
def sq1_sock_Ledger_Acquire_v1 (y1 : Int) (y2 : Int) (w0 : Int) (c1_0 : Nat → Int) (c1_1 : Nat → Reference) (c1_2 : Int) (c1_3 : Nat → Event) : Spc := ⟨fun ls => .call 17 #[.pointer (some ⟨(lget ls 0).n, 0, none⟩), .int .i64 (y1), .int .i64 (y2)], fun ls => [.cells #[.slice none 0 0, .slice none 0 0, .int .i64 (w0), .int .i64 (w0), .slice none 0 0] 78], 3, .normal, fun ls => [.tuple #[.int .i64 (1), .bool true]], fun ls => [.cells #[(rowV (lget ls 1) 1 1), (rowV (lget ls 2) 1 2), .int .i64 (c1_2), .int .i64 (w0), (rowV (lget ls 3) 1 3)] 78], fun ls => [rowO (lget ls 1) (esG cZ 1 c1_0) 3 1 1, rowO (lget ls 2) (esG c_Reference 1 c1_1) 82 1 2, rowO (lget ls 3) (esG c_Event 1 c1_3) 63 1 3]⟩
end
section
variable {M : Nat → Prop} {B0 : Nat} {S : World → Prop} (hU : Up M B0 S) (y1 : Int) (y2 : Int) (w0 : Int)
include hU y1 y2 w0
theorem ok0_sock_Ledger_Acquire_v1 (e : m_sock_Ledger_Acquire_v1 y1 y2 w0 = some (.e0 )) : SpcG Try.prog M B0 S (sq0_sock_Ledger_Acquire_v1 y1 y2 w0 ) := by
  unfold m_sock_Ledger_Acquire_v1 at e
  replace e := cond_eq_or e
  rcases e with ⟨hq0, e⟩ | ⟨hq0, e⟩
  · exact fn_specG hU (P := Try.prog) Try.func17 (fun xs w => by kernel_rfl) 1 _ _ (fun _ => rfl) _ _ _ [] [.o, .o, .o, .o, .o, .a 0, .b (z_geqT hq0), .o, .o] [] (fun b => by kernel_rfl)
  · cases e
theorem ok1_sock_Ledger_Acquire_v1 (c1_0 : Nat → Int) (c1_1 : Nat → Reference) (c1_2 : Int) (c1_3 : Nat → Event) (e : m_sock_Ledger_Acquire_v1 y1 y2 w0 = some (.e1 c1_0 c1_1 c1_2 c1_3)) : SpcG Try.prog M B0 S (sq1_sock_Ledger_Acquire_v1 y1 y2 w0 c1_0 c1_1 c1_2 c1_3) := by
  unfold m_sock_Ledger_Acquire_v1 at e
  replace e := cond_eq_or e
  rcases e with ⟨hq0, e⟩ | ⟨hq0, e⟩
  · cases e
  · injection e with e; injection e with i0 i1 i2 i3; subst i0 i1 i2 i3; exact fn_specG hU (P := Try.prog) Try.func17 (fun xs w => by kernel_rfl) 1 _ _ (fun _ => rfl) _ _ _ [1, 3, 5] [.o, .o, .o, .o, .o, .a 0, .b (z_geqF hq0), .o, .o, .o, .xg (p0_sock_counting_begin_v2 hU w0 ) [0], .o, .o, .o, .o, .o, .o, .a 0, .o, .o, .o, .o, .x (sqAppL1_ok (ty := 76) rt76 #[false, false] (f := c_Reference) (c := 1) (⟨y1, y2⟩ : Reference) (T' := 82) c_Reference_len c_Reference_one (by decide)) [2], .o, .o, .a 0, .o, .o, .o, .a 0, .o, .o, .o, .a 0, .o, .o, .o, .o, .a 0, .o, .o, .o, .o, .x (sqAppL1_ok (ty := 37) rt37 #[false, false] (f := c_Event) (c := 1) (⟨false, 1, y1⟩ : Event) (T' := 63) c_Event_len c_Event_one (by decide)) [4], .o, .o, .a 0, .o, .o, .o] [] (fun b => by kernel_rfl)
inductive R_sock_counting_begin_v3 where
  | e0 (c0_0 : Nat → Int) (c0_1 : Int)
noncomputable def m_sock_counting_begin_v3 (w0 : Nat) (w1 : Int) (w2 : Int) (w3 : Nat → Int) (w4 : Nat → Reference) (w5 : Nat → Event) : Option R_sock_counting_begin_v3 :=
  bif decide (w0 ≤ 1000000) then
    (some (.e0 (updF w3 w0 1) (IntKind.i64.wrap (((w0 + 1) : Int) - 1))))
  else (none)
def sq0_sock_counting_begin_v3 (w0 : Nat) (w1 : Int) (w2 : Int) (w3 : Nat → Int) (w4 : Nat → Reference) (w5 : Nat → Event) (c0_0 : Nat → Int) (c0_1 : Int) : Spc := ⟨fun ls => .call 33 #[.pointer (some ⟨(lget ls 0).n, 0, none⟩)], fun ls => [.cells #[(rowV (lget ls 1) w0 1), (rowV (lget ls 2) w0 2), .int .i64 (w1), .int .i64 (w2), (rowV (lget ls 3) w0 3)] 78, rowO (lget ls 1) (esG cZ w0 w3) 3 w0 1, rowO (lget ls 2) (esG c_Reference w0 w4) 82 w0 2, rowO (lget ls 3) (esG c_Event w0 w5) 63 w0 3], 1, .normal, fun ls => [.int .i64 (c0_1)], fun ls => [.cells #[(rowV (lget ls 4) (w0 + 1) 1), (rowV (lget ls 2) w0 2), .int .i64 (w1), .int .i64 (w2), (rowV (lget ls 3) w0 3)] 78, unb, rowO (lget ls 2) (esG c_Reference w0 w4) 82 w0 2, rowO (lget ls 3) (esG c_Event w0 w5) 63 w0 3], fun ls => [rowO (lget ls 4) (esG cZ (w0 + 1) c0_0) 3 (w0 + 1) 1]⟩
end
section
variable {M : Nat → Prop} {B0 : Nat} {S : World → Prop} (hU : Up M B0 S)
include hU
theorem ok0_sock_counting_begin_v3 (w0 : Nat) (w1 : Int) (w2 : Int) (w3 : Nat → Int) (w4 : Nat → Reference) (w5 : Nat → Event) (c0_0 : Nat → Int) (c0_1 : Int) (e : m_sock_counting_begin_v3 w0 w1 w2 w3 w4 w5 = some (.e0 c0_0 c0_1)) : SpcG Try.prog M B0 S (sq0_sock_counting_begin_v3 w0 w1 w2 w3 w4 w5 c0_0 c0_1) := by
  unfold m_sock_counting_begin_v3 at e
  replace e := cond_eq_or e
  rcases e with ⟨hq0, e⟩ | ⟨hq0, e⟩
  · injection e with e; injection e with i0 i1; subst i0 i1; exact fn_specG hU (P := Try.prog) Try.func33 (fun xs w => by kernel_rfl) 4 _ _ (fun _ => rfl) _ _ _ [5] [.o, .o, .o, .o, .o, .a 0, .o, .x (sqAppL_ok (ty := 56) rt56 #[false, false] (f := cZ) (N := w0) (A := w3) (c := 1) [1] (T' := 3) .row cZ_len cZ_one hq0 rfl (by decide)) [1, 4], .o, .o, .a 0, .o, .o, .o, .a 0, .o, .o, .o] [] (fun b => by kernel_rfl)
  · exact none_some e
inductive R_sock_Ledger_Acquire_v2 where
  | e0 
  | e1 (c1_0 : Nat → Int) (c1_1 : Nat → Reference) (c1_2 : Int) (c1_3 : Nat → Event) (c1_4 : Int)
noncomputable def m_sock_Ledger_Acquire_v2 (y1 : Int) (y2 : Int) (w0 : Nat) (w1 : Int) (w2 : Int) (w3 : Nat → Int) (w4 : Nat → Reference) (w5 : Nat → Event) : Option R_sock_Ledger_Acquire_v2 :=
  bif decide (256 ≤ w1) then
    (some (.e0))
  else ((m_sock_counting_begin_v3 w0 w1 w2 w3 w4 w5).bind fun g0 => match g0 with
  | .e0 g0_0 g0_1 =>
  bif decide (w0 ≤ 1000000) then
    (some (.e1 g0_0 (updF w4 w0 (⟨y1, y2⟩ : Reference)) (IntKind.i64.wrap (w1 + 1)) (updF w5 w0 (⟨false, (IntKind.i64.wrap (g0_1 + 1)), y1⟩ : Event)) (IntKind.i64.wrap (g0_1 + 1))))
  else (none))
def sq0_sock_Ledger_Acquire_v2 (y1 : Int) (y2 : Int) (w0 : Nat) (w1 : Int) (w2 : Int) (w3 : Nat → Int) (w4 : Nat → Reference) (w5 : Nat → Event)  : Spc := ⟨fun ls => .call 17 #[.pointer (some ⟨(lget ls 0).n, 0, none⟩), .int .i64 (y1), .int .i64 (y2)], fun ls => [.cells #[(rowV (lget ls 1) w0 1), (rowV (lget ls 2) w0 2), .int .i64 (w1), .int .i64 (w2), (rowV (lget ls 3) w0 3)] 78, rowO (lget ls 1) (esG cZ w0 w3) 3 w0 1, rowO (lget ls 2) (esG c_Reference w0 w4) 82 w0 2, rowO (lget ls 3) (esG c_Event w0 w5) 63 w0 3], 0, .normal, fun ls => [.tuple #[.int .i64 (0), .bool false]], fun ls => [.cells #[(rowV (lget ls 1) w0 1), (rowV (lget ls 2) w0 2), .int .i64 (w1), .int .i64 (w2), (rowV (lget ls 3) w0 3)] 78, rowO (lget ls 1) (esG cZ w0 w3) 3 w0 1, rowO (lget ls 2) (esG c_Reference w0 w4) 82 w0 2, rowO (lget ls 3) (esG c_Event w0 w5) 63 w0 3], fun ls => []⟩
def sq1_sock_Ledger_Acquire_v2 (y1 : Int) (y2 : Int) (w0 : Nat) (w1 : Int) (w2 : Int) (w3 : Nat → Int) (w4 : Nat → Reference) (w5 : Nat → Event) (c1_0 : Nat → Int) (c1_1 : Nat → Reference) (c1_2 : Int) (c1_3 : Nat → Event) (c1_4 : Int) : Spc := ⟨fun ls => .call 17 #[.pointer (some ⟨(lget ls 0).n, 0, none⟩), .int .i64 (y1), .int .i64 (y2)], fun ls => [.cells #[(rowV (lget ls 1) w0 1), (rowV (lget ls 2) w0 2), .int .i64 (w1), .int .i64 (w2), (rowV (lget ls 3) w0 3)] 78, rowO (lget ls 1) (esG cZ w0 w3) 3 w0 1, rowO (lget ls 2) (esG c_Reference w0 w4) 82 w0 2, rowO (lget ls 3) (esG c_Event w0 w5) 63 w0 3], 3, .normal, fun ls => [.tuple #[.int .i64 (c1_4), .bool true]], fun ls => [.cells #[(rowV (lget ls 4) (w0 + 1) 1), (rowV (lget ls 5) (w0 + 1) 2), .int .i64 (c1_2), .int .i64 (w2), (rowV (lget ls 6) (w0 + 1) 3)] 78, unb, unb, unb], fun ls => [rowO (lget ls 4) (esG cZ (w0 + 1) c1_0) 3 (w0 + 1) 1, rowO (lget ls 5) (esG c_Reference (w0 + 1) c1_1) 82 (w0 + 1) 2, rowO (lget ls 6) (esG c_Event (w0 + 1) c1_3) 63 (w0 + 1) 3]⟩
end
section
variable {M : Nat → Prop} {B0 : Nat} {S : World → Prop} (hU : Up M B0 S) (y1 : Int) (y2 : Int) (w0 : Nat) (w1 : Int) (w2 : Int) (w3 : Nat → Int) (w4 : Nat → Reference) (w5 : Nat → Event)
include hU y1 y2 w0 w1 w2 w3 w4 w5
theorem ok0_sock_Ledger_Acquire_v2 (e : m_sock_Ledger_Acquire_v2 y1 y2 w0 w1 w2 w3 w4 w5 = some (.e0 )) : SpcG Try.prog M B0 S (sq0_sock_Ledger_Acquire_v2 y1 y2 w0 w1 w2 w3 w4 w5 ) := by
  unfold m_sock_Ledger_Acquire_v2 at e
  replace e := cond_eq_or e
  rcases e with ⟨hq0, e⟩ | ⟨hq0, e⟩
  · exact fn_specG hU (P := Try.prog) Try.func17 (fun xs w => by kernel_rfl) 4 _ _ (fun _ => rfl) _ _ _ [] [.o, .o, .o, .o, .o, .a 0, .b (z_geqT hq0), .o, .o] [] (fun b => by kernel_rfl)
  · replace e := bindO_eq e
    obtain ⟨g0, e_g0, e⟩ := e
    obtain ⟨g0_0, g0_1⟩ := g0
    try dsimp only at e
    replace e := cond_eq_or e
    rcases e with ⟨hq1, e⟩ | ⟨hq1, e⟩
    · cases e
    · exact none_some e
theorem ok1_sock_Ledger_Acquire_v2 (c1_0 : Nat → Int) (c1_1 : Nat → Reference) (c1_2 : Int) (c1_3 : Nat → Event) (c1_4 : Int) (e : m_sock_Ledger_Acquire_v2 y1 y2 w0 w1 w2 w3 w4 w5 = some (.e1 c1_0 c1_1 c1_2 c1_3 c1_4)) : SpcG Try.prog M B0 S (sq1_sock_Ledger_Acquire_v2 y1 y2 w0 w1 w2 w3 w4 w5 c1_0 c1_1 c1_2 c1_3 c1_4) := by
  unfold m_sock_Ledger_Acquire_v2 at e
  replace e := cond_eq_or e
  rcases e with ⟨hq0, e⟩ | ⟨hq0, e⟩
  · cases e
  · replace e := bindO_eq e
    obtain ⟨g0, e_g0, e⟩ := e
    obtain ⟨g0_0, g0_1⟩ := g0
    try dsimp only at e
    replace e := cond_eq_or e
    rcases e with ⟨hq1, e⟩ | ⟨hq1, e⟩
    · injection e with e; injection e with i0 i1 i2 i3 i4; subst i0 i1 i2 i3 i4; exact fn_specG hU (P := Try.prog) Try.func17 (fun xs w => by kernel_rfl) 4 _ _ (fun _ => rfl) _ _ _ [4, 6, 8] [.o, .o, .o, .o, .o, .a 0, .b (z_geqF hq0), .o, .o, .o, .xg (ok0_sock_counting_begin_v3 hU w0 w1 w2 w3 w4 w5 g0_0 g0_1 e_g0) [0, 1, 2, 3], .o, .o, .o, .o, .o, .o, .a 0, .o, .o, .o, .o, .x (sqAppL_ok (ty := 76) rt76 #[false, false] (f := c_Reference) (N := w0) (A := w4) (c := 1) [(⟨y1, y2⟩ : Reference)] (T' := 82) .row c_Reference_len c_Reference_one hq1 rfl (by decide)) [2, 5], .o, .o, .a 0, .o, .o, .o, .a 0, .o, .o, .o, .a 0, .o, .o, .o, .o, .a 0, .o, .o, .o, .o, .x (sqAppL_ok (ty := 37) rt37 #[false, false] (f := c_Event) (N := w0) (A := w5) (c := 1) [(⟨false, (IntKind.i64.wrap (g0_1 + 1)), y1⟩ : Event)] (T' := 63) .row c_Event_len c_Event_one hq1 rfl (by decide)) [3, 7], .o, .o, .a 0, .o, .o, .o] [] (fun b => by kernel_rfl)
    · exact none_some e
inductive R_sock_counting_begin_v4 where
  | e0 (c0_0 : Nat → Int) (c0_1 : Int)
noncomputable def m_sock_counting_begin_v4 (w0 : Nat) (w1 : Nat) (w2 : Int) (w3 : Int) (w4 : Nat) (w5 : Nat → Int) (w6 : Nat → Reference) (w7 : Nat → Event) : Option R_sock_counting_begin_v4 :=
  bif decide (w0 ≤ 1000000) then
    (some (.e0 (updF w5 w0 1) (IntKind.i64.wrap (((w0 + 1) : Int) - 1))))
  else (none)
def sq0_sock_counting_begin_v4 (w0 : Nat) (w1 : Nat) (w2 : Int) (w3 : Int) (w4 : Nat) (w5 : Nat → Int) (w6 : Nat → Reference) (w7 : Nat → Event) (c0_0 : Nat → Int) (c0_1 : Int) : Spc := ⟨fun ls => .call 33 #[.pointer (some ⟨(lget ls 0).n, 0, none⟩)], fun ls => [.cells #[(rowV (lget ls 1) w0 1), (rowV (lget ls 2) w1 2), .int .i64 (w2), .int .i64 (w3), (rowV (lget ls 3) w4 3)] 78, rowO (lget ls 1) (esG cZ w0 w5) 3 w0 1, rowO (lget ls 2) (esG c_Reference w1 w6) 82 w1 2, rowO (lget ls 3) (esG c_Event w4 w7) 63 w4 3], 1, .normal, fun ls => [.int .i64 (c0_1)], fun ls => [.cells #[(rowV (lget ls 4) (w0 + 1) 1), (rowV (lget ls 2) w1 2), .int .i64 (w2), .int .i64 (w3), (rowV (lget ls 3) w4 3)] 78, unb, rowO (lget ls 2) (esG c_Reference w1 w6) 82 w1 2, rowO (lget ls 3) (esG c_Event w4 w7) 63 w4 3], fun ls => [rowO (lget ls 4) (esG cZ (w0 + 1) c0_0) 3 (w0 + 1) 1]⟩
end
section
variable {M : Nat → Prop} {B0 : Nat} {S : World → Prop} (hU : Up M B0 S)
include hU
theorem ok0_sock_counting_begin_v4 (w0 : Nat) (w1 : Nat) (w2 : Int) (w3 : Int) (w4 : Nat) (w5 : Nat → Int) (w6 : Nat → Reference) (w7 : Nat → Event) (c0_0 : Nat → Int) (c0_1 : Int) (e : m_sock_counting_begin_v4 w0 w1 w2 w3 w4 w5 w6 w7 = some (.e0 c0_0 c0_1)) : SpcG Try.prog M B0 S (sq0_sock_counting_begin_v4 w0 w1 w2 w3 w4 w5 w6 w7 c0_0 c0_1) := by
  unfold m_sock_counting_begin_v4 at e
  replace e := cond_eq_or e
  rcases e with ⟨hq0, e⟩ | ⟨hq0, e⟩
  · injection e with e; injection e with i0 i1; subst i0 i1; exact fn_specG hU (P := Try.prog) Try.func33 (fun xs w => by kernel_rfl) 4 _ _ (fun _ => rfl) _ _ _ [5] [.o, .o, .o, .o, .o, .a 0, .o, .x (sqAppL_ok (ty := 56) rt56 #[false, false] (f := cZ) (N := w0) (A := w5) (c := 1) [1] (T' := 3) .row cZ_len cZ_one hq0 rfl (by decide)) [1, 4], .o, .o, .a 0, .o, .o, .o, .a 0, .o, .o, .o] [] (fun b => by kernel_rfl)
  · exact none_some e
inductive R_sock_Ledger_Acquire_v3 where
  | e0 
  | e1 (c1_0 : Nat → Int) (c1_1 : Nat → Reference) (c1_2 : Int) (c1_3 : Nat → Event) (c1_4 : Int)
noncomputable def m_sock_Ledger_Acquire_v3 (y1 : Int) (y2 : Int) (w0 : Nat) (w1 : Nat) (w2 : Int) (w3 : Int) (w4 : Nat) (w5 : Nat → Int) (w6 : Nat → Reference) (w7 : Nat → Event) : Option R_sock_Ledger_Acquire_v3 :=
  bif decide (256 ≤ w2) then
    (some (.e0))
  else ((m_sock_counting_begin_v4 w0 w1 w2 w3 w4 w5 w6 w7).bind fun g0 => match g0 with
  | .e0 g0_0 g0_1 =>
  bif decide (w1 ≤ 1000000) then
    (bif decide (w4 ≤ 1000000) then
      (some (.e1 g0_0 (updF w6 w1 (⟨y1, y2⟩ : Reference)) (IntKind.i64.wrap (w2 + 1)) (updF w7 w4 (⟨false, (IntKind.i64.wrap (g0_1 + 1)), y1⟩ : Event)) (IntKind.i64.wrap (g0_1 + 1))))
    else (none))
  else (none))
def sq0_sock_Ledger_Acquire_v3 (y1 : Int) (y2 : Int) (w0 : Nat) (w1 : Nat) (w2 : Int) (w3 : Int) (w4 : Nat) (w5 : Nat → Int) (w6 : Nat → Reference) (w7 : Nat → Event)  : Spc := ⟨fun ls => .call 17 #[.pointer (some ⟨(lget ls 0).n, 0, none⟩), .int .i64 (y1), .int .i64 (y2)], fun ls => [.cells #[(rowV (lget ls 1) w0 1), (rowV (lget ls 2) w1 2), .int .i64 (w2), .int .i64 (w3), (rowV (lget ls 3) w4 3)] 78, rowO (lget ls 1) (esG cZ w0 w5) 3 w0 1, rowO (lget ls 2) (esG c_Reference w1 w6) 82 w1 2, rowO (lget ls 3) (esG c_Event w4 w7) 63 w4 3], 0, .normal, fun ls => [.tuple #[.int .i64 (0), .bool false]], fun ls => [.cells #[(rowV (lget ls 1) w0 1), (rowV (lget ls 2) w1 2), .int .i64 (w2), .int .i64 (w3), (rowV (lget ls 3) w4 3)] 78, rowO (lget ls 1) (esG cZ w0 w5) 3 w0 1, rowO (lget ls 2) (esG c_Reference w1 w6) 82 w1 2, rowO (lget ls 3) (esG c_Event w4 w7) 63 w4 3], fun ls => []⟩
def sq1_sock_Ledger_Acquire_v3 (y1 : Int) (y2 : Int) (w0 : Nat) (w1 : Nat) (w2 : Int) (w3 : Int) (w4 : Nat) (w5 : Nat → Int) (w6 : Nat → Reference) (w7 : Nat → Event) (c1_0 : Nat → Int) (c1_1 : Nat → Reference) (c1_2 : Int) (c1_3 : Nat → Event) (c1_4 : Int) : Spc := ⟨fun ls => .call 17 #[.pointer (some ⟨(lget ls 0).n, 0, none⟩), .int .i64 (y1), .int .i64 (y2)], fun ls => [.cells #[(rowV (lget ls 1) w0 1), (rowV (lget ls 2) w1 2), .int .i64 (w2), .int .i64 (w3), (rowV (lget ls 3) w4 3)] 78, rowO (lget ls 1) (esG cZ w0 w5) 3 w0 1, rowO (lget ls 2) (esG c_Reference w1 w6) 82 w1 2, rowO (lget ls 3) (esG c_Event w4 w7) 63 w4 3], 3, .normal, fun ls => [.tuple #[.int .i64 (c1_4), .bool true]], fun ls => [.cells #[(rowV (lget ls 4) (w0 + 1) 1), (rowV (lget ls 5) (w1 + 1) 2), .int .i64 (c1_2), .int .i64 (w3), (rowV (lget ls 6) (w4 + 1) 3)] 78, unb, unb, unb], fun ls => [rowO (lget ls 4) (esG cZ (w0 + 1) c1_0) 3 (w0 + 1) 1, rowO (lget ls 5) (esG c_Reference (w1 + 1) c1_1) 82 (w1 + 1) 2, rowO (lget ls 6) (esG c_Event (w4 + 1) c1_3) 63 (w4 + 1) 3]⟩
end
section
variable {M : Nat → Prop} {B0 : Nat} {S : World → Prop} (hU : Up M B0 S) (y1 : Int) (y2 : Int) (w0 : Nat) (w1 : Nat) (w2 : Int) (w3 : Int) (w4 : Nat) (w5 : Nat → Int) (w6 : Nat → Reference) (w7 : Nat → Event)
include hU y1 y2 w0 w1 w2 w3 w4 w5 w6 w7
theorem ok0_sock_Ledger_Acquire_v3 (e : m_sock_Ledger_Acquire_v3 y1 y2 w0 w1 w2 w3 w4 w5 w6 w7 = some (.e0 )) : SpcG Try.prog M B0 S (sq0_sock_Ledger_Acquire_v3 y1 y2 w0 w1 w2 w3 w4 w5 w6 w7 ) := by
  unfold m_sock_Ledger_Acquire_v3 at e
  replace e := cond_eq_or e
  rcases e with ⟨hq0, e⟩ | ⟨hq0, e⟩
  · exact fn_specG hU (P := Try.prog) Try.func17 (fun xs w => by kernel_rfl) 4 _ _ (fun _ => rfl) _ _ _ [] [.o, .o, .o, .o, .o, .a 0, .b (z_geqT hq0), .o, .o] [] (fun b => by kernel_rfl)
  · replace e := bindO_eq e
    obtain ⟨g0, e_g0, e⟩ := e
    obtain ⟨g0_0, g0_1⟩ := g0
    try dsimp only at e
    replace e := cond_eq_or e
    rcases e with ⟨hq1, e⟩ | ⟨hq1, e⟩
    · replace e := cond_eq_or e
      rcases e with ⟨hq2, e⟩ | ⟨hq2, e⟩
      · cases e
      · exact none_some e
    · exact none_some e
theorem ok1_sock_Ledger_Acquire_v3 (c1_0 : Nat → Int) (c1_1 : Nat → Reference) (c1_2 : Int) (c1_3 : Nat → Event) (c1_4 : Int) (e : m_sock_Ledger_Acquire_v3 y1 y2 w0 w1 w2 w3 w4 w5 w6 w7 = some (.e1 c1_0 c1_1 c1_2 c1_3 c1_4)) : SpcG Try.prog M B0 S (sq1_sock_Ledger_Acquire_v3 y1 y2 w0 w1 w2 w3 w4 w5 w6 w7 c1_0 c1_1 c1_2 c1_3 c1_4) := by
  unfold m_sock_Ledger_Acquire_v3 at e
  replace e := cond_eq_or e
  rcases e with ⟨hq0, e⟩ | ⟨hq0, e⟩
  · cases e
  · replace e := bindO_eq e
    obtain ⟨g0, e_g0, e⟩ := e
    obtain ⟨g0_0, g0_1⟩ := g0
    try dsimp only at e
    replace e := cond_eq_or e
    rcases e with ⟨hq1, e⟩ | ⟨hq1, e⟩
    · replace e := cond_eq_or e
      rcases e with ⟨hq2, e⟩ | ⟨hq2, e⟩
      · injection e with e; injection e with i0 i1 i2 i3 i4; subst i0 i1 i2 i3 i4; exact fn_specG hU (P := Try.prog) Try.func17 (fun xs w => by kernel_rfl) 4 _ _ (fun _ => rfl) _ _ _ [4, 6, 8] [.o, .o, .o, .o, .o, .a 0, .b (z_geqF hq0), .o, .o, .o, .xg (ok0_sock_counting_begin_v4 hU w0 w1 w2 w3 w4 w5 w6 w7 g0_0 g0_1 e_g0) [0, 1, 2, 3], .o, .o, .o, .o, .o, .o, .a 0, .o, .o, .o, .o, .x (sqAppL_ok (ty := 76) rt76 #[false, false] (f := c_Reference) (N := w1) (A := w6) (c := 1) [(⟨y1, y2⟩ : Reference)] (T' := 82) .row c_Reference_len c_Reference_one hq1 rfl (by decide)) [2, 5], .o, .o, .a 0, .o, .o, .o, .a 0, .o, .o, .o, .a 0, .o, .o, .o, .o, .a 0, .o, .o, .o, .o, .x (sqAppL_ok (ty := 37) rt37 #[false, false] (f := c_Event) (N := w4) (A := w7) (c := 1) [(⟨false, (IntKind.i64.wrap (g0_1 + 1)), y1⟩ : Event)] (T' := 63) .row c_Event_len c_Event_one hq2 rfl (by decide)) [3, 7], .o, .o, .a 0, .o, .o, .o] [] (fun b => by kernel_rfl)
      · exact none_some e
    · exact none_some e
inductive R_sock_counting_counted_v6 where
  | e0 
noncomputable def m_sock_counting_counted_v6 (y1 : Int) (w0 : Int) : Option R_sock_counting_counted_v6 :=
  bif decide (y1 < 0) then
    (some (.e0))
  else (bif decide (0 ≤ y1) then
    (some (.e0))
  else (none))
def sq0_sock_counting_counted_v6 (y1 : Int) (w0 : Int)  : Spc := ⟨fun ls => .call 34 #[.pointer (some ⟨(lget ls 0).n, 0, none⟩), .int .i64 (y1)], fun ls => [.cells #[.slice none 0 0, .slice none 0 0, .int .i64 (w0), .int .i64 (w0), .slice none 0 0] 78], 0, .normal, fun ls => [.int .i64 (0)], fun ls => [.cells #[.slice none 0 0, .slice none 0 0, .int .i64 (w0), .int .i64 (w0), .slice none 0 0] 78], fun ls => []⟩
end
section
variable {M : Nat → Prop} {B0 : Nat} {S : World → Prop} (hU : Up M B0 S) (y1 : Int) (w0 : Int)
include hU y1 w0
theorem ok0_sock_counting_counted_v6 (e : m_sock_counting_counted_v6 y1 w0 = some (.e0 )) : SpcG Try.prog M B0 S (sq0_sock_counting_counted_v6 y1 w0 ) := by
  unfold m_sock_counting_counted_v6 at e
  replace e := cond_eq_or e
  rcases e with ⟨hq0, e⟩ | ⟨hq0, e⟩
  · exact fn_specG hU (P := Try.prog) Try.func34 (fun xs w => by kernel_rfl) 1 _ _ (fun _ => rfl) _ _ _ [] [.o, .o, .b (z_lssT hq0), .o, .o, .o] [] (fun b => by kernel_rfl)
  · replace e := cond_eq_or e
    rcases e with ⟨hq1, e⟩ | ⟨hq1, e⟩
    · exact fn_specG hU (P := Try.prog) Try.func34 (fun xs w => by kernel_rfl) 1 _ _ (fun _ => rfl) _ _ _ [] [.o, .o, .b (z_lssF hq0), .o, .o, .o, .o, .o, .a 0, .o, .b (z_geqT hq1), .o, .o] [] (fun b => by kernel_rfl)
    · exact none_some e
inductive R_sock_Ledger_What_v2 where
  | e0 
noncomputable def m_sock_Ledger_What_v2 (y1 : Int) (w0 : Int) : Option R_sock_Ledger_What_v2 :=
  bif decide (y1 < 1) then
    (some (.e0))
  else ((m_sock_counting_counted_v6 (IntKind.i64.wrap (y1 - 1)) w0).bind fun g0 => match g0 with
  | .e0 =>
  some (.e0))
def sq0_sock_Ledger_What_v2 (y1 : Int) (w0 : Int)  : Spc := ⟨fun ls => .call 21 #[.pointer (some ⟨(lget ls 0).n, 0, none⟩), .int .i64 (y1)], fun ls => [.cells #[.slice none 0 0, .slice none 0 0, .int .i64 (w0), .int .i64 (w0), .slice none 0 0] 78], 0, .normal, fun ls => [.tuple #[.int .i64 (0), .int .i64 (0), .bool false]], fun ls => [.cells #[.slice none 0 0, .slice none 0 0, .int .i64 (w0), .int .i64 (w0), .slice none 0 0] 78], fun ls => []⟩
theorem ok0_sock_Ledger_What_v2 (e : m_sock_Ledger_What_v2 y1 w0 = some (.e0 )) : SpcG Try.prog M B0 S (sq0_sock_Ledger_What_v2 y1 w0 ) := by
  unfold m_sock_Ledger_What_v2 at e
  replace e := cond_eq_or e
  rcases e with ⟨hq0, e⟩ | ⟨hq0, e⟩
  · exact fn_specG hU (P := Try.prog) Try.func21 (fun xs w => by kernel_rfl) 1 _ _ (fun _ => rfl) _ _ _ [] [.o, .o, .o, .o, .b (z_lssT hq0), .o, .o, .o, .o, .o] [] (fun b => by kernel_rfl)
  · replace e := bindO_eq e
    obtain ⟨g0, e_g0, e⟩ := e
    cases g0
    try dsimp only at e
    exact fn_specG hU (P := Try.prog) Try.func21 (fun xs w => by kernel_rfl) 1 _ _ (fun _ => rfl) _ _ _ [] [.o, .o, .o, .o, .b (z_lssF hq0), .o, .o, .o, .o, .o, .o, .xg (ok0_sock_counting_counted_v6 hU (IntKind.i64.wrap (y1 - 1)) w0  e_g0) [0], .o, .o, .o, .o, .o] [] (fun b => by kernel_rfl)
inductive R_sock_Ledger_Release_v2 where
  | e0 
noncomputable def m_sock_Ledger_Release_v2 (y1 : Int) (y2 : Int) (w0 : Int) : Option R_sock_Ledger_Release_v2 :=
  (m_sock_Ledger_What_v2 y1 w0).bind fun g0 => match g0 with
  | .e0 =>
  some (.e0)
def sq0_sock_Ledger_Release_v2 (y1 : Int) (y2 : Int) (w0 : Int)  : Spc := ⟨fun ls => .call 19 #[.pointer (some ⟨(lget ls 0).n, 0, none⟩), .int .i64 (y1), .int .i64 (y2)], fun ls => [.cells #[.slice none 0 0, .slice none 0 0, .int .i64 (w0), .int .i64 (w0), .slice none 0 0] 78], 0, .normal, fun ls => [.tuple #[.int .i64 (0), .int .i64 (110)]], fun ls => [.cells #[.slice none 0 0, .slice none 0 0, .int .i64 (w0), .int .i64 (w0), .slice none 0 0] 78], fun ls => []⟩
end
section
variable {M : Nat → Prop} {B0 : Nat} {S : World → Prop} (hU : Up M B0 S) (y1 : Int)
include hU y1
theorem ok0_sock_Ledger_Release_v2 (y2 : Int) (w0 : Int) (e : m_sock_Ledger_Release_v2 y1 y2 w0 = some (.e0 )) : SpcG Try.prog M B0 S (sq0_sock_Ledger_Release_v2 y1 y2 w0 ) := by
  unfold m_sock_Ledger_Release_v2 at e
  replace e := bindO_eq e
  obtain ⟨g0, e_g0, e⟩ := e
  cases g0
  try dsimp only at e
  exact fn_specG hU (P := Try.prog) Try.func19 (fun xs w => by kernel_rfl) 1 _ _ (fun _ => rfl) _ _ _ [] [.o, .o, .o, .o, .xg (ok0_sock_Ledger_What_v2 hU y1 w0  e_g0) [0], .o, .o, .o, .o, .o, .o, .o, .o, .o, .o, .o] [] (fun b => by kernel_rfl)
inductive R_sock_counting_counted_v7 where
  | e0 (c0_0 : Int)
noncomputable def m_sock_counting_counted_v7 (y1 : Int) (w0 : Nat) (w1 : Int) (w2 : Int) (w3 : Nat → Int) (w4 : Nat → Reference) (w5 : Nat → Event) : Option R_sock_counting_counted_v7 :=
  bif decide (y1 < 0) then
    (some (.e0 0))
  else (bif decide ((w0 : Int) ≤ y1) then
    (some (.e0 0))
  else (bif inR y1 w0 then
    (some (.e0 (w3 (y1).toNat)))
  else (none)))
def sq0_sock_counting_counted_v7 (y1 : Int) (w0 : Nat) (w1 : Int) (w2 : Int) (w3 : Nat → Int) (w4 : Nat → Reference) (w5 : Nat → Event) (c0_0 : Int) : Spc := ⟨fun ls => .call 34 #[.pointer (some ⟨(lget ls 0).n, 0, none⟩), .int .i64 (y1)], fun ls => [.cells #[(rowV (lget ls 1) w0 1), (rowV (lget ls 2) w0 2), .int .i64 (w1), .int .i64 (w2), (rowV (lget ls 3) w0 3)] 78, rowO (lget ls 1) (esG cZ w0 w3) 3 w0 1, rowO (lget ls 2) (esG c_Reference w0 w4) 82 w0 2, rowO (lget ls 3) (esG c_Event w0 w5) 63 w0 3], 0, .normal, fun ls => [.int .i64 (c0_0)], fun ls => [.cells #[(rowV (lget ls 1) w0 1), (rowV (lget ls 2) w0 2), .int .i64 (w1), .int .i64 (w2), (rowV (lget ls 3) w0 3)] 78, rowO (lget ls 1) (esG cZ w0 w3) 3 w0 1, rowO (lget ls 2) (esG c_Reference w0 w4) 82 w0 2, rowO (lget ls 3) (esG c_Event w0 w5) 63 w0 3], fun ls => []⟩
end
section
variable {M : Nat → Prop} {B0 : Nat} {S : World → Prop} (hU : Up M B0 S) (y1 : Int) (w0 : Nat) (w1 : Int) (w2 : Int) (w3 : Nat → Int) (w4 : Nat → Reference) (w5 : Nat → Event) (c0_0 : Int)
include hU y1 w0 w1 w2 w3 w4 w5 c0_0
theorem ok0_sock_counting_counted_v7 (e : m_sock_counting_counted_v7 y1 w0 w1 w2 w3 w4 w5 = some (.e0 c0_0)) : SpcG Try.prog M B0 S (sq0_sock_counting_counted_v7 y1 w0 w1 w2 w3 w4 w5 c0_0) := by
  unfold m_sock_counting_counted_v7 at e
  replace e := cond_eq_or e
  rcases e with ⟨hq0, e⟩ | ⟨hq0, e⟩
  · injection e with e; injection e with i0; subst i0; exact fn_specG hU (P := Try.prog) Try.func34 (fun xs w => by kernel_rfl) 4 _ _ (fun _ => rfl) _ _ _ [] [.o, .o, .b (z_lssT hq0), .o, .o, .o] [] (fun b => by kernel_rfl)
  · replace e := cond_eq_or e
    rcases e with ⟨hq1, e⟩ | ⟨hq1, e⟩
    · injection e with e; injection e with i0; subst i0; exact fn_specG hU (P := Try.prog) Try.func34 (fun xs w => by kernel_rfl) 4 _ _ (fun _ => rfl) _ _ _ [] [.o, .o, .b (z_lssF hq0), .o, .o, .o, .o, .o, .a 0, .o, .b (z_geqT hq1), .o, .o] [] (fun b => by kernel_rfl)
    · replace e := cond_eq_or e
      rcases e with ⟨hq2, e⟩ | ⟨hq2, e⟩
      · injection e with e; injection e with i0; subst i0; exact fn_specG hU (P := Try.prog) Try.func34 (fun xs w => by kernel_rfl) 4 _ _ (fun _ => rfl) _ _ _ [] [.o, .o, .b (z_lssF hq0), .o, .o, .o, .o, .o, .a 0, .o, .b (z_geqF hq1), .o, .o, .o, .o, .a 0, .o, .q (ixM_ok (kd := .i64) (T := 56) (x := y1) (N := w0) (sz := 1) rfl (fun w => by kernel_rfl) hq2), .l (accG (i := 1) (f := cZ) (A := w3) (k := (y1).toNat) 0 [.int .i64 ((w3 (y1).toNat))] cZ_len (inR_nat hq2) rfl), .o] [] (fun b => by kernel_rfl)
      · exact none_some e
inductive R_sock_Ledger_What_v3 where
  | e0 (c0_0 : Int) (c0_1 : Int) (c0_2 : Bool)
noncomputable def m_sock_Ledger_What_v3 (y1 : Int) (w0 : Nat) (w1 : Int) (w2 : Int) (w3 : Nat → Int) (w4 : Nat → Reference) (w5 : Nat → Event) : Option R_sock_Ledger_What_v3 :=
  bif decide (y1 < 1) then
    (some (.e0 0 0 false))
  else ((m_sock_counting_counted_v7 (IntKind.i64.wrap (y1 - 1)) w0 w1 w2 w3 w4 w5).bind fun g0 => match g0 with
  | .e0 g0_0 =>
  bif g0_0 == 0 then
    (some (.e0 0 0 false))
  else (bif inR (IntKind.i64.wrap (y1 - 1)) w0 then
    (some (.e0 ((w4 ((IntKind.i64.wrap (y1 - 1))).toNat)).fhelper ((w4 ((IntKind.i64.wrap (y1 - 1))).toNat)).fwhat true))
  else (none)))
def sq0_sock_Ledger_What_v3 (y1 : Int) (w0 : Nat) (w1 : Int) (w2 : Int) (w3 : Nat → Int) (w4 : Nat → Reference) (w5 : Nat → Event) (c0_0 : Int) (c0_1 : Int) (c0_2 : Bool) : Spc := ⟨fun ls => .call 21 #[.pointer (some ⟨(lget ls 0).n, 0, none⟩), .int .i64 (y1)], fun ls => [.cells #[(rowV (lget ls 1) w0 1), (rowV (lget ls 2) w0 2), .int .i64 (w1), .int .i64 (w2), (rowV (lget ls 3) w0 3)] 78, rowO (lget ls 1) (esG cZ w0 w3) 3 w0 1, rowO (lget ls 2) (esG c_Reference w0 w4) 82 w0 2, rowO (lget ls 3) (esG c_Event w0 w5) 63 w0 3], 0, .normal, fun ls => [.tuple #[.int .i64 (c0_0), .int .i64 (c0_1), .bool (c0_2)]], fun ls => [.cells #[(rowV (lget ls 1) w0 1), (rowV (lget ls 2) w0 2), .int .i64 (w1), .int .i64 (w2), (rowV (lget ls 3) w0 3)] 78, rowO (lget ls 1) (esG cZ w0 w3) 3 w0 1, rowO (lget ls 2) (esG c_Reference w0 w4) 82 w0 2, rowO (lget ls 3) (esG c_Event w0 w5) 63 w0 3], fun ls => []⟩
theorem ok0_sock_Ledger_What_v3 (c0_1 : Int) (c0_2 : Bool) (e : m_sock_Ledger_What_v3 y1 w0 w1 w2 w3 w4 w5 = some (.e0 c0_0 c0_1 c0_2)) : SpcG Try.prog M B0 S (sq0_sock_Ledger_What_v3 y1 w0 w1 w2 w3 w4 w5 c0_0 c0_1 c0_2) := by
  unfold m_sock_Ledger_What_v3 at e
  replace e := cond_eq_or e
  rcases e with ⟨hq0, e⟩ | ⟨hq0, e⟩
  · injection e with e; injection e with i0 i1 i2; subst i0 i1 i2; exact fn_specG hU (P := Try.prog) Try.func21 (fun xs w => by kernel_rfl) 4 _ _ (fun _ => rfl) _ _ _ [] [.o, .o, .o, .o, .b (z_lssT hq0), .o, .o, .o, .o, .o] [] (fun b => by kernel_rfl)
  · replace e := bindO_eq e
    obtain ⟨g0, e_g0, e⟩ := e
    obtain ⟨g0_0⟩ := g0
    try dsimp only at e
    replace e := cond_eq_or e
    rcases e with ⟨hq1, e⟩ | ⟨hq1, e⟩
    · injection e with e; injection e with i0 i1 i2; subst i0 i1 i2; exact fn_specG hU (P := Try.prog) Try.func21 (fun xs w => by kernel_rfl) 4 _ _ (fun _ => rfl) _ _ _ [] [.o, .o, .o, .o, .b (z_lssF hq0), .o, .o, .o, .o, .o, .o, .xg (ok0_sock_counting_counted_v7 hU (IntKind.i64.wrap (y1 - 1)) w0 w1 w2 w3 w4 w5 g0_0 e_g0) [0, 1, 2, 3], .b (z_eqlT hq1), .o, .o, .o, .o] [] (fun b => by kernel_rfl)
    · replace e := cond_eq_or e
      rcases e with ⟨hq2, e⟩ | ⟨hq2, e⟩
      · injection e with e; injection e with i0 i1 i2; subst i0 i1 i2; exact fn_specG hU (P := Try.prog) Try.func21 (fun xs w => by kernel_rfl) 4 _ _ (fun _ => rfl) _ _ _ [] [.o, .o, .o, .o, .b (z_lssF hq0), .o, .o, .o, .o, .o, .o, .xg (ok0_sock_counting_counted_v7 hU (IntKind.i64.wrap (y1 - 1)) w0 w1 w2 w3 w4 w5 g0_0 e_g0) [0, 1, 2, 3], .b (z_eqlF hq1), .o, .o, .o, .o, .a 0, .o, .o, .q (ixM_ok (kd := .i64) (T := 76) (x := (IntKind.i64.wrap (y1 - 1))) (N := w0) (sz := 2) rfl (fun w => by kernel_rfl) hq2), .l (accG (i := 2) (f := c_Reference) (A := w4) (k := ((IntKind.i64.wrap (y1 - 1))).toNat) 0 [.int .i64 (((w4 ((IntKind.i64.wrap (y1 - 1))).toNat)).fhelper), .int .i64 (((w4 ((IntKind.i64.wrap (y1 - 1))).toNat)).fwhat)] c_Reference_len (inR_nat hq2) rfl), .o, .a 4, .r [0, 1, 2, 3, 4, 5, 6] [] [], .o, .a 4, .o, .a 4, .o, .o, .o] [] (fun b => by kernel_rfl)
      · exact none_some e
inductive R_sock_counting_change_v3 where
  | e0 (c0_0 : Nat → Int)
noncomputable def m_sock_counting_change_v3 (y1 : Int) (y2 : Int) (w0 : Nat) (w1 : Int) (w2 : Int) (w3 : Nat → Int) (w4 : Nat → Reference) (w5 : Nat → Event) : Option R_sock_counting_change_v3 :=
  bif inR y1 w0 then
    (some (.e0 (updF w3 (y1).toNat (IntKind.i64.wrap ((w3 (y1).toNat) + y2)))))
  else (none)
def sq0_sock_counting_change_v3 (y1 : Int) (y2 : Int) (w0 : Nat) (w1 : Int) (w2 : Int) (w3 : Nat → Int) (w4 : Nat → Reference) (w5 : Nat → Event) (c0_0 : Nat → Int) : Spc := ⟨fun ls => .call 35 #[.pointer (some ⟨(lget ls 0).n, 0, none⟩), .int .i64 (y1), .int .i64 (y2)], fun ls => [.cells #[(rowV (lget ls 1) w0 1), (rowV (lget ls 2) w0 2), .int .i64 (w1), .int .i64 (w2), (rowV (lget ls 3) w0 3)] 78, rowO (lget ls 1) (esG cZ w0 w3) 3 w0 1, rowO (lget ls 2) (esG c_Reference w0 w4) 82 w0 2, rowO (lget ls 3) (esG c_Event w0 w5) 63 w0 3], 0, .normal, fun ls => [.tuple #[]], fun ls => [.cells #[(rowV (lget ls 1) w0 1), (rowV (lget ls 2) w0 2), .int .i64 (w1), .int .i64 (w2), (rowV (lget ls 3) w0 3)] 78, rowO (lget ls 1) (esG cZ w0 c0_0) 3 w0 1, rowO (lget ls 2) (esG c_Reference w0 w4) 82 w0 2, rowO (lget ls 3) (esG c_Event w0 w5) 63 w0 3], fun ls => []⟩
end
section
variable {M : Nat → Prop} {B0 : Nat} {S : World → Prop} (hU : Up M B0 S) (y1 : Int) (y2 : Int) (w0 : Nat) (w1 : Int) (w2 : Int) (w3 : Nat → Int) (w4 : Nat → Reference) (w5 : Nat → Event)
include hU y1 y2 w0 w1 w2 w3 w4 w5
theorem ok0_sock_counting_change_v3 (c0_0 : Nat → Int) (e : m_sock_counting_change_v3 y1 y2 w0 w1 w2 w3 w4 w5 = some (.e0 c0_0)) : SpcG Try.prog M B0 S (sq0_sock_counting_change_v3 y1 y2 w0 w1 w2 w3 w4 w5 c0_0) := by
  unfold m_sock_counting_change_v3 at e
  replace e := cond_eq_or e
  rcases e with ⟨hq0, e⟩ | ⟨hq0, e⟩
  · injection e with e; injection e with i0; subst i0; exact fn_specG hU (P := Try.prog) Try.func35 (fun xs w => by kernel_rfl) 4 _ _ (fun _ => rfl) _ _ _ [] [.o, .o, .o, .a 0, .o, .q (ixM_ok (kd := .i64) (T := 56) (x := y1) (N := w0) (sz := 1) rfl (fun w => by kernel_rfl) hq0), .l (accG (i := 1) (f := cZ) (A := w3) (k := (y1).toNat) 0 [.int .i64 ((w3 (y1).toNat))] cZ_len (inR_nat hq0) rfl), .o, .o, .q (ixM_ok (kd := .i64) (T := 56) (x := y1) (N := w0) (sz := 1) rfl (fun w => by kernel_rfl) hq0), .x (sqStG_ok (T := 3) (e := 3) (f := cZ) (A := w3) (v := (IntKind.i64.wrap ((w3 (y1).toNat) + y2))) 0 (.int .i64 ((IntKind.i64.wrap ((w3 (y1).toNat) + y2)))) cZ_len cZ_one rfl rfl (fun w => by kernel_rfl) (inR_nat hq0)) [1]] [] (fun b => by kernel_rfl)
  · exact none_some e
inductive Sh_sock_Ledger_Release_v3_L0 where
  | c0 (s0_0 : Int)
inductive Ex_sock_Ledger_Release_v3_L0 where
  | e0 (c0_0 : Int) (c0_1 : Int)
noncomputable def st_sock_Ledger_Release_v3_L0 (w0 : Nat) (w1 : Int) (w4 : Nat → Reference) (w5 : Nat → Event) (g1_0 : Nat → Int) : Sh_sock_Ledger_Release_v3_L0 → Option (Sh_sock_Ledger_Release_v3_L0 ⊕ Ex_sock_Ledger_Release_v3_L0)
  | .c0 s0_0 =>
    bif decide (s0_0 < (w0 : Int)) then
      ((m_sock_counting_counted_v7 s0_0 w0 (IntKind.i64.wrap (w1 - 1)) s0_0 g1_0 w4 w5).bind fun gb0 => match gb0 with
      | .e0 gb0_0 =>
      bif gb0_0 == 0 then
        (some (.inl (.c0 (IntKind.i64.wrap (s0_0 + 1)))))
      else (some (.inr (.e0 (IntKind.i64.wrap (w1 - 1)) s0_0))))
    else (some (.inr (.e0 (IntKind.i64.wrap (w1 - 1)) s0_0)))
noncomputable def bd_sock_Ledger_Release_v3_L0 : Code := codeOf Try.f19 [1, 1, 1, 1, 1, 0, 0, 0]
def fl_sock_Ledger_Release_v3_L0 (y1 : Int) (y2 : Int) (w0 : Nat) (w1 : Int) (w2 : Int) (w3 : Nat → Int) (w4 : Nat → Reference) (w5 : Nat → Event) (g0_0 : Int) (g0_1 : Int) (g0_2 : Bool) (g1_0 : Nat → Int) : Sh_sock_Ledger_Release_v3_L0 → List L1 → List Value
  | .c0 s0_0, ls => [.pointer (some ⟨(lget ls 0).n, 0, none⟩), .int .i64 (y1), .int .i64 (y2), .int .i64 (0), .int .i64 (0), .int .i64 (g0_1)]
def mf_sock_Ledger_Release_v3_L0 : Sh_sock_Ledger_Release_v3_L0 → List (Nat × Nat)
  | .c0 _ => [(3, 3), (2, 1), (1, 64)]
noncomputable def fr_sock_Ledger_Release_v3_L0 (y1 : Int) (y2 : Int) (w0 : Nat) (w1 : Int) (w2 : Int) (w3 : Nat → Int) (w4 : Nat → Reference) (w5 : Nat → Event) (g0_0 : Int) (g0_1 : Int) (g0_2 : Bool) (g1_0 : Nat → Int) (s : Sh_sock_Ledger_Release_v3_L0) : List L1 → List Value := mrgF (mf_sock_Ledger_Release_v3_L0 s) (fl_sock_Ledger_Release_v3_L0 y1 y2 w0 w1 w2 w3 w4 w5 g0_0 g0_1 g0_2 g1_0 s) 4
def Hs_sock_Ledger_Release_v3_L0 (y1 : Int) (y2 : Int) (w0 : Nat) (w1 : Int) (w2 : Int) (w3 : Nat → Int) (w4 : Nat → Reference) (w5 : Nat → Event) (g0_0 : Int) (g0_1 : Int) (g0_2 : Bool) (g1_0 : Nat → Int) : Sh_sock_Ledger_Release_v3_L0 → List L1 → List Obj
  | .c0 s0_0, ls => [.cells #[(rowV (lget ls 1) w0 1), (rowV (lget ls 2) w0 2), .int .i64 ((IntKind.i64.wrap (w1 - 1))), .int .i64 (s0_0), (rowV (lget ls 3) w0 3)] 78, rowO (lget ls 1) (esG cZ w0 g1_0) 3 w0 1, rowO (lget ls 2) (esG c_Reference w0 w4) 82 w0 2, rowO (lget ls 3) (esG c_Event w0 w5) 63 w0 3, unb]
def vl_sock_Ledger_Release_v3_L0 (y1 : Int) (y2 : Int) (w0 : Nat) (w1 : Int) (w2 : Int) (w3 : Nat → Int) (w4 : Nat → Reference) (w5 : Nat → Event) (g0_0 : Int) (g0_1 : Int) (g0_2 : Bool) (g1_0 : Nat → Int) : Ex_sock_Ledger_Release_v3_L0 → List L1 → List Value
  | .e0 c0_0 c0_1, ls => [.pointer (some ⟨(lget ls 0).n, 0, none⟩), .int .i64 (y1), .int .i64 (y2), .int .i64 (0), .int .i64 (0), .int .i64 (g0_1)]
def mk_sock_Ledger_Release_v3_L0 : Ex_sock_Ledger_Release_v3_L0 → List (Nat × Nat)
  | .e0 _ _ => [(3, 3), (2, 1), (1, 64)]
noncomputable def vf_sock_Ledger_Release_v3_L0 (y1 : Int) (y2 : Int) (w0 : Nat) (w1 : Int) (w2 : Int) (w3 : Nat → Int) (w4 : Nat → Reference) (w5 : Nat → Event) (g0_0 : Int) (g0_1 : Int) (g0_2 : Bool) (g1_0 : Nat → Int) (r : Ex_sock_Ledger_Release_v3_L0) : List L1 → List Value := mrgF (mk_sock_Ledger_Release_v3_L0 r) (vl_sock_Ledger_Release_v3_L0 y1 y2 w0 w1 w2 w3 w4 w5 g0_0 g0_1 g0_2 g1_0 r) 4
def Hf_sock_Ledger_Release_v3_L0 (y1 : Int) (y2 : Int) (w0 : Nat) (w1 : Int) (w2 : Int) (w3 : Nat → Int) (w4 : Nat → Reference) (w5 : Nat → Event) (g0_0 : Int) (g0_1 : Int) (g0_2 : Bool) (g1_0 : Nat → Int) : Ex_sock_Ledger_Release_v3_L0 → List L1 → List Obj
  | .e0 c0_0 c0_1, ls => [.cells #[(rowV (lget ls 1) w0 1), (rowV (lget ls 2) w0 2), .int .i64 (c0_0), .int .i64 (c0_1), (rowV (lget ls 3) w0 3)] 78, rowO (lget ls 1) (esG cZ w0 g1_0) 3 w0 1, rowO (lget ls 2) (esG c_Reference w0 w4) 82 w0 2, rowO (lget ls 3) (esG c_Event w0 w5) 63 w0 3, unb]
def ex_sock_Ledger_Release_v3_L0 : Ex_sock_Ledger_Release_v3_L0 → Ex
  | .e0 _ _ => (.exit 0)
theorem go_sock_Ledger_Release_v3_L0 (g0_0 : Int) (g0_1 : Int) (g0_2 : Bool) (g1_0 : Nat → Int) (s : Sh_sock_Ledger_Release_v3_L0) (r : Ex_sock_Ledger_Release_v3_L0) (h : lpO (st_sock_Ledger_Release_v3_L0 w0 w1 w4 w5 g1_0) s = some r) : GoesG Try.prog M B0 S (.loop bd_sock_Ledger_Release_v3_L0) 5 (fr_sock_Ledger_Release_v3_L0 y1 y2 w0 w1 w2 w3 w4 w5 g0_0 g0_1 g0_2 g1_0 s) (Hs_sock_Ledger_Release_v3_L0 y1 y2 w0 w1 w2 w3 w4 w5 g0_0 g0_1 g0_2 g1_0 s) (ex_sock_Ledger_Release_v3_L0 r) 4 (vf_sock_Ledger_Release_v3_L0 y1 y2 w0 w1 w2 w3 w4 w5 g0_0 g0_1 g0_2 g1_0 r) (Hf_sock_Ledger_Release_v3_L0 y1 y2 w0 w1 w2 w3 w4 w5 g0_0 g0_1 g0_2 g1_0 r) 5 :=
  goes_lpO (fun s q e => by
    cases s with
    | c0 s0_0 =>
      unfold st_sock_Ledger_Release_v3_L0 at e
      dsimp only at e
      replace e := cond_eq_or e
      rcases e with ⟨hq0, e⟩ | ⟨hq0, e⟩
      · replace e := bindO_eq e
        obtain ⟨gb0, e_gb0, e⟩ := e
        obtain ⟨gb0_0⟩ := gb0
        try dsimp only at e
        replace e := cond_eq_or e
        rcases e with ⟨hq1, e⟩ | ⟨hq1, e⟩
        · cases e; exact goes_runM hU [.r [0, 1, 2, 3, 4, 5, 6, 7, 8, 9, 10, 11, 12, 13, 14, 15, 16, 17] [] [18, 19, 20], .o, .o, .o, .a 0, .o, .o, .o, .a 0, .o, .b (z_lssT hq0), .o, .o, .o, .o, .o, .o, .o, .a 0, .xg (ok0_sock_counting_counted_v7 hU s0_0 w0 (IntKind.i64.wrap (w1 - 1)) s0_0 g1_0 w4 w5 gb0_0 e_gb0) [0, 1, 2, 3], .b (z_eqlT hq1), .o, .o, .o, .o, .a 0, .o, .o, .o, .a 0] [0, 1, 2, 3] (fun b => rfl) (by decide) rfl rfl (fun b => by kernel_rfl)
        · cases e; exact ⟨ne_exit 0, goes_runM hU [.r [0, 1, 2, 3, 4, 5, 6, 7, 8, 9, 10, 11, 12, 13, 14, 15, 16, 17] [] [18, 19, 20], .o, .o, .o, .a 0, .o, .o, .o, .a 0, .o, .b (z_lssT hq0), .o, .o, .o, .o, .o, .o, .o, .a 0, .xg (ok0_sock_counting_counted_v7 hU s0_0 w0 (IntKind.i64.wrap (w1 - 1)) s0_0 g1_0 w4 w5 gb0_0 e_gb0) [0, 1, 2, 3], .b (z_eqlF hq1), .o] [0, 1, 2, 3] (fun b => rfl) (by decide) rfl rfl (fun b => by kernel_rfl)⟩
      · cases e; exact ⟨ne_exit 0, goes_runM hU [.r [0, 1, 2, 3, 4, 5, 6, 7, 8, 9, 10, 11, 12, 13, 14, 15, 16, 17] [] [18, 19, 20], .o, .o, .o, .a 0, .o, .o, .o, .a 0, .o, .b (z_lssF hq0), .o, .o] [0, 1, 2, 3] (fun b => rfl) (by decide) rfl rfl (fun b => by kernel_rfl)⟩) s r h
noncomputable def t0_sock_Ledger_Release_v3_L0_0 (y1 : Int) (y2 : Int) (w0 : Nat) (w1 : Int) (w2 : Int) (w3 : Nat → Int) (w4 : Nat → Reference) (w5 : Nat → Event) (g0_0 : Int) (g0_1 : Int) (g0_2 : Bool) (g1_0 : Nat → Int) (s0_0 : Int) (ls : List L1) : List Value := List.append [.pointer (some ⟨(lget ls 0).n, 0, none⟩), .int .i64 (y1), .int .i64 (y2), undef, undef, undef, .int .i64 (0), .int .i64 (0), .int .i64 (g0_0), .int .i64 (g0_1), .bool true, .tuple #[.int .i64 (g0_0), .int .i64 (g0_1), .bool (g0_2)], .pointer (some ⟨(lget ls 0).n, 0, none⟩), .int .i64 (y1), .tuple #[.int .i64 (g0_0), .int .i64 (g0_1), .bool (g0_2)], .int .i64 (g0_0), .int .i64 (g0_1), .bool true, .bool true, .bool false, .pointer (some ⟨(lget ls 0).n, 0, none⟩), .pointer (some ⟨(lget ls 0).n, 0, none⟩), .pointer (some ⟨(lget ls 0).n, 0, none⟩), .int .i64 (y1), .int .i64 ((IntKind.i64.wrap (y1 - 1))), .tuple #[], .pointer (some ⟨(lget ls 0).n, 0, none⟩), .pointer (some ⟨(lget ls 0).n, 0, none⟩), .pointer (some ⟨(lget ls 0).n, 2, none⟩), .int .i64 (w1), .int .i64 ((IntKind.i64.wrap (w1 - 1))), .pointer (some ⟨(lget ls 0).n, 0, none⟩), .pointer (some ⟨(lget ls 0).n, 2, none⟩)] (und 41)
def pre_sock_Ledger_Release_v3_L0_0 (y1 : Int) (y2 : Int) (w0 : Nat) (w1 : Int) (w2 : Int) (w3 : Nat → Int) (w4 : Nat → Reference) (w5 : Nat → Event) (g0_0 : Int) (g0_1 : Int) (g0_2 : Bool) (g1_0 : Nat → Int) (s0_0 : Int) (ls : List L1) : List Obj := [.cells #[(rowV (lget ls 1) w0 1), (rowV (lget ls 2) w0 2), .int .i64 ((IntKind.i64.wrap (w1 - 1))), .int .i64 (s0_0), (rowV (lget ls 3) w0 3)] 78, rowO (lget ls 1) (esG cZ w0 g1_0) 3 w0 1, rowO (lget ls 2) (esG c_Reference w0 w4) 82 w0 2, rowO (lget ls 3) (esG c_Event w0 w5) 63 w0 3]
theorem sp0_sock_Ledger_Release_v3_L0_0_ok (g0_0 : Int) (g0_1 : Int) (g0_2 : Bool) (g1_0 : Nat → Int) (s0_0 : Int) (c0_0 : Int) (c0_1 : Int) (h : lpO (st_sock_Ledger_Release_v3_L0 w0 w1 w4 w5 g1_0) (.c0 s0_0) = some (.e0 c0_0 c0_1)) : SpcG Try.prog M B0 S ⟨fun ls => .code (.loop bd_sock_Ledger_Release_v3_L0) (t0_sock_Ledger_Release_v3_L0_0 y1 y2 w0 w1 w2 w3 w4 w5 g0_0 g0_1 g0_2 g1_0 s0_0 ls), pre_sock_Ledger_Release_v3_L0_0 y1 y2 w0 w1 w2 w3 w4 w5 g0_0 g0_1 g0_2 g1_0 s0_0, 1, (.exit 0), fun ls => vf_sock_Ledger_Release_v3_L0 y1 y2 w0 w1 w2 w3 w4 w5 g0_0 g0_1 g0_2 g1_0 (.e0 c0_0 c0_1) (ls.take 4 ++ ls.drop 4), fun ls => (Hf_sock_Ledger_Release_v3_L0 y1 y2 w0 w1 w2 w3 w4 w5 g0_0 g0_1 g0_2 g1_0 (.e0 c0_0 c0_1) (ls.take 4 ++ ls.drop 4)).take 4 ++ List.replicate 0 unb, fun ls => (Hf_sock_Ledger_Release_v3_L0 y1 y2 w0 w1 w2 w3 w4 w5 g0_0 g0_1 g0_2 g1_0 (.e0 c0_0 c0_1) (ls.take 4 ++ ls.drop 4)).drop 4⟩ :=
  spc_of_goesM hU 0 (k0 := 4) (go_sock_Ledger_Release_v3_L0 hU y1 y2 w0 w1 w2 w3 w4 w5 g0_0 g0_1 g0_2 g1_0 _ _ h) (t0_sock_Ledger_Release_v3_L0_0 y1 y2 w0 w1 w2 w3 w4 w5 g0_0 g0_1 g0_2 g1_0 s0_0) (pre_sock_Ledger_Release_v3_L0_0 y1 y2 w0 w1 w2 w3 w4 w5 g0_0 g0_1 g0_2 g1_0 s0_0) (fun _ => rfl) (fun ls h => by match ls, h with | [l0, l1, l2, l3], _ => exact ⟨by kernel_rfl, by kernel_rfl⟩) (fun ls h => by match ls, h with | [l0, l1, l2, l3], _ => rfl) (by decide) (by decide) (fun ls => rfl)
inductive R_sock_Ledger_Release_v3 where
  | e0 (c0_0 : Nat → Int) (c0_1 : Int) (c0_2 : Int) (c0_3 : Nat → Event) (c0_4 : Int)
  | e1 
noncomputable def m_sock_Ledger_Release_v3 (y1 : Int) (y2 : Int) (w0 : Nat) (w1 : Int) (w2 : Int) (w3 : Nat → Int) (w4 : Nat → Reference) (w5 : Nat → Event) : Option R_sock_Ledger_Release_v3 :=
  (m_sock_Ledger_What_v3 y1 w0 w1 w2 w3 w4 w5).bind fun g0 => match g0 with
  | .e0 g0_0 g0_1 g0_2 =>
  bif g0_2 then
    ((m_sock_counting_change_v3 (IntKind.i64.wrap (y1 - 1)) (-1) w0 w1 w2 w3 w4 w5).bind fun g1 => match g1 with
    | .e0 g1_0 =>
    (lpO (st_sock_Ledger_Release_v3_L0 w0 w1 w4 w5 g1_0) (.c0 w2)).bind fun g2 => match g2 with
    | .e0 g2_0 g2_1 =>
    bif decide (w0 ≤ 1000000) then
      (some (.e0 g1_0 g2_0 g2_1 (updF w5 w0 (⟨true, y1, y2⟩ : Event)) g0_1))
    else (none))
  else (some (.e1))
def sq0_sock_Ledger_Release_v3 (y1 : Int) (y2 : Int) (w0 : Nat) (w1 : Int) (w2 : Int) (w3 : Nat → Int) (w4 : Nat → Reference) (w5 : Nat → Event) (c0_0 : Nat → Int) (c0_1 : Int) (c0_2 : Int) (c0_3 : Nat → Event) (c0_4 : Int) : Spc := ⟨fun ls => .call 19 #[.pointer (some ⟨(lget ls 0).n, 0, none⟩), .int .i64 (y1), .int .i64 (y2)], fun ls => [.cells #[(rowV (lget ls 1) w0 1), (rowV (lget ls 2) w0 2), .int .i64 (w1), .int .i64 (w2), (rowV (lget ls 3) w0 3)] 78, rowO (lget ls 1) (esG cZ w0 w3) 3 w0 1, rowO (lget ls 2) (esG c_Reference w0 w4) 82 w0 2, rowO (lget ls 3) (esG c_Event w0 w5) 63 w0 3], 1, .normal, fun ls => [.tuple #[.int .i64 (c0_4), .int .i64 (0)]], fun ls => [.cells #[(rowV (lget ls 1) w0 1), (rowV (lget ls 2) w0 2), .int .i64 (c0_1), .int .i64 (c0_2), (rowV (lget ls 4) (w0 + 1) 3)] 78, rowO (lget ls 1) (esG cZ w0 c0_0) 3 w0 1, rowO (lget ls 2) (esG c_Reference w0 w4) 82 w0 2, unb], fun ls => [rowO (lget ls 4) (esG c_Event (w0 + 1) c0_3) 63 (w0 + 1) 3]⟩
def sq1_sock_Ledger_Release_v3 (y1 : Int) (y2 : Int) (w0 : Nat) (w1 : Int) (w2 : Int) (w3 : Nat → Int) (w4 : Nat → Reference) (w5 : Nat → Event)  : Spc := ⟨fun ls => .call 19 #[.pointer (some ⟨(lget ls 0).n, 0, none⟩), .int .i64 (y1), .int .i64 (y2)], fun ls => [.cells #[(rowV (lget ls 1) w0 1), (rowV (lget ls 2) w0 2), .int .i64 (w1), .int .i64 (w2), (rowV (lget ls 3) w0 3)] 78, rowO (lget ls 1) (esG cZ w0 w3) 3 w0 1, rowO (lget ls 2) (esG c_Reference w0 w4) 82 w0 2, rowO (lget ls 3) (esG c_Event w0 w5) 63 w0 3], 0, .normal, fun ls => [.tuple #[.int .i64 (0), .int .i64 (110)]], fun ls => [.cells #[(rowV (lget ls 1) w0 1), (rowV (lget ls 2) w0 2), .int .i64 (w1), .int .i64 (w2), (rowV (lget ls 3) w0 3)] 78, rowO (lget ls 1) (esG cZ w0 w3) 3 w0 1, rowO (lget ls 2) (esG c_Reference w0 w4) 82 w0 2, rowO (lget ls 3) (esG c_Event w0 w5) 63 w0 3], fun ls => []⟩
theorem ok0_sock_Ledger_Release_v3 (c0_0 : Nat → Int) (c0_1 : Int) (c0_2 : Int) (c0_3 : Nat → Event) (c0_4 : Int) (e : m_sock_Ledger_Release_v3 y1 y2 w0 w1 w2 w3 w4 w5 = some (.e0 c0_0 c0_1 c0_2 c0_3 c0_4)) : SpcG Try.prog M B0 S (sq0_sock_Ledger_Release_v3 y1 y2 w0 w1 w2 w3 w4 w5 c0_0 c0_1 c0_2 c0_3 c0_4) := by
  unfold m_sock_Ledger_Release_v3 at e
  replace e := bindO_eq e
  obtain ⟨g0, e_g0, e⟩ := e
  obtain ⟨g0_0, g0_1, g0_2⟩ := g0
  try dsimp only at e
  replace e := cond_eq_or e
  rcases e with ⟨hq0, e⟩ | ⟨hq0, e⟩
  · replace e := bindO_eq e
    obtain ⟨g1, e_g1, e⟩ := e
    obtain ⟨g1_0⟩ := g1
    try dsimp only at e
    replace e := bindO_eq e
    obtain ⟨g2, e_g2, e⟩ := e
    obtain ⟨g2_0, g2_1⟩ := g2
    try dsimp only at e
    replace e := cond_eq_or e
    rcases e with ⟨hq1, e⟩ | ⟨hq1, e⟩
    · injection e with e; injection e with i0 i1 i2 i3 i4; subst i0 i1 i2 i3 i4; exact fn_specG hU (P := Try.prog) Try.func19 (fun xs w => by kernel_rfl) 4 _ _ (fun _ => rfl) _ _ _ [6] [.o, .o, .o, .o, .xg (ok0_sock_Ledger_What_v3 hU y1 w0 w1 w2 w3 w4 w5 g0_0 g0_1 g0_2 e_g0) [0, 1, 2, 3], .o, .o, .o, .b hq0, .o, .o, .o, .o, .o, .o, .o, .o, .o, .o, .xg (ok0_sock_counting_change_v3 hU (IntKind.i64.wrap (y1 - 1)) (-1) w0 w1 w2 w3 w4 w5 g1_0 e_g1) [0, 1, 2, 3], .o, .o, .o, .a 0, .o, .o, .o, .a 0, .cp, .cx (sp0_sock_Ledger_Release_v3_L0_0_ok hU y1 y2 w0 w1 w2 w3 w4 w5 g0_0 g0_1 g0_2 g1_0 w2 g2_0 g2_1 e_g2) [0, 1, 2, 3], .o, .o, .o, .o, .a 0, .o, .o, .o, .o, .x (sqAppL_ok (ty := 37) rt37 #[false, false] (f := c_Event) (N := w0) (A := w5) (c := 1) [(⟨true, y1, y2⟩ : Event)] (T' := 63) .row c_Event_len c_Event_one hq1 rfl (by decide)) [3, 5], .o, .o, .a 0, .o, .o, .o] [] (fun b => by kernel_rfl)
    · exact none_some e
  · cases e
theorem ok1_sock_Ledger_Release_v3 (e : m_sock_Ledger_Release_v3 y1 y2 w0 w1 w2 w3 w4 w5 = some (.e1 )) : SpcG Try.prog M B0 S (sq1_sock_Ledger_Release_v3 y1 y2 w0 w1 w2 w3 w4 w5 ) := by
  unfold m_sock_Ledger_Release_v3 at e
  replace e := bindO_eq e
  obtain ⟨g0, e_g0, e⟩ := e
  obtain ⟨g0_0, g0_1, g0_2⟩ := g0
  try dsimp only at e
  replace e := cond_eq_or e
  rcases e with ⟨hq0, e⟩ | ⟨hq0, e⟩
  · replace e := bindO_eq e
    obtain ⟨g1, e_g1, e⟩ := e
    obtain ⟨g1_0⟩ := g1
    try dsimp only at e
    replace e := bindO_eq e
    obtain ⟨g2, e_g2, e⟩ := e
    obtain ⟨g2_0, g2_1⟩ := g2
    try dsimp only at e
    replace e := cond_eq_or e
    rcases e with ⟨hq1, e⟩ | ⟨hq1, e⟩
    · cases e
    · exact none_some e
  · exact fn_specG hU (P := Try.prog) Try.func19 (fun xs w => by kernel_rfl) 4 _ _ (fun _ => rfl) _ _ _ [] [.o, .o, .o, .o, .xg (ok0_sock_Ledger_What_v3 hU y1 w0 w1 w2 w3 w4 w5 g0_0 g0_1 g0_2 e_g0) [0, 1, 2, 3], .o, .o, .o, .b hq0, .o, .o, .o, .o, .o, .o, .o] [] (fun b => by kernel_rfl)
inductive R_sock_counting_counted_v8 where
  | e0 (c0_0 : Int)
noncomputable def m_sock_counting_counted_v8 (y1 : Int) (w0 : Nat) (w1 : Nat) (w2 : Int) (w3 : Int) (w4 : Nat) (w5 : Nat → Int) (w6 : Nat → Reference) (w7 : Nat → Event) : Option R_sock_counting_counted_v8 :=
  bif decide (y1 < 0) then
    (some (.e0 0))
  else (bif decide ((w0 : Int) ≤ y1) then
    (some (.e0 0))
  else (bif inR y1 w0 then
    (some (.e0 (w5 (y1).toNat)))
  else (none)))
def sq0_sock_counting_counted_v8 (y1 : Int) (w0 : Nat) (w1 : Nat) (w2 : Int) (w3 : Int) (w4 : Nat) (w5 : Nat → Int) (w6 : Nat → Reference) (w7 : Nat → Event) (c0_0 : Int) : Spc := ⟨fun ls => .call 34 #[.pointer (some ⟨(lget ls 0).n, 0, none⟩), .int .i64 (y1)], fun ls => [.cells #[(rowV (lget ls 1) w0 1), (rowV (lget ls 2) w1 2), .int .i64 (w2), .int .i64 (w3), (rowV (lget ls 3) w4 3)] 78, rowO (lget ls 1) (esG cZ w0 w5) 3 w0 1, rowO (lget ls 2) (esG c_Reference w1 w6) 82 w1 2, rowO (lget ls 3) (esG c_Event w4 w7) 63 w4 3], 0, .normal, fun ls => [.int .i64 (c0_0)], fun ls => [.cells #[(rowV (lget ls 1) w0 1), (rowV (lget ls 2) w1 2), .int .i64 (w2), .int .i64 (w3), (rowV (lget ls 3) w4 3)] 78, rowO (lget ls 1) (esG cZ w0 w5) 3 w0 1, rowO (lget ls 2) (esG c_Reference w1 w6) 82 w1 2, rowO (lget ls 3) (esG c_Event w4 w7) 63 w4 3], fun ls => []⟩
end
section
variable {M : Nat → Prop} {B0 : Nat} {S : World → Prop} (hU : Up M B0 S) (y1 : Int) (w0 : Nat) (w1 : Nat) (w2 : Int) (w3 : Int) (w4 : Nat) (w5 : Nat → Int) (w6 : Nat → Reference) (w7 : Nat → Event) (c0_0 : Int)
include hU y1 w0 w1 w2 w3 w4 w5 w6 w7 c0_0
theorem ok0_sock_counting_counted_v8 (e : m_sock_counting_counted_v8 y1 w0 w1 w2 w3 w4 w5 w6 w7 = some (.e0 c0_0)) : SpcG Try.prog M B0 S (sq0_sock_counting_counted_v8 y1 w0 w1 w2 w3 w4 w5 w6 w7 c0_0) := by
  unfold m_sock_counting_counted_v8 at e
  replace e := cond_eq_or e
  rcases e with ⟨hq0, e⟩ | ⟨hq0, e⟩
  · injection e with e; injection e with i0; subst i0; exact fn_specG hU (P := Try.prog) Try.func34 (fun xs w => by kernel_rfl) 4 _ _ (fun _ => rfl) _ _ _ [] [.o, .o, .b (z_lssT hq0), .o, .o, .o] [] (fun b => by kernel_rfl)
  · replace e := cond_eq_or e
    rcases e with ⟨hq1, e⟩ | ⟨hq1, e⟩
    · injection e with e; injection e with i0; subst i0; exact fn_specG hU (P := Try.prog) Try.func34 (fun xs w => by kernel_rfl) 4 _ _ (fun _ => rfl) _ _ _ [] [.o, .o, .b (z_lssF hq0), .o, .o, .o, .o, .o, .a 0, .o, .b (z_geqT hq1), .o, .o] [] (fun b => by kernel_rfl)
    · replace e := cond_eq_or e
      rcases e with ⟨hq2, e⟩ | ⟨hq2, e⟩
      · injection e with e; injection e with i0; subst i0; exact fn_specG hU (P := Try.prog) Try.func34 (fun xs w => by kernel_rfl) 4 _ _ (fun _ => rfl) _ _ _ [] [.o, .o, .b (z_lssF hq0), .o, .o, .o, .o, .o, .a 0, .o, .b (z_geqF hq1), .o, .o, .o, .o, .a 0, .o, .q (ixM_ok (kd := .i64) (T := 56) (x := y1) (N := w0) (sz := 1) rfl (fun w => by kernel_rfl) hq2), .l (accG (i := 1) (f := cZ) (A := w5) (k := (y1).toNat) 0 [.int .i64 ((w5 (y1).toNat))] cZ_len (inR_nat hq2) rfl), .o] [] (fun b => by kernel_rfl)
      · exact none_some e
inductive R_sock_Ledger_What_v4 where
  | e0 (c0_0 : Int) (c0_1 : Int) (c0_2 : Bool)
noncomputable def m_sock_Ledger_What_v4 (y1 : Int) (w0 : Nat) (w1 : Nat) (w2 : Int) (w3 : Int) (w4 : Nat) (w5 : Nat → Int) (w6 : Nat → Reference) (w7 : Nat → Event) : Option R_sock_Ledger_What_v4 :=
  bif decide (y1 < 1) then
    (some (.e0 0 0 false))
  else ((m_sock_counting_counted_v8 (IntKind.i64.wrap (y1 - 1)) w0 w1 w2 w3 w4 w5 w6 w7).bind fun g0 => match g0 with
  | .e0 g0_0 =>
  bif g0_0 == 0 then
    (some (.e0 0 0 false))
  else (bif inR (IntKind.i64.wrap (y1 - 1)) w1 then
    (some (.e0 ((w6 ((IntKind.i64.wrap (y1 - 1))).toNat)).fhelper ((w6 ((IntKind.i64.wrap (y1 - 1))).toNat)).fwhat true))
  else (none)))
def sq0_sock_Ledger_What_v4 (y1 : Int) (w0 : Nat) (w1 : Nat) (w2 : Int) (w3 : Int) (w4 : Nat) (w5 : Nat → Int) (w6 : Nat → Reference) (w7 : Nat → Event) (c0_0 : Int) (c0_1 : Int) (c0_2 : Bool) : Spc := ⟨fun ls => .call 21 #[.pointer (some ⟨(lget ls 0).n, 0, none⟩), .int .i64 (y1)], fun ls => [.cells #[(rowV (lget ls 1) w0 1), (rowV (lget ls 2) w1 2), .int .i64 (w2), .int .i64 (w3), (rowV (lget ls 3) w4 3)] 78, rowO (lget ls 1) (esG cZ w0 w5) 3 w0 1, rowO (lget ls 2) (esG c_Reference w1 w6) 82 w1 2, rowO (lget ls 3) (esG c_Event w4 w7) 63 w4 3], 0, .normal, fun ls => [.tuple #[.int .i64 (c0_0), .int .i64 (c0_1), .bool (c0_2)]], fun ls => [.cells #[(rowV (lget ls 1) w0 1), (rowV (lget ls 2) w1 2), .int .i64 (w2), .int .i64 (w3), (rowV (lget ls 3) w4 3)] 78, rowO (lget ls 1) (esG cZ w0 w5) 3 w0 1, rowO (lget ls 2) (esG c_Reference w1 w6) 82 w1 2, rowO (lget ls 3) (esG c_Event w4 w7) 63 w4 3], fun ls => []⟩
theorem ok0_sock_Ledger_What_v4 (c0_1 : Int) (c0_2 : Bool) (e : m_sock_Ledger_What_v4 y1 w0 w1 w2 w3 w4 w5 w6 w7 = some (.e0 c0_0 c0_1 c0_2)) : SpcG Try.prog M B0 S (sq0_sock_Ledger_What_v4 y1 w0 w1 w2 w3 w4 w5 w6 w7 c0_0 c0_1 c0_2) := by
  unfold m_sock_Ledger_What_v4 at e
  replace e := cond_eq_or e
  rcases e with ⟨hq0, e⟩ | ⟨hq0, e⟩
  · injection e with e; injection e with i0 i1 i2; subst i0 i1 i2; exact fn_specG hU (P := Try.prog) Try.func21 (fun xs w => by kernel_rfl) 4 _ _ (fun _ => rfl) _ _ _ [] [.o, .o, .o, .o, .b (z_lssT hq0), .o, .o, .o, .o, .o] [] (fun b => by kernel_rfl)
  · replace e := bindO_eq e
    obtain ⟨g0, e_g0, e⟩ := e
    obtain ⟨g0_0⟩ := g0
    try dsimp only at e
    replace e := cond_eq_or e
    rcases e with ⟨hq1, e⟩ | ⟨hq1, e⟩
    · injection e with e; injection e with i0 i1 i2; subst i0 i1 i2; exact fn_specG hU (P := Try.prog) Try.func21 (fun xs w => by kernel_rfl) 4 _ _ (fun _ => rfl) _ _ _ [] [.o, .o, .o, .o, .b (z_lssF hq0), .o, .o, .o, .o, .o, .o, .xg (ok0_sock_counting_counted_v8 hU (IntKind.i64.wrap (y1 - 1)) w0 w1 w2 w3 w4 w5 w6 w7 g0_0 e_g0) [0, 1, 2, 3], .b (z_eqlT hq1), .o, .o, .o, .o] [] (fun b => by kernel_rfl)
    · replace e := cond_eq_or e
      rcases e with ⟨hq2, e⟩ | ⟨hq2, e⟩
      · injection e with e; injection e with i0 i1 i2; subst i0 i1 i2; exact fn_specG hU (P := Try.prog) Try.func21 (fun xs w => by kernel_rfl) 4 _ _ (fun _ => rfl) _ _ _ [] [.o, .o, .o, .o, .b (z_lssF hq0), .o, .o, .o, .o, .o, .o, .xg (ok0_sock_counting_counted_v8 hU (IntKind.i64.wrap (y1 - 1)) w0 w1 w2 w3 w4 w5 w6 w7 g0_0 e_g0) [0, 1, 2, 3], .b (z_eqlF hq1), .o, .o, .o, .o, .a 0, .o, .o, .q (ixM_ok (kd := .i64) (T := 76) (x := (IntKind.i64.wrap (y1 - 1))) (N := w1) (sz := 2) rfl (fun w => by kernel_rfl) hq2), .l (accG (i := 2) (f := c_Reference) (A := w6) (k := ((IntKind.i64.wrap (y1 - 1))).toNat) 0 [.int .i64 (((w6 ((IntKind.i64.wrap (y1 - 1))).toNat)).fhelper), .int .i64 (((w6 ((IntKind.i64.wrap (y1 - 1))).toNat)).fwhat)] c_Reference_len (inR_nat hq2) rfl), .o, .a 4, .r [0, 1, 2, 3, 4, 5, 6] [] [], .o, .a 4, .o, .a 4, .o, .o, .o] [] (fun b => by kernel_rfl)
      · exact none_some e
inductive R_sock_counting_change_v4 where
  | e0 (c0_0 : Nat → Int)
noncomputable def m_sock_counting_change_v4 (y1 : Int) (y2 : Int) (w0 : Nat) (w1 : Nat) (w2 : Int) (w3 : Int) (w4 : Nat) (w5 : Nat → Int) (w6 : Nat → Reference) (w7 : Nat → Event) : Option R_sock_counting_change_v4 :=
  bif inR y1 w0 then
    (some (.e0 (updF w5 (y1).toNat (IntKind.i64.wrap ((w5 (y1).toNat) + y2)))))
  else (none)
def sq0_sock_counting_change_v4 (y1 : Int) (y2 : Int) (w0 : Nat) (w1 : Nat) (w2 : Int) (w3 : Int) (w4 : Nat) (w5 : Nat → Int) (w6 : Nat → Reference) (w7 : Nat → Event) (c0_0 : Nat → Int) : Spc := ⟨fun ls => .call 35 #[.pointer (some ⟨(lget ls 0).n, 0, none⟩), .int .i64 (y1), .int .i64 (y2)], fun ls => [.cells #[(rowV (lget ls 1) w0 1), (rowV (lget ls 2) w1 2), .int .i64 (w2), .int .i64 (w3), (rowV (lget ls 3) w4 3)] 78, rowO (lget ls 1) (esG cZ w0 w5) 3 w0 1, rowO (lget ls 2) (esG c_Reference w1 w6) 82 w1 2, rowO (lget ls 3) (esG c_Event w4 w7) 63 w4 3], 0, .normal, fun ls => [.tuple #[]], fun ls => [.cells #[(rowV (lget ls 1) w0 1), (rowV (lget ls 2) w1 2), .int .i64 (w2), .int .i64 (w3), (rowV (lget ls 3) w4 3)] 78, rowO (lget ls 1) (esG cZ w0 c0_0) 3 w0 1, rowO (lget ls 2) (esG c_Reference w1 w6) 82 w1 2, rowO (lget ls 3) (esG c_Event w4 w7) 63 w4 3], fun ls => []⟩
end
section
variable {M : Nat → Prop} {B0 : Nat} {S : World → Prop} (hU : Up M B0 S) (y1 : Int) (y2 : Int) (w0 : Nat) (w1 : Nat) (w2 : Int) (w3 : Int) (w4 : Nat) (w5 : Nat → Int) (w6 : Nat → Reference) (w7 : Nat → Event)
include hU y1 y2 w0 w1 w2 w3 w4 w5 w6 w7
theorem ok0_sock_counting_change_v4 (c0_0 : Nat → Int) (e : m_sock_counting_change_v4 y1 y2 w0 w1 w2 w3 w4 w5 w6 w7 = some (.e0 c0_0)) : SpcG Try.prog M B0 S (sq0_sock_counting_change_v4 y1 y2 w0 w1 w2 w3 w4 w5 w6 w7 c0_0) := by
  unfold m_sock_counting_change_v4 at e
  replace e := cond_eq_or e
  rcases e with ⟨hq0, e⟩ | ⟨hq0, e⟩
  · injection e with e; injection e with i0; subst i0; exact fn_specG hU (P := Try.prog) Try.func35 (fun xs w => by kernel_rfl) 4 _ _ (fun _ => rfl) _ _ _ [] [.o, .o, .o, .a 0, .o, .q (ixM_ok (kd := .i64) (T := 56) (x := y1) (N := w0) (sz := 1) rfl (fun w => by kernel_rfl) hq0), .l (accG (i := 1) (f := cZ) (A := w5) (k := (y1).toNat) 0 [.int .i64 ((w5 (y1).toNat))] cZ_len (inR_nat hq0) rfl), .o, .o, .q (ixM_ok (kd := .i64) (T := 56) (x := y1) (N := w0) (sz := 1) rfl (fun w => by kernel_rfl) hq0), .x (sqStG_ok (T := 3) (e := 3) (f := cZ) (A := w5) (v := (IntKind.i64.wrap ((w5 (y1).toNat) + y2))) 0 (.int .i64 ((IntKind.i64.wrap ((w5 (y1).toNat) + y2)))) cZ_len cZ_one rfl rfl (fun w => by kernel_rfl) (inR_nat hq0)) [1]] [] (fun b => by kernel_rfl)
  · exact none_some e
inductive Sh_sock_Ledger_Release_v4_L0 where
  | c0 (s0_0 : Int)
inductive Ex_sock_Ledger_Release_v4_L0 where
  | e0 (c0_0 : Int) (c0_1 : Int)
noncomputable def st_sock_Ledger_Release_v4_L0 (w0 : Nat) (w1 : Nat) (w2 : Int) (w4 : Nat) (w6 : Nat → Reference) (w7 : Nat → Event) (g1_0 : Nat → Int) : Sh_sock_Ledger_Release_v4_L0 → Option (Sh_sock_Ledger_Release_v4_L0 ⊕ Ex_sock_Ledger_Release_v4_L0)
  | .c0 s0_0 =>
    bif decide (s0_0 < (w1 : Int)) then
      ((m_sock_counting_counted_v8 s0_0 w0 w1 (IntKind.i64.wrap (w2 - 1)) s0_0 w4 g1_0 w6 w7).bind fun gb0 => match gb0 with
      | .e0 gb0_0 =>
      bif gb0_0 == 0 then
        (some (.inl (.c0 (IntKind.i64.wrap (s0_0 + 1)))))
      else (some (.inr (.e0 (IntKind.i64.wrap (w2 - 1)) s0_0))))
    else (some (.inr (.e0 (IntKind.i64.wrap (w2 - 1)) s0_0)))
noncomputable def bd_sock_Ledger_Release_v4_L0 : Code := codeOf Try.f19 [1, 1, 1, 1, 1, 0, 0, 0]
def fl_sock_Ledger_Release_v4_L0 (y1 : Int) (y2 : Int) (w0 : Nat) (w1 : Nat) (w2 : Int) (w3 : Int) (w4 : Nat) (w5 : Nat → Int) (w6 : Nat → Reference) (w7 : Nat → Event) (g0_0 : Int) (g0_1 : Int) (g0_2 : Bool) (g1_0 : Nat → Int) : Sh_sock_Ledger_Release_v4_L0 → List L1 → List Value
  | .c0 s0_0, ls => [.pointer (some ⟨(lget ls 0).n, 0, none⟩), .int .i64 (y1), .int .i64 (y2), .int .i64 (0), .int .i64 (0), .int .i64 (g0_1)]
def mf_sock_Ledger_Release_v4_L0 : Sh_sock_Ledger_Release_v4_L0 → List (Nat × Nat)
  | .c0 _ => [(3, 3), (2, 1), (1, 64)]
noncomputable def fr_sock_Ledger_Release_v4_L0 (y1 : Int) (y2 : Int) (w0 : Nat) (w1 : Nat) (w2 : Int) (w3 : Int) (w4 : Nat) (w5 : Nat → Int) (w6 : Nat → Reference) (w7 : Nat → Event) (g0_0 : Int) (g0_1 : Int) (g0_2 : Bool) (g1_0 : Nat → Int) (s : Sh_sock_Ledger_Release_v4_L0) : List L1 → List Value := mrgF (mf_sock_Ledger_Release_v4_L0 s) (fl_sock_Ledger_Release_v4_L0 y1 y2 w0 w1 w2 w3 w4 w5 w6 w7 g0_0 g0_1 g0_2 g1_0 s) 4
def Hs_sock_Ledger_Release_v4_L0 (y1 : Int) (y2 : Int) (w0 : Nat) (w1 : Nat) (w2 : Int) (w3 : Int) (w4 : Nat) (w5 : Nat → Int) (w6 : Nat → Reference) (w7 : Nat → Event) (g0_0 : Int) (g0_1 : Int) (g0_2 : Bool) (g1_0 : Nat → Int) : Sh_sock_Ledger_Release_v4_L0 → List L1 → List Obj
  | .c0 s0_0, ls => [.cells #[(rowV (lget ls 1) w0 1), (rowV (lget ls 2) w1 2), .int .i64 ((IntKind.i64.wrap (w2 - 1))), .int .i64 (s0_0), (rowV (lget ls 3) w4 3)] 78, rowO (lget ls 1) (esG cZ w0 g1_0) 3 w0 1, rowO (lget ls 2) (esG c_Reference w1 w6) 82 w1 2, rowO (lget ls 3) (esG c_Event w4 w7) 63 w4 3, unb]
def vl_sock_Ledger_Release_v4_L0 (y1 : Int) (y2 : Int) (w0 : Nat) (w1 : Nat) (w2 : Int) (w3 : Int) (w4 : Nat) (w5 : Nat → Int) (w6 : Nat → Reference) (w7 : Nat → Event) (g0_0 : Int) (g0_1 : Int) (g0_2 : Bool) (g1_0 : Nat → Int) : Ex_sock_Ledger_Release_v4_L0 → List L1 → List Value
  | .e0 c0_0 c0_1, ls => [.pointer (some ⟨(lget ls 0).n, 0, none⟩), .int .i64 (y1), .int .i64 (y2), .int .i64 (0), .int .i64 (0), .int .i64 (g0_1)]
def mk_sock_Ledger_Release_v4_L0 : Ex_sock_Ledger_Release_v4_L0 → List (Nat × Nat)
  | .e0 _ _ => [(3, 3), (2, 1), (1, 64)]
noncomputable def vf_sock_Ledger_Release_v4_L0 (y1 : Int) (y2 : Int) (w0 : Nat) (w1 : Nat) (w2 : Int) (w3 : Int) (w4 : Nat) (w5 : Nat → Int) (w6 : Nat → Reference) (w7 : Nat → Event) (g0_0 : Int) (g0_1 : Int) (g0_2 : Bool) (g1_0 : Nat → Int) (r : Ex_sock_Ledger_Release_v4_L0) : List L1 → List Value := mrgF (mk_sock_Ledger_Release_v4_L0 r) (vl_sock_Ledger_Release_v4_L0 y1 y2 w0 w1 w2 w3 w4 w5 w6 w7 g0_0 g0_1 g0_2 g1_0 r) 4
def Hf_sock_Ledger_Release_v4_L0 (y1 : Int) (y2 : Int) (w0 : Nat) (w1 : Nat) (w2 : Int) (w3 : Int) (w4 : Nat) (w5 : Nat → Int) (w6 : Nat → Reference) (w7 : Nat → Event) (g0_0 : Int) (g0_1 : Int) (g0_2 : Bool) (g1_0 : Nat → Int) : Ex_sock_Ledger_Release_v4_L0 → List L1 → List Obj
  | .e0 c0_0 c0_1, ls => [.cells #[(rowV (lget ls 1) w0 1), (rowV (lget ls 2) w1 2), .int .i64 (c0_0), .int .i64 (c0_1), (rowV (lget ls 3) w4 3)] 78, rowO (lget ls 1) (esG cZ w0 g1_0) 3 w0 1, rowO (lget ls 2) (esG c_Reference w1 w6) 82 w1 2, rowO (lget ls 3) (esG c_Event w4 w7) 63 w4 3, unb]
def ex_sock_Ledger_Release_v4_L0 : Ex_sock_Ledger_Release_v4_L0 → Ex
  | .e0 _ _ => (.exit 0)
theorem go_sock_Ledger_Release_v4_L0 (g0_0 : Int) (g0_1 : Int) (g0_2 : Bool) (g1_0 : Nat → Int) (s : Sh_sock_Ledger_Release_v4_L0) (r : Ex_sock_Ledger_Release_v4_L0) (h : lpO (st_sock_Ledger_Release_v4_L0 w0 w1 w2 w4 w6 w7 g1_0) s = some r) : GoesG Try.prog M B0 S (.loop bd_sock_Ledger_Release_v4_L0) 5 (fr_sock_Ledger_Release_v4_L0 y1 y2 w0 w1 w2 w3 w4 w5 w6 w7 g0_0 g0_1 g0_2 g1_0 s) (Hs_sock_Ledger_Release_v4_L0 y1 y2 w0 w1 w2 w3 w4 w5 w6 w7 g0_0 g0_1 g0_2 g1_0 s) (ex_sock_Ledger_Release_v4_L0 r) 4 (vf_sock_Ledger_Release_v4_L0 y1 y2 w0 w1 w2 w3 w4 w5 w6 w7 g0_0 g0_1 g0_2 g1_0 r) (Hf_sock_Ledger_Release_v4_L0 y1 y2 w0 w1 w2 w3 w4 w5 w6 w7 g0_0 g0_1 g0_2 g1_0 r) 5 :=
  goes_lpO (fun s q e => by
    cases s with
    | c0 s0_0 =>
      unfold st_sock_Ledger_Release_v4_L0 at e
      dsimp only at e
      replace e := cond_eq_or e
      rcases e with ⟨hq0, e⟩ | ⟨hq0, e⟩
      · replace e := bindO_eq e
        obtain ⟨gb0, e_gb0, e⟩ := e
        obtain ⟨gb0_0⟩ := gb0
        try dsimp only at e
        replace e := cond_eq_or e
        rcases e with ⟨hq1, e⟩ | ⟨hq1, e⟩
        · cases e; exact goes_runM hU [.r [0, 1, 2, 3, 4, 5, 6, 7, 8, 9, 10, 11, 12, 13, 14, 15, 16, 17] [] [18, 19, 20], .o, .o, .o, .a 0, .o, .o, .o, .a 0, .o, .b (z_lssT hq0), .o, .o, .o, .o, .o, .o, .o, .a 0, .xg (ok0_sock_counting_counted_v8 hU s0_0 w0 w1 (IntKind.i64.wrap (w2 - 1)) s0_0 w4 g1_0 w6 w7 gb0_0 e_gb0) [0, 1, 2, 3], .b (z_eqlT hq1), .o, .o, .o, .o, .a 0, .o, .o, .o, .a 0] [0, 1, 2, 3] (fun b => rfl) (by decide) rfl rfl (fun b => by kernel_rfl)
        · cases e; exact ⟨ne_exit 0, goes_runM hU [.r [0, 1, 2, 3, 4, 5, 6, 7, 8, 9, 10, 11, 12, 13, 14, 15, 16, 17] [] [18, 19, 20], .o, .o, .o, .a 0, .o, .o, .o, .a 0, .o, .b (z_lssT hq0), .o, .o, .o, .o, .o, .o, .o, .a 0, .xg (ok0_sock_counting_counted_v8 hU s0_0 w0 w1 (IntKind.i64.wrap (w2 - 1)) s0_0 w4 g1_0 w6 w7 gb0_0 e_gb0) [0, 1, 2, 3], .b (z_eqlF hq1), .o] [0, 1, 2, 3] (fun b => rfl) (by decide) rfl rfl (fun b => by kernel_rfl)⟩
      · cases e; exact ⟨ne_exit 0, goes_runM hU [.r [0, 1, 2, 3, 4, 5, 6, 7, 8, 9, 10, 11, 12, 13, 14, 15, 16, 17] [] [18, 19, 20], .o, .o, .o, .a 0, .o, .o, .o, .a 0, .o, .b (z_lssF hq0), .o, .o] [0, 1, 2, 3] (fun b => rfl) (by decide) rfl rfl (fun b => by kernel_rfl)⟩) s r h
noncomputable def t0_sock_Ledger_Release_v4_L0_0 (y1 : Int) (y2 : Int) (w0 : Nat) (w1 : Nat) (w2 : Int) (w3 : Int) (w4 : Nat) (w5 : Nat → Int) (w6 : Nat → Reference) (w7 : Nat → Event) (g0_0 : Int) (g0_1 : Int) (g0_2 : Bool) (g1_0 : Nat → Int) (s0_0 : Int) (ls : List L1) : List Value := List.append [.pointer (some ⟨(lget ls 0).n, 0, none⟩), .int .i64 (y1), .int .i64 (y2), undef, undef, undef, .int .i64 (0), .int .i64 (0), .int .i64 (g0_0), .int .i64 (g0_1), .bool true, .tuple #[.int .i64 (g0_0), .int .i64 (g0_1), .bool (g0_2)], .pointer (some ⟨(lget ls 0).n, 0, none⟩), .int .i64 (y1), .tuple #[.int .i64 (g0_0), .int .i64 (g0_1), .bool (g0_2)], .int .i64 (g0_0), .int .i64 (g0_1), .bool true, .bool true, .bool false, .pointer (some ⟨(lget ls 0).n, 0, none⟩), .pointer (some ⟨(lget ls 0).n, 0, none⟩), .pointer (some ⟨(lget ls 0).n, 0, none⟩), .int .i64 (y1), .int .i64 ((IntKind.i64.wrap (y1 - 1))), .tuple #[], .pointer (some ⟨(lget ls 0).n, 0, none⟩), .pointer (some ⟨(lget ls 0).n, 0, none⟩), .pointer (some ⟨(lget ls 0).n, 2, none⟩), .int .i64 (w2), .int .i64 ((IntKind.i64.wrap (w2 - 1))), .pointer (some ⟨(lget ls 0).n, 0, none⟩), .pointer (some ⟨(lget ls 0).n, 2, none⟩)] (und 41)
def pre_sock_Ledger_Release_v4_L0_0 (y1 : Int) (y2 : Int) (w0 : Nat) (w1 : Nat) (w2 : Int) (w3 : Int) (w4 : Nat) (w5 : Nat → Int) (w6 : Nat → Reference) (w7 : Nat → Event) (g0_0 : Int) (g0_1 : Int) (g0_2 : Bool) (g1_0 : Nat → Int) (s0_0 : Int) (ls : List L1) : List Obj := [.cells #[(rowV (lget ls 1) w0 1), (rowV (lget ls 2) w1 2), .int .i64 ((IntKind.i64.wrap (w2 - 1))), .int .i64 (s0_0), (rowV (lget ls 3) w4 3)] 78, rowO (lget ls 1) (esG cZ w0 g1_0) 3 w0 1, rowO (lget ls 2) (esG c_Reference w1 w6) 82 w1 2, rowO (lget ls 3) (esG c_Event w4 w7) 63 w4 3]
theorem sp0_sock_Ledger_Release_v4_L0_0_ok (g0_0 : Int) (g0_1 : Int) (g0_2 : Bool) (g1_0 : Nat → Int) (s0_0 : Int) (c0_0 : Int) (c0_1 : Int) (h : lpO (st_sock_Ledger_Release_v4_L0 w0 w1 w2 w4 w6 w7 g1_0) (.c0 s0_0) = some (.e0 c0_0 c0_1)) : SpcG Try.prog M B0 S ⟨fun ls => .code (.loop bd_sock_Ledger_Release_v4_L0) (t0_sock_Ledger_Release_v4_L0_0 y1 y2 w0 w1 w2 w3 w4 w5 w6 w7 g0_0 g0_1 g0_2 g1_0 s0_0 ls), pre_sock_Ledger_Release_v4_L0_0 y1 y2 w0 w1 w2 w3 w4 w5 w6 w7 g0_0 g0_1 g0_2 g1_0 s0_0, 1, (.exit 0), fun ls => vf_sock_Ledger_Release_v4_L0 y1 y2 w0 w1 w2 w3 w4 w5 w6 w7 g0_0 g0_1 g0_2 g1_0 (.e0 c0_0 c0_1) (ls.take 4 ++ ls.drop 4), fun ls => (Hf_sock_Ledger_Release_v4_L0 y1 y2 w0 w1 w2 w3 w4 w5 w6 w7 g0_0 g0_1 g0_2 g1_0 (.e0 c0_0 c0_1) (ls.take 4 ++ ls.drop 4)).take 4 ++ List.replicate 0 unb, fun ls => (Hf_sock_Ledger_Release_v4_L0 y1 y2 w0 w1 w2 w3 w4 w5 w6 w7 g0_0 g0_1 g0_2 g1_0 (.e0 c0_0 c0_1) (ls.take 4 ++ ls.drop 4)).drop 4⟩ :=
  spc_of_goesM hU 0 (k0 := 4) (go_sock_Ledger_Release_v4_L0 hU y1 y2 w0 w1 w2 w3 w4 w5 w6 w7 g0_0 g0_1 g0_2 g1_0 _ _ h) (t0_sock_Ledger_Release_v4_L0_0 y1 y2 w0 w1 w2 w3 w4 w5 w6 w7 g0_0 g0_1 g0_2 g1_0 s0_0) (pre_sock_Ledger_Release_v4_L0_0 y1 y2 w0 w1 w2 w3 w4 w5 w6 w7 g0_0 g0_1 g0_2 g1_0 s0_0) (fun _ => rfl) (fun ls h => by match ls, h with | [l0, l1, l2, l3], _ => exact ⟨by kernel_rfl, by kernel_rfl⟩) (fun ls h => by match ls, h with | [l0, l1, l2, l3], _ => rfl) (by decide) (by decide) (fun ls => rfl)
inductive R_sock_Ledger_Release_v4 where
  | e0 (c0_0 : Nat → Int) (c0_1 : Int) (c0_2 : Int) (c0_3 : Nat → Event) (c0_4 : Int)
  | e1 
noncomputable def m_sock_Ledger_Release_v4 (y1 : Int) (y2 : Int) (w0 : Nat) (w1 : Nat) (w2 : Int) (w3 : Int) (w4 : Nat) (w5 : Nat → Int) (w6 : Nat → Reference) (w7 : Nat → Event) : Option R_sock_Ledger_Release_v4 :=
  (m_sock_Ledger_What_v4 y1 w0 w1 w2 w3 w4 w5 w6 w7).bind fun g0 => match g0 with
  | .e0 g0_0 g0_1 g0_2 =>
  bif g0_2 then
    ((m_sock_counting_change_v4 (IntKind.i64.wrap (y1 - 1)) (-1) w0 w1 w2 w3 w4 w5 w6 w7).bind fun g1 => match g1 with
    | .e0 g1_0 =>
    (lpO (st_sock_Ledger_Release_v4_L0 w0 w1 w2 w4 w6 w7 g1_0) (.c0 w3)).bind fun g2 => match g2 with
    | .e0 g2_0 g2_1 =>
    bif decide (w4 ≤ 1000000) then
      (some (.e0 g1_0 g2_0 g2_1 (updF w7 w4 (⟨true, y1, y2⟩ : Event)) g0_1))
    else (none))
  else (some (.e1))
def sq0_sock_Ledger_Release_v4 (y1 : Int) (y2 : Int) (w0 : Nat) (w1 : Nat) (w2 : Int) (w3 : Int) (w4 : Nat) (w5 : Nat → Int) (w6 : Nat → Reference) (w7 : Nat → Event) (c0_0 : Nat → Int) (c0_1 : Int) (c0_2 : Int) (c0_3 : Nat → Event) (c0_4 : Int) : Spc := ⟨fun ls => .call 19 #[.pointer (some ⟨(lget ls 0).n, 0, none⟩), .int .i64 (y1), .int .i64 (y2)], fun ls => [.cells #[(rowV (lget ls 1) w0 1), (rowV (lget ls 2) w1 2), .int .i64 (w2), .int .i64 (w3), (rowV (lget ls 3) w4 3)] 78, rowO (lget ls 1) (esG cZ w0 w5) 3 w0 1, rowO (lget ls 2) (esG c_Reference w1 w6) 82 w1 2, rowO (lget ls 3) (esG c_Event w4 w7) 63 w4 3], 1, .normal, fun ls => [.tuple #[.int .i64 (c0_4), .int .i64 (0)]], fun ls => [.cells #[(rowV (lget ls 1) w0 1), (rowV (lget ls 2) w1 2), .int .i64 (c0_1), .int .i64 (c0_2), (rowV (lget ls 4) (w4 + 1) 3)] 78, rowO (lget ls 1) (esG cZ w0 c0_0) 3 w0 1, rowO (lget ls 2) (esG c_Reference w1 w6) 82 w1 2, unb], fun ls => [rowO (lget ls 4) (esG c_Event (w4 + 1) c0_3) 63 (w4 + 1) 3]⟩
def sq1_sock_Ledger_Release_v4 (y1 : Int) (y2 : Int) (w0 : Nat) (w1 : Nat) (w2 : Int) (w3 : Int) (w4 : Nat) (w5 : Nat → Int) (w6 : Nat → Reference) (w7 : Nat → Event)  : Spc := ⟨fun ls => .call 19 #[.pointer (some ⟨(lget ls 0).n, 0, none⟩), .int .i64 (y1), .int .i64 (y2)], fun ls => [.cells #[(rowV (lget ls 1) w0 1), (rowV (lget ls 2) w1 2), .int .i64 (w2), .int .i64 (w3), (rowV (lget ls 3) w4 3)] 78, rowO (lget ls 1) (esG cZ w0 w5) 3 w0 1, rowO (lget ls 2) (esG c_Reference w1 w6) 82 w1 2, rowO (lget ls 3) (esG c_Event w4 w7) 63 w4 3], 0, .normal, fun ls => [.tuple #[.int .i64 (0), .int .i64 (110)]], fun ls => [.cells #[(rowV (lget ls 1) w0 1), (rowV (lget ls 2) w1 2), .int .i64 (w2), .int .i64 (w3), (rowV (lget ls 3) w4 3)] 78, rowO (lget ls 1) (esG cZ w0 w5) 3 w0 1, rowO (lget ls 2) (esG c_Reference w1 w6) 82 w1 2, rowO (lget ls 3) (esG c_Event w4 w7) 63 w4 3], fun ls => []⟩
theorem ok0_sock_Ledger_Release_v4 (c0_0 : Nat → Int) (c0_1 : Int) (c0_2 : Int) (c0_3 : Nat → Event) (c0_4 : Int) (e : m_sock_Ledger_Release_v4 y1 y2 w0 w1 w2 w3 w4 w5 w6 w7 = some (.e0 c0_0 c0_1 c0_2 c0_3 c0_4)) : SpcG Try.prog M B0 S (sq0_sock_Ledger_Release_v4 y1 y2 w0 w1 w2 w3 w4 w5 w6 w7 c0_0 c0_1 c0_2 c0_3 c0_4) := by
  unfold m_sock_Ledger_Release_v4 at e
  replace e := bindO_eq e
  obtain ⟨g0, e_g0, e⟩ := e
  obtain ⟨g0_0, g0_1, g0_2⟩ := g0
  try dsimp only at e
  replace e := cond_eq_or e
  rcases e with ⟨hq0, e⟩ | ⟨hq0, e⟩
  · replace e := bindO_eq e
    obtain ⟨g1, e_g1, e⟩ := e
    obtain ⟨g1_0⟩ := g1
    try dsimp only at e
    replace e := bindO_eq e
    obtain ⟨g2, e_g2, e⟩ := e
    obtain ⟨g2_0, g2_1⟩ := g2
    try dsimp only at e
    replace e := cond_eq_or e
    rcases e with ⟨hq1, e⟩ | ⟨hq1, e⟩
    · injection e with e; injection e with i0 i1 i2 i3 i4; subst i0 i1 i2 i3 i4; exact fn_specG hU (P := Try.prog) Try.func19 (fun xs w => by kernel_rfl) 4 _ _ (fun _ => rfl) _ _ _ [6] [.o, .o, .o, .o, .xg (ok0_sock_Ledger_What_v4 hU y1 w0 w1 w2 w3 w4 w5 w6 w7 g0_0 g0_1 g0_2 e_g0) [0, 1, 2, 3], .o, .o, .o, .b hq0, .o, .o, .o, .o, .o, .o, .o, .o, .o, .o, .xg (ok0_sock_counting_change_v4 hU (IntKind.i64.wrap (y1 - 1)) (-1) w0 w1 w2 w3 w4 w5 w6 w7 g1_0 e_g1) [0, 1, 2, 3], .o, .o, .o, .a 0, .o, .o, .o, .a 0, .cp, .cx (sp0_sock_Ledger_Release_v4_L0_0_ok hU y1 y2 w0 w1 w2 w3 w4 w5 w6 w7 g0_0 g0_1 g0_2 g1_0 w3 g2_0 g2_1 e_g2) [0, 1, 2, 3], .o, .o, .o, .o, .a 0, .o, .o, .o, .o, .x (sqAppL_ok (ty := 37) rt37 #[false, false] (f := c_Event) (N := w4) (A := w7) (c := 1) [(⟨true, y1, y2⟩ : Event)] (T' := 63) .row c_Event_len c_Event_one hq1 rfl (by decide)) [3, 5], .o, .o, .a 0, .o, .o, .o] [] (fun b => by kernel_rfl)
    · exact none_some e
  · cases e
theorem ok1_sock_Ledger_Release_v4 (e : m_sock_Ledger_Release_v4 y1 y2 w0 w1 w2 w3 w4 w5 w6 w7 = some (.e1 )) : SpcG Try.prog M B0 S (sq1_sock_Ledger_Release_v4 y1 y2 w0 w1 w2 w3 w4 w5 w6 w7 ) := by
  unfold m_sock_Ledger_Release_v4 at e
  replace e := bindO_eq e
  obtain ⟨g0, e_g0, e⟩ := e
  obtain ⟨g0_0, g0_1, g0_2⟩ := g0
  try dsimp only at e
  replace e := cond_eq_or e
  rcases e with ⟨hq0, e⟩ | ⟨hq0, e⟩
  · replace e := bindO_eq e
    obtain ⟨g1, e_g1, e⟩ := e
    obtain ⟨g1_0⟩ := g1
    try dsimp only at e
    replace e := bindO_eq e
    obtain ⟨g2, e_g2, e⟩ := e
    obtain ⟨g2_0, g2_1⟩ := g2
    try dsimp only at e
    replace e := cond_eq_or e
    rcases e with ⟨hq1, e⟩ | ⟨hq1, e⟩
    · cases e
    · exact none_some e
  · exact fn_specG hU (P := Try.prog) Try.func19 (fun xs w => by kernel_rfl) 4 _ _ (fun _ => rfl) _ _ _ [] [.o, .o, .o, .o, .xg (ok0_sock_Ledger_What_v4 hU y1 w0 w1 w2 w3 w4 w5 w6 w7 g0_0 g0_1 g0_2 e_g0) [0, 1, 2, 3], .o, .o, .o, .b hq0, .o, .o, .o, .o, .o, .o, .o] [] (fun b => by kernel_rfl)
def sq0_sock_Ledger_Events (w0 : Int)  : Spc := ⟨fun ls => .call 31 #[.pointer (some ⟨(lget ls 0).n, 0, none⟩)], fun ls => [.cells #[.slice none 0 0, .slice none 0 0, .int .i64 (w0), .int .i64 (w0), .slice none 0 0] 78], 1, .normal, fun ls => [.slice (some ⟨(lget ls 1).n, 0, none⟩) 0 0], fun ls => [.cells #[.slice none 0 0, .slice none 0 0, .int .i64 (w0), .int .i64 (w0), .slice none 0 0] 78], fun ls => [.cells #[] 63]⟩
end
section
variable {M : Nat → Prop} {B0 : Nat} {S : World → Prop} (hU : Up M B0 S) (w0 : Int)
include hU w0
theorem p0_sock_Ledger_Events : SpcG Try.prog M B0 S (sq0_sock_Ledger_Events w0 ) :=
  fn_specG hU (P := Try.prog) Try.func31 (fun xs w => by kernel_rfl) 1 _ _ (fun _ => rfl) _ _ _ [1]
    [.o, .o, .o, .o, .a 0, .o, .o, .o, .o, .o, .o, .o, .a 0, .x (sqCpNil_ok (ty := 3) rt37 #[false, false] (T' := 63)) [1], .o, .o]
    [] (fun b => by kernel_rfl)
inductive Sh_sock_Ledger_Held_L0 where
  | c0 (s0_0 : Int)
inductive Ex_sock_Ledger_Held_L0 where
  | e0 
noncomputable def st_sock_Ledger_Held_L0 (w0 : Int) : Sh_sock_Ledger_Held_L0 → Option (Sh_sock_Ledger_Held_L0 ⊕ Ex_sock_Ledger_Held_L0)
  | .c0 s0_0 =>
    bif decide (s0_0 < 0) then
      ((m_sock_counting_counted_v6 s0_0 w0).bind fun gb0 => match gb0 with
      | .e0 =>
      some (.inl (.c0 (IntKind.i64.wrap (s0_0 + 1)))))
    else (some (.inr (.e0 )))
noncomputable def bd_sock_Ledger_Held_L0 : Code := codeOf Try.f28 [1, 1, 0, 1, 0, 0]
def fl_sock_Ledger_Held_L0 (w0 : Int) : Sh_sock_Ledger_Held_L0 → List L1 → List Value
  | .c0 s0_0, ls => [.pointer (some ⟨(lget ls 0).n, 0, none⟩), .slice none 0 0, .slice none 0 0, .int .i64 (s0_0)]
def mf_sock_Ledger_Held_L0 : Sh_sock_Ledger_Held_L0 → List (Nat × Nat)
  | .c0 _ => [(1, 1), (3, 25)]
noncomputable def fr_sock_Ledger_Held_L0 (w0 : Int) (s : Sh_sock_Ledger_Held_L0) : List L1 → List Value := mrgF (mf_sock_Ledger_Held_L0 s) (fl_sock_Ledger_Held_L0 w0 s) 1
def Hs_sock_Ledger_Held_L0 (w0 : Int) : Sh_sock_Ledger_Held_L0 → List L1 → List Obj
  | .c0 s0_0, ls => [.cells #[.slice none 0 0, .slice none 0 0, .int .i64 (w0), .int .i64 (w0), .slice none 0 0] 78, unb]
def vl_sock_Ledger_Held_L0 (w0 : Int) : Ex_sock_Ledger_Held_L0 → List L1 → List Value
  | .e0 , ls => [.pointer (some ⟨(lget ls 0).n, 0, none⟩), .slice none 0 0, .slice none 0 0]
def mk_sock_Ledger_Held_L0 : Ex_sock_Ledger_Held_L0 → List (Nat × Nat)
  | .e0  => [(1, 1), (2, 26)]
noncomputable def vf_sock_Ledger_Held_L0 (w0 : Int) (r : Ex_sock_Ledger_Held_L0) : List L1 → List Value := mrgF (mk_sock_Ledger_Held_L0 r) (vl_sock_Ledger_Held_L0 w0 r) 1
def Hf_sock_Ledger_Held_L0 (w0 : Int) : Ex_sock_Ledger_Held_L0 → List L1 → List Obj
  | .e0 , ls => [.cells #[.slice none 0 0, .slice none 0 0, .int .i64 (w0), .int .i64 (w0), .slice none 0 0] 78, unb]
def ex_sock_Ledger_Held_L0 : Ex_sock_Ledger_Held_L0 → Ex
  | .e0  => (.exit 0)
theorem go_sock_Ledger_Held_L0 (s : Sh_sock_Ledger_Held_L0) (r : Ex_sock_Ledger_Held_L0) (h : lpO (st_sock_Ledger_Held_L0 w0) s = some r) : GoesG Try.prog M B0 S (.loop bd_sock_Ledger_Held_L0) 2 (fr_sock_Ledger_Held_L0 w0 s) (Hs_sock_Ledger_Held_L0 w0 s) (ex_sock_Ledger_Held_L0 r) 1 (vf_sock_Ledger_Held_L0 w0 r) (Hf_sock_Ledger_Held_L0 w0 r) 2 :=
  goes_lpO (fun s q e => by
    cases s with
    | c0 s0_0 =>
      unfold st_sock_Ledger_Held_L0 at e
      dsimp only at e
      replace e := cond_eq_or e
      rcases e with ⟨hq0, e⟩ | ⟨hq0, e⟩
      · replace e := bindO_eq e
        obtain ⟨gb0, e_gb0, e⟩ := e
        cases gb0
        try dsimp only at e
        cases e; exact goes_runM hU [.o, .o, .o, .o, .a 0, .o, .b (z_lssT hq0), .o, .o, .o, .o, .xg (ok0_sock_counting_counted_v6 hU s0_0 w0  e_gb0) [0], .o, .o, .o, .o] [0] (fun b => rfl) (by decide) rfl rfl (fun b => by kernel_rfl)
      · cases e; exact ⟨ne_exit 0, goes_runM hU [.o, .o, .o, .o, .a 0, .o, .b (z_lssF hq0)] [0] (fun b => rfl) (by decide) rfl rfl (fun b => by kernel_rfl)⟩) s r h
noncomputable def t0_sock_Ledger_Held_L0_0 (w0 : Int) (s0_0 : Int) (ls : List L1) : List Value := List.append [.pointer (some ⟨(lget ls 0).n, 0, none⟩), undef, .slice none 0 0, .slice none 0 0, .int .i64 (s0_0), .pointer (some ⟨(lget ls 0).n, 0, none⟩), .pointer (some ⟨(lget ls 0).n, 0, none⟩), .pointer (some ⟨(lget ls 0).n, 3, none⟩), .int .i64 (w0)] (und 21)
def pre_sock_Ledger_Held_L0_0 (w0 : Int) (s0_0 : Int) (ls : List L1) : List Obj := [.cells #[.slice none 0 0, .slice none 0 0, .int .i64 (w0), .int .i64 (w0), .slice none 0 0] 78]
theorem sp0_sock_Ledger_Held_L0_0_ok (s0_0 : Int) (h : lpO (st_sock_Ledger_Held_L0 w0) (.c0 s0_0) = some (.e0 )) : SpcG Try.prog M B0 S ⟨fun ls => .code (.loop bd_sock_Ledger_Held_L0) (t0_sock_Ledger_Held_L0_0 w0 s0_0 ls), pre_sock_Ledger_Held_L0_0 w0 s0_0, 1, (.exit 0), fun ls => vf_sock_Ledger_Held_L0 w0 (.e0 ) (ls.take 1 ++ ls.drop 1), fun ls => (Hf_sock_Ledger_Held_L0 w0 (.e0 ) (ls.take 1 ++ ls.drop 1)).take 1 ++ List.replicate 0 unb, fun ls => (Hf_sock_Ledger_Held_L0 w0 (.e0 ) (ls.take 1 ++ ls.drop 1)).drop 1⟩ :=
  spc_of_goesM hU 0 (k0 := 1) (go_sock_Ledger_Held_L0 hU w0 _ _ h) (t0_sock_Ledger_Held_L0_0 w0 s0_0) (pre_sock_Ledger_Held_L0_0 w0 s0_0) (fun _ => rfl) (fun ls h => by match ls, h with | [l0], _ => exact ⟨by kernel_rfl, by kernel_rfl⟩) (fun ls h => by match ls, h with | [l0], _ => rfl) (by decide) (by decide) (fun ls => rfl)
inductive R_sock_Ledger_Held where
  | e0 
noncomputable def m_sock_Ledger_Held (w0 : Int) : Option R_sock_Ledger_Held :=
  (lpO (st_sock_Ledger_Held_L0 w0) (.c0 w0)).bind fun g0 => match g0 with
  | .e0 =>
  some (.e0)
def sq0_sock_Ledger_Held (w0 : Int)  : Spc := ⟨fun ls => .call 28 #[.pointer (some ⟨(lget ls 0).n, 0, none⟩)], fun ls => [.cells #[.slice none 0 0, .slice none 0 0, .int .i64 (w0), .int .i64 (w0), .slice none 0 0] 78], 0, .normal, fun ls => [.slice none 0 0], fun ls => [.cells #[.slice none 0 0, .slice none 0 0, .int .i64 (w0), .int .i64 (w0), .slice none 0 0] 78], fun ls => []⟩
theorem ok0_sock_Ledger_Held (e : m_sock_Ledger_Held w0 = some (.e0 )) : SpcG Try.prog M B0 S (sq0_sock_Ledger_Held w0 ) := by
  unfold m_sock_Ledger_Held at e
  replace e := bindO_eq e
  obtain ⟨g0, e_g0, e⟩ := e
  cases g0
  try dsimp only at e
  exact fn_specG hU (P := Try.prog) Try.func28 (fun xs w => by kernel_rfl) 1 _ _ (fun _ => rfl) _ _ _ [] [.o, .o, .o, .o, .o, .a 0, .o, .cp, .cx (sp0_sock_Ledger_Held_L0_0_ok hU w0 w0  e_g0) [0], .o, .o] [] (fun b => by kernel_rfl)
inductive Sh_barbicanhelp_Ints_L0 where
  | c0 (s0_0 : Int)
inductive Ex_barbicanhelp_Ints_L0 where
  | e0 
  | e1 
noncomputable def st_barbicanhelp_Ints_L0 (n0 : Nat) (A0 : Nat → Int) (n1 : Nat) (A1 : Nat → Int) : Sh_barbicanhelp_Ints_L0 → Option (Sh_barbicanhelp_Ints_L0 ⊕ Ex_barbicanhelp_Ints_L0)
  | .c0 s0_0 =>
    bif decide (s0_0 < (n0 : Int)) then
      (bif inR s0_0 n0 then
        (bif inR s0_0 n1 then
          (bif (A0 (s0_0).toNat) == (A1 (s0_0).toNat) then
            (some (.inl (.c0 (IntKind.i64.wrap (s0_0 + 1)))))
          else (some (.inr (.e1 ))))
        else (none))
      else (none))
    else (some (.inr (.e0 )))
noncomputable def bd_barbicanhelp_Ints_L0 : Code := codeOf Try.f23 [1, 1, 0, 1, 0, 0]
def fl_barbicanhelp_Ints_L0 (a0 : Option Addr) (p0 : Nat) (q0 : Nat) (n0 : Nat) (k0 : Nat) (A0 : Nat → Int) (a1 : Option Addr) (p1 : Nat) (q1 : Nat) (n1 : Nat) (k1 : Nat) (A1 : Nat → Int) : Sh_barbicanhelp_Ints_L0 → List L1 → List Value
  | .c0 s0_0, ls => [.slice a0 n0 (n0 + k0), .slice a1 n1 (n1 + k1), .bool false, .int .i64 (s0_0)]
def mf_barbicanhelp_Ints_L0 : Sh_barbicanhelp_Ints_L0 → List (Nat × Nat)
  | .c0 _ => [(2, 2), (2, 20)]
noncomputable def fr_barbicanhelp_Ints_L0 (a0 : Option Addr) (p0 : Nat) (q0 : Nat) (n0 : Nat) (k0 : Nat) (A0 : Nat → Int) (a1 : Option Addr) (p1 : Nat) (q1 : Nat) (n1 : Nat) (k1 : Nat) (A1 : Nat → Int) (s : Sh_barbicanhelp_Ints_L0) : List L1 → List Value := mrgF (mf_barbicanhelp_Ints_L0 s) (fl_barbicanhelp_Ints_L0 a0 p0 q0 n0 k0 A0 a1 p1 q1 n1 k1 A1 s) 0
def Hs_barbicanhelp_Ints_L0 (a0 : Option Addr) (p0 : Nat) (q0 : Nat) (n0 : Nat) (k0 : Nat) (A0 : Nat → Int) (a1 : Option Addr) (p1 : Nat) (q1 : Nat) (n1 : Nat) (k1 : Nat) (A1 : Nat → Int) : Sh_barbicanhelp_Ints_L0 → List L1 → List Obj
  | .c0 s0_0, ls => [unb]
def vl_barbicanhelp_Ints_L0 (a0 : Option Addr) (p0 : Nat) (q0 : Nat) (n0 : Nat) (k0 : Nat) (A0 : Nat → Int) (a1 : Option Addr) (p1 : Nat) (q1 : Nat) (n1 : Nat) (k1 : Nat) (A1 : Nat → Int) : Ex_barbicanhelp_Ints_L0 → List L1 → List Value
  | .e0 , ls => [.slice a0 n0 (n0 + k0), .slice a1 n1 (n1 + k1), .bool false]
  | .e1 , ls => [.slice a0 n0 (n0 + k0), .slice a1 n1 (n1 + k1), .bool false]
def mk_barbicanhelp_Ints_L0 : Ex_barbicanhelp_Ints_L0 → List (Nat × Nat)
  | .e0  => [(2, 2), (1, 21)]
  | .e1  => [(2, 2), (1, 21)]
noncomputable def vf_barbicanhelp_Ints_L0 (a0 : Option Addr) (p0 : Nat) (q0 : Nat) (n0 : Nat) (k0 : Nat) (A0 : Nat → Int) (a1 : Option Addr) (p1 : Nat) (q1 : Nat) (n1 : Nat) (k1 : Nat) (A1 : Nat → Int) (r : Ex_barbicanhelp_Ints_L0) : List L1 → List Value := mrgF (mk_barbicanhelp_Ints_L0 r) (vl_barbicanhelp_Ints_L0 a0 p0 q0 n0 k0 A0 a1 p1 q1 n1 k1 A1 r) 0
def Hf_barbicanhelp_Ints_L0 (a0 : Option Addr) (p0 : Nat) (q0 : Nat) (n0 : Nat) (k0 : Nat) (A0 : Nat → Int) (a1 : Option Addr) (p1 : Nat) (q1 : Nat) (n1 : Nat) (k1 : Nat) (A1 : Nat → Int) : Ex_barbicanhelp_Ints_L0 → List L1 → List Obj
  | .e0 , ls => [unb]
  | .e1 , ls => [unb]
def ex_barbicanhelp_Ints_L0 : Ex_barbicanhelp_Ints_L0 → Ex
  | .e0  => (.exit 0)
  | .e1  => .ret
end
section
variable {M : Nat → Prop} {B0 : Nat} {S : World → Prop} (hU : Up M B0 S) (a0 : Option Addr) (p0 : Nat) (q0 : Nat) (n0 : Nat) (k0 : Nat) (A0 : Nat → Int) (hR0 : Ro S cZ 1 a0 p0 q0 n0 A0) (a1 : Option Addr) (p1 : Nat) (q1 : Nat) (n1 : Nat) (k1 : Nat) (A1 : Nat → Int) (hR1 : Ro S cZ 1 a1 p1 q1 n1 A1)
include hU a0 p0 q0 n0 k0 A0 hR0 a1 p1 q1 n1 k1 A1 hR1
theorem go_barbicanhelp_Ints_L0 (s : Sh_barbicanhelp_Ints_L0) (r : Ex_barbicanhelp_Ints_L0) (h : lpO (st_barbicanhelp_Ints_L0 n0 A0 n1 A1) s = some r) : GoesG Try.prog M B0 S (.loop bd_barbicanhelp_Ints_L0) 1 (fr_barbicanhelp_Ints_L0 a0 p0 q0 n0 k0 A0 a1 p1 q1 n1 k1 A1 s) (Hs_barbicanhelp_Ints_L0 a0 p0 q0 n0 k0 A0 a1 p1 q1 n1 k1 A1 s) (ex_barbicanhelp_Ints_L0 r) 0 (vf_barbicanhelp_Ints_L0 a0 p0 q0 n0 k0 A0 a1 p1 q1 n1 k1 A1 r) (Hf_barbicanhelp_Ints_L0 a0 p0 q0 n0 k0 A0 a1 p1 q1 n1 k1 A1 r) 1 :=
  goes_lpO (fun s q e => by
    cases s with
    | c0 s0_0 =>
      unfold st_barbicanhelp_Ints_L0 at e
      dsimp only at e
      replace e := cond_eq_or e
      rcases e with ⟨hq0, e⟩ | ⟨hq0, e⟩
      · replace e := cond_eq_or e
        rcases e with ⟨hq1, e⟩ | ⟨hq1, e⟩
        · replace e := cond_eq_or e
          rcases e with ⟨hq2, e⟩ | ⟨hq2, e⟩
          · replace e := cond_eq_or e
            rcases e with ⟨hq3, e⟩ | ⟨hq3, e⟩
            · cases e; exact goes_runM hU [.o, .o, .o, .b (z_lssT hq0), .r [0, 1, 2, 3, 4, 5, 6, 7, 8] [] [], .o, .o, .q (ixRo_ok (kd := .i64) (T := 56) (x := s0_0) (sz := 1) rfl (fun w => by kernel_rfl) hR0 hq1), .l (accRo hR0 cZ_len (inR_nat hq1) 0 [.int .i64 ((A0 (s0_0).toNat))] rfl), .o, .o, .q (ixRo_ok (kd := .i64) (T := 56) (x := s0_0) (sz := 1) rfl (fun w => by kernel_rfl) hR1 hq2), .l (accRo hR1 cZ_len (inR_nat hq2) 0 [.int .i64 ((A1 (s0_0).toNat))] rfl), .b (z_neqT hq3), .o, .o, .o] [] (fun b => rfl) (by decide) rfl rfl (fun b => by kernel_rfl)
            · cases e; exact ⟨ne_ret, goes_runM hU [.o, .o, .o, .b (z_lssT hq0), .r [0, 1, 2, 3, 4, 5, 6, 7, 8] [] [], .o, .o, .q (ixRo_ok (kd := .i64) (T := 56) (x := s0_0) (sz := 1) rfl (fun w => by kernel_rfl) hR0 hq1), .l (accRo hR0 cZ_len (inR_nat hq1) 0 [.int .i64 ((A0 (s0_0).toNat))] rfl), .o, .o, .q (ixRo_ok (kd := .i64) (T := 56) (x := s0_0) (sz := 1) rfl (fun w => by kernel_rfl) hR1 hq2), .l (accRo hR1 cZ_len (inR_nat hq2) 0 [.int .i64 ((A1 (s0_0).toNat))] rfl), .b (z_neqF hq3), .o] [] (fun b => rfl) (by decide) rfl rfl (fun b => by kernel_rfl)⟩
          · exact none_some e
        · exact none_some e
      · cases e; exact ⟨ne_exit 0, goes_runM hU [.o, .o, .o, .b (z_lssF hq0)] [] (fun b => rfl) (by decide) rfl rfl (fun b => by kernel_rfl)⟩) s r h
noncomputable def t0_barbicanhelp_Ints_L0_0 (a0 : Option Addr) (p0 : Nat) (q0 : Nat) (n0 : Nat) (k0 : Nat) (A0 : Nat → Int) (a1 : Option Addr) (p1 : Nat) (q1 : Nat) (n1 : Nat) (k1 : Nat) (A1 : Nat → Int) (s0_0 : Int) (ls : List L1) : List Value := List.append [.slice a0 n0 (n0 + k0), .slice a1 n1 (n1 + k1), undef, undef, .bool false, .int .i64 (s0_0), .slice a0 n0 (n0 + k0), .int .i64 ((n0 : Int)), .slice a1 n1 (n1 + k1), .int .i64 ((n1 : Int)), .bool false] (und 15)
def pre_barbicanhelp_Ints_L0_0 (a0 : Option Addr) (p0 : Nat) (q0 : Nat) (n0 : Nat) (k0 : Nat) (A0 : Nat → Int) (a1 : Option Addr) (p1 : Nat) (q1 : Nat) (n1 : Nat) (k1 : Nat) (A1 : Nat → Int) (s0_0 : Int) (ls : List L1) : List Obj := []
theorem sp0_barbicanhelp_Ints_L0_0_ok (s0_0 : Int) (h : lpO (st_barbicanhelp_Ints_L0 n0 A0 n1 A1) (.c0 s0_0) = some (.e0 )) : SpcG Try.prog M B0 S ⟨fun ls => .code (.loop bd_barbicanhelp_Ints_L0) (t0_barbicanhelp_Ints_L0_0 a0 p0 q0 n0 k0 A0 a1 p1 q1 n1 k1 A1 s0_0 ls), pre_barbicanhelp_Ints_L0_0 a0 p0 q0 n0 k0 A0 a1 p1 q1 n1 k1 A1 s0_0, 1, (.exit 0), fun ls => vf_barbicanhelp_Ints_L0 a0 p0 q0 n0 k0 A0 a1 p1 q1 n1 k1 A1 (.e0 ) (ls.take 0 ++ ls.drop 0), fun ls => (Hf_barbicanhelp_Ints_L0 a0 p0 q0 n0 k0 A0 a1 p1 q1 n1 k1 A1 (.e0 ) (ls.take 0 ++ ls.drop 0)).take 0 ++ List.replicate 0 unb, fun ls => (Hf_barbicanhelp_Ints_L0 a0 p0 q0 n0 k0 A0 a1 p1 q1 n1 k1 A1 (.e0 ) (ls.take 0 ++ ls.drop 0)).drop 0⟩ :=
  spc_of_goesM hU 0 (k0 := 0) (go_barbicanhelp_Ints_L0 hU a0 p0 q0 n0 k0 A0 hR0 a1 p1 q1 n1 k1 A1 hR1 _ _ h) (t0_barbicanhelp_Ints_L0_0 a0 p0 q0 n0 k0 A0 a1 p1 q1 n1 k1 A1 s0_0) (pre_barbicanhelp_Ints_L0_0 a0 p0 q0 n0 k0 A0 a1 p1 q1 n1 k1 A1 s0_0) (fun _ => rfl) (fun ls h => by match ls, h with | [], _ => exact ⟨by kernel_rfl, by kernel_rfl⟩) (fun ls h => by match ls, h with | [], _ => rfl) (by decide) (by decide) (fun ls => rfl)
theorem sp1_barbicanhelp_Ints_L0_0_ok (s0_0 : Int) (h : lpO (st_barbicanhelp_Ints_L0 n0 A0 n1 A1) (.c0 s0_0) = some (.e1 )) : SpcG Try.prog M B0 S ⟨fun ls => .code (.loop bd_barbicanhelp_Ints_L0) (t0_barbicanhelp_Ints_L0_0 a0 p0 q0 n0 k0 A0 a1 p1 q1 n1 k1 A1 s0_0 ls), pre_barbicanhelp_Ints_L0_0 a0 p0 q0 n0 k0 A0 a1 p1 q1 n1 k1 A1 s0_0, 1, .ret, fun ls => vf_barbicanhelp_Ints_L0 a0 p0 q0 n0 k0 A0 a1 p1 q1 n1 k1 A1 (.e1 ) (ls.take 0 ++ ls.drop 0), fun ls => (Hf_barbicanhelp_Ints_L0 a0 p0 q0 n0 k0 A0 a1 p1 q1 n1 k1 A1 (.e1 ) (ls.take 0 ++ ls.drop 0)).take 0 ++ List.replicate 0 unb, fun ls => (Hf_barbicanhelp_Ints_L0 a0 p0 q0 n0 k0 A0 a1 p1 q1 n1 k1 A1 (.e1 ) (ls.take 0 ++ ls.drop 0)).drop 0⟩ :=
  spc_of_goesM hU 0 (k0 := 0) (go_barbicanhelp_Ints_L0 hU a0 p0 q0 n0 k0 A0 hR0 a1 p1 q1 n1 k1 A1 hR1 _ _ h) (t0_barbicanhelp_Ints_L0_0 a0 p0 q0 n0 k0 A0 a1 p1 q1 n1 k1 A1 s0_0) (pre_barbicanhelp_Ints_L0_0 a0 p0 q0 n0 k0 A0 a1 p1 q1 n1 k1 A1 s0_0) (fun _ => rfl) (fun ls h => by match ls, h with | [], _ => exact ⟨by kernel_rfl, by kernel_rfl⟩) (fun ls h => by match ls, h with | [], _ => rfl) (by decide) (by decide) (fun ls => rfl)
noncomputable def m_barbicanhelp_Ints (n0 : Nat) (A0 : Nat → Int) (n1 : Nat) (A1 : Nat → Int) : Option (Bool) :=
  bif (n0 : Int) == (n1 : Int) then
    ((lpO (st_barbicanhelp_Ints_L0 n0 A0 n1 A1) (.c0 0)).bind fun g0 => match g0 with
    | .e0  => (some true)
    | .e1  => (some false))
  else (some false)
theorem ok_barbicanhelp_Ints (r : Bool) (e : m_barbicanhelp_Ints n0 A0 n1 A1 = some r) : ConG Try.prog S 23 #[.slice a0 n0 (n0 + k0), .slice a1 n1 (n1 + k1)] (.bool (r)) := by
  unfold m_barbicanhelp_Ints at e
  replace e := cond_eq_or e
  rcases e with ⟨hq0, e⟩ | ⟨hq0, e⟩
  · replace e := bindO_eq e
    obtain ⟨g0, e_g0, e⟩ := e
    rcases g0 with _ | _
    · try dsimp only at e
      injection e with e; subst e; exact fn_conG hU (P := Try.prog) Try.func23 (fun xs w => by kernel_rfl) _ _ [.o, .o, .o, .o, .o, .b (z_neqT hq0), .o, .cp, .cx (sp0_barbicanhelp_Ints_L0_0_ok hU a0 p0 q0 n0 k0 A0 hR0 a1 p1 q1 n1 k1 A1 hR1 0  e_g0) [], .o] [] (fun b => by kernel_rfl)
    · try dsimp only at e
      injection e with e; subst e; exact fn_conG hU (P := Try.prog) Try.func23 (fun xs w => by kernel_rfl) _ _ [.o, .o, .o, .o, .o, .b (z_neqT hq0), .o, .cp, .cx (sp1_barbicanhelp_Ints_L0_0_ok hU a0 p0 q0 n0 k0 A0 hR0 a1 p1 q1 n1 k1 A1 hR1 0  e_g0) []] [] (fun b => by kernel_rfl)
  · injection e with e; subst e; exact fn_conG hU (P := Try.prog) Try.func23 (fun xs w => by kernel_rfl) _ _ [.o, .o, .o, .o, .o, .b (z_neqF hq0), .o] [] (fun b => by kernel_rfl)
inductive R_sock_Ledger_Events_v1 where
  | e0 
noncomputable def m_sock_Ledger_Events_v1 (w0 : Nat) (w1 : Nat) (w2 : Int) (w3 : Int) (w4 : Nat) (w5 : Nat → Int) (w6 : Nat → Reference) (w7 : Nat → Event) : Option R_sock_Ledger_Events_v1 :=
  bif decide (w4 ≤ 1000000) then
    (some (.e0))
  else (none)
def sq0_sock_Ledger_Events_v1 (w0 : Nat) (w1 : Nat) (w2 : Int) (w3 : Int) (w4 : Nat) (w5 : Nat → Int) (w6 : Nat → Reference) (w7 : Nat → Event)  : Spc := ⟨fun ls => .call 31 #[.pointer (some ⟨(lget ls 0).n, 0, none⟩)], fun ls => [.cells #[(rowV (lget ls 1) w0 1), (rowV (lget ls 2) w1 2), .int .i64 (w2), .int .i64 (w3), (rowV (lget ls 3) w4 3)] 78, rowO (lget ls 1) (esG cZ w0 w5) 3 w0 1, rowO (lget ls 2) (esG c_Reference w1 w6) 82 w1 2, rowO (lget ls 3) (esG c_Event w4 w7) 63 w4 3], 1, .normal, fun ls => [(rowV (lget ls 4) w4 3)], fun ls => [.cells #[(rowV (lget ls 1) w0 1), (rowV (lget ls 2) w1 2), .int .i64 (w2), .int .i64 (w3), (rowV (lget ls 3) w4 3)] 78, rowO (lget ls 1) (esG cZ w0 w5) 3 w0 1, rowO (lget ls 2) (esG c_Reference w1 w6) 82 w1 2, rowO (lget ls 3) (esG c_Event w4 w7) 63 w4 3], fun ls => [rowO (lget ls 4) (esG c_Event w4 w7) 63 w4 3]⟩
end
section
variable {M : Nat → Prop} {B0 : Nat} {S : World → Prop} (hU : Up M B0 S) (w0 : Nat) (w1 : Nat) (w2 : Int) (w3 : Int) (w4 : Nat) (w5 : Nat → Int) (w6 : Nat → Reference) (w7 : Nat → Event)
include hU w0 w1 w2 w3 w4 w5 w6 w7
theorem ok0_sock_Ledger_Events_v1 (e : m_sock_Ledger_Events_v1 w0 w1 w2 w3 w4 w5 w6 w7 = some (.e0 )) : SpcG Try.prog M B0 S (sq0_sock_Ledger_Events_v1 w0 w1 w2 w3 w4 w5 w6 w7 ) := by
  unfold m_sock_Ledger_Events_v1 at e
  replace e := cond_eq_or e
  rcases e with ⟨hq0, e⟩ | ⟨hq0, e⟩
  · exact fn_specG hU (P := Try.prog) Try.func31 (fun xs w => by kernel_rfl) 4 _ _ (fun _ => rfl) _ _ _ [4] [.o, .o, .o, .o, .a 0, .o, .x (sqMkN_ok rt37 (f := c_Event) (a0 := (⟨false, 0, 0⟩ : Event)) c_Event_len (by kernel_rfl) hq0 (by decide)) [], .o, .o, .o, .o, .o, .a 0, .x (sqCp_ok (ty := 3) rt37 #[false, false] (f := c_Event) (N := w4) (A := w7) (B := (fun _ => (⟨false, 0, 0⟩ : Event))) (T' := 63) c_Event_len c_Event_one) [4, 3], .o, .o] [] (fun b => by kernel_rfl)
  · exact none_some e
inductive Sh_sock_Ledger_Held_v1_L0 where
  | c0 (s0_0 : Int)
  | c1 (s0_0 : Nat) (s0_1 : Nat → Int) (s0_2 : Int)
inductive Ex_sock_Ledger_Held_v1_L0 where
  | e0 
  | e1 (c1_0 : Nat) (c1_1 : Nat → Int)
noncomputable def st_sock_Ledger_Held_v1_L0 (w0 : Nat) (w1 : Nat) (w2 : Int) (w3 : Int) (w4 : Nat) (w5 : Nat → Int) (w6 : Nat → Reference) (w7 : Nat → Event) : Sh_sock_Ledger_Held_v1_L0 → Option (Sh_sock_Ledger_Held_v1_L0 ⊕ Ex_sock_Ledger_Held_v1_L0)
  | .c0 s0_0 =>
    bif decide (s0_0 < (w1 : Int)) then
      ((m_sock_counting_counted_v8 s0_0 w0 w1 w2 w3 w4 w5 w6 w7).bind fun gb0 => match gb0 with
      | .e0 gb0_0 =>
      bif decide (0 < gb0_0) then
        (some (.inl (.c1 1 (fun _ => (IntKind.i64.wrap (s0_0 + 1))) (IntKind.i64.wrap (s0_0 + 1)))))
      else (some (.inl (.c0 (IntKind.i64.wrap (s0_0 + 1))))))
    else (some (.inr (.e0 )))
  | .c1 s0_0 s0_1 s0_2 =>
    bif decide (s0_2 < (w1 : Int)) then
      ((m_sock_counting_counted_v8 s0_2 w0 w1 w2 w3 w4 w5 w6 w7).bind fun gb0 => match gb0 with
      | .e0 gb0_0 =>
      bif decide (0 < gb0_0) then
        (bif decide (s0_0 ≤ 1000000) then
          (some (.inl (.c1 (s0_0 + 1) (updF s0_1 s0_0 (IntKind.i64.wrap (s0_2 + 1))) (IntKind.i64.wrap (s0_2 + 1)))))
        else (none))
      else (some (.inl (.c1 s0_0 s0_1 (IntKind.i64.wrap (s0_2 + 1))))))
    else (some (.inr (.e1 s0_0 s0_1)))
noncomputable def bd_sock_Ledger_Held_v1_L0 : Code := codeOf Try.f28 [1, 1, 0, 1, 0, 0]
def fl_sock_Ledger_Held_v1_L0 (w0 : Nat) (w1 : Nat) (w2 : Int) (w3 : Int) (w4 : Nat) (w5 : Nat → Int) (w6 : Nat → Reference) (w7 : Nat → Event) : Sh_sock_Ledger_Held_v1_L0 → List L1 → List Value
  | .c0 s0_0, ls => [.pointer (some ⟨(lget ls 0).n, 0, none⟩), .slice none 0 0, .slice none 0 0, .int .i64 (s0_0)]
  | .c1 s0_0 s0_1 s0_2, ls => [.pointer (some ⟨(lget ls 0).n, 0, none⟩), .slice none 0 0, (rowV (lget ls 4) s0_0 1), .int .i64 (s0_2)]
def mf_sock_Ledger_Held_v1_L0 : Sh_sock_Ledger_Held_v1_L0 → List (Nat × Nat)
  | .c0 _ => [(1, 1), (3, 25)]
  | .c1 _ _ _ => [(1, 1), (3, 25)]
noncomputable def fr_sock_Ledger_Held_v1_L0 (w0 : Nat) (w1 : Nat) (w2 : Int) (w3 : Int) (w4 : Nat) (w5 : Nat → Int) (w6 : Nat → Reference) (w7 : Nat → Event) (s : Sh_sock_Ledger_Held_v1_L0) : List L1 → List Value := mrgF (mf_sock_Ledger_Held_v1_L0 s) (fl_sock_Ledger_Held_v1_L0 w0 w1 w2 w3 w4 w5 w6 w7 s) 5
def Hs_sock_Ledger_Held_v1_L0 (w0 : Nat) (w1 : Nat) (w2 : Int) (w3 : Int) (w4 : Nat) (w5 : Nat → Int) (w6 : Nat → Reference) (w7 : Nat → Event) : Sh_sock_Ledger_Held_v1_L0 → List L1 → List Obj
  | .c0 s0_0, ls => [.cells #[(rowV (lget ls 1) w0 1), (rowV (lget ls 2) w1 2), .int .i64 (w2), .int .i64 (w3), (rowV (lget ls 3) w4 3)] 78, rowO (lget ls 1) (esG cZ w0 w5) 3 w0 1, rowO (lget ls 2) (esG c_Reference w1 w6) 82 w1 2, rowO (lget ls 3) (esG c_Event w4 w7) 63 w4 3, unb, unb]
  | .c1 s0_0 s0_1 s0_2, ls => [.cells #[(rowV (lget ls 1) w0 1), (rowV (lget ls 2) w1 2), .int .i64 (w2), .int .i64 (w3), (rowV (lget ls 3) w4 3)] 78, rowO (lget ls 1) (esG cZ w0 w5) 3 w0 1, rowO (lget ls 2) (esG c_Reference w1 w6) 82 w1 2, rowO (lget ls 3) (esG c_Event w4 w7) 63 w4 3, rowO (lget ls 4) (esG cZ s0_0 s0_1) 3 s0_0 1, unb]
def vl_sock_Ledger_Held_v1_L0 (w0 : Nat) (w1 : Nat) (w2 : Int) (w3 : Int) (w4 : Nat) (w5 : Nat → Int) (w6 : Nat → Reference) (w7 : Nat → Event) : Ex_sock_Ledger_Held_v1_L0 → List L1 → List Value
  | .e0 , ls => [.pointer (some ⟨(lget ls 0).n, 0, none⟩), .slice none 0 0, .slice none 0 0]
  | .e1 c1_0 c1_1, ls => [.pointer (some ⟨(lget ls 0).n, 0, none⟩), .slice none 0 0, (rowV (lget ls 4) c1_0 1)]
def mk_sock_Ledger_Held_v1_L0 : Ex_sock_Ledger_Held_v1_L0 → List (Nat × Nat)
  | .e0  => [(1, 1), (2, 26)]
  | .e1 _ _ => [(1, 1), (2, 26)]
noncomputable def vf_sock_Ledger_Held_v1_L0 (w0 : Nat) (w1 : Nat) (w2 : Int) (w3 : Int) (w4 : Nat) (w5 : Nat → Int) (w6 : Nat → Reference) (w7 : Nat → Event) (r : Ex_sock_Ledger_Held_v1_L0) : List L1 → List Value := mrgF (mk_sock_Ledger_Held_v1_L0 r) (vl_sock_Ledger_Held_v1_L0 w0 w1 w2 w3 w4 w5 w6 w7 r) 5
def Hf_sock_Ledger_Held_v1_L0 (w0 : Nat) (w1 : Nat) (w2 : Int) (w3 : Int) (w4 : Nat) (w5 : Nat → Int) (w6 : Nat → Reference) (w7 : Nat → Event) : Ex_sock_Ledger_Held_v1_L0 → List L1 → List Obj
  | .e0 , ls => [.cells #[(rowV (lget ls 1) w0 1), (rowV (lget ls 2) w1 2), .int .i64 (w2), .int .i64 (w3), (rowV (lget ls 3) w4 3)] 78, rowO (lget ls 1) (esG cZ w0 w5) 3 w0 1, rowO (lget ls 2) (esG c_Reference w1 w6) 82 w1 2, rowO (lget ls 3) (esG c_Event w4 w7) 63 w4 3, unb, unb]
  | .e1 c1_0 c1_1, ls => [.cells #[(rowV (lget ls 1) w0 1), (rowV (lget ls 2) w1 2), .int .i64 (w2), .int .i64 (w3), (rowV (lget ls 3) w4 3)] 78, rowO (lget ls 1) (esG cZ w0 w5) 3 w0 1, rowO (lget ls 2) (esG c_Reference w1 w6) 82 w1 2, rowO (lget ls 3) (esG c_Event w4 w7) 63 w4 3, rowO (lget ls 4) (esG cZ c1_0 c1_1) 3 c1_0 1, unb]
def ex_sock_Ledger_Held_v1_L0 : Ex_sock_Ledger_Held_v1_L0 → Ex
  | .e0  => (.exit 0)
  | .e1 _ _ => (.exit 0)
theorem go_sock_Ledger_Held_v1_L0 (s : Sh_sock_Ledger_Held_v1_L0) (r : Ex_sock_Ledger_Held_v1_L0) (h : lpO (st_sock_Ledger_Held_v1_L0 w0 w1 w2 w3 w4 w5 w6 w7) s = some r) : GoesG Try.prog M B0 S (.loop bd_sock_Ledger_Held_v1_L0) 6 (fr_sock_Ledger_Held_v1_L0 w0 w1 w2 w3 w4 w5 w6 w7 s) (Hs_sock_Ledger_Held_v1_L0 w0 w1 w2 w3 w4 w5 w6 w7 s) (ex_sock_Ledger_Held_v1_L0 r) 4 (vf_sock_Ledger_Held_v1_L0 w0 w1 w2 w3 w4 w5 w6 w7 r) (Hf_sock_Ledger_Held_v1_L0 w0 w1 w2 w3 w4 w5 w6 w7 r) 6 :=
  goes_lpO (fun s q e => by
    cases s with
    | c0 s0_0 =>
      unfold st_sock_Ledger_Held_v1_L0 at e
      dsimp only at e
      replace e := cond_eq_or e
      rcases e with ⟨hq0, e⟩ | ⟨hq0, e⟩
      · replace e := bindO_eq e
        obtain ⟨gb0, e_gb0, e⟩ := e
        obtain ⟨gb0_0⟩ := gb0
        try dsimp only at e
        replace e := cond_eq_or e
        rcases e with ⟨hq1, e⟩ | ⟨hq1, e⟩
        · cases e; exact goes_runM hU [.o, .o, .o, .o, .a 0, .o, .b (z_lssT hq0), .o, .o, .o, .o, .xg (ok0_sock_counting_counted_v8 hU s0_0 w0 w1 w2 w3 w4 w5 w6 w7 gb0_0 e_gb0) [0, 1, 2, 3], .b (z_gtrT hq1), .o, .o, .o, .o, .x (sqAppL1_ok (ty := 56) rt56 #[false, false] (f := cZ) (c := 1) (IntKind.i64.wrap (s0_0 + 1)) (T' := 3) cZ_len cZ_one (by decide)) [6], .o, .o, .o, .o] [0, 1, 2, 3, 7] (fun b => rfl) (by decide) rfl rfl (fun b => by kernel_rfl)
        · cases e; exact goes_runM hU [.o, .o, .o, .o, .a 0, .o, .b (z_lssT hq0), .o, .o, .o, .o, .xg (ok0_sock_counting_counted_v8 hU s0_0 w0 w1 w2 w3 w4 w5 w6 w7 gb0_0 e_gb0) [0, 1, 2, 3], .b (z_gtrF hq1), .o, .o, .o] [0, 1, 2, 3, 4] (fun b => rfl) (by decide) rfl rfl (fun b => by kernel_rfl)
      · cases e; exact ⟨ne_exit 0, goes_runM hU [.o, .o, .o, .o, .a 0, .o, .b (z_lssF hq0)] [0, 1, 2, 3, 4] (fun b => rfl) (by decide) rfl rfl (fun b => by kernel_rfl)⟩
    | c1 s0_0 s0_1 s0_2 =>
      unfold st_sock_Ledger_Held_v1_L0 at e
      dsimp only at e
      replace e := cond_eq_or e
      rcases e with ⟨hq0, e⟩ | ⟨hq0, e⟩
      · replace e := bindO_eq e
        obtain ⟨gb0, e_gb0, e⟩ := e
        obtain ⟨gb0_0⟩ := gb0
        try dsimp only at e
        replace e := cond_eq_or e
        rcases e with ⟨hq1, e⟩ | ⟨hq1, e⟩
        · replace e := cond_eq_or e
          rcases e with ⟨hq2, e⟩ | ⟨hq2, e⟩
          · cases e; exact goes_runM hU [.o, .o, .o, .o, .a 0, .o, .b (z_lssT hq0), .o, .o, .o, .o, .xg (ok0_sock_counting_counted_v8 hU s0_2 w0 w1 w2 w3 w4 w5 w6 w7 gb0_0 e_gb0) [0, 1, 2, 3], .b (z_gtrT hq1), .o, .o, .o, .o, .x (sqAppL_ok (ty := 56) rt56 #[false, false] (f := cZ) (N := s0_0) (A := s0_1) (c := 1) [(IntKind.i64.wrap (s0_2 + 1))] (T' := 3) .row cZ_len cZ_one hq2 rfl (by decide)) [4, 6], .o, .o, .o, .o] [0, 1, 2, 3, 7] (fun b => rfl) (by decide) rfl rfl (fun b => by kernel_rfl)
          · exact none_some e
        · cases e; exact goes_runM hU [.o, .o, .o, .o, .a 0, .o, .b (z_lssT hq0), .o, .o, .o, .o, .xg (ok0_sock_counting_counted_v8 hU s0_2 w0 w1 w2 w3 w4 w5 w6 w7 gb0_0 e_gb0) [0, 1, 2, 3], .b (z_gtrF hq1), .o, .o, .o] [0, 1, 2, 3, 4] (fun b => rfl) (by decide) rfl rfl (fun b => by kernel_rfl)
      · cases e; exact ⟨ne_exit 0, goes_runM hU [.o, .o, .o, .o, .a 0, .o, .b (z_lssF hq0)] [0, 1, 2, 3, 4] (fun b => rfl) (by decide) rfl rfl (fun b => by kernel_rfl)⟩) s r h
noncomputable def t0_sock_Ledger_Held_v1_L0_0 (w0 : Nat) (w1 : Nat) (w2 : Int) (w3 : Int) (w4 : Nat) (w5 : Nat → Int) (w6 : Nat → Reference) (w7 : Nat → Event) (s0_0 : Int) (ls : List L1) : List Value := List.append [.pointer (some ⟨(lget ls 0).n, 0, none⟩), undef, .slice none 0 0, .slice none 0 0, .int .i64 (s0_0), .pointer (some ⟨(lget ls 0).n, 0, none⟩), .pointer (some ⟨(lget ls 0).n, 0, none⟩), .pointer (some ⟨(lget ls 0).n, 3, none⟩), .int .i64 (w3)] (und 21)
def pre_sock_Ledger_Held_v1_L0_0 (w0 : Nat) (w1 : Nat) (w2 : Int) (w3 : Int) (w4 : Nat) (w5 : Nat → Int) (w6 : Nat → Reference) (w7 : Nat → Event) (s0_0 : Int) (ls : List L1) : List Obj := [.cells #[(rowV (lget ls 1) w0 1), (rowV (lget ls 2) w1 2), .int .i64 (w2), .int .i64 (w3), (rowV (lget ls 3) w4 3)] 78, rowO (lget ls 1) (esG cZ w0 w5) 3 w0 1, rowO (lget ls 2) (esG c_Reference w1 w6) 82 w1 2, rowO (lget ls 3) (esG c_Event w4 w7) 63 w4 3]
theorem sp0_sock_Ledger_Held_v1_L0_0_ok (s0_0 : Int) (h : lpO (st_sock_Ledger_Held_v1_L0 w0 w1 w2 w3 w4 w5 w6 w7) (.c0 s0_0) = some (.e0 )) : SpcG Try.prog M B0 S ⟨fun ls => .code (.loop bd_sock_Ledger_Held_v1_L0) (t0_sock_Ledger_Held_v1_L0_0 w0 w1 w2 w3 w4 w5 w6 w7 s0_0 ls), pre_sock_Ledger_Held_v1_L0_0 w0 w1 w2 w3 w4 w5 w6 w7 s0_0, 2, (.exit 0), fun ls => vf_sock_Ledger_Held_v1_L0 w0 w1 w2 w3 w4 w5 w6 w7 (.e0 ) (ls.take 4 ++ ls.drop 4), fun ls => (Hf_sock_Ledger_Held_v1_L0 w0 w1 w2 w3 w4 w5 w6 w7 (.e0 ) (ls.take 4 ++ ls.drop 4)).take 4 ++ List.replicate 0 unb, fun ls => (Hf_sock_Ledger_Held_v1_L0 w0 w1 w2 w3 w4 w5 w6 w7 (.e0 ) (ls.take 4 ++ ls.drop 4)).drop 4⟩ :=
  spc_of_goesM hU 1 (k0 := 4) (go_sock_Ledger_Held_v1_L0 hU w0 w1 w2 w3 w4 w5 w6 w7 _ _ h) (t0_sock_Ledger_Held_v1_L0_0 w0 w1 w2 w3 w4 w5 w6 w7 s0_0) (pre_sock_Ledger_Held_v1_L0_0 w0 w1 w2 w3 w4 w5 w6 w7 s0_0) (fun _ => rfl) (fun ls h => by match ls, h with | [l0, l1, l2, l3], _ => exact ⟨by kernel_rfl, by kernel_rfl⟩) (fun ls h => by match ls, h with | [l0, l1, l2, l3], _ => rfl) (by decide) (by decide) (fun ls => rfl)
theorem sp1_sock_Ledger_Held_v1_L0_0_ok (s0_0 : Int) (c1_0 : Nat) (c1_1 : Nat → Int) (h : lpO (st_sock_Ledger_Held_v1_L0 w0 w1 w2 w3 w4 w5 w6 w7) (.c0 s0_0) = some (.e1 c1_0 c1_1)) : SpcG Try.prog M B0 S ⟨fun ls => .code (.loop bd_sock_Ledger_Held_v1_L0) (t0_sock_Ledger_Held_v1_L0_0 w0 w1 w2 w3 w4 w5 w6 w7 s0_0 ls), pre_sock_Ledger_Held_v1_L0_0 w0 w1 w2 w3 w4 w5 w6 w7 s0_0, 2, (.exit 0), fun ls => vf_sock_Ledger_Held_v1_L0 w0 w1 w2 w3 w4 w5 w6 w7 (.e1 c1_0 c1_1) (ls.take 4 ++ ls.drop 4), fun ls => (Hf_sock_Ledger_Held_v1_L0 w0 w1 w2 w3 w4 w5 w6 w7 (.e1 c1_0 c1_1) (ls.take 4 ++ ls.drop 4)).take 4 ++ List.replicate 0 unb, fun ls => (Hf_sock_Ledger_Held_v1_L0 w0 w1 w2 w3 w4 w5 w6 w7 (.e1 c1_0 c1_1) (ls.take 4 ++ ls.drop 4)).drop 4⟩ :=
  spc_of_goesM hU 1 (k0 := 4) (go_sock_Ledger_Held_v1_L0 hU w0 w1 w2 w3 w4 w5 w6 w7 _ _ h) (t0_sock_Ledger_Held_v1_L0_0 w0 w1 w2 w3 w4 w5 w6 w7 s0_0) (pre_sock_Ledger_Held_v1_L0_0 w0 w1 w2 w3 w4 w5 w6 w7 s0_0) (fun _ => rfl) (fun ls h => by match ls, h with | [l0, l1, l2, l3], _ => exact ⟨by kernel_rfl, by kernel_rfl⟩) (fun ls h => by match ls, h with | [l0, l1, l2, l3], _ => rfl) (by decide) (by decide) (fun ls => rfl)
inductive R_sock_Ledger_Held_v1 where
  | e0 
  | e1 (c1_0 : Nat) (c1_1 : Nat → Int)
noncomputable def m_sock_Ledger_Held_v1 (w0 : Nat) (w1 : Nat) (w2 : Int) (w3 : Int) (w4 : Nat) (w5 : Nat → Int) (w6 : Nat → Reference) (w7 : Nat → Event) : Option R_sock_Ledger_Held_v1 :=
  (lpO (st_sock_Ledger_Held_v1_L0 w0 w1 w2 w3 w4 w5 w6 w7) (.c0 w3)).bind fun g0 => match g0 with
  | .e0  => (some (.e0))
  | .e1 g0_0 g0_1 => (some (.e1 g0_0 g0_1))
def sq0_sock_Ledger_Held_v1 (w0 : Nat) (w1 : Nat) (w2 : Int) (w3 : Int) (w4 : Nat) (w5 : Nat → Int) (w6 : Nat → Reference) (w7 : Nat → Event)  : Spc := ⟨fun ls => .call 28 #[.pointer (some ⟨(lget ls 0).n, 0, none⟩)], fun ls => [.cells #[(rowV (lget ls 1) w0 1), (rowV (lget ls 2) w1 2), .int .i64 (w2), .int .i64 (w3), (rowV (lget ls 3) w4 3)] 78, rowO (lget ls 1) (esG cZ w0 w5) 3 w0 1, rowO (lget ls 2) (esG c_Reference w1 w6) 82 w1 2, rowO (lget ls 3) (esG c_Event w4 w7) 63 w4 3], 0, .normal, fun ls => [.slice none 0 0], fun ls => [.cells #[(rowV (lget ls 1) w0 1), (rowV (lget ls 2) w1 2), .int .i64 (w2), .int .i64 (w3), (rowV (lget ls 3) w4 3)] 78, rowO (lget ls 1) (esG cZ w0 w5) 3 w0 1, rowO (lget ls 2) (esG c_Reference w1 w6) 82 w1 2, rowO (lget ls 3) (esG c_Event w4 w7) 63 w4 3], fun ls => []⟩
def sq1_sock_Ledger_Held_v1 (w0 : Nat) (w1 : Nat) (w2 : Int) (w3 : Int) (w4 : Nat) (w5 : Nat → Int) (w6 : Nat → Reference) (w7 : Nat → Event) (c1_0 : Nat) (c1_1 : Nat → Int) : Spc := ⟨fun ls => .call 28 #[.pointer (some ⟨(lget ls 0).n, 0, none⟩)], fun ls => [.cells #[(rowV (lget ls 1) w0 1), (rowV (lget ls 2) w1 2), .int .i64 (w2), .int .i64 (w3), (rowV (lget ls 3) w4 3)] 78, rowO (lget ls 1) (esG cZ w0 w5) 3 w0 1, rowO (lget ls 2) (esG c_Reference w1 w6) 82 w1 2, rowO (lget ls 3) (esG c_Event w4 w7) 63 w4 3], 1, .normal, fun ls => [(rowV (lget ls 4) c1_0 1)], fun ls => [.cells #[(rowV (lget ls 1) w0 1), (rowV (lget ls 2) w1 2), .int .i64 (w2), .int .i64 (w3), (rowV (lget ls 3) w4 3)] 78, rowO (lget ls 1) (esG cZ w0 w5) 3 w0 1, rowO (lget ls 2) (esG c_Reference w1 w6) 82 w1 2, rowO (lget ls 3) (esG c_Event w4 w7) 63 w4 3], fun ls => [rowO (lget ls 4) (esG cZ c1_0 c1_1) 3 c1_0 1]⟩
theorem ok0_sock_Ledger_Held_v1 (e : m_sock_Ledger_Held_v1 w0 w1 w2 w3 w4 w5 w6 w7 = some (.e0 )) : SpcG Try.prog M B0 S (sq0_sock_Ledger_Held_v1 w0 w1 w2 w3 w4 w5 w6 w7 ) := by
  unfold m_sock_Ledger_Held_v1 at e
  replace e := bindO_eq e
  obtain ⟨g0, e_g0, e⟩ := e
  rcases g0 with _ | ⟨g0_0, g0_1⟩
  · try dsimp only at e
    exact fn_specG hU (P := Try.prog) Try.func28 (fun xs w => by kernel_rfl) 4 _ _ (fun _ => rfl) _ _ _ [] [.o, .o, .o, .o, .o, .a 0, .o, .cp, .cx (sp0_sock_Ledger_Held_v1_L0_0_ok hU w0 w1 w2 w3 w4 w5 w6 w7 w3  e_g0) [0, 1, 2, 3], .o, .o] [] (fun b => by kernel_rfl)
  · try dsimp only at e
    cases e
theorem ok1_sock_Ledger_Held_v1 (c1_0 : Nat) (c1_1 : Nat → Int) (e : m_sock_Ledger_Held_v1 w0 w1 w2 w3 w4 w5 w6 w7 = some (.e1 c1_0 c1_1)) : SpcG Try.prog M B0 S (sq1_sock_Ledger_Held_v1 w0 w1 w2 w3 w4 w5 w6 w7 c1_0 c1_1) := by
  unfold m_sock_Ledger_Held_v1 at e
  replace e := bindO_eq e
  obtain ⟨g0, e_g0, e⟩ := e
  rcases g0 with _ | ⟨g0_0, g0_1⟩
  · try dsimp only at e
    cases e
  · try dsimp only at e
    injection e with e; injection e with i0 i1; subst i0 i1; exact fn_specG hU (P := Try.prog) Try.func28 (fun xs w => by kernel_rfl) 4 _ _ (fun _ => rfl) _ _ _ [4] [.o, .o, .o, .o, .o, .a 0, .o, .cp, .cx (sp1_sock_Ledger_Held_v1_L0_0_ok hU w0 w1 w2 w3 w4 w5 w6 w7 w3 g0_0 g0_1 e_g0) [0, 1, 2, 3], .o, .o] [] (fun b => by kernel_rfl)
inductive Sh_barbicanlaw11_SockLedger_L0 where
  | c0 
  | c1 (s0_0 : Nat) (s0_1 : Nat → Int) (s0_2 : Nat) (s0_3 : Nat → Reference) (s0_4 : Int) (s0_5 : Nat) (s0_6 : Nat → Event) (s0_7 : Int)
inductive Ex_barbicanlaw11_SockLedger_L0 where
  | e0 
  | e1 (c1_0 : Nat) (c1_1 : Nat → Int) (c1_2 : Nat) (c1_3 : Nat → Reference) (c1_4 : Int) (c1_5 : Nat) (c1_6 : Nat → Event)
  | e2 
  | e3 (c3_0 : Nat) (c3_1 : Nat → Int) (c3_2 : Nat) (c3_3 : Nat → Reference) (c3_4 : Int) (c3_5 : Nat) (c3_6 : Nat → Event)
noncomputable def st_barbicanlaw11_SockLedger_L0 (y1 : Int) : Sh_barbicanlaw11_SockLedger_L0 → Option (Sh_barbicanlaw11_SockLedger_L0 ⊕ Ex_barbicanlaw11_SockLedger_L0)
  | .c0  =>
    bif decide (0 < y1) then
      ((m_sock_Ledger_Acquire_v1 9 0 0).bind fun gb0 => match gb0 with
      | .e0  => (some (.inr (.e2 )))
      | .e1 gb0_0 gb0_1 gb0_2 gb0_3 => (some (.inl (.c1 1 gb0_0 1 gb0_1 gb0_2 1 gb0_3 1))))
    else (some (.inr (.e0 )))
  | .c1 s0_0 s0_1 s0_2 s0_3 s0_4 s0_5 s0_6 s0_7 =>
    bif decide (s0_7 < y1) then
      ((m_sock_Ledger_Acquire_v3 9 s0_7 s0_0 s0_2 s0_4 0 s0_5 s0_1 s0_3 s0_6).bind fun gb0 => match gb0 with
      | .e0  => (bif false != (decide (s0_7 < 256)) then
          (some (.inr (.e3 s0_0 s0_1 s0_2 s0_3 s0_4 s0_5 s0_6)))
        else (some (.inl (.c1 s0_0 s0_1 s0_2 s0_3 s0_4 s0_5 s0_6 (IntKind.i64.wrap (s0_7 + 1))))))
      | .e1 gb0_0 gb0_1 gb0_2 gb0_3 gb0_4 => (bif true != (decide (s0_7 < 256)) then
          (some (.inr (.e3 (s0_0 + 1) gb0_0 (s0_2 + 1) gb0_1 gb0_2 (s0_5 + 1) gb0_3)))
        else (some (.inl (.c1 (s0_0 + 1) gb0_0 (s0_2 + 1) gb0_1 gb0_2 (s0_5 + 1) gb0_3 (IntKind.i64.wrap (s0_7 + 1)))))))
    else (some (.inr (.e1 s0_0 s0_1 s0_2 s0_3 s0_4 s0_5 s0_6)))
noncomputable def bd_barbicanlaw11_SockLedger_L0 : Code := codeOf Try.f4 [1, 1, 1, 1, 0, 1, 0, 0]
def fl_barbicanlaw11_SockLedger_L0 (a0 : Option Addr) (p0 : Nat) (q0 : Nat) (n0 : Nat) (k0 : Nat) (A0 : Nat → Step) (y1 : Int) : Sh_barbicanlaw11_SockLedger_L0 → List L1 → List Value
  | .c0 , ls => [.slice a0 n0 (n0 + k0), .int .i64 (y1), .bool false, .pointer (some ⟨(lget ls 0).n, 0, none⟩), .int .i64 (0)]
  | .c1 s0_0 s0_1 s0_2 s0_3 s0_4 s0_5 s0_6 s0_7, ls => [.slice a0 n0 (n0 + k0), .int .i64 (y1), .bool false, .pointer (some ⟨(lget ls 0).n, 0, none⟩), .int .i64 (s0_7)]
def mf_barbicanlaw11_SockLedger_L0 : Sh_barbicanlaw11_SockLedger_L0 → List (Nat × Nat)
  | .c0  => [(2, 2), (3, 143)]
  | .c1 _ _ _ _ _ _ _ _ => [(2, 2), (3, 143)]
noncomputable def fr_barbicanlaw11_SockLedger_L0 (a0 : Option Addr) (p0 : Nat) (q0 : Nat) (n0 : Nat) (k0 : Nat) (A0 : Nat → Step) (y1 : Int) (s : Sh_barbicanlaw11_SockLedger_L0) : List L1 → List Value := mrgF (mf_barbicanlaw11_SockLedger_L0 s) (fl_barbicanlaw11_SockLedger_L0 a0 p0 q0 n0 k0 A0 y1 s) 4
def Hs_barbicanlaw11_SockLedger_L0 (a0 : Option Addr) (p0 : Nat) (q0 : Nat) (n0 : Nat) (k0 : Nat) (A0 : Nat → Step) (y1 : Int) : Sh_barbicanlaw11_SockLedger_L0 → List L1 → List Obj
  | .c0 , ls => [.cells #[.slice none 0 0, .slice none 0 0, .int .i64 (0), .int .i64 (0), .slice none 0 0] 78, unb, unb, unb, unb]
  | .c1 s0_0 s0_1 s0_2 s0_3 s0_4 s0_5 s0_6 s0_7, ls => [.cells #[(rowV (lget ls 1) s0_0 1), (rowV (lget ls 2) s0_2 2), .int .i64 (s0_4), .int .i64 (0), (rowV (lget ls 3) s0_5 3)] 78, rowO (lget ls 1) (esG cZ s0_0 s0_1) 3 s0_0 1, rowO (lget ls 2) (esG c_Reference s0_2 s0_3) 82 s0_2 2, rowO (lget ls 3) (esG c_Event s0_5 s0_6) 63 s0_5 3, unb]
def vl_barbicanlaw11_SockLedger_L0 (a0 : Option Addr) (p0 : Nat) (q0 : Nat) (n0 : Nat) (k0 : Nat) (A0 : Nat → Step) (y1 : Int) : Ex_barbicanlaw11_SockLedger_L0 → List L1 → List Value
  | .e0 , ls => [.slice a0 n0 (n0 + k0), .int .i64 (y1), .bool false, .pointer (some ⟨(lget ls 0).n, 0, none⟩)]
  | .e1 c1_0 c1_1 c1_2 c1_3 c1_4 c1_5 c1_6, ls => [.slice a0 n0 (n0 + k0), .int .i64 (y1), .bool false, .pointer (some ⟨(lget ls 0).n, 0, none⟩)]
  | .e2 , ls => [.slice a0 n0 (n0 + k0), .int .i64 (y1), .bool false, .pointer (some ⟨(lget ls 0).n, 0, none⟩)]
  | .e3 c3_0 c3_1 c3_2 c3_3 c3_4 c3_5 c3_6, ls => [.slice a0 n0 (n0 + k0), .int .i64 (y1), .bool false, .pointer (some ⟨(lget ls 0).n, 0, none⟩)]
def mk_barbicanlaw11_SockLedger_L0 : Ex_barbicanlaw11_SockLedger_L0 → List (Nat × Nat)
  | .e0  => [(2, 2), (2, 144)]
  | .e1 _ _ _ _ _ _ _ => [(2, 2), (2, 144)]
  | .e2  => [(2, 2), (2, 144)]
  | .e3 _ _ _ _ _ _ _ => [(2, 2), (2, 144)]
noncomputable def vf_barbicanlaw11_SockLedger_L0 (a0 : Option Addr) (p0 : Nat) (q0 : Nat) (n0 : Nat) (k0 : Nat) (A0 : Nat → Step) (y1 : Int) (r : Ex_barbicanlaw11_SockLedger_L0) : List L1 → List Value := mrgF (mk_barbicanlaw11_SockLedger_L0 r) (vl_barbicanlaw11_SockLedger_L0 a0 p0 q0 n0 k0 A0 y1 r) 4
def Hf_barbicanlaw11_SockLedger_L0 (a0 : Option Addr) (p0 : Nat) (q0 : Nat) (n0 : Nat) (k0 : Nat) (A0 : Nat → Step) (y1 : Int) : Ex_barbicanlaw11_SockLedger_L0 → List L1 → List Obj
  | .e0 , ls => [.cells #[.slice none 0 0, .slice none 0 0, .int .i64 (0), .int .i64 (0), .slice none 0 0] 78, unb, unb, unb, unb]
  | .e1 c1_0 c1_1 c1_2 c1_3 c1_4 c1_5 c1_6, ls => [.cells #[(rowV (lget ls 1) c1_0 1), (rowV (lget ls 2) c1_2 2), .int .i64 (c1_4), .int .i64 (0), (rowV (lget ls 3) c1_5 3)] 78, rowO (lget ls 1) (esG cZ c1_0 c1_1) 3 c1_0 1, rowO (lget ls 2) (esG c_Reference c1_2 c1_3) 82 c1_2 2, rowO (lget ls 3) (esG c_Event c1_5 c1_6) 63 c1_5 3, unb]
  | .e2 , ls => [.cells #[.slice none 0 0, .slice none 0 0, .int .i64 (0), .int .i64 (0), .slice none 0 0] 78, unb, unb, unb, unb]
  | .e3 c3_0 c3_1 c3_2 c3_3 c3_4 c3_5 c3_6, ls => [.cells #[(rowV (lget ls 1) c3_0 1), (rowV (lget ls 2) c3_2 2), .int .i64 (c3_4), .int .i64 (0), (rowV (lget ls 3) c3_5 3)] 78, rowO (lget ls 1) (esG cZ c3_0 c3_1) 3 c3_0 1, rowO (lget ls 2) (esG c_Reference c3_2 c3_3) 82 c3_2 2, rowO (lget ls 3) (esG c_Event c3_5 c3_6) 63 c3_5 3, unb]
def ex_barbicanlaw11_SockLedger_L0 : Ex_barbicanlaw11_SockLedger_L0 → Ex
  | .e0  => (.exit 0)
  | .e1 _ _ _ _ _ _ _ => (.exit 0)
  | .e2  => .ret
  | .e3 _ _ _ _ _ _ _ => .ret
end
section
variable {M : Nat → Prop} {B0 : Nat} {S : World → Prop} (hU : Up M B0 S) (a0 : Option Addr) (p0 : Nat) (q0 : Nat) (n0 : Nat) (k0 : Nat) (A0 : Nat → Step) (hR0 : Ro S c_Step 4 a0 p0 q0 n0 A0) (y1 : Int)
include hU a0 p0 q0 n0 k0 A0 hR0 y1
theorem go_barbicanlaw11_SockLedger_L0 (s : Sh_barbicanlaw11_SockLedger_L0) (r : Ex_barbicanlaw11_SockLedger_L0) (h : lpO (st_barbicanlaw11_SockLedger_L0 y1) s = some r) : GoesG Try.prog M B0 S (.loop bd_barbicanlaw11_SockLedger_L0) 5 (fr_barbicanlaw11_SockLedger_L0 a0 p0 q0 n0 k0 A0 y1 s) (Hs_barbicanlaw11_SockLedger_L0 a0 p0 q0 n0 k0 A0 y1 s) (ex_barbicanlaw11_SockLedger_L0 r) 1 (vf_barbicanlaw11_SockLedger_L0 a0 p0 q0 n0 k0 A0 y1 r) (Hf_barbicanlaw11_SockLedger_L0 a0 p0 q0 n0 k0 A0 y1 r) 5 :=
  goes_lpO (fun s q e => by
    cases s with
    | c0  =>
      unfold st_barbicanlaw11_SockLedger_L0 at e
      dsimp only at e
      replace e := cond_eq_or e
      rcases e with ⟨hq0, e⟩ | ⟨hq0, e⟩
      · replace e := bindO_eq e
        obtain ⟨gb0, e_gb0, e⟩ := e
        rcases gb0 with _ | ⟨gb0_0, gb0_1, gb0_2, gb0_3⟩
        · try dsimp only at e
          cases e; exact ⟨ne_ret, goes_runM hU [.o, .o, .b (z_lssT hq0), .o, .o, .xg (ok0_sock_Ledger_Acquire_v1 hU 9 0 0  e_gb0) [0], .o, .o, .o, .o, .o, .o, .o, .o, .o, .o] [0, 1, 2, 3] (fun b => rfl) (by decide) rfl rfl (fun b => by kernel_rfl)⟩
        · try dsimp only at e
          cases e; exact goes_runM hU [.o, .o, .b (z_lssT hq0), .o, .o, .xg (ok1_sock_Ledger_Acquire_v1 hU 9 0 0 gb0_0 gb0_1 gb0_2 gb0_3 e_gb0) [0], .o, .o, .o, .o, .o, .o, .o, .o, .o, .o, .o, .o] [0, 5, 6, 7] (fun b => rfl) (by decide) rfl rfl (fun b => by kernel_rfl)
      · cases e; exact ⟨ne_exit 0, goes_runM hU [.o, .o, .b (z_lssF hq0)] [0, 1, 2, 3] (fun b => rfl) (by decide) rfl rfl (fun b => by kernel_rfl)⟩
    | c1 s0_0 s0_1 s0_2 s0_3 s0_4 s0_5 s0_6 s0_7 =>
      unfold st_barbicanlaw11_SockLedger_L0 at e
      dsimp only at e
      replace e := cond_eq_or e
      rcases e with ⟨hq0, e⟩ | ⟨hq0, e⟩
      · replace e := bindO_eq e
        obtain ⟨gb0, e_gb0, e⟩ := e
        rcases gb0 with _ | ⟨gb0_0, gb0_1, gb0_2, gb0_3, gb0_4⟩
        · try dsimp only at e
          replace e := cond_eq_or e
          rcases e with ⟨hq1, e⟩ | ⟨hq1, e⟩
          · cases e; exact ⟨ne_ret, goes_runM hU [.o, .o, .b (z_lssT hq0), .o, .o, .xg (ok0_sock_Ledger_Acquire_v3 hU 9 s0_7 s0_0 s0_2 s0_4 0 s0_5 s0_1 s0_3 s0_6  e_gb0) [0, 1, 2, 3], .o, .o, .o, .o, .o, .o, .o, .o, .b hq1, .o] [0, 1, 2, 3] (fun b => rfl) (by decide) rfl rfl (fun b => by kernel_rfl)⟩
          · cases e; exact goes_runM hU [.o, .o, .b (z_lssT hq0), .o, .o, .xg (ok0_sock_Ledger_Acquire_v3 hU 9 s0_7 s0_0 s0_2 s0_4 0 s0_5 s0_1 s0_3 s0_6  e_gb0) [0, 1, 2, 3], .o, .o, .o, .o, .o, .o, .o, .o, .b hq1, .o, .o, .o] [0, 1, 2, 3] (fun b => rfl) (by decide) rfl rfl (fun b => by kernel_rfl)
        · try dsimp only at e
          replace e := cond_eq_or e
          rcases e with ⟨hq1, e⟩ | ⟨hq1, e⟩
          · cases e; exact ⟨ne_ret, goes_runM hU [.o, .o, .b (z_lssT hq0), .o, .o, .xg (ok1_sock_Ledger_Acquire_v3 hU 9 s0_7 s0_0 s0_2 s0_4 0 s0_5 s0_1 s0_3 s0_6 gb0_0 gb0_1 gb0_2 gb0_3 gb0_4 e_gb0) [0, 1, 2, 3], .o, .o, .o, .o, .o, .o, .o, .o, .b hq1, .o] [0, 5, 6, 7] (fun b => rfl) (by decide) rfl rfl (fun b => by kernel_rfl)⟩
          · cases e; exact goes_runM hU [.o, .o, .b (z_lssT hq0), .o, .o, .xg (ok1_sock_Ledger_Acquire_v3 hU 9 s0_7 s0_0 s0_2 s0_4 0 s0_5 s0_1 s0_3 s0_6 gb0_0 gb0_1 gb0_2 gb0_3 gb0_4 e_gb0) [0, 1, 2, 3], .o, .o, .o, .o, .o, .o, .o, .o, .b hq1, .o, .o, .o] [0, 5, 6, 7] (fun b => rfl) (by decide) rfl rfl (fun b => by kernel_rfl)
      · cases e; exact ⟨ne_exit 0, goes_runM hU [.o, .o, .b (z_lssF hq0)] [0, 1, 2, 3] (fun b => rfl) (by decide) rfl rfl (fun b => by kernel_rfl)⟩) s r h
noncomputable def t0_barbicanlaw11_SockLedger_L0_0 (a0 : Option Addr) (p0 : Nat) (q0 : Nat) (n0 : Nat) (k0 : Nat) (A0 : Nat → Step) (y1 : Int)  (ls : List L1) : List Value := List.append [.slice a0 n0 (n0 + k0), .int .i64 (y1), undef, undef, .bool false, .pointer (some ⟨(lget ls 0).n, 0, none⟩), .int .i64 (0)] (List.append (und 9) (List.append [.bool true, .bool false, .slice a0 n0 (n0 + k0), .int .i64 ((n0 : Int)), .bool false, .bool false, .int .i64 (y1), .bool false, .bool false, .bool false, .int .i64 (y1), .bool false, .bool false, .pointer (some ⟨(lget ls 0).n, 0, none⟩)] (und 120)))
def pre_barbicanlaw11_SockLedger_L0_0 (a0 : Option Addr) (p0 : Nat) (q0 : Nat) (n0 : Nat) (k0 : Nat) (A0 : Nat → Step) (y1 : Int)  (ls : List L1) : List Obj := [.cells #[.slice none 0 0, .slice none 0 0, .int .i64 (0), .int .i64 (0), .slice none 0 0] 78]
theorem sp0_barbicanlaw11_SockLedger_L0_0_ok (h : lpO (st_barbicanlaw11_SockLedger_L0 y1) (.c0) = some (.e0 )) : SpcG Try.prog M B0 S ⟨fun ls => .code (.loop bd_barbicanlaw11_SockLedger_L0) (t0_barbicanlaw11_SockLedger_L0_0 a0 p0 q0 n0 k0 A0 y1  ls), pre_barbicanlaw11_SockLedger_L0_0 a0 p0 q0 n0 k0 A0 y1 , 4, (.exit 0), fun ls => vf_barbicanlaw11_SockLedger_L0 a0 p0 q0 n0 k0 A0 y1 (.e0 ) (ls.take 1 ++ ls.drop 1), fun ls => (Hf_barbicanlaw11_SockLedger_L0 a0 p0 q0 n0 k0 A0 y1 (.e0 ) (ls.take 1 ++ ls.drop 1)).take 1 ++ List.replicate 0 unb, fun ls => (Hf_barbicanlaw11_SockLedger_L0 a0 p0 q0 n0 k0 A0 y1 (.e0 ) (ls.take 1 ++ ls.drop 1)).drop 1⟩ :=
  spc_of_goesM hU 3 (k0 := 1) (go_barbicanlaw11_SockLedger_L0 hU a0 p0 q0 n0 k0 A0 hR0 y1 _ _ h) (t0_barbicanlaw11_SockLedger_L0_0 a0 p0 q0 n0 k0 A0 y1 ) (pre_barbicanlaw11_SockLedger_L0_0 a0 p0 q0 n0 k0 A0 y1 ) (fun _ => rfl) (fun ls h => by match ls, h with | [l0], _ => exact ⟨by kernel_rfl, by kernel_rfl⟩) (fun ls h => by match ls, h with | [l0], _ => rfl) (by decide) (by decide) (fun ls => rfl)
theorem sp1_barbicanlaw11_SockLedger_L0_0_ok (c1_0 : Nat) (c1_1 : Nat → Int) (c1_2 : Nat) (c1_3 : Nat → Reference) (c1_4 : Int) (c1_5 : Nat) (c1_6 : Nat → Event) (h : lpO (st_barbicanlaw11_SockLedger_L0 y1) (.c0) = some (.e1 c1_0 c1_1 c1_2 c1_3 c1_4 c1_5 c1_6)) : SpcG Try.prog M B0 S ⟨fun ls => .code (.loop bd_barbicanlaw11_SockLedger_L0) (t0_barbicanlaw11_SockLedger_L0_0 a0 p0 q0 n0 k0 A0 y1  ls), pre_barbicanlaw11_SockLedger_L0_0 a0 p0 q0 n0 k0 A0 y1 , 4, (.exit 0), fun ls => vf_barbicanlaw11_SockLedger_L0 a0 p0 q0 n0 k0 A0 y1 (.e1 c1_0 c1_1 c1_2 c1_3 c1_4 c1_5 c1_6) (ls.take 1 ++ ls.drop 1), fun ls => (Hf_barbicanlaw11_SockLedger_L0 a0 p0 q0 n0 k0 A0 y1 (.e1 c1_0 c1_1 c1_2 c1_3 c1_4 c1_5 c1_6) (ls.take 1 ++ ls.drop 1)).take 1 ++ List.replicate 0 unb, fun ls => (Hf_barbicanlaw11_SockLedger_L0 a0 p0 q0 n0 k0 A0 y1 (.e1 c1_0 c1_1 c1_2 c1_3 c1_4 c1_5 c1_6) (ls.take 1 ++ ls.drop 1)).drop 1⟩ :=
  spc_of_goesM hU 3 (k0 := 1) (go_barbicanlaw11_SockLedger_L0 hU a0 p0 q0 n0 k0 A0 hR0 y1 _ _ h) (t0_barbicanlaw11_SockLedger_L0_0 a0 p0 q0 n0 k0 A0 y1 ) (pre_barbicanlaw11_SockLedger_L0_0 a0 p0 q0 n0 k0 A0 y1 ) (fun _ => rfl) (fun ls h => by match ls, h with | [l0], _ => exact ⟨by kernel_rfl, by kernel_rfl⟩) (fun ls h => by match ls, h with | [l0], _ => rfl) (by decide) (by decide) (fun ls => rfl)
theorem sp2_barbicanlaw11_SockLedger_L0_0_ok (h : lpO (st_barbicanlaw11_SockLedger_L0 y1) (.c0) = some (.e2 )) : SpcG Try.prog M B0 S ⟨fun ls => .code (.loop bd_barbicanlaw11_SockLedger_L0) (t0_barbicanlaw11_SockLedger_L0_0 a0 p0 q0 n0 k0 A0 y1  ls), pre_barbicanlaw11_SockLedger_L0_0 a0 p0 q0 n0 k0 A0 y1 , 4, .ret, fun ls => vf_barbicanlaw11_SockLedger_L0 a0 p0 q0 n0 k0 A0 y1 (.e2 ) (ls.take 1 ++ ls.drop 1), fun ls => (Hf_barbicanlaw11_SockLedger_L0 a0 p0 q0 n0 k0 A0 y1 (.e2 ) (ls.take 1 ++ ls.drop 1)).take 1 ++ List.replicate 0 unb, fun ls => (Hf_barbicanlaw11_SockLedger_L0 a0 p0 q0 n0 k0 A0 y1 (.e2 ) (ls.take 1 ++ ls.drop 1)).drop 1⟩ :=
  spc_of_goesM hU 3 (k0 := 1) (go_barbicanlaw11_SockLedger_L0 hU a0 p0 q0 n0 k0 A0 hR0 y1 _ _ h) (t0_barbicanlaw11_SockLedger_L0_0 a0 p0 q0 n0 k0 A0 y1 ) (pre_barbicanlaw11_SockLedger_L0_0 a0 p0 q0 n0 k0 A0 y1 ) (fun _ => rfl) (fun ls h => by match ls, h with | [l0], _ => exact ⟨by kernel_rfl, by kernel_rfl⟩) (fun ls h => by match ls, h with | [l0], _ => rfl) (by decide) (by decide) (fun ls => rfl)
theorem sp3_barbicanlaw11_SockLedger_L0_0_ok (c3_0 : Nat) (c3_1 : Nat → Int) (c3_2 : Nat) (c3_3 : Nat → Reference) (c3_4 : Int) (c3_5 : Nat) (c3_6 : Nat → Event) (h : lpO (st_barbicanlaw11_SockLedger_L0 y1) (.c0) = some (.e3 c3_0 c3_1 c3_2 c3_3 c3_4 c3_5 c3_6)) : SpcG Try.prog M B0 S ⟨fun ls => .code (.loop bd_barbicanlaw11_SockLedger_L0) (t0_barbicanlaw11_SockLedger_L0_0 a0 p0 q0 n0 k0 A0 y1  ls), pre_barbicanlaw11_SockLedger_L0_0 a0 p0 q0 n0 k0 A0 y1 , 4, .ret, fun ls => vf_barbicanlaw11_SockLedger_L0 a0 p0 q0 n0 k0 A0 y1 (.e3 c3_0 c3_1 c3_2 c3_3 c3_4 c3_5 c3_6) (ls.take 1 ++ ls.drop 1), fun ls => (Hf_barbicanlaw11_SockLedger_L0 a0 p0 q0 n0 k0 A0 y1 (.e3 c3_0 c3_1 c3_2 c3_3 c3_4 c3_5 c3_6) (ls.take 1 ++ ls.drop 1)).take 1 ++ List.replicate 0 unb, fun ls => (Hf_barbicanlaw11_SockLedger_L0 a0 p0 q0 n0 k0 A0 y1 (.e3 c3_0 c3_1 c3_2 c3_3 c3_4 c3_5 c3_6) (ls.take 1 ++ ls.drop 1)).drop 1⟩ :=
  spc_of_goesM hU 3 (k0 := 1) (go_barbicanlaw11_SockLedger_L0 hU a0 p0 q0 n0 k0 A0 hR0 y1 _ _ h) (t0_barbicanlaw11_SockLedger_L0_0 a0 p0 q0 n0 k0 A0 y1 ) (pre_barbicanlaw11_SockLedger_L0_0 a0 p0 q0 n0 k0 A0 y1 ) (fun _ => rfl) (fun ls h => by match ls, h with | [l0], _ => exact ⟨by kernel_rfl, by kernel_rfl⟩) (fun ls h => by match ls, h with | [l0], _ => rfl) (by decide) (by decide) (fun ls => rfl)
inductive Sh_barbicanlaw11_SockLedger_L1 where
  | c0 (s0_0 : Int)
  | c1 (s0_0 : Nat) (s0_1 : Nat → Int) (s0_2 : Nat) (s0_3 : Nat → Reference) (s0_4 : Int) (s0_5 : Int) (s0_6 : Nat) (s0_7 : Nat → Event) (s0_8 : Int)
inductive Ex_barbicanlaw11_SockLedger_L1 where
  | e0 
  | e1 (c1_0 : Nat) (c1_1 : Nat → Int) (c1_2 : Nat) (c1_3 : Nat → Reference) (c1_4 : Int) (c1_5 : Int) (c1_6 : Nat) (c1_7 : Nat → Event)
noncomputable def st_barbicanlaw11_SockLedger_L1 (n0 : Nat) (A0 : Nat → Step) : Sh_barbicanlaw11_SockLedger_L1 → Option (Sh_barbicanlaw11_SockLedger_L1 ⊕ Ex_barbicanlaw11_SockLedger_L1)
  | .c0 s0_0 =>
    bif decide (s0_0 < (n0 : Int)) then
      (bif inR s0_0 n0 then
        (bif (zrem ((A0 (s0_0).toNat)).fWhat 2) == 0 then
          ((m_sock_Ledger_Acquire_v1 ((A0 (s0_0).toNat)).fN ((A0 (s0_0).toNat)).fM 0).bind fun gb0 => match gb0 with
          | .e0  => (some (.inl (.c0 (IntKind.i64.wrap (s0_0 + 1)))))
          | .e1 gb0_0 gb0_1 gb0_2 gb0_3 => (some (.inl (.c1 1 gb0_0 1 gb0_1 gb0_2 0 1 gb0_3 (IntKind.i64.wrap (s0_0 + 1))))))
        else ((m_sock_Ledger_Release_v2 ((A0 (s0_0).toNat)).fI ((A0 (s0_0).toNat)).fN 0).bind fun gb0 => match gb0 with
        | .e0 =>
        some (.inl (.c0 (IntKind.i64.wrap (s0_0 + 1))))))
      else (none))
    else (some (.inr (.e0 )))
  | .c1 s0_0 s0_1 s0_2 s0_3 s0_4 s0_5 s0_6 s0_7 s0_8 =>
    bif decide (s0_8 < (n0 : Int)) then
      (bif inR s0_8 n0 then
        (bif (zrem ((A0 (s0_8).toNat)).fWhat 2) == 0 then
          ((m_sock_Ledger_Acquire_v3 ((A0 (s0_8).toNat)).fN ((A0 (s0_8).toNat)).fM s0_0 s0_2 s0_4 s0_5 s0_6 s0_1 s0_3 s0_7).bind fun gb0 => match gb0 with
          | .e0  => (some (.inl (.c1 s0_0 s0_1 s0_2 s0_3 s0_4 s0_5 s0_6 s0_7 (IntKind.i64.wrap (s0_8 + 1)))))
          | .e1 gb0_0 gb0_1 gb0_2 gb0_3 gb0_4 => (some (.inl (.c1 (s0_0 + 1) gb0_0 (s0_2 + 1) gb0_1 gb0_2 s0_5 (s0_6 + 1) gb0_3 (IntKind.i64.wrap (s0_8 + 1))))))
        else ((m_sock_Ledger_Release_v4 ((A0 (s0_8).toNat)).fI ((A0 (s0_8).toNat)).fN s0_0 s0_2 s0_4 s0_5 s0_6 s0_1 s0_3 s0_7).bind fun gb0 => match gb0 with
        | .e0 gb0_0 gb0_1 gb0_2 gb0_3 gb0_4 => (some (.inl (.c1 s0_0 gb0_0 s0_2 s0_3 gb0_1 gb0_2 (s0_6 + 1) gb0_3 (IntKind.i64.wrap (s0_8 + 1)))))
        | .e1  => (some (.inl (.c1 s0_0 s0_1 s0_2 s0_3 s0_4 s0_5 s0_6 s0_7 (IntKind.i64.wrap (s0_8 + 1)))))))
      else (none))
    else (some (.inr (.e1 s0_0 s0_1 s0_2 s0_3 s0_4 s0_5 s0_6 s0_7)))
noncomputable def bd_barbicanlaw11_SockLedger_L1 : Code := codeOf Try.f4 [1, 1, 1, 1, 1, 0, 1, 0, 0]
def fl_barbicanlaw11_SockLedger_L1 (a0 : Option Addr) (p0 : Nat) (q0 : Nat) (n0 : Nat) (k0 : Nat) (A0 : Nat → Step) (y1 : Int) : Sh_barbicanlaw11_SockLedger_L1 → List L1 → List Value
  | .c0 s0_0, ls => [.slice a0 n0 (n0 + k0), .bool false, .pointer (some ⟨(lget ls 0).n, 0, none⟩), .int .i64 (s0_0), ((lget ls 4).u 10), ((lget ls 4).u 11), ((lget ls 4).u 12), ((lget ls 4).u 13), ((lget ls 4).u 14), ((lget ls 4).u 15), ((lget ls 4).u 82), ((lget ls 4).u 83), ((lget ls 4).u 84), ((lget ls 4).u 85), ((lget ls 4).u 86), ((lget ls 4).u 87), ((lget ls 4).u 88), ((lget ls 4).u 89), ((lget ls 4).u 90), ((lget ls 4).u 91), ((lget ls 4).u 92), ((lget ls 4).u 93), ((lget ls 4).u 94), ((lget ls 4).u 95), ((lget ls 4).u 96), ((lget ls 4).u 97), ((lget ls 4).u 98), ((lget ls 4).u 99), ((lget ls 4).u 100), ((lget ls 4).u 101), ((lget ls 4).u 102), ((lget ls 4).u 103), ((lget ls 4).u 104), ((lget ls 4).u 105), ((lget ls 4).u 106), ((lget ls 4).u 107), ((lget ls 4).u 108), ((lget ls 4).u 109), ((lget ls 4).u 110), ((lget ls 4).u 111), ((lget ls 4).u 112), ((lget ls 4).u 113), ((lget ls 4).u 114), ((lget ls 4).u 115), ((lget ls 4).u 116), ((lget ls 4).u 117), ((lget ls 4).u 118), ((lget ls 4).u 119), ((lget ls 4).u 120), ((lget ls 4).u 121), ((lget ls 4).u 122), ((lget ls 4).u 123), ((lget ls 4).u 124), ((lget ls 4).u 125), ((lget ls 4).u 126), ((lget ls 4).u 127), ((lget ls 4).u 128), ((lget ls 4).u 129), ((lget ls 4).u 130), ((lget ls 4).u 131), ((lget ls 4).u 132), ((lget ls 4).u 133), ((lget ls 4).u 134), ((lget ls 4).u 135), ((lget ls 4).u 136), ((lget ls 4).u 137), ((lget ls 4).u 138), ((lget ls 4).u 139), ((lget ls 4).u 140), ((lget ls 4).u 141), ((lget ls 4).u 142), ((lget ls 4).u 143), ((lget ls 4).u 144), ((lget ls 4).u 145), ((lget ls 4).u 146), ((lget ls 4).u 147), ((lget ls 4).u 148), ((lget ls 4).u 149)]
  | .c1 s0_0 s0_1 s0_2 s0_3 s0_4 s0_5 s0_6 s0_7 s0_8, ls => [.slice a0 n0 (n0 + k0), .bool false, .pointer (some ⟨(lget ls 0).n, 0, none⟩), .int .i64 (s0_8), ((lget ls 4).u 10), ((lget ls 4).u 11), ((lget ls 4).u 12), ((lget ls 4).u 13), ((lget ls 4).u 14), ((lget ls 4).u 15), ((lget ls 4).u 82), ((lget ls 4).u 83), ((lget ls 4).u 84), ((lget ls 4).u 85), ((lget ls 4).u 86), ((lget ls 4).u 87), ((lget ls 4).u 88), ((lget ls 4).u 89), ((lget ls 4).u 90), ((lget ls 4).u 91), ((lget ls 4).u 92), ((lget ls 4).u 93), ((lget ls 4).u 94), ((lget ls 4).u 95), ((lget ls 4).u 96), ((lget ls 4).u 97), ((lget ls 4).u 98), ((lget ls 4).u 99), ((lget ls 4).u 100), ((lget ls 4).u 101), ((lget ls 4).u 102), ((lget ls 4).u 103), ((lget ls 4).u 104), ((lget ls 4).u 105), ((lget ls 4).u 106), ((lget ls 4).u 107), ((lget ls 4).u 108), ((lget ls 4).u 109), ((lget ls 4).u 110), ((lget ls 4).u 111), ((lget ls 4).u 112), ((lget ls 4).u 113), ((lget ls 4).u 114), ((lget ls 4).u 115), ((lget ls 4).u 116), ((lget ls 4).u 117), ((lget ls 4).u 118), ((lget ls 4).u 119), ((lget ls 4).u 120), ((lget ls 4).u 121), ((lget ls 4).u 122), ((lget ls 4).u 123), ((lget ls 4).u 124), ((lget ls 4).u 125), ((lget ls 4).u 126), ((lget ls 4).u 127), ((lget ls 4).u 128), ((lget ls 4).u 129), ((lget ls 4).u 130), ((lget ls 4).u 131), ((lget ls 4).u 132), ((lget ls 4).u 133), ((lget ls 4).u 134), ((lget ls 4).u 135), ((lget ls 4).u 136), ((lget ls 4).u 137), ((lget ls 4).u 138), ((lget ls 4).u 139), ((lget ls 4).u 140), ((lget ls 4).u 141), ((lget ls 4).u 142), ((lget ls 4).u 143), ((lget ls 4).u 144), ((lget ls 4).u 145), ((lget ls 4).u 146), ((lget ls 4).u 147), ((lget ls 4).u 148), ((lget ls 4).u 149)]
def mf_barbicanlaw11_SockLedger_L1 : Sh_barbicanlaw11_SockLedger_L1 → List (Nat × Nat)
  | .c0 _ => [(1, 3), (2, 3), (7, 66), (68, 0)]
  | .c1 _ _ _ _ _ _ _ _ _ => [(1, 3), (2, 3), (7, 66), (68, 0)]
noncomputable def fr_barbicanlaw11_SockLedger_L1 (a0 : Option Addr) (p0 : Nat) (q0 : Nat) (n0 : Nat) (k0 : Nat) (A0 : Nat → Step) (y1 : Int) (s : Sh_barbicanlaw11_SockLedger_L1) : List L1 → List Value := mrgF (mf_barbicanlaw11_SockLedger_L1 s) (fl_barbicanlaw11_SockLedger_L1 a0 p0 q0 n0 k0 A0 y1 s) 8
def Hs_barbicanlaw11_SockLedger_L1 (a0 : Option Addr) (p0 : Nat) (q0 : Nat) (n0 : Nat) (k0 : Nat) (A0 : Nat → Step) (y1 : Int) : Sh_barbicanlaw11_SockLedger_L1 → List L1 → List Obj
  | .c0 s0_0, ls => [.cells #[.slice none 0 0, .slice none 0 0, .int .i64 (0), .int .i64 (0), .slice none 0 0] 78, unb, unb, unb, unb, unb, unb, unb, unb]
  | .c1 s0_0 s0_1 s0_2 s0_3 s0_4 s0_5 s0_6 s0_7 s0_8, ls => [.cells #[(rowV (lget ls 5) s0_0 1), (rowV (lget ls 6) s0_2 2), .int .i64 (s0_4), .int .i64 (s0_5), (rowV (lget ls 7) s0_6 3)] 78, unb, unb, unb, unb, rowO (lget ls 5) (esG cZ s0_0 s0_1) 3 s0_0 1, rowO (lget ls 6) (esG c_Reference s0_2 s0_3) 82 s0_2 2, rowO (lget ls 7) (esG c_Event s0_6 s0_7) 63 s0_6 3, unb]
def vl_barbicanlaw11_SockLedger_L1 (a0 : Option Addr) (p0 : Nat) (q0 : Nat) (n0 : Nat) (k0 : Nat) (A0 : Nat → Step) (y1 : Int) : Ex_barbicanlaw11_SockLedger_L1 → List L1 → List Value
  | .e0 , ls => [.slice a0 n0 (n0 + k0), .bool false, .pointer (some ⟨(lget ls 0).n, 0, none⟩), ((lget ls 4).u 10), ((lget ls 4).u 11), ((lget ls 4).u 12), ((lget ls 4).u 13), ((lget ls 4).u 14), ((lget ls 4).u 15), ((lget ls 4).u 82), ((lget ls 4).u 83), ((lget ls 4).u 84), ((lget ls 4).u 85), ((lget ls 4).u 86), ((lget ls 4).u 87), ((lget ls 4).u 88), ((lget ls 4).u 89), ((lget ls 4).u 90), ((lget ls 4).u 91), ((lget ls 4).u 92), ((lget ls 4).u 93), ((lget ls 4).u 94), ((lget ls 4).u 95), ((lget ls 4).u 96), ((lget ls 4).u 97), ((lget ls 4).u 98), ((lget ls 4).u 99), ((lget ls 4).u 100), ((lget ls 4).u 101), ((lget ls 4).u 102), ((lget ls 4).u 103), ((lget ls 4).u 104), ((lget ls 4).u 105), ((lget ls 4).u 106), ((lget ls 4).u 107), ((lget ls 4).u 108), ((lget ls 4).u 109), ((lget ls 4).u 110), ((lget ls 4).u 111), ((lget ls 4).u 112), ((lget ls 4).u 113), ((lget ls 4).u 114), ((lget ls 4).u 115), ((lget ls 4).u 116), ((lget ls 4).u 117), ((lget ls 4).u 118), ((lget ls 4).u 119), ((lget ls 4).u 120), ((lget ls 4).u 121), ((lget ls 4).u 122), ((lget ls 4).u 123), ((lget ls 4).u 124), ((lget ls 4).u 125), ((lget ls 4).u 126), ((lget ls 4).u 127), ((lget ls 4).u 128), ((lget ls 4).u 129), ((lget ls 4).u 130), ((lget ls 4).u 131), ((lget ls 4).u 132), ((lget ls 4).u 133), ((lget ls 4).u 134), ((lget ls 4).u 135), ((lget ls 4).u 136), ((lget ls 4).u 137), ((lget ls 4).u 138), ((lget ls 4).u 139), ((lget ls 4).u 140), ((lget ls 4).u 141), ((lget ls 4).u 142), ((lget ls 4).u 143), ((lget ls 4).u 144), ((lget ls 4).u 145), ((lget ls 4).u 146), ((lget ls 4).u 147), ((lget ls 4).u 148), ((lget ls 4).u 149)]
  | .e1 c1_0 c1_1 c1_2 c1_3 c1_4 c1_5 c1_6 c1_7, ls => [.slice a0 n0 (n0 + k0), .bool false, .pointer (some ⟨(lget ls 0).n, 0, none⟩), ((lget ls 4).u 10), ((lget ls 4).u 11), ((lget ls 4).u 12), ((lget ls 4).u 13), ((lget ls 4).u 14), ((lget ls 4).u 15), ((lget ls 4).u 82), ((lget ls 4).u 83), ((lget ls 4).u 84), ((lget ls 4).u 85), ((lget ls 4).u 86), ((lget ls 4).u 87), ((lget ls 4).u 88), ((lget ls 4).u 89), ((lget ls 4).u 90), ((lget ls 4).u 91), ((lget ls 4).u 92), ((lget ls 4).u 93), ((lget ls 4).u 94), ((lget ls 4).u 95), ((lget ls 4).u 96), ((lget ls 4).u 97), ((lget ls 4).u 98), ((lget ls 4).u 99), ((lget ls 4).u 100), ((lget ls 4).u 101), ((lget ls 4).u 102), ((lget ls 4).u 103), ((lget ls 4).u 104), ((lget ls 4).u 105), ((lget ls 4).u 106), ((lget ls 4).u 107), ((lget ls 4).u 108), ((lget ls 4).u 109), ((lget ls 4).u 110), ((lget ls 4).u 111), ((lget ls 4).u 112), ((lget ls 4).u 113), ((lget ls 4).u 114), ((lget ls 4).u 115), ((lget ls 4).u 116), ((lget ls 4).u 117), ((lget ls 4).u 118), ((lget ls 4).u 119), ((lget ls 4).u 120), ((lget ls 4).u 121), ((lget ls 4).u 122), ((lget ls 4).u 123), ((lget ls 4).u 124), ((lget ls 4).u 125), ((lget ls 4).u 126), ((lget ls 4).u 127), ((lget ls 4).u 128), ((lget ls 4).u 129), ((lget ls 4).u 130), ((lget ls 4).u 131), ((lget ls 4).u 132), ((lget ls 4).u 133), ((lget ls 4).u 134), ((lget ls 4).u 135), ((lget ls 4).u 136), ((lget ls 4).u 137), ((lget ls 4).u 138), ((lget ls 4).u 139), ((lget ls 4).u 140), ((lget ls 4).u 141), ((lget ls 4).u 142), ((lget ls 4).u 143), ((lget ls 4).u 144), ((lget ls 4).u 145), ((lget ls 4).u 146), ((lget ls 4).u 147), ((lget ls 4).u 148), ((lget ls 4).u 149)]
def mk_barbicanlaw11_SockLedger_L1 : Ex_barbicanlaw11_SockLedger_L1 → List (Nat × Nat)
  | .e0  => [(1, 3), (2, 4), (6, 66), (68, 0)]
  | .e1 _ _ _ _ _ _ _ _ => [(1, 3), (2, 4), (6, 66), (68, 0)]
noncomputable def vf_barbicanlaw11_SockLedger_L1 (a0 : Option Addr) (p0 : Nat) (q0 : Nat) (n0 : Nat) (k0 : Nat) (A0 : Nat → Step) (y1 : Int) (r : Ex_barbicanlaw11_SockLedger_L1) : List L1 → List Value := mrgF (mk_barbicanlaw11_SockLedger_L1 r) (vl_barbicanlaw11_SockLedger_L1 a0 p0 q0 n0 k0 A0 y1 r) 8
def Hf_barbicanlaw11_SockLedger_L1 (a0 : Option Addr) (p0 : Nat) (q0 : Nat) (n0 : Nat) (k0 : Nat) (A0 : Nat → Step) (y1 : Int) : Ex_barbicanlaw11_SockLedger_L1 → List L1 → List Obj
  | .e0 , ls => [.cells #[.slice none 0 0, .slice none 0 0, .int .i64 (0), .int .i64 (0), .slice none 0 0] 78, unb, unb, unb, unb, unb, unb, unb, unb]
  | .e1 c1_0 c1_1 c1_2 c1_3 c1_4 c1_5 c1_6 c1_7, ls => [.cells #[(rowV (lget ls 5) c1_0 1), (rowV (lget ls 6) c1_2 2), .int .i64 (c1_4), .int .i64 (c1_5), (rowV (lget ls 7) c1_6 3)] 78, unb, unb, unb, unb, rowO (lget ls 5) (esG cZ c1_0 c1_1) 3 c1_0 1, rowO (lget ls 6) (esG c_Reference c1_2 c1_3) 82 c1_2 2, rowO (lget ls 7) (esG c_Event c1_6 c1_7) 63 c1_6 3, unb]
def ex_barbicanlaw11_SockLedger_L1 : Ex_barbicanlaw11_SockLedger_L1 → Ex
  | .e0  => (.exit 2)
  | .e1 _ _ _ _ _ _ _ _ => (.exit 2)
theorem go_barbicanlaw11_SockLedger_L1 (s : Sh_barbicanlaw11_SockLedger_L1) (r : Ex_barbicanlaw11_SockLedger_L1) (h : lpO (st_barbicanlaw11_SockLedger_L1 n0 A0) s = some r) : GoesG Try.prog M B0 S (.loop bd_barbicanlaw11_SockLedger_L1) 9 (fr_barbicanlaw11_SockLedger_L1 a0 p0 q0 n0 k0 A0 y1 s) (Hs_barbicanlaw11_SockLedger_L1 a0 p0 q0 n0 k0 A0 y1 s) (ex_barbicanlaw11_SockLedger_L1 r) 5 (vf_barbicanlaw11_SockLedger_L1 a0 p0 q0 n0 k0 A0 y1 r) (Hf_barbicanlaw11_SockLedger_L1 a0 p0 q0 n0 k0 A0 y1 r) 9 :=
  goes_lpO (fun s q e => by
    cases s with
    | c0 s0_0 =>
      unfold st_barbicanlaw11_SockLedger_L1 at e
      dsimp only at e
      replace e := cond_eq_or e
      rcases e with ⟨hq0, e⟩ | ⟨hq0, e⟩
      · replace e := cond_eq_or e
        rcases e with ⟨hq1, e⟩ | ⟨hq1, e⟩
        · replace e := cond_eq_or e
          rcases e with ⟨hq2, e⟩ | ⟨hq2, e⟩
          · replace e := bindO_eq e
            obtain ⟨gb0, e_gb0, e⟩ := e
            rcases gb0 with _ | ⟨gb0_0, gb0_1, gb0_2, gb0_3⟩
            · try dsimp only at e
              cases e; exact goes_runM hU [.o, .o, .o, .b (z_lssT hq0), .o, .o, .q (ixRo_ok (kd := .i64) (T := 23) (x := s0_0) (sz := 4) rfl (fun w => by kernel_rfl) hR0 hq1), .o, .l (accRo hR0 c_Step_len (inR_nat hq1) 0 [.int .i64 (((A0 (s0_0).toNat)).fWhat)] rfl), .ov (z_rem Try.prog 3 (.tmp 55) (.const (.int .i64 (2))) ((A0 (s0_0).toNat)).fWhat 2 (by decide)), .b (z_eqlT hq2), .r [0, 1, 2, 3, 4, 5, 6, 7, 8, 9, 10] [] [11], .o, .o, .o, .q (ixRo_ok (kd := .i64) (T := 23) (x := s0_0) (sz := 4) rfl (fun w => by kernel_rfl) hR0 hq1), .o, .l (accRo hR0 c_Step_len (inR_nat hq1) 2 [.int .i64 (((A0 (s0_0).toNat)).fN)] rfl), .o, .o, .q (ixRo_ok (kd := .i64) (T := 23) (x := s0_0) (sz := 4) rfl (fun w => by kernel_rfl) hR0 hq1), .o, .l (accRo hR0 c_Step_len (inR_nat hq1) 3 [.int .i64 (((A0 (s0_0).toNat)).fM)] rfl), .xg (ok0_sock_Ledger_Acquire_v1 hU ((A0 (s0_0).toNat)).fN ((A0 (s0_0).toNat)).fM 0  e_gb0) [0], .o, .o, .o] [0, 1, 2, 3, 4, 5, 6, 7] (fun b => rfl) (by decide) rfl rfl (fun b => by kernel_rfl)
            · try dsimp only at e
              cases e; exact goes_runM hU [.o, .o, .o, .b (z_lssT hq0), .o, .o, .q (ixRo_ok (kd := .i64) (T := 23) (x := s0_0) (sz := 4) rfl (fun w => by kernel_rfl) hR0 hq1), .o, .l (accRo hR0 c_Step_len (inR_nat hq1) 0 [.int .i64 (((A0 (s0_0).toNat)).fWhat)] rfl), .ov (z_rem Try.prog 3 (.tmp 55) (.const (.int .i64 (2))) ((A0 (s0_0).toNat)).fWhat 2 (by decide)), .b (z_eqlT hq2), .r [0, 1, 2, 3, 4, 5, 6, 7, 8, 9, 10] [] [11], .o, .o, .o, .q (ixRo_ok (kd := .i64) (T := 23) (x := s0_0) (sz := 4) rfl (fun w => by kernel_rfl) hR0 hq1), .o, .l (accRo hR0 c_Step_len (inR_nat hq1) 2 [.int .i64 (((A0 (s0_0).toNat)).fN)] rfl), .o, .o, .q (ixRo_ok (kd := .i64) (T := 23) (x := s0_0) (sz := 4) rfl (fun w => by kernel_rfl) hR0 hq1), .o, .l (accRo hR0 c_Step_len (inR_nat hq1) 3 [.int .i64 (((A0 (s0_0).toNat)).fM)] rfl), .xg (ok1_sock_Ledger_Acquire_v1 hU ((A0 (s0_0).toNat)).fN ((A0 (s0_0).toNat)).fM 0 gb0_0 gb0_1 gb0_2 gb0_3 e_gb0) [0], .o, .o, .o] [0, 1, 2, 3, 4, 9, 10, 11] (fun b => rfl) (by decide) rfl rfl (fun b => by kernel_rfl)
          · replace e := bindO_eq e
            obtain ⟨gb0, e_gb0, e⟩ := e
            cases gb0
            try dsimp only at e
            cases e; exact goes_runM hU [.o, .o, .o, .b (z_lssT hq0), .o, .o, .q (ixRo_ok (kd := .i64) (T := 23) (x := s0_0) (sz := 4) rfl (fun w => by kernel_rfl) hR0 hq1), .o, .l (accRo hR0 c_Step_len (inR_nat hq1) 0 [.int .i64 (((A0 (s0_0).toNat)).fWhat)] rfl), .ov (z_rem Try.prog 3 (.tmp 55) (.const (.int .i64 (2))) ((A0 (s0_0).toNat)).fWhat 2 (by decide)), .b (z_eqlF hq2), .r [0, 1, 2, 3, 4, 5, 6, 7, 8, 9, 10] [] [11], .o, .o, .o, .q (ixRo_ok (kd := .i64) (T := 23) (x := s0_0) (sz := 4) rfl (fun w => by kernel_rfl) hR0 hq1), .o, .l (accRo hR0 c_Step_len (inR_nat hq1) 1 [.int .i64 (((A0 (s0_0).toNat)).fI)] rfl), .o, .o, .q (ixRo_ok (kd := .i64) (T := 23) (x := s0_0) (sz := 4) rfl (fun w => by kernel_rfl) hR0 hq1), .o, .l (accRo hR0 c_Step_len (inR_nat hq1) 2 [.int .i64 (((A0 (s0_0).toNat)).fN)] rfl), .xg (ok0_sock_Ledger_Release_v2 hU ((A0 (s0_0).toNat)).fI ((A0 (s0_0).toNat)).fN 0  e_gb0) [0], .o, .o, .o] [0, 1, 2, 3, 4, 5, 6, 7] (fun b => rfl) (by decide) rfl rfl (fun b => by kernel_rfl)
        · exact none_some e
      · cases e; exact ⟨ne_exit 2, goes_runM hU [.o, .o, .o, .b (z_lssF hq0)] [0, 1, 2, 3, 4, 5, 6, 7] (fun b => rfl) (by decide) rfl rfl (fun b => by kernel_rfl)⟩
    | c1 s0_0 s0_1 s0_2 s0_3 s0_4 s0_5 s0_6 s0_7 s0_8 =>
      unfold st_barbicanlaw11_SockLedger_L1 at e
      dsimp only at e
      replace e := cond_eq_or e
      rcases e with ⟨hq0, e⟩ | ⟨hq0, e⟩
      · replace e := cond_eq_or e
        rcases e with ⟨hq1, e⟩ | ⟨hq1, e⟩
        · replace e := cond_eq_or e
          rcases e with ⟨hq2, e⟩ | ⟨hq2, e⟩
          · replace e := bindO_eq e
            obtain ⟨gb0, e_gb0, e⟩ := e
            rcases gb0 with _ | ⟨gb0_0, gb0_1, gb0_2, gb0_3, gb0_4⟩
            · try dsimp only at e
              cases e; exact goes_runM hU [.o, .o, .o, .b (z_lssT hq0), .o, .o, .q (ixRo_ok (kd := .i64) (T := 23) (x := s0_8) (sz := 4) rfl (fun w => by kernel_rfl) hR0 hq1), .o, .l (accRo hR0 c_Step_len (inR_nat hq1) 0 [.int .i64 (((A0 (s0_8).toNat)).fWhat)] rfl), .ov (z_rem Try.prog 3 (.tmp 55) (.const (.int .i64 (2))) ((A0 (s0_8).toNat)).fWhat 2 (by decide)), .b (z_eqlT hq2), .r [0, 1, 2, 3, 4, 5, 6, 7, 8, 9, 10] [] [11], .o, .o, .o, .q (ixRo_ok (kd := .i64) (T := 23) (x := s0_8) (sz := 4) rfl (fun w => by kernel_rfl) hR0 hq1), .o, .l (accRo hR0 c_Step_len (inR_nat hq1) 2 [.int .i64 (((A0 (s0_8).toNat)).fN)] rfl), .o, .o, .q (ixRo_ok (kd := .i64) (T := 23) (x := s0_8) (sz := 4) rfl (fun w => by kernel_rfl) hR0 hq1), .o, .l (accRo hR0 c_Step_len (inR_nat hq1) 3 [.int .i64 (((A0 (s0_8).toNat)).fM)] rfl), .xg (ok0_sock_Ledger_Acquire_v3 hU ((A0 (s0_8).toNat)).fN ((A0 (s0_8).toNat)).fM s0_0 s0_2 s0_4 s0_5 s0_6 s0_1 s0_3 s0_7  e_gb0) [0, 5, 6, 7], .o, .o, .o] [0, 1, 2, 3, 4, 5, 6, 7] (fun b => rfl) (by decide) rfl rfl (fun b => by kernel_rfl)
            · try dsimp only at e
              cases e; exact goes_runM hU [.o, .o, .o, .b (z_lssT hq0), .o, .o, .q (ixRo_ok (kd := .i64) (T := 23) (x := s0_8) (sz := 4) rfl (fun w => by kernel_rfl) hR0 hq1), .o, .l (accRo hR0 c_Step_len (inR_nat hq1) 0 [.int .i64 (((A0 (s0_8).toNat)).fWhat)] rfl), .ov (z_rem Try.prog 3 (.tmp 55) (.const (.int .i64 (2))) ((A0 (s0_8).toNat)).fWhat 2 (by decide)), .b (z_eqlT hq2), .r [0, 1, 2, 3, 4, 5, 6, 7, 8, 9, 10] [] [11], .o, .o, .o, .q (ixRo_ok (kd := .i64) (T := 23) (x := s0_8) (sz := 4) rfl (fun w => by kernel_rfl) hR0 hq1), .o, .l (accRo hR0 c_Step_len (inR_nat hq1) 2 [.int .i64 (((A0 (s0_8).toNat)).fN)] rfl), .o, .o, .q (ixRo_ok (kd := .i64) (T := 23) (x := s0_8) (sz := 4) rfl (fun w => by kernel_rfl) hR0 hq1), .o, .l (accRo hR0 c_Step_len (inR_nat hq1) 3 [.int .i64 (((A0 (s0_8).toNat)).fM)] rfl), .xg (ok1_sock_Ledger_Acquire_v3 hU ((A0 (s0_8).toNat)).fN ((A0 (s0_8).toNat)).fM s0_0 s0_2 s0_4 s0_5 s0_6 s0_1 s0_3 s0_7 gb0_0 gb0_1 gb0_2 gb0_3 gb0_4 e_gb0) [0, 5, 6, 7], .o, .o, .o] [0, 1, 2, 3, 4, 9, 10, 11] (fun b => rfl) (by decide) rfl rfl (fun b => by kernel_rfl)
          · replace e := bindO_eq e
            obtain ⟨gb0, e_gb0, e⟩ := e
            rcases gb0 with ⟨gb0_0, gb0_1, gb0_2, gb0_3, gb0_4⟩ | _
            · try dsimp only at e
              cases e; exact goes_runM hU [.o, .o, .o, .b (z_lssT hq0), .o, .o, .q (ixRo_ok (kd := .i64) (T := 23) (x := s0_8) (sz := 4) rfl (fun w => by kernel_rfl) hR0 hq1), .o, .l (accRo hR0 c_Step_len (inR_nat hq1) 0 [.int .i64 (((A0 (s0_8).toNat)).fWhat)] rfl), .ov (z_rem Try.prog 3 (.tmp 55) (.const (.int .i64 (2))) ((A0 (s0_8).toNat)).fWhat 2 (by decide)), .b (z_eqlF hq2), .r [0, 1, 2, 3, 4, 5, 6, 7, 8, 9, 10] [] [11], .o, .o, .o, .q (ixRo_ok (kd := .i64) (T := 23) (x := s0_8) (sz := 4) rfl (fun w => by kernel_rfl) hR0 hq1), .o, .l (accRo hR0 c_Step_len (inR_nat hq1) 1 [.int .i64 (((A0 (s0_8).toNat)).fI)] rfl), .o, .o, .q (ixRo_ok (kd := .i64) (T := 23) (x := s0_8) (sz := 4) rfl (fun w => by kernel_rfl) hR0 hq1), .o, .l (accRo hR0 c_Step_len (inR_nat hq1) 2 [.int .i64 (((A0 (s0_8).toNat)).fN)] rfl), .xg (ok0_sock_Ledger_Release_v4 hU ((A0 (s0_8).toNat)).fI ((A0 (s0_8).toNat)).fN s0_0 s0_2 s0_4 s0_5 s0_6 s0_1 s0_3 s0_7 gb0_0 gb0_1 gb0_2 gb0_3 gb0_4 e_gb0) [0, 5, 6, 7], .o, .o, .o] [0, 1, 2, 3, 4, 5, 6, 9] (fun b => rfl) (by decide) rfl rfl (fun b => by kernel_rfl)
            · try dsimp only at e
              cases e; exact goes_runM hU [.o, .o, .o, .b (z_lssT hq0), .o, .o, .q (ixRo_ok (kd := .i64) (T := 23) (x := s0_8) (sz := 4) rfl (fun w => by kernel_rfl) hR0 hq1), .o, .l (accRo hR0 c_Step_len (inR_nat hq1) 0 [.int .i64 (((A0 (s0_8).toNat)).fWhat)] rfl), .ov (z_rem Try.prog 3 (.tmp 55) (.const (.int .i64 (2))) ((A0 (s0_8).toNat)).fWhat 2 (by decide)), .b (z_eqlF hq2), .r [0, 1, 2, 3, 4, 5, 6, 7, 8, 9, 10] [] [11], .o, .o, .o, .q (ixRo_ok (kd := .i64) (T := 23) (x := s0_8) (sz := 4) rfl (fun w => by kernel_rfl) hR0 hq1), .o, .l (accRo hR0 c_Step_len (inR_nat hq1) 1 [.int .i64 (((A0 (s0_8).toNat)).fI)] rfl), .o, .o, .q (ixRo_ok (kd := .i64) (T := 23) (x := s0_8) (sz := 4) rfl (fun w => by kernel_rfl) hR0 hq1), .o, .l (accRo hR0 c_Step_len (inR_nat hq1) 2 [.int .i64 (((A0 (s0_8).toNat)).fN)] rfl), .xg (ok1_sock_Ledger_Release_v4 hU ((A0 (s0_8).toNat)).fI ((A0 (s0_8).toNat)).fN s0_0 s0_2 s0_4 s0_5 s0_6 s0_1 s0_3 s0_7  e_gb0) [0, 5, 6, 7], .o, .o, .o] [0, 1, 2, 3, 4, 5, 6, 7] (fun b => rfl) (by decide) rfl rfl (fun b => by kernel_rfl)
        · exact none_some e
      · cases e; exact ⟨ne_exit 2, goes_runM hU [.o, .o, .o, .b (z_lssF hq0)] [0, 1, 2, 3, 4, 5, 6, 7] (fun b => rfl) (by decide) rfl rfl (fun b => by kernel_rfl)⟩) s r h
noncomputable def t0_barbicanlaw11_SockLedger_L1_0 (a0 : Option Addr) (p0 : Nat) (q0 : Nat) (n0 : Nat) (k0 : Nat) (A0 : Nat → Step) (y1 : Int) (s0_0 : Int) (ls : List L1) : List Value := List.append [.slice a0 n0 (n0 + k0), .int .i64 (y1), ((lget ls 4).u 2), ((lget ls 4).u 3), .bool false, .pointer (some ⟨(lget ls 0).n, 0, none⟩), ((lget ls 4).u 6), ((lget ls 4).u 7), ((lget ls 4).u 8), .int .i64 (s0_0)] (jks (lget ls 4).u 10 140)
def pre_barbicanlaw11_SockLedger_L1_0 (a0 : Option Addr) (p0 : Nat) (q0 : Nat) (n0 : Nat) (k0 : Nat) (A0 : Nat → Step) (y1 : Int) (s0_0 : Int) (ls : List L1) : List Obj := [.cells #[.slice none 0 0, .slice none 0 0, .int .i64 (0), .int .i64 (0), .slice none 0 0] 78, unb, unb, unb, unb]
theorem sp0_barbicanlaw11_SockLedger_L1_0_ok (s0_0 : Int) (h : lpO (st_barbicanlaw11_SockLedger_L1 n0 A0) (.c0 s0_0) = some (.e0 )) : SpcG Try.prog M B0 S ⟨fun ls => .code (.loop bd_barbicanlaw11_SockLedger_L1) (t0_barbicanlaw11_SockLedger_L1_0 a0 p0 q0 n0 k0 A0 y1 s0_0 ls), pre_barbicanlaw11_SockLedger_L1_0 a0 p0 q0 n0 k0 A0 y1 s0_0, 4, (.exit 2), fun ls => vf_barbicanlaw11_SockLedger_L1 a0 p0 q0 n0 k0 A0 y1 (.e0 ) (ls.take 5 ++ ls.drop 5), fun ls => (Hf_barbicanlaw11_SockLedger_L1 a0 p0 q0 n0 k0 A0 y1 (.e0 ) (ls.take 5 ++ ls.drop 5)).take 5 ++ List.replicate 0 unb, fun ls => (Hf_barbicanlaw11_SockLedger_L1 a0 p0 q0 n0 k0 A0 y1 (.e0 ) (ls.take 5 ++ ls.drop 5)).drop 5⟩ :=
  spc_of_goesM hU 3 (k0 := 5) (go_barbicanlaw11_SockLedger_L1 hU a0 p0 q0 n0 k0 A0 hR0 y1 _ _ h) (t0_barbicanlaw11_SockLedger_L1_0 a0 p0 q0 n0 k0 A0 y1 s0_0) (pre_barbicanlaw11_SockLedger_L1_0 a0 p0 q0 n0 k0 A0 y1 s0_0) (fun _ => rfl) (fun ls h => by match ls, h with | [l0, l1, l2, l3, l4], _ => exact ⟨by kernel_rfl, by kernel_rfl⟩) (fun ls h => by match ls, h with | [l0, l1, l2, l3, l4], _ => rfl) (by decide) (by decide) (fun ls => rfl)
theorem sp1_barbicanlaw11_SockLedger_L1_0_ok (s0_0 : Int) (c1_0 : Nat) (c1_1 : Nat → Int) (c1_2 : Nat) (c1_3 : Nat → Reference) (c1_4 : Int) (c1_5 : Int) (c1_6 : Nat) (c1_7 : Nat → Event) (h : lpO (st_barbicanlaw11_SockLedger_L1 n0 A0) (.c0 s0_0) = some (.e1 c1_0 c1_1 c1_2 c1_3 c1_4 c1_5 c1_6 c1_7)) : SpcG Try.prog M B0 S ⟨fun ls => .code (.loop bd_barbicanlaw11_SockLedger_L1) (t0_barbicanlaw11_SockLedger_L1_0 a0 p0 q0 n0 k0 A0 y1 s0_0 ls), pre_barbicanlaw11_SockLedger_L1_0 a0 p0 q0 n0 k0 A0 y1 s0_0, 4, (.exit 2), fun ls => vf_barbicanlaw11_SockLedger_L1 a0 p0 q0 n0 k0 A0 y1 (.e1 c1_0 c1_1 c1_2 c1_3 c1_4 c1_5 c1_6 c1_7) (ls.take 5 ++ ls.drop 5), fun ls => (Hf_barbicanlaw11_SockLedger_L1 a0 p0 q0 n0 k0 A0 y1 (.e1 c1_0 c1_1 c1_2 c1_3 c1_4 c1_5 c1_6 c1_7) (ls.take 5 ++ ls.drop 5)).take 5 ++ List.replicate 0 unb, fun ls => (Hf_barbicanlaw11_SockLedger_L1 a0 p0 q0 n0 k0 A0 y1 (.e1 c1_0 c1_1 c1_2 c1_3 c1_4 c1_5 c1_6 c1_7) (ls.take 5 ++ ls.drop 5)).drop 5⟩ :=
  spc_of_goesM hU 3 (k0 := 5) (go_barbicanlaw11_SockLedger_L1 hU a0 p0 q0 n0 k0 A0 hR0 y1 _ _ h) (t0_barbicanlaw11_SockLedger_L1_0 a0 p0 q0 n0 k0 A0 y1 s0_0) (pre_barbicanlaw11_SockLedger_L1_0 a0 p0 q0 n0 k0 A0 y1 s0_0) (fun _ => rfl) (fun ls h => by match ls, h with | [l0, l1, l2, l3, l4], _ => exact ⟨by kernel_rfl, by kernel_rfl⟩) (fun ls h => by match ls, h with | [l0, l1, l2, l3, l4], _ => rfl) (by decide) (by decide) (fun ls => rfl)
inductive Sh_barbicanlaw11_SockLedger_L2_L3v4 where
  | c0 (sb0_0 : Int) (sb0_1 : Int)
inductive Ex_barbicanlaw11_SockLedger_L2_L3v4 where
  | e0 (c0_0 : Int) (c0_1 : Int) (c0_2 : Int) (c0_3 : Int)
noncomputable def st_barbicanlaw11_SockLedger_L2_L3v4 (g1_6 : Nat) (g1_7 : Nat → Event) (s0_0 : Nat) (s0_1 : Nat → Int) (s0_3 : Int) : Sh_barbicanlaw11_SockLedger_L2_L3v4 → Option (Sh_barbicanlaw11_SockLedger_L2_L3v4 ⊕ Ex_barbicanlaw11_SockLedger_L2_L3v4)
  | .c0 sb0_0 sb0_1 =>
    bif decide (sb0_1 < (s0_0 : Int)) then
      (bif inR sb0_1 s0_0 then
        (bif inR s0_3 g1_6 then
          (bif (s0_1 (sb0_1).toNat) == ((g1_7 (s0_3).toNat)).fId then
            (some (.inl (.c0 sb0_1 (IntKind.i64.wrap (sb0_1 + 1)))))
          else (some (.inl (.c0 sb0_0 (IntKind.i64.wrap (sb0_1 + 1))))))
        else (none))
      else (none))
    else (some (.inr (.e0 sb0_0 sb0_1 sb0_1 (s0_0 : Int))))
noncomputable def bd_barbicanlaw11_SockLedger_L2_L3v4 : Code := codeOf Try.f4 [1, 1, 1, 1, 1, 1, 1, 1, 1, 0, 1, 0, 0, 1, 0, 0, 1, 1, 0, 1, 0, 0]
def fl_barbicanlaw11_SockLedger_L2_L3v4 (a0 : Option Addr) (p0 : Nat) (q0 : Nat) (n0 : Nat) (k0 : Nat) (A0 : Nat → Step) (y1 : Int) (g1_0 : Nat) (g1_1 : Nat → Int) (g1_2 : Nat) (g1_3 : Nat → Reference) (g1_4 : Int) (g1_5 : Int) (g1_6 : Nat) (g1_7 : Nat → Event) (s0_0 : Nat) (s0_1 : Nat → Int) (s0_2 : Int) (s0_3 : Int) : Sh_barbicanlaw11_SockLedger_L2_L3v4 → List L1 → List Value
  | .c0 sb0_0 sb0_1, ls => [.bool false, .pointer (some ⟨(lget ls 0).n, 0, none⟩), (rowV (lget ls 9) g1_6 3), (rowV (lget ls 10) s0_0 1), .int .i64 (s0_2), .int .i64 (s0_3), .int .i64 (sb0_0), .int .i64 (sb0_1), .int .i64 (s0_3), (rowV (lget ls 9) g1_6 3), .int .i64 ((g1_6 : Int)), .bool true, ((lget ls 11).u 88), ((lget ls 11).u 89), (rowV (lget ls 9) g1_6 3), .int .i64 (s0_3), .pointer (some ⟨(lget ls 9).n, 0 + (s0_3).toNat * 3, none⟩), .pointer (some ⟨(lget ls 9).n, 0 + (s0_3).toNat * 3, none⟩), .bool true, .bool false, ((lget ls 11).u 96), ((lget ls 11).u 97), ((lget ls 11).u 98), ((lget ls 11).u 99), ((lget ls 11).u 100), ((lget ls 11).u 101), ((lget ls 11).u 102), ((lget ls 11).u 103), ((lget ls 11).u 104), ((lget ls 11).u 105), ((lget ls 11).u 106), ((lget ls 11).u 107), ((lget ls 11).u 108), ((lget ls 11).u 109), ((lget ls 11).u 110), ((lget ls 11).u 111), ((lget ls 11).u 112), ((lget ls 11).u 130), ((lget ls 11).u 131), ((lget ls 11).u 132), ((lget ls 11).u 133), ((lget ls 11).u 134), ((lget ls 11).u 135), ((lget ls 11).u 136), ((lget ls 11).u 137), ((lget ls 11).u 138), ((lget ls 11).u 139), ((lget ls 11).u 140), ((lget ls 4).u 141), ((lget ls 4).u 142), ((lget ls 4).u 143), ((lget ls 4).u 144), ((lget ls 4).u 145), ((lget ls 4).u 146), ((lget ls 4).u 147), ((lget ls 4).u 148), ((lget ls 4).u 149)]
def mf_barbicanlaw11_SockLedger_L2_L3v4 : Sh_barbicanlaw11_SockLedger_L2_L3v4 → List (Nat × Nat)
  | .c0 _ _ => [(0, 4), (2, 4), (6, 68), (29, 17), (20, 0)]
noncomputable def fr_barbicanlaw11_SockLedger_L2_L3v4 (a0 : Option Addr) (p0 : Nat) (q0 : Nat) (n0 : Nat) (k0 : Nat) (A0 : Nat → Step) (y1 : Int) (g1_0 : Nat) (g1_1 : Nat → Int) (g1_2 : Nat) (g1_3 : Nat → Reference) (g1_4 : Int) (g1_5 : Int) (g1_6 : Nat) (g1_7 : Nat → Event) (s0_0 : Nat) (s0_1 : Nat → Int) (s0_2 : Int) (s0_3 : Int) (s : Sh_barbicanlaw11_SockLedger_L2_L3v4) : List L1 → List Value := mrgF (mf_barbicanlaw11_SockLedger_L2_L3v4 s) (fl_barbicanlaw11_SockLedger_L2_L3v4 a0 p0 q0 n0 k0 A0 y1 g1_0 g1_1 g1_2 g1_3 g1_4 g1_5 g1_6 g1_7 s0_0 s0_1 s0_2 s0_3 s) 12
def Hs_barbicanlaw11_SockLedger_L2_L3v4 (a0 : Option Addr) (p0 : Nat) (q0 : Nat) (n0 : Nat) (k0 : Nat) (A0 : Nat → Step) (y1 : Int) (g1_0 : Nat) (g1_1 : Nat → Int) (g1_2 : Nat) (g1_3 : Nat → Reference) (g1_4 : Int) (g1_5 : Int) (g1_6 : Nat) (g1_7 : Nat → Event) (s0_0 : Nat) (s0_1 : Nat → Int) (s0_2 : Int) (s0_3 : Int) : Sh_barbicanlaw11_SockLedger_L2_L3v4 → List L1 → List Obj
  | .c0 sb0_0 sb0_1, ls => [.cells #[(rowV (lget ls 5) g1_0 1), (rowV (lget ls 6) g1_2 2), .int .i64 (g1_4), .int .i64 (g1_5), (rowV (lget ls 7) g1_6 3)] 78, unb, unb, unb, unb, rowO (lget ls 5) (esG cZ g1_0 g1_1) 3 g1_0 1, rowO (lget ls 6) (esG c_Reference g1_2 g1_3) 82 g1_2 2, rowO (lget ls 7) (esG c_Event g1_6 g1_7) 63 g1_6 3, unb, rowO (lget ls 9) (esG c_Event g1_6 g1_7) 63 g1_6 3, rowO (lget ls 10) (esG cZ s0_0 s0_1) 3 s0_0 1, unb, unb]
def vl_barbicanlaw11_SockLedger_L2_L3v4 (a0 : Option Addr) (p0 : Nat) (q0 : Nat) (n0 : Nat) (k0 : Nat) (A0 : Nat → Step) (y1 : Int) (g1_0 : Nat) (g1_1 : Nat → Int) (g1_2 : Nat) (g1_3 : Nat → Reference) (g1_4 : Int) (g1_5 : Int) (g1_6 : Nat) (g1_7 : Nat → Event) (s0_0 : Nat) (s0_1 : Nat → Int) (s0_2 : Int) (s0_3 : Int) : Ex_barbicanlaw11_SockLedger_L2_L3v4 → List L1 → List Value
  | .e0 c0_0 c0_1 c0_2 c0_3, ls => [.bool false, .pointer (some ⟨(lget ls 0).n, 0, none⟩), (rowV (lget ls 9) g1_6 3), (rowV (lget ls 10) s0_0 1), .int .i64 (s0_2), .int .i64 (s0_3), .int .i64 (c0_0), .int .i64 (c0_1), .int .i64 (s0_3), (rowV (lget ls 9) g1_6 3), .int .i64 ((g1_6 : Int)), .bool true, ((lget ls 11).u 88), ((lget ls 11).u 89), (rowV (lget ls 9) g1_6 3), .int .i64 (s0_3), .pointer (some ⟨(lget ls 9).n, 0 + (s0_3).toNat * 3, none⟩), .pointer (some ⟨(lget ls 9).n, 0 + (s0_3).toNat * 3, none⟩), .bool true, .bool false, ((lget ls 11).u 96), ((lget ls 11).u 97), ((lget ls 11).u 98), ((lget ls 11).u 99), ((lget ls 11).u 100), ((lget ls 11).u 101), ((lget ls 11).u 102), ((lget ls 11).u 103), ((lget ls 11).u 104), ((lget ls 11).u 105), ((lget ls 11).u 106), ((lget ls 11).u 107), ((lget ls 11).u 108), ((lget ls 11).u 109), ((lget ls 11).u 110), ((lget ls 11).u 111), ((lget ls 11).u 112), .int .i64 (c0_2), (rowV (lget ls 10) s0_0 1), .int .i64 (c0_3), .bool false, ((lget ls 11).u 130), ((lget ls 11).u 131), ((lget ls 11).u 132), ((lget ls 11).u 133), ((lget ls 11).u 134), ((lget ls 11).u 135), ((lget ls 11).u 136), ((lget ls 11).u 137), ((lget ls 11).u 138), ((lget ls 11).u 139), ((lget ls 11).u 140), ((lget ls 4).u 141), ((lget ls 4).u 142), ((lget ls 4).u 143), ((lget ls 4).u 144), ((lget ls 4).u 145), ((lget ls 4).u 146), ((lget ls 4).u 147), ((lget ls 4).u 148), ((lget ls 4).u 149)]
def mk_barbicanlaw11_SockLedger_L2_L3v4 : Ex_barbicanlaw11_SockLedger_L2_L3v4 → List (Nat × Nat)
  | .e0 _ _ _ _ => [(0, 4), (2, 4), (6, 68), (33, 13), (20, 0)]
noncomputable def vf_barbicanlaw11_SockLedger_L2_L3v4 (a0 : Option Addr) (p0 : Nat) (q0 : Nat) (n0 : Nat) (k0 : Nat) (A0 : Nat → Step) (y1 : Int) (g1_0 : Nat) (g1_1 : Nat → Int) (g1_2 : Nat) (g1_3 : Nat → Reference) (g1_4 : Int) (g1_5 : Int) (g1_6 : Nat) (g1_7 : Nat → Event) (s0_0 : Nat) (s0_1 : Nat → Int) (s0_2 : Int) (s0_3 : Int) (r : Ex_barbicanlaw11_SockLedger_L2_L3v4) : List L1 → List Value := mrgF (mk_barbicanlaw11_SockLedger_L2_L3v4 r) (vl_barbicanlaw11_SockLedger_L2_L3v4 a0 p0 q0 n0 k0 A0 y1 g1_0 g1_1 g1_2 g1_3 g1_4 g1_5 g1_6 g1_7 s0_0 s0_1 s0_2 s0_3 r) 12
def Hf_barbicanlaw11_SockLedger_L2_L3v4 (a0 : Option Addr) (p0 : Nat) (q0 : Nat) (n0 : Nat) (k0 : Nat) (A0 : Nat → Step) (y1 : Int) (g1_0 : Nat) (g1_1 : Nat → Int) (g1_2 : Nat) (g1_3 : Nat → Reference) (g1_4 : Int) (g1_5 : Int) (g1_6 : Nat) (g1_7 : Nat → Event) (s0_0 : Nat) (s0_1 : Nat → Int) (s0_2 : Int) (s0_3 : Int) : Ex_barbicanlaw11_SockLedger_L2_L3v4 → List L1 → List Obj
  | .e0 c0_0 c0_1 c0_2 c0_3, ls => [.cells #[(rowV (lget ls 5) g1_0 1), (rowV (lget ls 6) g1_2 2), .int .i64 (g1_4), .int .i64 (g1_5), (rowV (lget ls 7) g1_6 3)] 78, unb, unb, unb, unb, rowO (lget ls 5) (esG cZ g1_0 g1_1) 3 g1_0 1, rowO (lget ls 6) (esG c_Reference g1_2 g1_3) 82 g1_2 2, rowO (lget ls 7) (esG c_Event g1_6 g1_7) 63 g1_6 3, unb, rowO (lget ls 9) (esG c_Event g1_6 g1_7) 63 g1_6 3, rowO (lget ls 10) (esG cZ s0_0 s0_1) 3 s0_0 1, unb, unb]
def ex_barbicanlaw11_SockLedger_L2_L3v4 : Ex_barbicanlaw11_SockLedger_L2_L3v4 → Ex
  | .e0 _ _ _ _ => (.exit 6)
theorem go_barbicanlaw11_SockLedger_L2_L3v4 (g1_0 : Nat) (g1_1 : Nat → Int) (g1_2 : Nat) (g1_3 : Nat → Reference) (g1_4 : Int) (g1_5 : Int) (g1_6 : Nat) (g1_7 : Nat → Event) (s0_0 : Nat) (s0_1 : Nat → Int) (s0_2 : Int) (s0_3 : Int) (s : Sh_barbicanlaw11_SockLedger_L2_L3v4) (r : Ex_barbicanlaw11_SockLedger_L2_L3v4) (h : lpO (st_barbicanlaw11_SockLedger_L2_L3v4 g1_6 g1_7 s0_0 s0_1 s0_3) s = some r) : GoesG Try.prog M B0 S (.loop bd_barbicanlaw11_SockLedger_L2_L3v4) 13 (fr_barbicanlaw11_SockLedger_L2_L3v4 a0 p0 q0 n0 k0 A0 y1 g1_0 g1_1 g1_2 g1_3 g1_4 g1_5 g1_6 g1_7 s0_0 s0_1 s0_2 s0_3 s) (Hs_barbicanlaw11_SockLedger_L2_L3v4 a0 p0 q0 n0 k0 A0 y1 g1_0 g1_1 g1_2 g1_3 g1_4 g1_5 g1_6 g1_7 s0_0 s0_1 s0_2 s0_3 s) (ex_barbicanlaw11_SockLedger_L2_L3v4 r) 12 (vf_barbicanlaw11_SockLedger_L2_L3v4 a0 p0 q0 n0 k0 A0 y1 g1_0 g1_1 g1_2 g1_3 g1_4 g1_5 g1_6 g1_7 s0_0 s0_1 s0_2 s0_3 r) (Hf_barbicanlaw11_SockLedger_L2_L3v4 a0 p0 q0 n0 k0 A0 y1 g1_0 g1_1 g1_2 g1_3 g1_4 g1_5 g1_6 g1_7 s0_0 s0_1 s0_2 s0_3 r) 13 :=
  goes_lpO (fun s q e => by
    cases s with
    | c0 sb0_0 sb0_1 =>
      unfold st_barbicanlaw11_SockLedger_L2_L3v4 at e
      dsimp only at e
      replace e := cond_eq_or e
      rcases e with ⟨hq0, e⟩ | ⟨hq0, e⟩
      · replace e := cond_eq_or e
        rcases e with ⟨hq1, e⟩ | ⟨hq1, e⟩
        · replace e := cond_eq_or e
          rcases e with ⟨hq2, e⟩ | ⟨hq2, e⟩
          · replace e := cond_eq_or e
            rcases e with ⟨hq3, e⟩ | ⟨hq3, e⟩
            · cases e; exact goes_runM hU [.o, .o, .o, .b (z_lssT hq0), .r [0, 1, 2, 3, 4, 5, 6, 7, 8, 9] [] [], .o, .o, .q (ixM_ok (kd := .i64) (T := 56) (x := sb0_1) (N := s0_0) (sz := 1) rfl (fun w => by kernel_rfl) hq1), .l (accG (i := 10) (f := cZ) (A := s0_1) (k := (sb0_1).toNat) 0 [.int .i64 ((s0_1 (sb0_1).toNat))] cZ_len (inR_nat hq1) rfl), .o, .o, .q (ixM_ok (kd := .i64) (T := 37) (x := s0_3) (N := g1_6) (sz := 3) rfl (fun w => by kernel_rfl) hq2), .o, .l (accG (i := 9) (f := c_Event) (A := g1_7) (k := (s0_3).toNat) 1 [.int .i64 (((g1_7 (s0_3).toNat)).fId)] c_Event_len (inR_nat hq2) rfl), .b (z_eqlT hq3), .o, .o, .o, .o, .o] [0, 1, 2, 3, 4, 5, 6, 7, 8, 9, 10, 11] (fun b => rfl) (by decide) rfl rfl (fun b => by kernel_rfl)
            · cases e; exact goes_runM hU [.o, .o, .o, .b (z_lssT hq0), .r [0, 1, 2, 3, 4, 5, 6, 7, 8, 9] [] [], .o, .o, .q (ixM_ok (kd := .i64) (T := 56) (x := sb0_1) (N := s0_0) (sz := 1) rfl (fun w => by kernel_rfl) hq1), .l (accG (i := 10) (f := cZ) (A := s0_1) (k := (sb0_1).toNat) 0 [.int .i64 ((s0_1 (sb0_1).toNat))] cZ_len (inR_nat hq1) rfl), .o, .o, .q (ixM_ok (kd := .i64) (T := 37) (x := s0_3) (N := g1_6) (sz := 3) rfl (fun w => by kernel_rfl) hq2), .o, .l (accG (i := 9) (f := c_Event) (A := g1_7) (k := (s0_3).toNat) 1 [.int .i64 (((g1_7 (s0_3).toNat)).fId)] c_Event_len (inR_nat hq2) rfl), .b (z_eqlF hq3), .o, .o, .o] [0, 1, 2, 3, 4, 5, 6, 7, 8, 9, 10, 11] (fun b => rfl) (by decide) rfl rfl (fun b => by kernel_rfl)
          · exact none_some e
        · exact none_some e
      · cases e; exact ⟨ne_exit 6, goes_runM hU [.o, .o, .o, .b (z_lssF hq0)] [0, 1, 2, 3, 4, 5, 6, 7, 8, 9, 10, 11] (fun b => rfl) (by decide) rfl rfl (fun b => by kernel_rfl)⟩) s r h
noncomputable def t0_barbicanlaw11_SockLedger_L2_L3v4_0 (a0 : Option Addr) (p0 : Nat) (q0 : Nat) (n0 : Nat) (k0 : Nat) (A0 : Nat → Step) (y1 : Int) (g1_0 : Nat) (g1_1 : Nat → Int) (g1_2 : Nat) (g1_3 : Nat → Reference) (g1_4 : Int) (g1_5 : Int) (g1_6 : Nat) (g1_7 : Nat → Event) (s0_0 : Nat) (s0_1 : Nat → Int) (s0_2 : Int) (s0_3 : Int) (sb0_0 : Int) (sb0_1 : Int) (ls : List L1) : List Value := List.append (jks (lget ls 11).u 0 4) (List.append [.bool false, .pointer (some ⟨(lget ls 0).n, 0, none⟩)] (List.append (jks (lget ls 11).u 6 4) (List.append [(rowV (lget ls 9) g1_6 3), (rowV (lget ls 10) s0_0 1), .int .i64 (s0_2), .int .i64 (s0_3), .int .i64 (sb0_0), .int .i64 (sb0_1)] (List.append (jks (lget ls 11).u 16 68) (List.append [.int .i64 (s0_3), (rowV (lget ls 9) g1_6 3), .int .i64 ((g1_6 : Int)), .bool true, ((lget ls 11).u 88), ((lget ls 11).u 89), (rowV (lget ls 9) g1_6 3), .int .i64 (s0_3), .pointer (some ⟨(lget ls 9).n, 0 + (s0_3).toNat * 3, none⟩), .pointer (some ⟨(lget ls 9).n, 0 + (s0_3).toNat * 3, none⟩), .bool true, .bool false] (List.append (jks (lget ls 11).u 96 45) (jks (lget ls 4).u 141 9)))))))
def pre_barbicanlaw11_SockLedger_L2_L3v4_0 (a0 : Option Addr) (p0 : Nat) (q0 : Nat) (n0 : Nat) (k0 : Nat) (A0 : Nat → Step) (y1 : Int) (g1_0 : Nat) (g1_1 : Nat → Int) (g1_2 : Nat) (g1_3 : Nat → Reference) (g1_4 : Int) (g1_5 : Int) (g1_6 : Nat) (g1_7 : Nat → Event) (s0_0 : Nat) (s0_1 : Nat → Int) (s0_2 : Int) (s0_3 : Int) (sb0_0 : Int) (sb0_1 : Int) (ls : List L1) : List Obj := [.cells #[(rowV (lget ls 5) g1_0 1), (rowV (lget ls 6) g1_2 2), .int .i64 (g1_4), .int .i64 (g1_5), (rowV (lget ls 7) g1_6 3)] 78, unb, unb, unb, unb, rowO (lget ls 5) (esG cZ g1_0 g1_1) 3 g1_0 1, rowO (lget ls 6) (esG c_Reference g1_2 g1_3) 82 g1_2 2, rowO (lget ls 7) (esG c_Event g1_6 g1_7) 63 g1_6 3, unb, rowO (lget ls 9) (esG c_Event g1_6 g1_7) 63 g1_6 3, rowO (lget ls 10) (esG cZ s0_0 s0_1) 3 s0_0 1, unb]
theorem sp0_barbicanlaw11_SockLedger_L2_L3v4_0_ok (g1_0 : Nat) (g1_1 : Nat → Int) (g1_2 : Nat) (g1_3 : Nat → Reference) (g1_4 : Int) (g1_5 : Int) (g1_6 : Nat) (g1_7 : Nat → Event) (s0_0 : Nat) (s0_1 : Nat → Int) (s0_2 : Int) (s0_3 : Int) (sb0_0 : Int) (sb0_1 : Int) (c0_0 : Int) (c0_1 : Int) (c0_2 : Int) (c0_3 : Int) (h : lpO (st_barbicanlaw11_SockLedger_L2_L3v4 g1_6 g1_7 s0_0 s0_1 s0_3) (.c0 sb0_0 sb0_1) = some (.e0 c0_0 c0_1 c0_2 c0_3)) : SpcG Try.prog M B0 S ⟨fun ls => .code (.loop bd_barbicanlaw11_SockLedger_L2_L3v4) (t0_barbicanlaw11_SockLedger_L2_L3v4_0 a0 p0 q0 n0 k0 A0 y1 g1_0 g1_1 g1_2 g1_3 g1_4 g1_5 g1_6 g1_7 s0_0 s0_1 s0_2 s0_3 sb0_0 sb0_1 ls), pre_barbicanlaw11_SockLedger_L2_L3v4_0 a0 p0 q0 n0 k0 A0 y1 g1_0 g1_1 g1_2 g1_3 g1_4 g1_5 g1_6 g1_7 s0_0 s0_1 s0_2 s0_3 sb0_0 sb0_1, 1, (.exit 6), fun ls => vf_barbicanlaw11_SockLedger_L2_L3v4 a0 p0 q0 n0 k0 A0 y1 g1_0 g1_1 g1_2 g1_3 g1_4 g1_5 g1_6 g1_7 s0_0 s0_1 s0_2 s0_3 (.e0 c0_0 c0_1 c0_2 c0_3) (ls.take 12 ++ ls.drop 12), fun ls => (Hf_barbicanlaw11_SockLedger_L2_L3v4 a0 p0 q0 n0 k0 A0 y1 g1_0 g1_1 g1_2 g1_3 g1_4 g1_5 g1_6 g1_7 s0_0 s0_1 s0_2 s0_3 (.e0 c0_0 c0_1 c0_2 c0_3) (ls.take 12 ++ ls.drop 12)).take 12 ++ List.replicate 0 unb, fun ls => (Hf_barbicanlaw11_SockLedger_L2_L3v4 a0 p0 q0 n0 k0 A0 y1 g1_0 g1_1 g1_2 g1_3 g1_4 g1_5 g1_6 g1_7 s0_0 s0_1 s0_2 s0_3 (.e0 c0_0 c0_1 c0_2 c0_3) (ls.take 12 ++ ls.drop 12)).drop 12⟩ :=
  spc_of_goesM hU 0 (k0 := 12) (go_barbicanlaw11_SockLedger_L2_L3v4 hU a0 p0 q0 n0 k0 A0 hR0 y1 g1_0 g1_1 g1_2 g1_3 g1_4 g1_5 g1_6 g1_7 s0_0 s0_1 s0_2 s0_3 _ _ h) (t0_barbicanlaw11_SockLedger_L2_L3v4_0 a0 p0 q0 n0 k0 A0 y1 g1_0 g1_1 g1_2 g1_3 g1_4 g1_5 g1_6 g1_7 s0_0 s0_1 s0_2 s0_3 sb0_0 sb0_1) (pre_barbicanlaw11_SockLedger_L2_L3v4_0 a0 p0 q0 n0 k0 A0 y1 g1_0 g1_1 g1_2 g1_3 g1_4 g1_5 g1_6 g1_7 s0_0 s0_1 s0_2 s0_3 sb0_0 sb0_1) (fun _ => rfl) (fun ls h => by match ls, h with | [l0, l1, l2, l3, l4, l5, l6, l7, l8, l9, l10, l11], _ => exact ⟨by kernel_rfl, by kernel_rfl⟩) (fun ls h => by match ls, h with | [l0, l1, l2, l3, l4, l5, l6, l7, l8, l9, l10, l11], _ => rfl) (by decide) (by decide) (fun ls => rfl)
inductive Sh_barbicanlaw11_SockLedger_L2_L3v5 where
  | c0 (sb0_0 : Int) (sb0_1 : Int)
inductive Ex_barbicanlaw11_SockLedger_L2_L3v5 where
  | e0 (c0_0 : Int) (c0_1 : Int) (c0_2 : Int) (c0_3 : Int)
noncomputable def st_barbicanlaw11_SockLedger_L2_L3v5 (g1_6 : Nat) (g1_7 : Nat → Event) (s0_0 : Nat) (s0_1 : Nat → Int) (s0_3 : Int) : Sh_barbicanlaw11_SockLedger_L2_L3v5 → Option (Sh_barbicanlaw11_SockLedger_L2_L3v5 ⊕ Ex_barbicanlaw11_SockLedger_L2_L3v5)
  | .c0 sb0_0 sb0_1 =>
    bif decide (sb0_1 < (s0_0 : Int)) then
      (bif inR sb0_1 s0_0 then
        (bif inR s0_3 g1_6 then
          (bif (s0_1 (sb0_1).toNat) == ((g1_7 (s0_3).toNat)).fId then
            (some (.inl (.c0 sb0_1 (IntKind.i64.wrap (sb0_1 + 1)))))
          else (some (.inl (.c0 sb0_0 (IntKind.i64.wrap (sb0_1 + 1))))))
        else (none))
      else (none))
    else (some (.inr (.e0 sb0_0 sb0_1 sb0_1 (s0_0 : Int))))
noncomputable def bd_barbicanlaw11_SockLedger_L2_L3v5 : Code := codeOf Try.f4 [1, 1, 1, 1, 1, 1, 1, 1, 1, 0, 1, 0, 0, 1, 0, 0, 1, 1, 0, 1, 0, 0]
def fl_barbicanlaw11_SockLedger_L2_L3v5 (a0 : Option Addr) (p0 : Nat) (q0 : Nat) (n0 : Nat) (k0 : Nat) (A0 : Nat → Step) (y1 : Int) (g1_0 : Nat) (g1_1 : Nat → Int) (g1_2 : Nat) (g1_3 : Nat → Reference) (g1_4 : Int) (g1_5 : Int) (g1_6 : Nat) (g1_7 : Nat → Event) (s0_0 : Nat) (s0_1 : Nat → Int) (s0_2 : Int) (s0_3 : Int) : Sh_barbicanlaw11_SockLedger_L2_L3v5 → List L1 → List Value
  | .c0 sb0_0 sb0_1, ls => [.bool false, .pointer (some ⟨(lget ls 0).n, 0, none⟩), (rowV (lget ls 9) g1_6 3), (rowCV .cap (lget ls 10) s0_0 1), .int .i64 (s0_2), .int .i64 (s0_3), .int .i64 (sb0_0), .int .i64 (sb0_1), .int .i64 (s0_3), (rowV (lget ls 9) g1_6 3), .int .i64 ((g1_6 : Int)), .bool true, ((lget ls 11).u 88), ((lget ls 11).u 89), (rowV (lget ls 9) g1_6 3), .int .i64 (s0_3), .pointer (some ⟨(lget ls 9).n, 0 + (s0_3).toNat * 3, none⟩), .pointer (some ⟨(lget ls 9).n, 0 + (s0_3).toNat * 3, none⟩), .bool true, .bool false, ((lget ls 11).u 96), ((lget ls 11).u 97), ((lget ls 11).u 98), ((lget ls 11).u 99), ((lget ls 11).u 100), ((lget ls 11).u 101), ((lget ls 11).u 102), ((lget ls 11).u 103), ((lget ls 11).u 104), ((lget ls 11).u 105), ((lget ls 11).u 106), ((lget ls 11).u 107), ((lget ls 11).u 108), ((lget ls 11).u 109), ((lget ls 11).u 110), ((lget ls 11).u 111), ((lget ls 11).u 112), ((lget ls 11).u 130), ((lget ls 11).u 131), ((lget ls 11).u 132), ((lget ls 11).u 133), ((lget ls 11).u 134), ((lget ls 11).u 135), ((lget ls 11).u 136), ((lget ls 11).u 137), ((lget ls 11).u 138), ((lget ls 11).u 139), ((lget ls 11).u 140), ((lget ls 4).u 141), ((lget ls 4).u 142), ((lget ls 4).u 143), ((lget ls 4).u 144), ((lget ls 4).u 145), ((lget ls 4).u 146), ((lget ls 4).u 147), ((lget ls 4).u 148), ((lget ls 4).u 149)]
def mf_barbicanlaw11_SockLedger_L2_L3v5 : Sh_barbicanlaw11_SockLedger_L2_L3v5 → List (Nat × Nat)
  | .c0 _ _ => [(0, 4), (2, 4), (6, 68), (29, 17), (20, 0)]
noncomputable def fr_barbicanlaw11_SockLedger_L2_L3v5 (a0 : Option Addr) (p0 : Nat) (q0 : Nat) (n0 : Nat) (k0 : Nat) (A0 : Nat → Step) (y1 : Int) (g1_0 : Nat) (g1_1 : Nat → Int) (g1_2 : Nat) (g1_3 : Nat → Reference) (g1_4 : Int) (g1_5 : Int) (g1_6 : Nat) (g1_7 : Nat → Event) (s0_0 : Nat) (s0_1 : Nat → Int) (s0_2 : Int) (s0_3 : Int) (s : Sh_barbicanlaw11_SockLedger_L2_L3v5) : List L1 → List Value := mrgF (mf_barbicanlaw11_SockLedger_L2_L3v5 s) (fl_barbicanlaw11_SockLedger_L2_L3v5 a0 p0 q0 n0 k0 A0 y1 g1_0 g1_1 g1_2 g1_3 g1_4 g1_5 g1_6 g1_7 s0_0 s0_1 s0_2 s0_3 s) 12
def Hs_barbicanlaw11_SockLedger_L2_L3v5 (a0 : Option Addr) (p0 : Nat) (q0 : Nat) (n0 : Nat) (k0 : Nat) (A0 : Nat → Step) (y1 : Int) (g1_0 : Nat) (g1_1 : Nat → Int) (g1_2 : Nat) (g1_3 : Nat → Reference) (g1_4 : Int) (g1_5 : Int) (g1_6 : Nat) (g1_7 : Nat → Event) (s0_0 : Nat) (s0_1 : Nat → Int) (s0_2 : Int) (s0_3 : Int) : Sh_barbicanlaw11_SockLedger_L2_L3v5 → List L1 → List Obj
  | .c0 sb0_0 sb0_1, ls => [.cells #[(rowV (lget ls 5) g1_0 1), (rowV (lget ls 6) g1_2 2), .int .i64 (g1_4), .int .i64 (g1_5), (rowV (lget ls 7) g1_6 3)] 78, unb, unb, unb, unb, rowO (lget ls 5) (esG cZ g1_0 g1_1) 3 g1_0 1, rowO (lget ls 6) (esG c_Reference g1_2 g1_3) 82 g1_2 2, rowO (lget ls 7) (esG c_Event g1_6 g1_7) 63 g1_6 3, unb, rowO (lget ls 9) (esG c_Event g1_6 g1_7) 63 g1_6 3, rowC .cap (lget ls 10) (esG cZ s0_0 s0_1) 3 s0_0 1, unb, unb]
def vl_barbicanlaw11_SockLedger_L2_L3v5 (a0 : Option Addr) (p0 : Nat) (q0 : Nat) (n0 : Nat) (k0 : Nat) (A0 : Nat → Step) (y1 : Int) (g1_0 : Nat) (g1_1 : Nat → Int) (g1_2 : Nat) (g1_3 : Nat → Reference) (g1_4 : Int) (g1_5 : Int) (g1_6 : Nat) (g1_7 : Nat → Event) (s0_0 : Nat) (s0_1 : Nat → Int) (s0_2 : Int) (s0_3 : Int) : Ex_barbicanlaw11_SockLedger_L2_L3v5 → List L1 → List Value
  | .e0 c0_0 c0_1 c0_2 c0_3, ls => [.bool false, .pointer (some ⟨(lget ls 0).n, 0, none⟩), (rowV (lget ls 9) g1_6 3), (rowCV .cap (lget ls 10) s0_0 1), .int .i64 (s0_2), .int .i64 (s0_3), .int .i64 (c0_0), .int .i64 (c0_1), .int .i64 (s0_3), (rowV (lget ls 9) g1_6 3), .int .i64 ((g1_6 : Int)), .bool true, ((lget ls 11).u 88), ((lget ls 11).u 89), (rowV (lget ls 9) g1_6 3), .int .i64 (s0_3), .pointer (some ⟨(lget ls 9).n, 0 + (s0_3).toNat * 3, none⟩), .pointer (some ⟨(lget ls 9).n, 0 + (s0_3).toNat * 3, none⟩), .bool true, .bool false, ((lget ls 11).u 96), ((lget ls 11).u 97), ((lget ls 11).u 98), ((lget ls 11).u 99), ((lget ls 11).u 100), ((lget ls 11).u 101), ((lget ls 11).u 102), ((lget ls 11).u 103), ((lget ls 11).u 104), ((lget ls 11).u 105), ((lget ls 11).u 106), ((lget ls 11).u 107), ((lget ls 11).u 108), ((lget ls 11).u 109), ((lget ls 11).u 110), ((lget ls 11).u 111), ((lget ls 11).u 112), .int .i64 (c0_2), (rowCV .cap (lget ls 10) s0_0 1), .int .i64 (c0_3), .bool false, ((lget ls 11).u 130), ((lget ls 11).u 131), ((lget ls 11).u 132), ((lget ls 11).u 133), ((lget ls 11).u 134), ((lget ls 11).u 135), ((lget ls 11).u 136), ((lget ls 11).u 137), ((lget ls 11).u 138), ((lget ls 11).u 139), ((lget ls 11).u 140), ((lget ls 4).u 141), ((lget ls 4).u 142), ((lget ls 4).u 143), ((lget ls 4).u 144), ((lget ls 4).u 145), ((lget ls 4).u 146), ((lget ls 4).u 147), ((lget ls 4).u 148), ((lget ls 4).u 149)]
def mk_barbicanlaw11_SockLedger_L2_L3v5 : Ex_barbicanlaw11_SockLedger_L2_L3v5 → List (Nat × Nat)
  | .e0 _ _ _ _ => [(0, 4), (2, 4), (6, 68), (33, 13), (20, 0)]
noncomputable def vf_barbicanlaw11_SockLedger_L2_L3v5 (a0 : Option Addr) (p0 : Nat) (q0 : Nat) (n0 : Nat) (k0 : Nat) (A0 : Nat → Step) (y1 : Int) (g1_0 : Nat) (g1_1 : Nat → Int) (g1_2 : Nat) (g1_3 : Nat → Reference) (g1_4 : Int) (g1_5 : Int) (g1_6 : Nat) (g1_7 : Nat → Event) (s0_0 : Nat) (s0_1 : Nat → Int) (s0_2 : Int) (s0_3 : Int) (r : Ex_barbicanlaw11_SockLedger_L2_L3v5) : List L1 → List Value := mrgF (mk_barbicanlaw11_SockLedger_L2_L3v5 r) (vl_barbicanlaw11_SockLedger_L2_L3v5 a0 p0 q0 n0 k0 A0 y1 g1_0 g1_1 g1_2 g1_3 g1_4 g1_5 g1_6 g1_7 s0_0 s0_1 s0_2 s0_3 r) 12
def Hf_barbicanlaw11_SockLedger_L2_L3v5 (a0 : Option Addr) (p0 : Nat) (q0 : Nat) (n0 : Nat) (k0 : Nat) (A0 : Nat → Step) (y1 : Int) (g1_0 : Nat) (g1_1 : Nat → Int) (g1_2 : Nat) (g1_3 : Nat → Reference) (g1_4 : Int) (g1_5 : Int) (g1_6 : Nat) (g1_7 : Nat → Event) (s0_0 : Nat) (s0_1 : Nat → Int) (s0_2 : Int) (s0_3 : Int) : Ex_barbicanlaw11_SockLedger_L2_L3v5 → List L1 → List Obj
  | .e0 c0_0 c0_1 c0_2 c0_3, ls => [.cells #[(rowV (lget ls 5) g1_0 1), (rowV (lget ls 6) g1_2 2), .int .i64 (g1_4), .int .i64 (g1_5), (rowV (lget ls 7) g1_6 3)] 78, unb, unb, unb, unb, rowO (lget ls 5) (esG cZ g1_0 g1_1) 3 g1_0 1, rowO (lget ls 6) (esG c_Reference g1_2 g1_3) 82 g1_2 2, rowO (lget ls 7) (esG c_Event g1_6 g1_7) 63 g1_6 3, unb, rowO (lget ls 9) (esG c_Event g1_6 g1_7) 63 g1_6 3, rowC .cap (lget ls 10) (esG cZ s0_0 s0_1) 3 s0_0 1, unb, unb]
def ex_barbicanlaw11_SockLedger_L2_L3v5 : Ex_barbicanlaw11_SockLedger_L2_L3v5 → Ex
  | .e0 _ _ _ _ => (.exit 6)
theorem go_barbicanlaw11_SockLedger_L2_L3v5 (g1_0 : Nat) (g1_1 : Nat → Int) (g1_2 : Nat) (g1_3 : Nat → Reference) (g1_4 : Int) (g1_5 : Int) (g1_6 : Nat) (g1_7 : Nat → Event) (s0_0 : Nat) (s0_1 : Nat → Int) (s0_2 : Int) (s0_3 : Int) (s : Sh_barbicanlaw11_SockLedger_L2_L3v5) (r : Ex_barbicanlaw11_SockLedger_L2_L3v5) (h : lpO (st_barbicanlaw11_SockLedger_L2_L3v5 g1_6 g1_7 s0_0 s0_1 s0_3) s = some r) : GoesG Try.prog M B0 S (.loop bd_barbicanlaw11_SockLedger_L2_L3v5) 13 (fr_barbicanlaw11_SockLedger_L2_L3v5 a0 p0 q0 n0 k0 A0 y1 g1_0 g1_1 g1_2 g1_3 g1_4 g1_5 g1_6 g1_7 s0_0 s0_1 s0_2 s0_3 s) (Hs_barbicanlaw11_SockLedger_L2_L3v5 a0 p0 q0 n0 k0 A0 y1 g1_0 g1_1 g1_2 g1_3 g1_4 g1_5 g1_6 g1_7 s0_0 s0_1 s0_2 s0_3 s) (ex_barbicanlaw11_SockLedger_L2_L3v5 r) 12 (vf_barbicanlaw11_SockLedger_L2_L3v5 a0 p0 q0 n0 k0 A0 y1 g1_0 g1_1 g1_2 g1_3 g1_4 g1_5 g1_6 g1_7 s0_0 s0_1 s0_2 s0_3 r) (Hf_barbicanlaw11_SockLedger_L2_L3v5 a0 p0 q0 n0 k0 A0 y1 g1_0 g1_1 g1_2 g1_3 g1_4 g1_5 g1_6 g1_7 s0_0 s0_1 s0_2 s0_3 r) 13 :=
  goes_lpO (fun s q e => by
    cases s with
    | c0 sb0_0 sb0_1 =>
      unfold st_barbicanlaw11_SockLedger_L2_L3v5 at e
      dsimp only at e
      replace e := cond_eq_or e
      rcases e with ⟨hq0, e⟩ | ⟨hq0, e⟩
      · replace e := cond_eq_or e
        rcases e with ⟨hq1, e⟩ | ⟨hq1, e⟩
        · replace e := cond_eq_or e
          rcases e with ⟨hq2, e⟩ | ⟨hq2, e⟩
          · replace e := cond_eq_or e
            rcases e with ⟨hq3, e⟩ | ⟨hq3, e⟩
            · cases e; exact goes_runM hU [.o, .o, .o, .b (z_lssT hq0), .r [0, 1, 2, 3, 4, 5, 6, 7, 8, 9] [] [], .o, .o, .q (ixM_ok (kd := .i64) (T := 56) (x := sb0_1) (N := s0_0) (sz := 1) rfl (fun w => by kernel_rfl) hq1), .l (accC (i := 10) (f := cZ) (A := s0_1) (k := (sb0_1).toNat) 0 [.int .i64 ((s0_1 (sb0_1).toNat))] cZ_len (inR_nat hq1) rfl), .o, .o, .q (ixM_ok (kd := .i64) (T := 37) (x := s0_3) (N := g1_6) (sz := 3) rfl (fun w => by kernel_rfl) hq2), .o, .l (accG (i := 9) (f := c_Event) (A := g1_7) (k := (s0_3).toNat) 1 [.int .i64 (((g1_7 (s0_3).toNat)).fId)] c_Event_len (inR_nat hq2) rfl), .b (z_eqlT hq3), .o, .o, .o, .o, .o] [0, 1, 2, 3, 4, 5, 6, 7, 8, 9, 10, 11] (fun b => rfl) (by decide) rfl rfl (fun b => by kernel_rfl)
            · cases e; exact goes_runM hU [.o, .o, .o, .b (z_lssT hq0), .r [0, 1, 2, 3, 4, 5, 6, 7, 8, 9] [] [], .o, .o, .q (ixM_ok (kd := .i64) (T := 56) (x := sb0_1) (N := s0_0) (sz := 1) rfl (fun w => by kernel_rfl) hq1), .l (accC (i := 10) (f := cZ) (A := s0_1) (k := (sb0_1).toNat) 0 [.int .i64 ((s0_1 (sb0_1).toNat))] cZ_len (inR_nat hq1) rfl), .o, .o, .q (ixM_ok (kd := .i64) (T := 37) (x := s0_3) (N := g1_6) (sz := 3) rfl (fun w => by kernel_rfl) hq2), .o, .l (accG (i := 9) (f := c_Event) (A := g1_7) (k := (s0_3).toNat) 1 [.int .i64 (((g1_7 (s0_3).toNat)).fId)] c_Event_len (inR_nat hq2) rfl), .b (z_eqlF hq3), .o, .o, .o] [0, 1, 2, 3, 4, 5, 6, 7, 8, 9, 10, 11] (fun b => rfl) (by decide) rfl rfl (fun b => by kernel_rfl)
          · exact none_some e
        · exact none_some e
      · cases e; exact ⟨ne_exit 6, goes_runM hU [.o, .o, .o, .b (z_lssF hq0)] [0, 1, 2, 3, 4, 5, 6, 7, 8, 9, 10, 11] (fun b => rfl) (by decide) rfl rfl (fun b => by kernel_rfl)⟩) s r h
noncomputable def t0_barbicanlaw11_SockLedger_L2_L3v5_0 (a0 : Option Addr) (p0 : Nat) (q0 : Nat) (n0 : Nat) (k0 : Nat) (A0 : Nat → Step) (y1 : Int) (g1_0 : Nat) (g1_1 : Nat → Int) (g1_2 : Nat) (g1_3 : Nat → Reference) (g1_4 : Int) (g1_5 : Int) (g1_6 : Nat) (g1_7 : Nat → Event) (s0_0 : Nat) (s0_1 : Nat → Int) (s0_2 : Int) (s0_3 : Int) (sb0_0 : Int) (sb0_1 : Int) (ls : List L1) : List Value := List.append (jks (lget ls 11).u 0 4) (List.append [.bool false, .pointer (some ⟨(lget ls 0).n, 0, none⟩)] (List.append (jks (lget ls 11).u 6 4) (List.append [(rowV (lget ls 9) g1_6 3), (rowCV .cap (lget ls 10) s0_0 1), .int .i64 (s0_2), .int .i64 (s0_3), .int .i64 (sb0_0), .int .i64 (sb0_1)] (List.append (jks (lget ls 11).u 16 68) (List.append [.int .i64 (s0_3), (rowV (lget ls 9) g1_6 3), .int .i64 ((g1_6 : Int)), .bool true, ((lget ls 11).u 88), ((lget ls 11).u 89), (rowV (lget ls 9) g1_6 3), .int .i64 (s0_3), .pointer (some ⟨(lget ls 9).n, 0 + (s0_3).toNat * 3, none⟩), .pointer (some ⟨(lget ls 9).n, 0 + (s0_3).toNat * 3, none⟩), .bool true, .bool false] (List.append (jks (lget ls 11).u 96 45) (jks (lget ls 4).u 141 9)))))))
def pre_barbicanlaw11_SockLedger_L2_L3v5_0 (a0 : Option Addr) (p0 : Nat) (q0 : Nat) (n0 : Nat) (k0 : Nat) (A0 : Nat → Step) (y1 : Int) (g1_0 : Nat) (g1_1 : Nat → Int) (g1_2 : Nat) (g1_3 : Nat → Reference) (g1_4 : Int) (g1_5 : Int) (g1_6 : Nat) (g1_7 : Nat → Event) (s0_0 : Nat) (s0_1 : Nat → Int) (s0_2 : Int) (s0_3 : Int) (sb0_0 : Int) (sb0_1 : Int) (ls : List L1) : List Obj := [.cells #[(rowV (lget ls 5) g1_0 1), (rowV (lget ls 6) g1_2 2), .int .i64 (g1_4), .int .i64 (g1_5), (rowV (lget ls 7) g1_6 3)] 78, unb, unb, unb, unb, rowO (lget ls 5) (esG cZ g1_0 g1_1) 3 g1_0 1, rowO (lget ls 6) (esG c_Reference g1_2 g1_3) 82 g1_2 2, rowO (lget ls 7) (esG c_Event g1_6 g1_7) 63 g1_6 3, unb, rowO (lget ls 9) (esG c_Event g1_6 g1_7) 63 g1_6 3, rowC .cap (lget ls 10) (esG cZ s0_0 s0_1) 3 s0_0 1, unb]
theorem sp0_barbicanlaw11_SockLedger_L2_L3v5_0_ok (g1_0 : Nat) (g1_1 : Nat → Int) (g1_2 : Nat) (g1_3 : Nat → Reference) (g1_4 : Int) (g1_5 : Int) (g1_6 : Nat) (g1_7 : Nat → Event) (s0_0 : Nat) (s0_1 : Nat → Int) (s0_2 : Int) (s0_3 : Int) (sb0_0 : Int) (sb0_1 : Int) (c0_0 : Int) (c0_1 : Int) (c0_2 : Int) (c0_3 : Int) (h : lpO (st_barbicanlaw11_SockLedger_L2_L3v5 g1_6 g1_7 s0_0 s0_1 s0_3) (.c0 sb0_0 sb0_1) = some (.e0 c0_0 c0_1 c0_2 c0_3)) : SpcG Try.prog M B0 S ⟨fun ls => .code (.loop bd_barbicanlaw11_SockLedger_L2_L3v5) (t0_barbicanlaw11_SockLedger_L2_L3v5_0 a0 p0 q0 n0 k0 A0 y1 g1_0 g1_1 g1_2 g1_3 g1_4 g1_5 g1_6 g1_7 s0_0 s0_1 s0_2 s0_3 sb0_0 sb0_1 ls), pre_barbicanlaw11_SockLedger_L2_L3v5_0 a0 p0 q0 n0 k0 A0 y1 g1_0 g1_1 g1_2 g1_3 g1_4 g1_5 g1_6 g1_7 s0_0 s0_1 s0_2 s0_3 sb0_0 sb0_1, 1, (.exit 6), fun ls => vf_barbicanlaw11_SockLedger_L2_L3v5 a0 p0 q0 n0 k0 A0 y1 g1_0 g1_1 g1_2 g1_3 g1_4 g1_5 g1_6 g1_7 s0_0 s0_1 s0_2 s0_3 (.e0 c0_0 c0_1 c0_2 c0_3) (ls.take 12 ++ ls.drop 12), fun ls => (Hf_barbicanlaw11_SockLedger_L2_L3v5 a0 p0 q0 n0 k0 A0 y1 g1_0 g1_1 g1_2 g1_3 g1_4 g1_5 g1_6 g1_7 s0_0 s0_1 s0_2 s0_3 (.e0 c0_0 c0_1 c0_2 c0_3) (ls.take 12 ++ ls.drop 12)).take 12 ++ List.replicate 0 unb, fun ls => (Hf_barbicanlaw11_SockLedger_L2_L3v5 a0 p0 q0 n0 k0 A0 y1 g1_0 g1_1 g1_2 g1_3 g1_4 g1_5 g1_6 g1_7 s0_0 s0_1 s0_2 s0_3 (.e0 c0_0 c0_1 c0_2 c0_3) (ls.take 12 ++ ls.drop 12)).drop 12⟩ :=
  spc_of_goesM hU 0 (k0 := 12) (go_barbicanlaw11_SockLedger_L2_L3v5 hU a0 p0 q0 n0 k0 A0 hR0 y1 g1_0 g1_1 g1_2 g1_3 g1_4 g1_5 g1_6 g1_7 s0_0 s0_1 s0_2 s0_3 _ _ h) (t0_barbicanlaw11_SockLedger_L2_L3v5_0 a0 p0 q0 n0 k0 A0 y1 g1_0 g1_1 g1_2 g1_3 g1_4 g1_5 g1_6 g1_7 s0_0 s0_1 s0_2 s0_3 sb0_0 sb0_1) (pre_barbicanlaw11_SockLedger_L2_L3v5_0 a0 p0 q0 n0 k0 A0 y1 g1_0 g1_1 g1_2 g1_3 g1_4 g1_5 g1_6 g1_7 s0_0 s0_1 s0_2 s0_3 sb0_0 sb0_1) (fun _ => rfl) (fun ls h => by match ls, h with | [l0, l1, l2, l3, l4, l5, l6, l7, l8, l9, l10, l11], _ => exact ⟨by kernel_rfl, by kernel_rfl⟩) (fun ls h => by match ls, h with | [l0, l1, l2, l3, l4, l5, l6, l7, l8, l9, l10, l11], _ => rfl) (by decide) (by decide) (fun ls => rfl)
inductive Sh_barbicanlaw11_SockLedger_L2 where
  | c0 
  | c1 (s0_0 : Nat) (s0_1 : Nat → Int) (s0_2 : Int) (s0_3 : Int)
  | c2 (s0_0 : Nat) (s0_1 : Nat → Int) (s0_2 : Int) (s0_3 : Int)
inductive Ex_barbicanlaw11_SockLedger_L2 where
  | e0 
  | e1 (c1_0 : Nat) (c1_1 : Nat → Int)
  | e2 (c2_0 : Nat) (c2_1 : Nat → Int)
  | e3 
noncomputable def st_barbicanlaw11_SockLedger_L2 (g1_6 : Nat) (g1_7 : Nat → Event) : Sh_barbicanlaw11_SockLedger_L2 → Option (Sh_barbicanlaw11_SockLedger_L2 ⊕ Ex_barbicanlaw11_SockLedger_L2)
  | .c0  =>
    bif decide (0 < (g1_6 : Int)) then
      (bif inR 0 g1_6 then
        (bif ((g1_7 0)).fRelease then
          (some (.inr (.e3 )))
        else (bif ((g1_7 0)).fId == 1 then
          (some (.inl (.c1 1 (fun _ => ((g1_7 0)).fId) 2 1)))
        else (some (.inr (.e3 )))))
      else (none))
    else (some (.inr (.e0 )))
  | .c1 s0_0 s0_1 s0_2 s0_3 =>
    bif decide (s0_3 < (g1_6 : Int)) then
      (bif inR s0_3 g1_6 then
        (bif ((g1_7 (s0_3).toNat)).fRelease then
          ((lpO (st_barbicanlaw11_SockLedger_L2_L3v4 g1_6 g1_7 s0_0 s0_1 s0_3) (.c0 (-1) 0)).bind fun gb0 => match gb0 with
          | .e0 gb0_0 gb0_1 gb0_2 gb0_3 =>
          bif decide (gb0_0 < 0) then
            (some (.inr (.e3 )))
          else (bif inR gb0_0 (s0_0 + 1) then
            (bif inR (IntKind.i64.wrap (gb0_0 + 1)) (s0_0 + 1) then
              (bif inR (IntKind.i64.wrap (gb0_0 + 1)) s0_0 then
                (bif decide ((gb0_0).toNat ≤ s0_0) then
                  (bif decide (((IntKind.i64.wrap (gb0_0 + 1))).toNat < s0_0) then
                    (bif decide (s0_0 ≤ 1000000) then
                      (bindT (catF s0_1 (gb0_0).toNat (fun k => s0_1 (((IntKind.i64.wrap (gb0_0 + 1))).toNat + k))) fun rb1 =>
                      some (.inl (.c1 ((gb0_0).toNat + (s0_0 - ((IntKind.i64.wrap (gb0_0 + 1))).toNat)) rb1 s0_2 (IntKind.i64.wrap (s0_3 + 1)))))
                    else (none))
                  else (none))
                else (none))
              else (bif decide ((gb0_0).toNat ≤ s0_0) then
                (some (.inl (.c2 (gb0_0).toNat s0_1 s0_2 (IntKind.i64.wrap (s0_3 + 1)))))
              else (none)))
            else (none))
          else (none)))
        else (bif ((g1_7 (s0_3).toNat)).fId == s0_2 then
          (bif decide (s0_0 ≤ 1000000) then
            (some (.inl (.c1 (s0_0 + 1) (updF s0_1 s0_0 ((g1_7 (s0_3).toNat)).fId) (IntKind.i64.wrap (s0_2 + 1)) (IntKind.i64.wrap (s0_3 + 1)))))
          else (none))
        else (some (.inr (.e3 )))))
      else (none))
    else (some (.inr (.e1 s0_0 s0_1)))
  | .c2 s0_0 s0_1 s0_2 s0_3 =>
    bif decide (s0_3 < (g1_6 : Int)) then
      (bif inR s0_3 g1_6 then
        (bif ((g1_7 (s0_3).toNat)).fRelease then
          ((lpO (st_barbicanlaw11_SockLedger_L2_L3v5 g1_6 g1_7 s0_0 s0_1 s0_3) (.c0 (-1) 0)).bind fun gb0 => match gb0 with
          | .e0 gb0_0 gb0_1 gb0_2 gb0_3 =>
          bif decide (gb0_0 < 0) then
            (some (.inr (.e3 )))
          else (bif inR gb0_0 (s0_0 + 1) then
            (bif inR (IntKind.i64.wrap (gb0_0 + 1)) (s0_0 + 1) then
              (bif inR (IntKind.i64.wrap (gb0_0 + 1)) s0_0 then
                (bif decide ((gb0_0).toNat ≤ s0_0) then
                  (bif decide (((IntKind.i64.wrap (gb0_0 + 1))).toNat < s0_0) then
                    (bif decide (s0_0 ≤ 1000000) then
                      (bindT (catF s0_1 (gb0_0).toNat (fun k => s0_1 (((IntKind.i64.wrap (gb0_0 + 1))).toNat + k))) fun rb1 =>
                      some (.inl (.c1 ((gb0_0).toNat + (s0_0 - ((IntKind.i64.wrap (gb0_0 + 1))).toNat)) rb1 s0_2 (IntKind.i64.wrap (s0_3 + 1)))))
                    else (none))
                  else (none))
                else (none))
              else (bif decide ((gb0_0).toNat ≤ s0_0) then
                (some (.inl (.c2 (gb0_0).toNat s0_1 s0_2 (IntKind.i64.wrap (s0_3 + 1)))))
              else (none)))
            else (none))
          else (none)))
        else (bif ((g1_7 (s0_3).toNat)).fId == s0_2 then
          (bif decide (s0_0 ≤ 1000000) then
            (some (.inl (.c1 (s0_0 + 1) (updF s0_1 s0_0 ((g1_7 (s0_3).toNat)).fId) (IntKind.i64.wrap (s0_2 + 1)) (IntKind.i64.wrap (s0_3 + 1)))))
          else (none))
        else (some (.inr (.e3 )))))
      else (none))
    else (some (.inr (.e2 s0_0 s0_1)))
noncomputable def bd_barbicanlaw11_SockLedger_L2 : Code := codeOf Try.f4 [1, 1, 1, 1, 1, 1, 1, 1, 1, 0, 1, 0, 0]
def fl_barbicanlaw11_SockLedger_L2 (a0 : Option Addr) (p0 : Nat) (q0 : Nat) (n0 : Nat) (k0 : Nat) (A0 : Nat → Step) (y1 : Int) (g1_0 : Nat) (g1_1 : Nat → Int) (g1_2 : Nat) (g1_3 : Nat → Reference) (g1_4 : Int) (g1_5 : Int) (g1_6 : Nat) (g1_7 : Nat → Event) : Sh_barbicanlaw11_SockLedger_L2 → List L1 → List Value
  | .c0 , ls => [.bool false, .pointer (some ⟨(lget ls 0).n, 0, none⟩), (rowV (lget ls 9) g1_6 3), .slice none 0 0, .int .i64 (1), .int .i64 (0), ((lget ls 4).u 141), ((lget ls 4).u 142), ((lget ls 4).u 143), ((lget ls 4).u 144), ((lget ls 4).u 145), ((lget ls 4).u 146), ((lget ls 4).u 147), ((lget ls 4).u 148), ((lget ls 4).u 149)]
  | .c1 s0_0 s0_1 s0_2 s0_3, ls => [.bool false, .pointer (some ⟨(lget ls 0).n, 0, none⟩), (rowV (lget ls 9) g1_6 3), (rowV (lget ls 10) s0_0 1), .int .i64 (s0_2), .int .i64 (s0_3), ((lget ls 4).u 141), ((lget ls 4).u 142), ((lget ls 4).u 143), ((lget ls 4).u 144), ((lget ls 4).u 145), ((lget ls 4).u 146), ((lget ls 4).u 147), ((lget ls 4).u 148), ((lget ls 4).u 149)]
  | .c2 s0_0 s0_1 s0_2 s0_3, ls => [.bool false, .pointer (some ⟨(lget ls 0).n, 0, none⟩), (rowV (lget ls 9) g1_6 3), (rowCV .cap (lget ls 10) s0_0 1), .int .i64 (s0_2), .int .i64 (s0_3), ((lget ls 4).u 141), ((lget ls 4).u 142), ((lget ls 4).u 143), ((lget ls 4).u 144), ((lget ls 4).u 145), ((lget ls 4).u 146), ((lget ls 4).u 147), ((lget ls 4).u 148), ((lget ls 4).u 149)]
def mf_barbicanlaw11_SockLedger_L2 : Sh_barbicanlaw11_SockLedger_L2 → List (Nat × Nat)
  | .c0  => [(0, 4), (2, 4), (4, 127), (9, 0)]
  | .c1 _ _ _ _ => [(0, 4), (2, 4), (4, 127), (9, 0)]
  | .c2 _ _ _ _ => [(0, 4), (2, 4), (4, 127), (9, 0)]
noncomputable def fr_barbicanlaw11_SockLedger_L2 (a0 : Option Addr) (p0 : Nat) (q0 : Nat) (n0 : Nat) (k0 : Nat) (A0 : Nat → Step) (y1 : Int) (g1_0 : Nat) (g1_1 : Nat → Int) (g1_2 : Nat) (g1_3 : Nat → Reference) (g1_4 : Int) (g1_5 : Int) (g1_6 : Nat) (g1_7 : Nat → Event) (s : Sh_barbicanlaw11_SockLedger_L2) : List L1 → List Value := mrgF (mf_barbicanlaw11_SockLedger_L2 s) (fl_barbicanlaw11_SockLedger_L2 a0 p0 q0 n0 k0 A0 y1 g1_0 g1_1 g1_2 g1_3 g1_4 g1_5 g1_6 g1_7 s) 11
def Hs_barbicanlaw11_SockLedger_L2 (a0 : Option Addr) (p0 : Nat) (q0 : Nat) (n0 : Nat) (k0 : Nat) (A0 : Nat → Step) (y1 : Int) (g1_0 : Nat) (g1_1 : Nat → Int) (g1_2 : Nat) (g1_3 : Nat → Reference) (g1_4 : Int) (g1_5 : Int) (g1_6 : Nat) (g1_7 : Nat → Event) : Sh_barbicanlaw11_SockLedger_L2 → List L1 → List Obj
  | .c0 , ls => [.cells #[(rowV (lget ls 5) g1_0 1), (rowV (lget ls 6) g1_2 2), .int .i64 (g1_4), .int .i64 (g1_5), (rowV (lget ls 7) g1_6 3)] 78, unb, unb, unb, unb, rowO (lget ls 5) (esG cZ g1_0 g1_1) 3 g1_0 1, rowO (lget ls 6) (esG c_Reference g1_2 g1_3) 82 g1_2 2, rowO (lget ls 7) (esG c_Event g1_6 g1_7) 63 g1_6 3, unb, rowO (lget ls 9) (esG c_Event g1_6 g1_7) 63 g1_6 3, unb, unb]
  | .c1 s0_0 s0_1 s0_2 s0_3, ls => [.cells #[(rowV (lget ls 5) g1_0 1), (rowV (lget ls 6) g1_2 2), .int .i64 (g1_4), .int .i64 (g1_5), (rowV (lget ls 7) g1_6 3)] 78, unb, unb, unb, unb, rowO (lget ls 5) (esG cZ g1_0 g1_1) 3 g1_0 1, rowO (lget ls 6) (esG c_Reference g1_2 g1_3) 82 g1_2 2, rowO (lget ls 7) (esG c_Event g1_6 g1_7) 63 g1_6 3, unb, rowO (lget ls 9) (esG c_Event g1_6 g1_7) 63 g1_6 3, rowO (lget ls 10) (esG cZ s0_0 s0_1) 3 s0_0 1, unb]
  | .c2 s0_0 s0_1 s0_2 s0_3, ls => [.cells #[(rowV (lget ls 5) g1_0 1), (rowV (lget ls 6) g1_2 2), .int .i64 (g1_4), .int .i64 (g1_5), (rowV (lget ls 7) g1_6 3)] 78, unb, unb, unb, unb, rowO (lget ls 5) (esG cZ g1_0 g1_1) 3 g1_0 1, rowO (lget ls 6) (esG c_Reference g1_2 g1_3) 82 g1_2 2, rowO (lget ls 7) (esG c_Event g1_6 g1_7) 63 g1_6 3, unb, rowO (lget ls 9) (esG c_Event g1_6 g1_7) 63 g1_6 3, rowC .cap (lget ls 10) (esG cZ s0_0 s0_1) 3 s0_0 1, unb]
def vl_barbicanlaw11_SockLedger_L2 (a0 : Option Addr) (p0 : Nat) (q0 : Nat) (n0 : Nat) (k0 : Nat) (A0 : Nat → Step) (y1 : Int) (g1_0 : Nat) (g1_1 : Nat → Int) (g1_2 : Nat) (g1_3 : Nat → Reference) (g1_4 : Int) (g1_5 : Int) (g1_6 : Nat) (g1_7 : Nat → Event) : Ex_barbicanlaw11_SockLedger_L2 → List L1 → List Value
  | .e0 , ls => [.bool false, .pointer (some ⟨(lget ls 0).n, 0, none⟩), (rowV (lget ls 9) g1_6 3), .slice none 0 0, ((lget ls 4).u 141), ((lget ls 4).u 142), ((lget ls 4).u 143), ((lget ls 4).u 144), ((lget ls 4).u 145), ((lget ls 4).u 146), ((lget ls 4).u 147), ((lget ls 4).u 148), ((lget ls 4).u 149)]
  | .e1 c1_0 c1_1, ls => [.bool false, .pointer (some ⟨(lget ls 0).n, 0, none⟩), (rowV (lget ls 9) g1_6 3), (rowV (lget ls 10) c1_0 1), ((lget ls 4).u 141), ((lget ls 4).u 142), ((lget ls 4).u 143), ((lget ls 4).u 144), ((lget ls 4).u 145), ((lget ls 4).u 146), ((lget ls 4).u 147), ((lget ls 4).u 148), ((lget ls 4).u 149)]
  | .e2 c2_0 c2_1, ls => [.bool false, .pointer (some ⟨(lget ls 0).n, 0, none⟩), (rowV (lget ls 9) g1_6 3), (rowCV .cap (lget ls 10) c2_0 1), ((lget ls 4).u 141), ((lget ls 4).u 142), ((lget ls 4).u 143), ((lget ls 4).u 144), ((lget ls 4).u 145), ((lget ls 4).u 146), ((lget ls 4).u 147), ((lget ls 4).u 148), ((lget ls 4).u 149)]
  | .e3 , ls => [.bool false, .pointer (some ⟨(lget ls 0).n, 0, none⟩), (rowV (lget ls 9) g1_6 3), ((lget ls 4).u 141), ((lget ls 4).u 142), ((lget ls 4).u 143), ((lget ls 4).u 144), ((lget ls 4).u 145), ((lget ls 4).u 146), ((lget ls 4).u 147), ((lget ls 4).u 148), ((lget ls 4).u 149)]
def mk_barbicanlaw11_SockLedger_L2 : Ex_barbicanlaw11_SockLedger_L2 → List (Nat × Nat)
  | .e0  => [(0, 4), (2, 4), (2, 129), (9, 0)]
  | .e1 _ _ => [(0, 4), (2, 4), (2, 129), (9, 0)]
  | .e2 _ _ => [(0, 4), (2, 4), (2, 129), (9, 0)]
  | .e3  => [(0, 4), (2, 4), (1, 130), (9, 0)]
noncomputable def vf_barbicanlaw11_SockLedger_L2 (a0 : Option Addr) (p0 : Nat) (q0 : Nat) (n0 : Nat) (k0 : Nat) (A0 : Nat → Step) (y1 : Int) (g1_0 : Nat) (g1_1 : Nat → Int) (g1_2 : Nat) (g1_3 : Nat → Reference) (g1_4 : Int) (g1_5 : Int) (g1_6 : Nat) (g1_7 : Nat → Event) (r : Ex_barbicanlaw11_SockLedger_L2) : List L1 → List Value := mrgF (mk_barbicanlaw11_SockLedger_L2 r) (vl_barbicanlaw11_SockLedger_L2 a0 p0 q0 n0 k0 A0 y1 g1_0 g1_1 g1_2 g1_3 g1_4 g1_5 g1_6 g1_7 r) 11
def Hf_barbicanlaw11_SockLedger_L2 (a0 : Option Addr) (p0 : Nat) (q0 : Nat) (n0 : Nat) (k0 : Nat) (A0 : Nat → Step) (y1 : Int) (g1_0 : Nat) (g1_1 : Nat → Int) (g1_2 : Nat) (g1_3 : Nat → Reference) (g1_4 : Int) (g1_5 : Int) (g1_6 : Nat) (g1_7 : Nat → Event) : Ex_barbicanlaw11_SockLedger_L2 → List L1 → List Obj
  | .e0 , ls => [.cells #[(rowV (lget ls 5) g1_0 1), (rowV (lget ls 6) g1_2 2), .int .i64 (g1_4), .int .i64 (g1_5), (rowV (lget ls 7) g1_6 3)] 78, unb, unb, unb, unb, rowO (lget ls 5) (esG cZ g1_0 g1_1) 3 g1_0 1, rowO (lget ls 6) (esG c_Reference g1_2 g1_3) 82 g1_2 2, rowO (lget ls 7) (esG c_Event g1_6 g1_7) 63 g1_6 3, unb, rowO (lget ls 9) (esG c_Event g1_6 g1_7) 63 g1_6 3, unb, unb]
  | .e1 c1_0 c1_1, ls => [.cells #[(rowV (lget ls 5) g1_0 1), (rowV (lget ls 6) g1_2 2), .int .i64 (g1_4), .int .i64 (g1_5), (rowV (lget ls 7) g1_6 3)] 78, unb, unb, unb, unb, rowO (lget ls 5) (esG cZ g1_0 g1_1) 3 g1_0 1, rowO (lget ls 6) (esG c_Reference g1_2 g1_3) 82 g1_2 2, rowO (lget ls 7) (esG c_Event g1_6 g1_7) 63 g1_6 3, unb, rowO (lget ls 9) (esG c_Event g1_6 g1_7) 63 g1_6 3, rowO (lget ls 10) (esG cZ c1_0 c1_1) 3 c1_0 1, unb]
  | .e2 c2_0 c2_1, ls => [.cells #[(rowV (lget ls 5) g1_0 1), (rowV (lget ls 6) g1_2 2), .int .i64 (g1_4), .int .i64 (g1_5), (rowV (lget ls 7) g1_6 3)] 78, unb, unb, unb, unb, rowO (lget ls 5) (esG cZ g1_0 g1_1) 3 g1_0 1, rowO (lget ls 6) (esG c_Reference g1_2 g1_3) 82 g1_2 2, rowO (lget ls 7) (esG c_Event g1_6 g1_7) 63 g1_6 3, unb, rowO (lget ls 9) (esG c_Event g1_6 g1_7) 63 g1_6 3, rowC .cap (lget ls 10) (esG cZ c2_0 c2_1) 3 c2_0 1, unb]
  | .e3 , ls => [.cells #[(rowV (lget ls 5) g1_0 1), (rowV (lget ls 6) g1_2 2), .int .i64 (g1_4), .int .i64 (g1_5), (rowV (lget ls 7) g1_6 3)] 78, unb, unb, unb, unb, rowO (lget ls 5) (esG cZ g1_0 g1_1) 3 g1_0 1, rowO (lget ls 6) (esG c_Reference g1_2 g1_3) 82 g1_2 2, rowO (lget ls 7) (esG c_Event g1_6 g1_7) 63 g1_6 3, unb, rowO (lget ls 9) (esG c_Event g1_6 g1_7) 63 g1_6 3, unb, unb]
def ex_barbicanlaw11_SockLedger_L2 : Ex_barbicanlaw11_SockLedger_L2 → Ex
  | .e0  => (.exit 4)
  | .e1 _ _ => (.exit 4)
  | .e2 _ _ => (.exit 4)
  | .e3  => .ret
theorem go_barbicanlaw11_SockLedger_L2 (g1_0 : Nat) (g1_1 : Nat → Int) (g1_2 : Nat) (g1_3 : Nat → Reference) (g1_4 : Int) (g1_5 : Int) (g1_6 : Nat) (g1_7 : Nat → Event) (s : Sh_barbicanlaw11_SockLedger_L2) (r : Ex_barbicanlaw11_SockLedger_L2) (h : lpO (st_barbicanlaw11_SockLedger_L2 g1_6 g1_7) s = some r) : GoesG Try.prog M B0 S (.loop bd_barbicanlaw11_SockLedger_L2) 12 (fr_barbicanlaw11_SockLedger_L2 a0 p0 q0 n0 k0 A0 y1 g1_0 g1_1 g1_2 g1_3 g1_4 g1_5 g1_6 g1_7 s) (Hs_barbicanlaw11_SockLedger_L2 a0 p0 q0 n0 k0 A0 y1 g1_0 g1_1 g1_2 g1_3 g1_4 g1_5 g1_6 g1_7 s) (ex_barbicanlaw11_SockLedger_L2 r) 10 (vf_barbicanlaw11_SockLedger_L2 a0 p0 q0 n0 k0 A0 y1 g1_0 g1_1 g1_2 g1_3 g1_4 g1_5 g1_6 g1_7 r) (Hf_barbicanlaw11_SockLedger_L2 a0 p0 q0 n0 k0 A0 y1 g1_0 g1_1 g1_2 g1_3 g1_4 g1_5 g1_6 g1_7 r) 12 :=
  goes_lpO (fun s q e => by
    cases s with
    | c0  =>
      unfold st_barbicanlaw11_SockLedger_L2 at e
      dsimp only at e
      replace e := cond_eq_or e
      rcases e with ⟨hq0, e⟩ | ⟨hq0, e⟩
      · replace e := cond_eq_or e
        rcases e with ⟨hq1, e⟩ | ⟨hq1, e⟩
        · replace e := cond_eq_or e
          rcases e with ⟨hq2, e⟩ | ⟨hq2, e⟩
          · cases e; exact ⟨ne_ret, goes_runM hU [.o, .o, .o, .b (z_lssT hq0), .o, .o, .q (ixM_ok (kd := .i64) (T := 37) (x := 0) (N := g1_6) (sz := 3) rfl (fun w => by kernel_rfl) hq1), .o, .l (accG (i := 9) (f := c_Event) (A := g1_7) (k := 0) 0 [.bool true] c_Event_len (inR_nat hq1) (congrArg (fun b => [Value.bool b]) hq2)), .o, .o, .o, .o, .o, .o, .o, .o, .o, .o] [0, 1, 2, 3, 4, 5, 6, 7, 8, 9, 10] (fun b => rfl) (by decide) rfl rfl (fun b => by kernel_rfl)⟩
          · replace e := cond_eq_or e
            rcases e with ⟨hq3, e⟩ | ⟨hq3, e⟩
            · cases e; exact goes_runM hU [.o, .o, .o, .b (z_lssT hq0), .o, .o, .q (ixM_ok (kd := .i64) (T := 37) (x := 0) (N := g1_6) (sz := 3) rfl (fun w => by kernel_rfl) hq1), .o, .l (accG (i := 9) (f := c_Event) (A := g1_7) (k := 0) 0 [.bool false] c_Event_len (inR_nat hq1) (congrArg (fun b => [Value.bool b]) hq2)), .o, .o, .o, .q (ixM_ok (kd := .i64) (T := 37) (x := 0) (N := g1_6) (sz := 3) rfl (fun w => by kernel_rfl) hq1), .o, .l (accG (i := 9) (f := c_Event) (A := g1_7) (k := 0) 1 [.int .i64 (((g1_7 0)).fId)] c_Event_len (inR_nat hq1) rfl), .o, .b (z_neqT hq3), .o, .o, .o, .o, .o, .o, .q (ixM_ok (kd := .i64) (T := 37) (x := 0) (N := g1_6) (sz := 3) rfl (fun w => by kernel_rfl) hq1), .o, .l (accG (i := 9) (f := c_Event) (A := g1_7) (k := 0) 1 [.int .i64 (((g1_7 0)).fId)] c_Event_len (inR_nat hq1) rfl), .o, .x (sqAppL1_ok (ty := 56) rt56 #[false, false] (f := cZ) (c := 1) ((g1_7 0)).fId (T' := 3) cZ_len cZ_one (by decide)) [12], .o, .o, .o, .o] [0, 1, 2, 3, 4, 5, 6, 7, 8, 9, 13] (fun b => rfl) (by decide) rfl rfl (fun b => by kernel_rfl)
            · cases e; exact ⟨ne_ret, goes_runM hU [.o, .o, .o, .b (z_lssT hq0), .o, .o, .q (ixM_ok (kd := .i64) (T := 37) (x := 0) (N := g1_6) (sz := 3) rfl (fun w => by kernel_rfl) hq1), .o, .l (accG (i := 9) (f := c_Event) (A := g1_7) (k := 0) 0 [.bool false] c_Event_len (inR_nat hq1) (congrArg (fun b => [Value.bool b]) hq2)), .o, .o, .o, .q (ixM_ok (kd := .i64) (T := 37) (x := 0) (N := g1_6) (sz := 3) rfl (fun w => by kernel_rfl) hq1), .o, .l (accG (i := 9) (f := c_Event) (A := g1_7) (k := 0) 1 [.int .i64 (((g1_7 0)).fId)] c_Event_len (inR_nat hq1) rfl), .o, .b (z_neqF hq3), .o] [0, 1, 2, 3, 4, 5, 6, 7, 8, 9, 10] (fun b => rfl) (by decide) rfl rfl (fun b => by kernel_rfl)⟩
        · exact none_some e
      · cases e; exact ⟨ne_exit 4, goes_runM hU [.o, .o, .o, .b (z_lssF hq0)] [0, 1, 2, 3, 4, 5, 6, 7, 8, 9, 10] (fun b => rfl) (by decide) rfl rfl (fun b => by kernel_rfl)⟩
    | c1 s0_0 s0_1 s0_2 s0_3 =>
      unfold st_barbicanlaw11_SockLedger_L2 at e
      dsimp only at e
      replace e := cond_eq_or e
      rcases e with ⟨hq0, e⟩ | ⟨hq0, e⟩
      · replace e := cond_eq_or e
        rcases e with ⟨hq1, e⟩ | ⟨hq1, e⟩
        · replace e := cond_eq_or e
          rcases e with ⟨hq2, e⟩ | ⟨hq2, e⟩
          · replace e := bindO_eq e
            obtain ⟨gb0, e_gb0, e⟩ := e
            obtain ⟨gb0_0, gb0_1, gb0_2, gb0_3⟩ := gb0
            try dsimp only at e
            replace e := cond_eq_or e
            rcases e with ⟨hq3, e⟩ | ⟨hq3, e⟩
            · cases e; exact ⟨ne_ret, goes_runM hU [.o, .o, .o, .b (z_lssT hq0), .o, .o, .q (ixM_ok (kd := .i64) (T := 37) (x := s0_3) (N := g1_6) (sz := 3) rfl (fun w => by kernel_rfl) hq1), .o, .l (accG (i := 9) (f := c_Event) (A := g1_7) (k := (s0_3).toNat) 0 [.bool true] c_Event_len (inR_nat hq1) (congrArg (fun b => [Value.bool b]) hq2)), .o, .o, .o, .cp, .cx (sp0_barbicanlaw11_SockLedger_L2_L3v4_0_ok hU a0 p0 q0 n0 k0 A0 hR0 y1 g1_0 g1_1 g1_2 g1_3 g1_4 g1_5 g1_6 g1_7 s0_0 s0_1 s0_2 s0_3 (-1) 0 gb0_0 gb0_1 gb0_2 gb0_3 e_gb0) [0, 1, 2, 3, 4, 5, 6, 7, 8, 9, 10, 11], .o, .b (z_lssT hq3), .o] [0, 1, 2, 3, 4, 5, 6, 7, 8, 9, 11] (fun b => rfl) (by decide) rfl rfl (fun b => by kernel_rfl)⟩
            · replace e := cond_eq_or e
              rcases e with ⟨hq4, e⟩ | ⟨hq4, e⟩
              · replace e := cond_eq_or e
                rcases e with ⟨hq5, e⟩ | ⟨hq5, e⟩
                · replace e := cond_eq_or e
                  rcases e with ⟨hq6, e⟩ | ⟨hq6, e⟩
                  · replace e := cond_eq_or e
                    rcases e with ⟨hq7, e⟩ | ⟨hq7, e⟩
                    · replace e := cond_eq_or e
                      rcases e with ⟨hq8, e⟩ | ⟨hq8, e⟩
                      · replace e := cond_eq_or e
                        rcases e with ⟨hq9, e⟩ | ⟨hq9, e⟩
                        · replace e := bindT_eq e
                          obtain ⟨rb1, e_rb1, e⟩ := e
                          try dsimp only at e
                          cases e; exact goes_runM hU [.o, .o, .o, .b (z_lssT hq0), .o, .o, .q (ixM_ok (kd := .i64) (T := 37) (x := s0_3) (N := g1_6) (sz := 3) rfl (fun w => by kernel_rfl) hq1), .o, .l (accG (i := 9) (f := c_Event) (A := g1_7) (k := (s0_3).toNat) 0 [.bool true] c_Event_len (inR_nat hq1) (congrArg (fun b => [Value.bool b]) hq2)), .o, .o, .o, .cp, .cx (sp0_barbicanlaw11_SockLedger_L2_L3v4_0_ok hU a0 p0 q0 n0 k0 A0 hR0 y1 g1_0 g1_1 g1_2 g1_3 g1_4 g1_5 g1_6 g1_7 s0_0 s0_1 s0_2 s0_3 (-1) 0 gb0_0 gb0_1 gb0_2 gb0_3 e_gb0) [0, 1, 2, 3, 4, 5, 6, 7, 8, 9, 10, 11], .o, .b (z_lssF hq3), .r [0, 1, 2, 3, 4, 5, 6, 7] [] [8, 9], .o, .o, .o, .qb (slLow_ok (T := 56) (e := 3) (sz := 1) (N := s0_0) (x := gb0_0) .row (by kernel_rfl) (fun w => by kernel_rfl) hq4) 10, .o, .o, .o, .qb (slTail_ok (T := 56) (e := 3) (sz := 1) (N := s0_0) (x := (IntKind.i64.wrap (gb0_0 + 1))) .row (by kernel_rfl) (fun w => by kernel_rfl) hq6) 10, .x (sqCut_ok (ty := 56) rt56 #[false, false] .row (f := cZ) (N := s0_0) (p := (gb0_0).toNat) (q := ((IntKind.i64.wrap (gb0_0 + 1))).toNat) (A := s0_1) cZ_len hq7 hq8 hq9 (by decide) e_rb1) [10], .o, .o, .o, .o] [0, 1, 2, 3, 4, 5, 6, 7, 8, 9, 13] (fun b => rfl) (by decide) rfl rfl (fun b => by kernel_rfl)
                        · exact none_some e
                      · exact none_some e
                    · exact none_some e
                  · replace e := cond_eq_or e
                    rcases e with ⟨hq7, e⟩ | ⟨hq7, e⟩
                    · cases e; exact goes_runM hU [.o, .o, .o, .b (z_lssT hq0), .o, .o, .q (ixM_ok (kd := .i64) (T := 37) (x := s0_3) (N := g1_6) (sz := 3) rfl (fun w => by kernel_rfl) hq1), .o, .l (accG (i := 9) (f := c_Event) (A := g1_7) (k := (s0_3).toNat) 0 [.bool true] c_Event_len (inR_nat hq1) (congrArg (fun b => [Value.bool b]) hq2)), .o, .o, .o, .cp, .cx (sp0_barbicanlaw11_SockLedger_L2_L3v4_0_ok hU a0 p0 q0 n0 k0 A0 hR0 y1 g1_0 g1_1 g1_2 g1_3 g1_4 g1_5 g1_6 g1_7 s0_0 s0_1 s0_2 s0_3 (-1) 0 gb0_0 gb0_1 gb0_2 gb0_3 e_gb0) [0, 1, 2, 3, 4, 5, 6, 7, 8, 9, 10, 11], .o, .b (z_lssF hq3), .r [0, 1, 2, 3, 4, 5, 6, 7] [] [8, 9], .o, .o, .o, .qb (slLow_ok (T := 56) (e := 3) (sz := 1) (N := s0_0) (x := gb0_0) .row (by kernel_rfl) (fun w => by kernel_rfl) hq4) 10, .o, .o, .o, .qb (slEnd_ok (T := 56) (e := 3) (sz := 1) (N := s0_0) (x := (IntKind.i64.wrap (gb0_0 + 1))) .row (by kernel_rfl) (fun w => by kernel_rfl) hq5 hq6) 10, .x (sqCutE_ok (ty := 56) rt56 #[false, false] .row (f := cZ) (N := s0_0) (p := (gb0_0).toNat) (A := s0_1) cZ_len hq7) [10], .o, .o, .o, .o] [0, 1, 2, 3, 4, 5, 6, 7, 8, 9, 13] (fun b => rfl) (by decide) rfl rfl (fun b => by kernel_rfl)
                    · exact none_some e
                · exact none_some e
              · exact none_some e
          · replace e := cond_eq_or e
            rcases e with ⟨hq3, e⟩ | ⟨hq3, e⟩
            · replace e := cond_eq_or e
              rcases e with ⟨hq4, e⟩ | ⟨hq4, e⟩
              · cases e; exact goes_runM hU [.o, .o, .o, .b (z_lssT hq0), .o, .o, .q (ixM_ok (kd := .i64) (T := 37) (x := s0_3) (N := g1_6) (sz := 3) rfl (fun w => by kernel_rfl) hq1), .o, .l (accG (i := 9) (f := c_Event) (A := g1_7) (k := (s0_3).toNat) 0 [.bool false] c_Event_len (inR_nat hq1) (congrArg (fun b => [Value.bool b]) hq2)), .o, .o, .o, .q (ixM_ok (kd := .i64) (T := 37) (x := s0_3) (N := g1_6) (sz := 3) rfl (fun w => by kernel_rfl) hq1), .o, .l (accG (i := 9) (f := c_Event) (A := g1_7) (k := (s0_3).toNat) 1 [.int .i64 (((g1_7 (s0_3).toNat)).fId)] c_Event_len (inR_nat hq1) rfl), .o, .b (z_neqT hq3), .o, .o, .o, .o, .o, .o, .q (ixM_ok (kd := .i64) (T := 37) (x := s0_3) (N := g1_6) (sz := 3) rfl (fun w => by kernel_rfl) hq1), .o, .l (accG (i := 9) (f := c_Event) (A := g1_7) (k := (s0_3).toNat) 1 [.int .i64 (((g1_7 (s0_3).toNat)).fId)] c_Event_len (inR_nat hq1) rfl), .o, .x (sqAppL_ok (ty := 56) rt56 #[false, false] (f := cZ) (N := s0_0) (A := s0_1) (c := 1) [((g1_7 (s0_3).toNat)).fId] (T' := 3) .row cZ_len cZ_one hq4 rfl (by decide)) [10, 12], .o, .o, .o, .o] [0, 1, 2, 3, 4, 5, 6, 7, 8, 9, 13] (fun b => rfl) (by decide) rfl rfl (fun b => by kernel_rfl)
              · exact none_some e
            · cases e; exact ⟨ne_ret, goes_runM hU [.o, .o, .o, .b (z_lssT hq0), .o, .o, .q (ixM_ok (kd := .i64) (T := 37) (x := s0_3) (N := g1_6) (sz := 3) rfl (fun w => by kernel_rfl) hq1), .o, .l (accG (i := 9) (f := c_Event) (A := g1_7) (k := (s0_3).toNat) 0 [.bool false] c_Event_len (inR_nat hq1) (congrArg (fun b => [Value.bool b]) hq2)), .o, .o, .o, .q (ixM_ok (kd := .i64) (T := 37) (x := s0_3) (N := g1_6) (sz := 3) rfl (fun w => by kernel_rfl) hq1), .o, .l (accG (i := 9) (f := c_Event) (A := g1_7) (k := (s0_3).toNat) 1 [.int .i64 (((g1_7 (s0_3).toNat)).fId)] c_Event_len (inR_nat hq1) rfl), .o, .b (z_neqF hq3), .o] [0, 1, 2, 3, 4, 5, 6, 7, 8, 9, 11] (fun b => rfl) (by decide) rfl rfl (fun b => by kernel_rfl)⟩
        · exact none_some e
      · cases e; exact ⟨ne_exit 4, goes_runM hU [.o, .o, .o, .b (z_lssF hq0)] [0, 1, 2, 3, 4, 5, 6, 7, 8, 9, 10] (fun b => rfl) (by decide) rfl rfl (fun b => by kernel_rfl)⟩
    | c2 s0_0 s0_1 s0_2 s0_3 =>
      unfold st_barbicanlaw11_SockLedger_L2 at e
      dsimp only at e
      replace e := cond_eq_or e
      rcases e with ⟨hq0, e⟩ | ⟨hq0, e⟩
      · replace e := cond_eq_or e
        rcases e with ⟨hq1, e⟩ | ⟨hq1, e⟩
        · replace e := cond_eq_or e
          rcases e with ⟨hq2, e⟩ | ⟨hq2, e⟩
          · replace e := bindO_eq e
            obtain ⟨gb0, e_gb0, e⟩ := e
            obtain ⟨gb0_0, gb0_1, gb0_2, gb0_3⟩ := gb0
            try dsimp only at e
            replace e := cond_eq_or e
            rcases e with ⟨hq3, e⟩ | ⟨hq3, e⟩
            · cases e; exact ⟨ne_ret, goes_runM hU [.o, .o, .o, .b (z_lssT hq0), .o, .o, .q (ixM_ok (kd := .i64) (T := 37) (x := s0_3) (N := g1_6) (sz := 3) rfl (fun w => by kernel_rfl) hq1), .o, .l (accG (i := 9) (f := c_Event) (A := g1_7) (k := (s0_3).toNat) 0 [.bool true] c_Event_len (inR_nat hq1) (congrArg (fun b => [Value.bool b]) hq2)), .o, .o, .o, .cp, .cx (sp0_barbicanlaw11_SockLedger_L2_L3v5_0_ok hU a0 p0 q0 n0 k0 A0 hR0 y1 g1_0 g1_1 g1_2 g1_3 g1_4 g1_5 g1_6 g1_7 s0_0 s0_1 s0_2 s0_3 (-1) 0 gb0_0 gb0_1 gb0_2 gb0_3 e_gb0) [0, 1, 2, 3, 4, 5, 6, 7, 8, 9, 10, 11], .o, .b (z_lssT hq3), .o] [0, 1, 2, 3, 4, 5, 6, 7, 8, 9, 11] (fun b => rfl) (by decide) rfl rfl (fun b => by kernel_rfl)⟩
            · replace e := cond_eq_or e
              rcases e with ⟨hq4, e⟩ | ⟨hq4, e⟩
              · replace e := cond_eq_or e
                rcases e with ⟨hq5, e⟩ | ⟨hq5, e⟩
                · replace e := cond_eq_or e
                  rcases e with ⟨hq6, e⟩ | ⟨hq6, e⟩
                  · replace e := cond_eq_or e
                    rcases e with ⟨hq7, e⟩ | ⟨hq7, e⟩
                    · replace e := cond_eq_or e
                      rcases e with ⟨hq8, e⟩ | ⟨hq8, e⟩
                      · replace e := cond_eq_or e
                        rcases e with ⟨hq9, e⟩ | ⟨hq9, e⟩
                        · replace e := bindT_eq e
                          obtain ⟨rb1, e_rb1, e⟩ := e
                          try dsimp only at e
                          cases e; exact goes_runM hU [.o, .o, .o, .b (z_lssT hq0), .o, .o, .q (ixM_ok (kd := .i64) (T := 37) (x := s0_3) (N := g1_6) (sz := 3) rfl (fun w => by kernel_rfl) hq1), .o, .l (accG (i := 9) (f := c_Event) (A := g1_7) (k := (s0_3).toNat) 0 [.bool true] c_Event_len (inR_nat hq1) (congrArg (fun b => [Value.bool b]) hq2)), .o, .o, .o, .cp, .cx (sp0_barbicanlaw11_SockLedger_L2_L3v5_0_ok hU a0 p0 q0 n0 k0 A0 hR0 y1 g1_0 g1_1 g1_2 g1_3 g1_4 g1_5 g1_6 g1_7 s0_0 s0_1 s0_2 s0_3 (-1) 0 gb0_0 gb0_1 gb0_2 gb0_3 e_gb0) [0, 1, 2, 3, 4, 5, 6, 7, 8, 9, 10, 11], .o, .b (z_lssF hq3), .r [0, 1, 2, 3, 4, 5, 6, 7] [] [8, 9], .o, .o, .o, .qb (slLow_ok (T := 56) (e := 3) (sz := 1) (N := s0_0) (x := gb0_0) .cap (by kernel_rfl) (fun w => by kernel_rfl) hq4) 10, .o, .o, .o, .qb (slTail_ok (T := 56) (e := 3) (sz := 1) (N := s0_0) (x := (IntKind.i64.wrap (gb0_0 + 1))) .cap (by kernel_rfl) (fun w => by kernel_rfl) hq6) 10, .x (sqCut_ok (ty := 56) rt56 #[false, false] .cap (f := cZ) (N := s0_0) (p := (gb0_0).toNat) (q := ((IntKind.i64.wrap (gb0_0 + 1))).toNat) (A := s0_1) cZ_len hq7 hq8 hq9 (by decide) e_rb1) [10], .o, .o, .o, .o] [0, 1, 2, 3, 4, 5, 6, 7, 8, 9, 13] (fun b => rfl) (by decide) rfl rfl (fun b => by kernel_rfl)
                        · exact none_some e
                      · exact none_some e
                    · exact none_some e
                  · replace e := cond_eq_or e
                    rcases e with ⟨hq7, e⟩ | ⟨hq7, e⟩
                    · cases e; exact goes_runM hU [.o, .o, .o, .b (z_lssT hq0), .o, .o, .q (ixM_ok (kd := .i64) (T := 37) (x := s0_3) (N := g1_6) (sz := 3) rfl (fun w => by kernel_rfl) hq1), .o, .l (accG (i := 9) (f := c_Event) (A := g1_7) (k := (s0_3).toNat) 0 [.bool true] c_Event_len (inR_nat hq1) (congrArg (fun b => [Value.bool b]) hq2)), .o, .o, .o, .cp, .cx (sp0_barbicanlaw11_SockLedger_L2_L3v5_0_ok hU a0 p0 q0 n0 k0 A0 hR0 y1 g1_0 g1_1 g1_2 g1_3 g1_4 g1_5 g1_6 g1_7 s0_0 s0_1 s0_2 s0_3 (-1) 0 gb0_0 gb0_1 gb0_2 gb0_3 e_gb0) [0, 1, 2, 3, 4, 5, 6, 7, 8, 9, 10, 11], .o, .b (z_lssF hq3), .r [0, 1, 2, 3, 4, 5, 6, 7] [] [8, 9], .o, .o, .o, .qb (slLow_ok (T := 56) (e := 3) (sz := 1) (N := s0_0) (x := gb0_0) .cap (by kernel_rfl) (fun w => by kernel_rfl) hq4) 10, .o, .o, .o, .qb (slEnd_ok (T := 56) (e := 3) (sz := 1) (N := s0_0) (x := (IntKind.i64.wrap (gb0_0 + 1))) .cap (by kernel_rfl) (fun w => by kernel_rfl) hq5 hq6) 10, .x (sqCutE_ok (ty := 56) rt56 #[false, false] .cap (f := cZ) (N := s0_0) (p := (gb0_0).toNat) (A := s0_1) cZ_len hq7) [10], .o, .o, .o, .o] [0, 1, 2, 3, 4, 5, 6, 7, 8, 9, 13] (fun b => rfl) (by decide) rfl rfl (fun b => by kernel_rfl)
                    · exact none_some e
                · exact none_some e
              · exact none_some e
          · replace e := cond_eq_or e
            rcases e with ⟨hq3, e⟩ | ⟨hq3, e⟩
            · replace e := cond_eq_or e
              rcases e with ⟨hq4, e⟩ | ⟨hq4, e⟩
              · cases e; exact goes_runM hU [.o, .o, .o, .b (z_lssT hq0), .o, .o, .q (ixM_ok (kd := .i64) (T := 37) (x := s0_3) (N := g1_6) (sz := 3) rfl (fun w => by kernel_rfl) hq1), .o, .l (accG (i := 9) (f := c_Event) (A := g1_7) (k := (s0_3).toNat) 0 [.bool false] c_Event_len (inR_nat hq1) (congrArg (fun b => [Value.bool b]) hq2)), .o, .o, .o, .q (ixM_ok (kd := .i64) (T := 37) (x := s0_3) (N := g1_6) (sz := 3) rfl (fun w => by kernel_rfl) hq1), .o, .l (accG (i := 9) (f := c_Event) (A := g1_7) (k := (s0_3).toNat) 1 [.int .i64 (((g1_7 (s0_3).toNat)).fId)] c_Event_len (inR_nat hq1) rfl), .o, .b (z_neqT hq3), .o, .o, .o, .o, .o, .o, .q (ixM_ok (kd := .i64) (T := 37) (x := s0_3) (N := g1_6) (sz := 3) rfl (fun w => by kernel_rfl) hq1), .o, .l (accG (i := 9) (f := c_Event) (A := g1_7) (k := (s0_3).toNat) 1 [.int .i64 (((g1_7 (s0_3).toNat)).fId)] c_Event_len (inR_nat hq1) rfl), .o, .x (sqAppCap_ok (ty := 56) rt56 #[false, false] (f := cZ) (N := s0_0) (A := s0_1) (c := 1) [((g1_7 (s0_3).toNat)).fId] (T' := 3) cZ_len hq4 rfl rfl (by decide) rfl) [10, 12], .o, .o, .o, .o] [0, 1, 2, 3, 4, 5, 6, 7, 8, 9, 13] (fun b => rfl) (by decide) rfl rfl (fun b => by kernel_rfl)
              · exact none_some e
            · cases e; exact ⟨ne_ret, goes_runM hU [.o, .o, .o, .b (z_lssT hq0), .o, .o, .q (ixM_ok (kd := .i64) (T := 37) (x := s0_3) (N := g1_6) (sz := 3) rfl (fun w => by kernel_rfl) hq1), .o, .l (accG (i := 9) (f := c_Event) (A := g1_7) (k := (s0_3).toNat) 0 [.bool false] c_Event_len (inR_nat hq1) (congrArg (fun b => [Value.bool b]) hq2)), .o, .o, .o, .q (ixM_ok (kd := .i64) (T := 37) (x := s0_3) (N := g1_6) (sz := 3) rfl (fun w => by kernel_rfl) hq1), .o, .l (accG (i := 9) (f := c_Event) (A := g1_7) (k := (s0_3).toNat) 1 [.int .i64 (((g1_7 (s0_3).toNat)).fId)] c_Event_len (inR_nat hq1) rfl), .o, .b (z_neqF hq3), .o] [0, 1, 2, 3, 4, 5, 6, 7, 8, 9, 11] (fun b => rfl) (by decide) rfl rfl (fun b => by kernel_rfl)⟩
        · exact none_some e
      · cases e; exact ⟨ne_exit 4, goes_runM hU [.o, .o, .o, .b (z_lssF hq0)] [0, 1, 2, 3, 4, 5, 6, 7, 8, 9, 10] (fun b => rfl) (by decide) rfl rfl (fun b => by kernel_rfl)⟩) s r h
noncomputable def t0_barbicanlaw11_SockLedger_L2_0 (a0 : Option Addr) (p0 : Nat) (q0 : Nat) (n0 : Nat) (k0 : Nat) (A0 : Nat → Step) (y1 : Int) (g1_0 : Nat) (g1_1 : Nat → Int) (g1_2 : Nat) (g1_3 : Nat → Reference) (g1_4 : Int) (g1_5 : Int) (g1_6 : Nat) (g1_7 : Nat → Event)  (ls : List L1) : List Value := List.append [.slice a0 n0 (n0 + k0), ((lget ls 8).u 1), ((lget ls 8).u 2), ((lget ls 8).u 3), .bool false, .pointer (some ⟨(lget ls 0).n, 0, none⟩)] (List.append (jks (lget ls 8).u 6 4) (List.append [(rowV (lget ls 9) g1_6 3), .slice none 0 0, .int .i64 (1), .int .i64 (0), ((lget ls 4).u 14), ((lget ls 4).u 15)] (List.append (jks (lget ls 8).u 16 66) (List.append [.pointer (some ⟨(lget ls 0).n, 0, none⟩), (rowV (lget ls 9) g1_6 3)] (jks (lget ls 4).u 84 66)))))
def pre_barbicanlaw11_SockLedger_L2_0 (a0 : Option Addr) (p0 : Nat) (q0 : Nat) (n0 : Nat) (k0 : Nat) (A0 : Nat → Step) (y1 : Int) (g1_0 : Nat) (g1_1 : Nat → Int) (g1_2 : Nat) (g1_3 : Nat → Reference) (g1_4 : Int) (g1_5 : Int) (g1_6 : Nat) (g1_7 : Nat → Event)  (ls : List L1) : List Obj := [.cells #[(rowV (lget ls 5) g1_0 1), (rowV (lget ls 6) g1_2 2), .int .i64 (g1_4), .int .i64 (g1_5), (rowV (lget ls 7) g1_6 3)] 78, unb, unb, unb, unb, rowO (lget ls 5) (esG cZ g1_0 g1_1) 3 g1_0 1, rowO (lget ls 6) (esG c_Reference g1_2 g1_3) 82 g1_2 2, rowO (lget ls 7) (esG c_Event g1_6 g1_7) 63 g1_6 3, unb, rowO (lget ls 9) (esG c_Event g1_6 g1_7) 63 g1_6 3]
theorem sp0_barbicanlaw11_SockLedger_L2_0_ok (g1_0 : Nat) (g1_1 : Nat → Int) (g1_2 : Nat) (g1_3 : Nat → Reference) (g1_4 : Int) (g1_5 : Int) (g1_6 : Nat) (g1_7 : Nat → Event) (h : lpO (st_barbicanlaw11_SockLedger_L2 g1_6 g1_7) (.c0) = some (.e0 )) : SpcG Try.prog M B0 S ⟨fun ls => .code (.loop bd_barbicanlaw11_SockLedger_L2) (t0_barbicanlaw11_SockLedger_L2_0 a0 p0 q0 n0 k0 A0 y1 g1_0 g1_1 g1_2 g1_3 g1_4 g1_5 g1_6 g1_7  ls), pre_barbicanlaw11_SockLedger_L2_0 a0 p0 q0 n0 k0 A0 y1 g1_0 g1_1 g1_2 g1_3 g1_4 g1_5 g1_6 g1_7 , 2, (.exit 4), fun ls => vf_barbicanlaw11_SockLedger_L2 a0 p0 q0 n0 k0 A0 y1 g1_0 g1_1 g1_2 g1_3 g1_4 g1_5 g1_6 g1_7 (.e0 ) (ls.take 10 ++ ls.drop 10), fun ls => (Hf_barbicanlaw11_SockLedger_L2 a0 p0 q0 n0 k0 A0 y1 g1_0 g1_1 g1_2 g1_3 g1_4 g1_5 g1_6 g1_7 (.e0 ) (ls.take 10 ++ ls.drop 10)).take 10 ++ List.replicate 0 unb, fun ls => (Hf_barbicanlaw11_SockLedger_L2 a0 p0 q0 n0 k0 A0 y1 g1_0 g1_1 g1_2 g1_3 g1_4 g1_5 g1_6 g1_7 (.e0 ) (ls.take 10 ++ ls.drop 10)).drop 10⟩ :=
  spc_of_goesM hU 1 (k0 := 10) (go_barbicanlaw11_SockLedger_L2 hU a0 p0 q0 n0 k0 A0 hR0 y1 g1_0 g1_1 g1_2 g1_3 g1_4 g1_5 g1_6 g1_7 _ _ h) (t0_barbicanlaw11_SockLedger_L2_0 a0 p0 q0 n0 k0 A0 y1 g1_0 g1_1 g1_2 g1_3 g1_4 g1_5 g1_6 g1_7 ) (pre_barbicanlaw11_SockLedger_L2_0 a0 p0 q0 n0 k0 A0 y1 g1_0 g1_1 g1_2 g1_3 g1_4 g1_5 g1_6 g1_7 ) (fun _ => rfl) (fun ls h => by match ls, h with | [l0, l1, l2, l3, l4, l5, l6, l7, l8, l9], _ => exact ⟨by kernel_rfl, by kernel_rfl⟩) (fun ls h => by match ls, h with | [l0, l1, l2, l3, l4, l5, l6, l7, l8, l9], _ => rfl) (by decide) (by decide) (fun ls => rfl)
theorem sp1_barbicanlaw11_SockLedger_L2_0_ok (g1_0 : Nat) (g1_1 : Nat → Int) (g1_2 : Nat) (g1_3 : Nat → Reference) (g1_4 : Int) (g1_5 : Int) (g1_6 : Nat) (g1_7 : Nat → Event) (c1_0 : Nat) (c1_1 : Nat → Int) (h : lpO (st_barbicanlaw11_SockLedger_L2 g1_6 g1_7) (.c0) = some (.e1 c1_0 c1_1)) : SpcG Try.prog M B0 S ⟨fun ls => .code (.loop bd_barbicanlaw11_SockLedger_L2) (t0_barbicanlaw11_SockLedger_L2_0 a0 p0 q0 n0 k0 A0 y1 g1_0 g1_1 g1_2 g1_3 g1_4 g1_5 g1_6 g1_7  ls), pre_barbicanlaw11_SockLedger_L2_0 a0 p0 q0 n0 k0 A0 y1 g1_0 g1_1 g1_2 g1_3 g1_4 g1_5 g1_6 g1_7 , 2, (.exit 4), fun ls => vf_barbicanlaw11_SockLedger_L2 a0 p0 q0 n0 k0 A0 y1 g1_0 g1_1 g1_2 g1_3 g1_4 g1_5 g1_6 g1_7 (.e1 c1_0 c1_1) (ls.take 10 ++ ls.drop 10), fun ls => (Hf_barbicanlaw11_SockLedger_L2 a0 p0 q0 n0 k0 A0 y1 g1_0 g1_1 g1_2 g1_3 g1_4 g1_5 g1_6 g1_7 (.e1 c1_0 c1_1) (ls.take 10 ++ ls.drop 10)).take 10 ++ List.replicate 0 unb, fun ls => (Hf_barbicanlaw11_SockLedger_L2 a0 p0 q0 n0 k0 A0 y1 g1_0 g1_1 g1_2 g1_3 g1_4 g1_5 g1_6 g1_7 (.e1 c1_0 c1_1) (ls.take 10 ++ ls.drop 10)).drop 10⟩ :=
  spc_of_goesM hU 1 (k0 := 10) (go_barbicanlaw11_SockLedger_L2 hU a0 p0 q0 n0 k0 A0 hR0 y1 g1_0 g1_1 g1_2 g1_3 g1_4 g1_5 g1_6 g1_7 _ _ h) (t0_barbicanlaw11_SockLedger_L2_0 a0 p0 q0 n0 k0 A0 y1 g1_0 g1_1 g1_2 g1_3 g1_4 g1_5 g1_6 g1_7 ) (pre_barbicanlaw11_SockLedger_L2_0 a0 p0 q0 n0 k0 A0 y1 g1_0 g1_1 g1_2 g1_3 g1_4 g1_5 g1_6 g1_7 ) (fun _ => rfl) (fun ls h => by match ls, h with | [l0, l1, l2, l3, l4, l5, l6, l7, l8, l9], _ => exact ⟨by kernel_rfl, by kernel_rfl⟩) (fun ls h => by match ls, h with | [l0, l1, l2, l3, l4, l5, l6, l7, l8, l9], _ => rfl) (by decide) (by decide) (fun ls => rfl)
theorem sp2_barbicanlaw11_SockLedger_L2_0_ok (g1_0 : Nat) (g1_1 : Nat → Int) (g1_2 : Nat) (g1_3 : Nat → Reference) (g1_4 : Int) (g1_5 : Int) (g1_6 : Nat) (g1_7 : Nat → Event) (c2_0 : Nat) (c2_1 : Nat → Int) (h : lpO (st_barbicanlaw11_SockLedger_L2 g1_6 g1_7) (.c0) = some (.e2 c2_0 c2_1)) : SpcG Try.prog M B0 S ⟨fun ls => .code (.loop bd_barbicanlaw11_SockLedger_L2) (t0_barbicanlaw11_SockLedger_L2_0 a0 p0 q0 n0 k0 A0 y1 g1_0 g1_1 g1_2 g1_3 g1_4 g1_5 g1_6 g1_7  ls), pre_barbicanlaw11_SockLedger_L2_0 a0 p0 q0 n0 k0 A0 y1 g1_0 g1_1 g1_2 g1_3 g1_4 g1_5 g1_6 g1_7 , 2, (.exit 4), fun ls => vf_barbicanlaw11_SockLedger_L2 a0 p0 q0 n0 k0 A0 y1 g1_0 g1_1 g1_2 g1_3 g1_4 g1_5 g1_6 g1_7 (.e2 c2_0 c2_1) (ls.take 10 ++ ls.drop 10), fun ls => (Hf_barbicanlaw11_SockLedger_L2 a0 p0 q0 n0 k0 A0 y1 g1_0 g1_1 g1_2 g1_3 g1_4 g1_5 g1_6 g1_7 (.e2 c2_0 c2_1) (ls.take 10 ++ ls.drop 10)).take 10 ++ List.replicate 0 unb, fun ls => (Hf_barbicanlaw11_SockLedger_L2 a0 p0 q0 n0 k0 A0 y1 g1_0 g1_1 g1_2 g1_3 g1_4 g1_5 g1_6 g1_7 (.e2 c2_0 c2_1) (ls.take 10 ++ ls.drop 10)).drop 10⟩ :=
  spc_of_goesM hU 1 (k0 := 10) (go_barbicanlaw11_SockLedger_L2 hU a0 p0 q0 n0 k0 A0 hR0 y1 g1_0 g1_1 g1_2 g1_3 g1_4 g1_5 g1_6 g1_7 _ _ h) (t0_barbicanlaw11_SockLedger_L2_0 a0 p0 q0 n0 k0 A0 y1 g1_0 g1_1 g1_2 g1_3 g1_4 g1_5 g1_6 g1_7 ) (pre_barbicanlaw11_SockLedger_L2_0 a0 p0 q0 n0 k0 A0 y1 g1_0 g1_1 g1_2 g1_3 g1_4 g1_5 g1_6 g1_7 ) (fun _ => rfl) (fun ls h => by match ls, h with | [l0, l1, l2, l3, l4, l5, l6, l7, l8, l9], _ => exact ⟨by kernel_rfl, by kernel_rfl⟩) (fun ls h => by match ls, h with | [l0, l1, l2, l3, l4, l5, l6, l7, l8, l9], _ => rfl) (by decide) (by decide) (fun ls => rfl)
theorem sp3_barbicanlaw11_SockLedger_L2_0_ok (g1_0 : Nat) (g1_1 : Nat → Int) (g1_2 : Nat) (g1_3 : Nat → Reference) (g1_4 : Int) (g1_5 : Int) (g1_6 : Nat) (g1_7 : Nat → Event) (h : lpO (st_barbicanlaw11_SockLedger_L2 g1_6 g1_7) (.c0) = some (.e3 )) : SpcG Try.prog M B0 S ⟨fun ls => .code (.loop bd_barbicanlaw11_SockLedger_L2) (t0_barbicanlaw11_SockLedger_L2_0 a0 p0 q0 n0 k0 A0 y1 g1_0 g1_1 g1_2 g1_3 g1_4 g1_5 g1_6 g1_7  ls), pre_barbicanlaw11_SockLedger_L2_0 a0 p0 q0 n0 k0 A0 y1 g1_0 g1_1 g1_2 g1_3 g1_4 g1_5 g1_6 g1_7 , 2, .ret, fun ls => vf_barbicanlaw11_SockLedger_L2 a0 p0 q0 n0 k0 A0 y1 g1_0 g1_1 g1_2 g1_3 g1_4 g1_5 g1_6 g1_7 (.e3 ) (ls.take 10 ++ ls.drop 10), fun ls => (Hf_barbicanlaw11_SockLedger_L2 a0 p0 q0 n0 k0 A0 y1 g1_0 g1_1 g1_2 g1_3 g1_4 g1_5 g1_6 g1_7 (.e3 ) (ls.take 10 ++ ls.drop 10)).take 10 ++ List.replicate 0 unb, fun ls => (Hf_barbicanlaw11_SockLedger_L2 a0 p0 q0 n0 k0 A0 y1 g1_0 g1_1 g1_2 g1_3 g1_4 g1_5 g1_6 g1_7 (.e3 ) (ls.take 10 ++ ls.drop 10)).drop 10⟩ :=
  spc_of_goesM hU 1 (k0 := 10) (go_barbicanlaw11_SockLedger_L2 hU a0 p0 q0 n0 k0 A0 hR0 y1 g1_0 g1_1 g1_2 g1_3 g1_4 g1_5 g1_6 g1_7 _ _ h) (t0_barbicanlaw11_SockLedger_L2_0 a0 p0 q0 n0 k0 A0 y1 g1_0 g1_1 g1_2 g1_3 g1_4 g1_5 g1_6 g1_7 ) (pre_barbicanlaw11_SockLedger_L2_0 a0 p0 q0 n0 k0 A0 y1 g1_0 g1_1 g1_2 g1_3 g1_4 g1_5 g1_6 g1_7 ) (fun _ => rfl) (fun ls h => by match ls, h with | [l0, l1, l2, l3, l4, l5, l6, l7, l8, l9], _ => exact ⟨by kernel_rfl, by kernel_rfl⟩) (fun ls h => by match ls, h with | [l0, l1, l2, l3, l4, l5, l6, l7, l8, l9], _ => rfl) (by decide) (by decide) (fun ls => rfl)
end

end Go.Proofs.Ytmopkmjddaaknaa
