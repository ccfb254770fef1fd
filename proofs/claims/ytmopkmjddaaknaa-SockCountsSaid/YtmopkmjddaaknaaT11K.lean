/-
  Sockets and ledgers: the test that all laws begin with.
-/
import Derived.Test.YtmopkmjddaaknaaRyB
import Derived.Test.YtmopkmjddaaknaaProg
namespace Go.Proofs.Ytmopkmjddaaknaa
open Go.RowKit
set_option linter.unusedVariables false
set_option linter.unusedSimpArgs false
set_option linter.unusedSectionVars false
set_option maxRecDepth 100000
set_option maxHeartbeats 4000000
noncomputable def zr70 : Value := (Try.prog.info? 73).bind TypeInfo.zero |>.getD undef
theorem rt70 : RowT Try.prog 70 73 ((Try.prog.info? 73).getD default) zr70 20 20 := ⟨by kernel_rfl, by kernel_rfl, by kernel_rfl, by kernel_rfl, by kernel_rfl, by kernel_rfl, by decide⟩
structure Arr73 where
  x0 : BitVec 8
  x1 : BitVec 8
  x2 : BitVec 8
  x3 : BitVec 8
  x4 : BitVec 8
  x5 : BitVec 8
  x6 : BitVec 8
  x7 : BitVec 8
  x8 : BitVec 8
  x9 : BitVec 8
  x10 : BitVec 8
  x11 : BitVec 8
  x12 : BitVec 8
  x13 : BitVec 8
  x14 : BitVec 8
  x15 : BitVec 8
  x16 : BitVec 8
  x17 : BitVec 8
  x18 : BitVec 8
  x19 : BitVec 8
abbrev c_Arr73 (x : Arr73) : List Value := [.int .u8 (nn x.x0), .int .u8 (nn x.x1), .int .u8 (nn x.x2), .int .u8 (nn x.x3), .int .u8 (nn x.x4), .int .u8 (nn x.x5), .int .u8 (nn x.x6), .int .u8 (nn x.x7), .int .u8 (nn x.x8), .int .u8 (nn x.x9), .int .u8 (nn x.x10), .int .u8 (nn x.x11), .int .u8 (nn x.x12), .int .u8 (nn x.x13), .int .u8 (nn x.x14), .int .u8 (nn x.x15), .int .u8 (nn x.x16), .int .u8 (nn x.x17), .int .u8 (nn x.x18), .int .u8 (nn x.x19)]
def v_Arr73 (x : Arr73) : Value := .agg #[.int .u8 (nn x.x0), .int .u8 (nn x.x1), .int .u8 (nn x.x2), .int .u8 (nn x.x3), .int .u8 (nn x.x4), .int .u8 (nn x.x5), .int .u8 (nn x.x6), .int .u8 (nn x.x7), .int .u8 (nn x.x8), .int .u8 (nn x.x9), .int .u8 (nn x.x10), .int .u8 (nn x.x11), .int .u8 (nn x.x12), .int .u8 (nn x.x13), .int .u8 (nn x.x14), .int .u8 (nn x.x15), .int .u8 (nn x.x16), .int .u8 (nn x.x17), .int .u8 (nn x.x18), .int .u8 (nn x.x19)]
theorem c_Arr73_len (x : Arr73) : (c_Arr73 x).length = 20 := rfl
theorem c_Arr73_one (x : Arr73) : ((c_Arr73 x).all fun u => u.oneCell') = true := rfl
noncomputable def zr56 : Value := (Try.prog.info? 3).bind TypeInfo.zero |>.getD undef
theorem rt56 : RowT Try.prog 56 3 ((Try.prog.info? 3).getD default) zr56 1 8 := ⟨by kernel_rfl, by kernel_rfl, by kernel_rfl, by kernel_rfl, by kernel_rfl, by kernel_rfl, by decide⟩
noncomputable def zr76 : Value := (Try.prog.info? 82).bind TypeInfo.zero |>.getD undef
theorem rt76 : RowT Try.prog 76 82 ((Try.prog.info? 82).getD default) zr76 2 16 := ⟨by kernel_rfl, by kernel_rfl, by kernel_rfl, by kernel_rfl, by kernel_rfl, by kernel_rfl, by decide⟩
structure Reference where
  fhelper : Int
  fwhat : Int
abbrev c_Reference (x : Reference) : List Value := [.int .i64 (x.fhelper), .int .i64 (x.fwhat)]
def v_Reference (x : Reference) : Value := .agg #[.int .i64 (x.fhelper), .int .i64 (x.fwhat)]
theorem c_Reference_len (x : Reference) : (c_Reference x).length = 2 := rfl
theorem c_Reference_one (x : Reference) : ((c_Reference x).all fun u => u.oneCell') = true := rfl
noncomputable def zr37 : Value := (Try.prog.info? 63).bind TypeInfo.zero |>.getD undef
theorem rt37 : RowT Try.prog 37 63 ((Try.prog.info? 63).getD default) zr37 3 24 := ⟨by kernel_rfl, by kernel_rfl, by kernel_rfl, by kernel_rfl, by kernel_rfl, by kernel_rfl, by decide⟩
structure Event where
  fRelease : Bool
  fId : Int
  fHelper : Int
abbrev c_Event (x : Event) : List Value := [.bool (x.fRelease), .int .i64 (x.fId), .int .i64 (x.fHelper)]
def v_Event (x : Event) : Value := .agg #[.bool (x.fRelease), .int .i64 (x.fId), .int .i64 (x.fHelper)]
theorem c_Event_len (x : Event) : (c_Event x).length = 3 := rfl
theorem c_Event_one (x : Event) : ((c_Event x).all fun u => u.oneCell') = true := rfl
def sq0_sock_NewLedger   : Spc := ⟨fun ls => .call 10 #[], fun ls => [], 1, .normal, fun ls => [.pointer (some ⟨(lget ls 0).n, 0, none⟩)], fun ls => [], fun ls => [.cells #[.slice none 0 0, .slice none 0 0, .int .i64 (0), .int .i64 (0), .slice none 0 0] 78]⟩
section
variable {M : Nat → Prop} {B0 : Nat} {S : World → Prop} (hU : Up M B0 S)
include hU
theorem p0_sock_NewLedger : SpcG Try.prog M B0 S (sq0_sock_NewLedger  ) :=
  fn_specG hU (P := Try.prog) Try.func10 (fun xs w => by kernel_rfl) 0 _ _ (fun _ => rfl) _ _ _ [0]
    [.o, .o, .o, .o]
    [] (fun b => by kernel_rfl)
def sq0_sock_counting_begin   : Spc := ⟨fun ls => .call 33 #[.pointer (some ⟨(lget ls 0).n, 0, none⟩)], fun ls => [.cells #[.slice none 0 0, (rowV (lget ls 1) 1 20)] 72, rowO (lget ls 1) (esG c_Arr73 1 (fun _ => (⟨0#8, 0#8, 0#8, 0#8, 0#8, 0#8, 0#8, 0#8, 0#8, 0#8, 0#8, 0#8, 0#8, 0#8, 0#8, 0#8, 0#8, 0#8, 0#8, 0#8⟩ : Arr73))) 73 1 20], 1, .normal, fun ls => [.int .i64 (0)], fun ls => [.cells #[(rowV (lget ls 2) 1 1), (rowV (lget ls 1) 1 20)] 72, rowO (lget ls 1) (esG c_Arr73 1 (fun _ => (⟨0#8, 0#8, 0#8, 0#8, 0#8, 0#8, 0#8, 0#8, 0#8, 0#8, 0#8, 0#8, 0#8, 0#8, 0#8, 0#8, 0#8, 0#8, 0#8, 0#8⟩ : Arr73))) 73 1 20], fun ls => [rowO (lget ls 2) (esG cZ 1 (fun _ => 1)) 3 1 1]⟩
theorem p0_sock_counting_begin : SpcG Try.prog M B0 S (sq0_sock_counting_begin  ) :=
  fn_specG hU (P := Try.prog) Try.func33 (fun xs w => by kernel_rfl) 2 _ _ (fun _ => rfl) _ _ _ [3]
    [.o, .o, .o, .o, .o, .a 0, .o, .x (sqAppL1_ok (ty := 56) rt56 #[false, false] (f := cZ) (c := 1) 1 (T' := 3) cZ_len cZ_one (by decide)) [2], .o, .o, .a 0, .o, .o, .o, .a 0, .o, .o, .o]
    [] (fun b => by kernel_rfl)
def sq0_sock_NewTable   : Spc := ⟨fun ls => .call 8 #[.slice (some ⟨(lget ls 0).n, 0, none⟩) 1 1], fun ls => [.cells #[.slice (some ⟨(lget ls 1).n, 0, none⟩) 20 20] 25, .cells #[.int .u8 (0), .int .u8 (0), .int .u8 (0), .int .u8 (0), .int .u8 (0), .int .u8 (0), .int .u8 (0), .int .u8 (0), .int .u8 (0), .int .u8 (0), .int .u8 (0), .int .u8 (0), .int .u8 (0), .int .u8 (0), .int .u8 (0), .int .u8 (0), .int .u8 (0), .int .u8 (0), .int .u8 (0), .int .u8 (0)] 5], 3, .normal, fun ls => [.tuple #[.pointer (some ⟨(lget ls 2).n, 0, none⟩), .int .i64 (0)]], fun ls => [.cells #[.slice (some ⟨(lget ls 1).n, 0, none⟩) 20 20] 25, .cells #[.int .u8 (0), .int .u8 (0), .int .u8 (0), .int .u8 (0), .int .u8 (0), .int .u8 (0), .int .u8 (0), .int .u8 (0), .int .u8 (0), .int .u8 (0), .int .u8 (0), .int .u8 (0), .int .u8 (0), .int .u8 (0), .int .u8 (0), .int .u8 (0), .int .u8 (0), .int .u8 (0), .int .u8 (0), .int .u8 (0)] 5], fun ls => [.cells #[(rowV (lget ls 3) 1 1), (rowV (lget ls 4) 1 20)] 72, rowO (lget ls 3) (esG cZ 1 (fun _ => 1)) 3 1 1, rowO (lget ls 4) (esG c_Arr73 1 (fun _ => (⟨0#8, 0#8, 0#8, 0#8, 0#8, 0#8, 0#8, 0#8, 0#8, 0#8, 0#8, 0#8, 0#8, 0#8, 0#8, 0#8, 0#8, 0#8, 0#8, 0#8⟩ : Arr73))) 73 1 20]⟩
theorem p0_sock_NewTable : SpcG Try.prog M B0 S (sq0_sock_NewTable  ) :=
  fn_specG hU (P := Try.prog) Try.func8 (fun xs w => by kernel_rfl) 2 _ _ (fun _ => rfl) _ _ _ [2, 5, 4]
    [.o, .o, .o, .o, .o, .o, .o, .o, .o, .o, .o, .o, .o, .a 0, .o, .o, .o, .o, .r [0, 1, 2, 3, 4, 5, 6, 7] [] [8, 9, 10, 11, 12], .o, .o, .o, .o, .a 2, .o, .o, .a 1, .o, .x (sqAppL1_ok (ty := 70) rt70 #[false, false] (f := c_Arr73) (c := 1) (⟨0#8, 0#8, 0#8, 0#8, 0#8, 0#8, 0#8, 0#8, 0#8, 0#8, 0#8, 0#8, 0#8, 0#8, 0#8, 0#8, 0#8, 0#8, 0#8, 0#8⟩ : Arr73) (T' := 73) c_Arr73_len c_Arr73_one (by decide)) [3], .o, .o, .a 2, .o, .o, .o, .xg (p0_sock_counting_begin hU  ) [2, 4], .o, .o, .o, .o, .o, .o]
    [] (fun b => by kernel_rfl)
def sq0_sock_counting_begin_v1   : Spc := ⟨fun ls => .call 33 #[.pointer (some ⟨(lget ls 0).n, 0, none⟩)], fun ls => [.cells #[.slice none 0 0, .slice none 0 0, .int .i64 (0), .int .i64 (0), .slice none 0 0] 78], 1, .normal, fun ls => [.int .i64 (0)], fun ls => [.cells #[(rowV (lget ls 1) 1 1), .slice none 0 0, .int .i64 (0), .int .i64 (0), .slice none 0 0] 78], fun ls => [rowO (lget ls 1) (esG cZ 1 (fun _ => 1)) 3 1 1]⟩
theorem p0_sock_counting_begin_v1 : SpcG Try.prog M B0 S (sq0_sock_counting_begin_v1  ) :=
  fn_specG hU (P := Try.prog) Try.func33 (fun xs w => by kernel_rfl) 1 _ _ (fun _ => rfl) _ _ _ [2]
    [.o, .o, .o, .o, .o, .a 0, .o, .x (sqAppL1_ok (ty := 56) rt56 #[false, false] (f := cZ) (c := 1) 1 (T' := 3) cZ_len cZ_one (by decide)) [1], .o, .o, .a 0, .o, .o, .o, .a 0, .o, .o, .o]
    [] (fun b => by kernel_rfl)
def sq0_sock_Ledger_Acquire   : Spc := ⟨fun ls => .call 17 #[.pointer (some ⟨(lget ls 0).n, 0, none⟩), .int .i64 (13), .int .i64 (0)], fun ls => [.cells #[.slice none 0 0, .slice none 0 0, .int .i64 (0), .int .i64 (0), .slice none 0 0] 78], 3, .normal, fun ls => [.tuple #[.int .i64 (1), .bool true]], fun ls => [.cells #[(rowV (lget ls 1) 1 1), (rowV (lget ls 2) 1 2), .int .i64 (1), .int .i64 (0), (rowV (lget ls 3) 1 3)] 78], fun ls => [rowO (lget ls 1) (esG cZ 1 (fun _ => 1)) 3 1 1, rowO (lget ls 2) (esG c_Reference 1 (fun _ => (⟨13, 0⟩ : Reference))) 82 1 2, rowO (lget ls 3) (esG c_Event 1 (fun _ => (⟨false, 1, 13⟩ : Event))) 63 1 3]⟩
theorem p0_sock_Ledger_Acquire : SpcG Try.prog M B0 S (sq0_sock_Ledger_Acquire  ) :=
  fn_specG hU (P := Try.prog) Try.func17 (fun xs w => by kernel_rfl) 1 _ _ (fun _ => rfl) _ _ _ [1, 3, 5]
    [.o, .o, .o, .o, .o, .a 0, .o, .o, .o, .o, .xg (p0_sock_counting_begin_v1 hU  ) [0], .o, .o, .o, .o, .o, .o, .a 0, .o, .o, .o, .o, .x (sqAppL1_ok (ty := 76) rt76 #[false, false] (f := c_Reference) (c := 1) (⟨13, 0⟩ : Reference) (T' := 82) c_Reference_len c_Reference_one (by decide)) [2], .o, .o, .a 0, .o, .o, .o, .a 0, .o, .o, .o, .a 0, .o, .o, .o, .o, .a 0, .o, .o, .o, .o, .x (sqAppL1_ok (ty := 37) rt37 #[false, false] (f := c_Event) (c := 1) (⟨false, 1, 13⟩ : Event) (T' := 63) c_Event_len c_Event_one (by decide)) [4], .o, .o, .a 0, .o, .o, .o]
    [] (fun b => by kernel_rfl)
def sq0_sock_counting_counted   : Spc := ⟨fun ls => .call 34 #[.pointer (some ⟨(lget ls 0).n, 0, none⟩), .int .i64 (0)], fun ls => [.cells #[(rowV (lget ls 1) 1 1), (rowV (lget ls 2) 1 2), .int .i64 (1), .int .i64 (0), (rowV (lget ls 3) 1 3)] 78, rowO (lget ls 1) (esG cZ 1 (fun _ => 1)) 3 1 1, rowO (lget ls 2) (esG c_Reference 1 (fun _ => (⟨13, 0⟩ : Reference))) 82 1 2, rowO (lget ls 3) (esG c_Event 1 (fun _ => (⟨false, 1, 13⟩ : Event))) 63 1 3], 0, .normal, fun ls => [.int .i64 (1)], fun ls => [.cells #[(rowV (lget ls 1) 1 1), (rowV (lget ls 2) 1 2), .int .i64 (1), .int .i64 (0), (rowV (lget ls 3) 1 3)] 78, rowO (lget ls 1) (esG cZ 1 (fun _ => 1)) 3 1 1, rowO (lget ls 2) (esG c_Reference 1 (fun _ => (⟨13, 0⟩ : Reference))) 82 1 2, rowO (lget ls 3) (esG c_Event 1 (fun _ => (⟨false, 1, 13⟩ : Event))) 63 1 3], fun ls => []⟩
theorem p0_sock_counting_counted : SpcG Try.prog M B0 S (sq0_sock_counting_counted  ) :=
  fn_specG hU (P := Try.prog) Try.func34 (fun xs w => by kernel_rfl) 4 _ _ (fun _ => rfl) _ _ _ []
    [.o, .o, .o, .o, .o, .o, .o, .o, .a 0, .o, .o, .o, .o, .o, .o, .a 0, .o, .q (ixM_ok (kd := .i64) (T := 56) (x := 0) (N := 1) (sz := 1) rfl (fun w => by kernel_rfl) (show inR 0 1 = true from by decide)), .l (accG (i := 1) (f := cZ) (A := (fun _ => 1)) (k := 0) 0 [.int .i64 (1)] cZ_len (inR_nat (show inR 0 1 = true from by decide)) rfl), .o]
    [] (fun b => by kernel_rfl)
def sq0_sock_Ledger_What   : Spc := ⟨fun ls => .call 21 #[.pointer (some ⟨(lget ls 0).n, 0, none⟩), .int .i64 (1)], fun ls => [.cells #[(rowV (lget ls 1) 1 1), (rowV (lget ls 2) 1 2), .int .i64 (1), .int .i64 (0), (rowV (lget ls 3) 1 3)] 78, rowO (lget ls 1) (esG cZ 1 (fun _ => 1)) 3 1 1, rowO (lget ls 2) (esG c_Reference 1 (fun _ => (⟨13, 0⟩ : Reference))) 82 1 2, rowO (lget ls 3) (esG c_Event 1 (fun _ => (⟨false, 1, 13⟩ : Event))) 63 1 3], 0, .normal, fun ls => [.tuple #[.int .i64 (13), .int .i64 (0), .bool true]], fun ls => [.cells #[(rowV (lget ls 1) 1 1), (rowV (lget ls 2) 1 2), .int .i64 (1), .int .i64 (0), (rowV (lget ls 3) 1 3)] 78, rowO (lget ls 1) (esG cZ 1 (fun _ => 1)) 3 1 1, rowO (lget ls 2) (esG c_Reference 1 (fun _ => (⟨13, 0⟩ : Reference))) 82 1 2, rowO (lget ls 3) (esG c_Event 1 (fun _ => (⟨false, 1, 13⟩ : Event))) 63 1 3], fun ls => []⟩
theorem p0_sock_Ledger_What : SpcG Try.prog M B0 S (sq0_sock_Ledger_What  ) :=
  fn_specG hU (P := Try.prog) Try.func21 (fun xs w => by kernel_rfl) 4 _ _ (fun _ => rfl) _ _ _ []
    [.o, .o, .o, .o, .o, .o, .o, .o, .o, .o, .o, .xg (p0_sock_counting_counted hU  ) [0, 1, 2, 3], .o, .o, .o, .o, .o, .a 0, .o, .o, .q (ixM_ok (kd := .i64) (T := 76) (x := 0) (N := 1) (sz := 2) rfl (fun w => by kernel_rfl) (show inR 0 1 = true from by decide)), .l (accG (i := 2) (f := c_Reference) (A := (fun _ => (⟨13, 0⟩ : Reference))) (k := 0) 0 [.int .i64 (13), .int .i64 (0)] c_Reference_len (inR_nat (show inR 0 1 = true from by decide)) rfl), .o, .a 4, .r [0, 1, 2, 3, 4, 5, 6] [] [], .o, .a 4, .o, .a 4, .o, .o, .o]
    [] (fun b => by kernel_rfl)
def sq0_sock_counting_change   : Spc := ⟨fun ls => .call 35 #[.pointer (some ⟨(lget ls 0).n, 0, none⟩), .int .i64 (0), .int .i64 ((-1))], fun ls => [.cells #[(rowV (lget ls 1) 1 1), (rowV (lget ls 2) 1 2), .int .i64 (1), .int .i64 (0), (rowV (lget ls 3) 1 3)] 78, rowO (lget ls 1) (esG cZ 1 (fun _ => 1)) 3 1 1, rowO (lget ls 2) (esG c_Reference 1 (fun _ => (⟨13, 0⟩ : Reference))) 82 1 2, rowO (lget ls 3) (esG c_Event 1 (fun _ => (⟨false, 1, 13⟩ : Event))) 63 1 3], 0, .normal, fun ls => [.tuple #[]], fun ls => [.cells #[(rowV (lget ls 1) 1 1), (rowV (lget ls 2) 1 2), .int .i64 (1), .int .i64 (0), (rowV (lget ls 3) 1 3)] 78, rowO (lget ls 1) (esG cZ 1 (updF (fun _ => 1) 0 0)) 3 1 1, rowO (lget ls 2) (esG c_Reference 1 (fun _ => (⟨13, 0⟩ : Reference))) 82 1 2, rowO (lget ls 3) (esG c_Event 1 (fun _ => (⟨false, 1, 13⟩ : Event))) 63 1 3], fun ls => []⟩
theorem p0_sock_counting_change : SpcG Try.prog M B0 S (sq0_sock_counting_change  ) :=
  fn_specG hU (P := Try.prog) Try.func35 (fun xs w => by kernel_rfl) 4 _ _ (fun _ => rfl) _ _ _ []
    [.o, .o, .o, .a 0, .o, .q (ixM_ok (kd := .i64) (T := 56) (x := 0) (N := 1) (sz := 1) rfl (fun w => by kernel_rfl) (show inR 0 1 = true from by decide)), .l (accG (i := 1) (f := cZ) (A := (fun _ => 1)) (k := 0) 0 [.int .i64 (1)] cZ_len (inR_nat (show inR 0 1 = true from by decide)) rfl), .o, .o, .q (ixM_ok (kd := .i64) (T := 56) (x := 0) (N := 1) (sz := 1) rfl (fun w => by kernel_rfl) (show inR 0 1 = true from by decide)), .x (sqStG_ok (T := 3) (e := 3) (f := cZ) (A := (fun _ => 1)) (v := 0) 0 (.int .i64 (0)) cZ_len cZ_one rfl rfl (fun w => by kernel_rfl) (inR_nat (show inR 0 1 = true from by decide))) [1]]
    [] (fun b => by kernel_rfl)
def sq0_sock_counting_counted_v1   : Spc := ⟨fun ls => .call 34 #[.pointer (some ⟨(lget ls 0).n, 0, none⟩), .int .i64 (0)], fun ls => [.cells #[(rowV (lget ls 1) 1 1), (rowV (lget ls 2) 1 2), .int .i64 (0), .int .i64 (0), (rowV (lget ls 3) 1 3)] 78, rowO (lget ls 1) (esG cZ 1 (updF (fun _ => 1) 0 0)) 3 1 1, rowO (lget ls 2) (esG c_Reference 1 (fun _ => (⟨13, 0⟩ : Reference))) 82 1 2, rowO (lget ls 3) (esG c_Event 1 (fun _ => (⟨false, 1, 13⟩ : Event))) 63 1 3], 0, .normal, fun ls => [.int .i64 (0)], fun ls => [.cells #[(rowV (lget ls 1) 1 1), (rowV (lget ls 2) 1 2), .int .i64 (0), .int .i64 (0), (rowV (lget ls 3) 1 3)] 78, rowO (lget ls 1) (esG cZ 1 (updF (fun _ => 1) 0 0)) 3 1 1, rowO (lget ls 2) (esG c_Reference 1 (fun _ => (⟨13, 0⟩ : Reference))) 82 1 2, rowO (lget ls 3) (esG c_Event 1 (fun _ => (⟨false, 1, 13⟩ : Event))) 63 1 3], fun ls => []⟩
theorem p0_sock_counting_counted_v1 : SpcG Try.prog M B0 S (sq0_sock_counting_counted_v1  ) :=
  fn_specG hU (P := Try.prog) Try.func34 (fun xs w => by kernel_rfl) 4 _ _ (fun _ => rfl) _ _ _ []
    [.o, .o, .o, .o, .o, .o, .o, .o, .a 0, .o, .o, .o, .o, .o, .o, .a 0, .o, .q (ixM_ok (kd := .i64) (T := 56) (x := 0) (N := 1) (sz := 1) rfl (fun w => by kernel_rfl) (show inR 0 1 = true from by decide)), .l (accG (i := 1) (f := cZ) (A := updF (fun _ => 1) 0 0) (k := 0) 0 [.int .i64 (0)] cZ_len (inR_nat (show inR 0 1 = true from by decide)) rfl), .o]
    [] (fun b => by kernel_rfl)
def sq0_sock_Ledger_Release   : Spc := ⟨fun ls => .call 19 #[.pointer (some ⟨(lget ls 0).n, 0, none⟩), .int .i64 (1), .int .i64 (14)], fun ls => [.cells #[(rowV (lget ls 1) 1 1), (rowV (lget ls 2) 1 2), .int .i64 (1), .int .i64 (0), (rowV (lget ls 3) 1 3)] 78, rowO (lget ls 1) (esG cZ 1 (fun _ => 1)) 3 1 1, rowO (lget ls 2) (esG c_Reference 1 (fun _ => (⟨13, 0⟩ : Reference))) 82 1 2, rowO (lget ls 3) (esG c_Event 1 (fun _ => (⟨false, 1, 13⟩ : Event))) 63 1 3], 1, .normal, fun ls => [.tuple #[.int .i64 (0), .int .i64 (0)]], fun ls => [.cells #[(rowV (lget ls 1) 1 1), (rowV (lget ls 2) 1 2), .int .i64 (0), .int .i64 (1), (rowV (lget ls 4) 2 3)] 78, rowO (lget ls 1) (esG cZ 1 (updF (fun _ => 1) 0 0)) 3 1 1, rowO (lget ls 2) (esG c_Reference 1 (fun _ => (⟨13, 0⟩ : Reference))) 82 1 2, unb], fun ls => [rowO (lget ls 4) (esG c_Event 2 (updF (fun _ => (⟨false, 1, 13⟩ : Event)) 1 (⟨true, 1, 14⟩ : Event))) 63 2 3]⟩
theorem p0_sock_Ledger_Release : SpcG Try.prog M B0 S (sq0_sock_Ledger_Release  ) :=
  fn_specG hU (P := Try.prog) Try.func19 (fun xs w => by kernel_rfl) 4 _ _ (fun _ => rfl) _ _ _ [5]
    [.o, .o, .o, .o, .xg (p0_sock_Ledger_What hU  ) [0, 1, 2, 3], .o, .o, .o, .o, .o, .o, .o, .o, .o, .o, .o, .o, .o, .o, .xg (p0_sock_counting_change hU  ) [0, 1, 2, 3], .o, .o, .o, .a 0, .o, .o, .o, .a 0, .r [0, 1, 2, 3, 4, 5, 6, 7, 8, 9, 10, 11, 12, 13, 14, 15, 16, 17] [] [18, 19, 20], .o, .o, .o, .a 0, .o, .o, .o, .a 0, .o, .o, .o, .o, .o, .o, .o, .o, .o, .a 0, .xg (p0_sock_counting_counted_v1 hU  ) [0, 1, 2, 3], .o, .o, .o, .o, .o, .a 0, .o, .o, .o, .a 0, .r [0, 1, 2, 3, 4, 5, 6, 7, 8, 9, 10, 11, 12, 13, 14, 15, 16, 17] [] [18, 19, 20], .o, .o, .o, .a 0, .o, .o, .o, .a 0, .o, .o, .o, .o, .o, .o, .o, .o, .a 0, .o, .o, .o, .o, .x (sqAppL_ok (ty := 37) rt37 #[false, false] (f := c_Event) (N := 1) (A := (fun _ => (⟨false, 1, 13⟩ : Event))) (c := 1) [(⟨true, 1, 14⟩ : Event)] (T' := 63) .row c_Event_len c_Event_one (by decide) rfl (by decide)) [3, 4], .o, .o, .a 0, .o, .o, .o]
    [] (fun b => by kernel_rfl)
def sq0_sock_counting_counted_v2   : Spc := ⟨fun ls => .call 34 #[.pointer (some ⟨(lget ls 0).n, 0, none⟩), .int .i64 (0)], fun ls => [.cells #[(rowV (lget ls 1) 1 1), (rowV (lget ls 2) 1 2), .int .i64 (0), .int .i64 (1), (rowV (lget ls 3) 2 3)] 78, rowO (lget ls 1) (esG cZ 1 (updF (fun _ => 1) 0 0)) 3 1 1, rowO (lget ls 2) (esG c_Reference 1 (fun _ => (⟨13, 0⟩ : Reference))) 82 1 2, rowO (lget ls 3) (esG c_Event 2 (updF (fun _ => (⟨false, 1, 13⟩ : Event)) 1 (⟨true, 1, 14⟩ : Event))) 63 2 3], 0, .normal, fun ls => [.int .i64 (0)], fun ls => [.cells #[(rowV (lget ls 1) 1 1), (rowV (lget ls 2) 1 2), .int .i64 (0), .int .i64 (1), (rowV (lget ls 3) 2 3)] 78, rowO (lget ls 1) (esG cZ 1 (updF (fun _ => 1) 0 0)) 3 1 1, rowO (lget ls 2) (esG c_Reference 1 (fun _ => (⟨13, 0⟩ : Reference))) 82 1 2, rowO (lget ls 3) (esG c_Event 2 (updF (fun _ => (⟨false, 1, 13⟩ : Event)) 1 (⟨true, 1, 14⟩ : Event))) 63 2 3], fun ls => []⟩
theorem p0_sock_counting_counted_v2 : SpcG Try.prog M B0 S (sq0_sock_counting_counted_v2  ) :=
  fn_specG hU (P := Try.prog) Try.func34 (fun xs w => by kernel_rfl) 4 _ _ (fun _ => rfl) _ _ _ []
    [.o, .o, .o, .o, .o, .o, .o, .o, .a 0, .o, .o, .o, .o, .o, .o, .a 0, .o, .q (ixM_ok (kd := .i64) (T := 56) (x := 0) (N := 1) (sz := 1) rfl (fun w => by kernel_rfl) (show inR 0 1 = true from by decide)), .l (accG (i := 1) (f := cZ) (A := updF (fun _ => 1) 0 0) (k := 0) 0 [.int .i64 (0)] cZ_len (inR_nat (show inR 0 1 = true from by decide)) rfl), .o]
    [] (fun b => by kernel_rfl)
def sq0_sock_Ledger_What_v1   : Spc := ⟨fun ls => .call 21 #[.pointer (some ⟨(lget ls 0).n, 0, none⟩), .int .i64 (1)], fun ls => [.cells #[(rowV (lget ls 1) 1 1), (rowV (lget ls 2) 1 2), .int .i64 (0), .int .i64 (1), (rowV (lget ls 3) 2 3)] 78, rowO (lget ls 1) (esG cZ 1 (updF (fun _ => 1) 0 0)) 3 1 1, rowO (lget ls 2) (esG c_Reference 1 (fun _ => (⟨13, 0⟩ : Reference))) 82 1 2, rowO (lget ls 3) (esG c_Event 2 (updF (fun _ => (⟨false, 1, 13⟩ : Event)) 1 (⟨true, 1, 14⟩ : Event))) 63 2 3], 0, .normal, fun ls => [.tuple #[.int .i64 (0), .int .i64 (0), .bool false]], fun ls => [.cells #[(rowV (lget ls 1) 1 1), (rowV (lget ls 2) 1 2), .int .i64 (0), .int .i64 (1), (rowV (lget ls 3) 2 3)] 78, rowO (lget ls 1) (esG cZ 1 (updF (fun _ => 1) 0 0)) 3 1 1, rowO (lget ls 2) (esG c_Reference 1 (fun _ => (⟨13, 0⟩ : Reference))) 82 1 2, rowO (lget ls 3) (esG c_Event 2 (updF (fun _ => (⟨false, 1, 13⟩ : Event)) 1 (⟨true, 1, 14⟩ : Event))) 63 2 3], fun ls => []⟩
theorem p0_sock_Ledger_What_v1 : SpcG Try.prog M B0 S (sq0_sock_Ledger_What_v1  ) :=
  fn_specG hU (P := Try.prog) Try.func21 (fun xs w => by kernel_rfl) 4 _ _ (fun _ => rfl) _ _ _ []
    [.o, .o, .o, .o, .o, .o, .o, .o, .o, .o, .o, .xg (p0_sock_counting_counted_v2 hU  ) [0, 1, 2, 3], .o, .o, .o, .o, .o]
    [] (fun b => by kernel_rfl)
def sq0_sock_Ledger_Release_v1   : Spc := ⟨fun ls => .call 19 #[.pointer (some ⟨(lget ls 0).n, 0, none⟩), .int .i64 (1), .int .i64 (14)], fun ls => [.cells #[(rowV (lget ls 1) 1 1), (rowV (lget ls 2) 1 2), .int .i64 (0), .int .i64 (1), (rowV (lget ls 3) 2 3)] 78, rowO (lget ls 1) (esG cZ 1 (updF (fun _ => 1) 0 0)) 3 1 1, rowO (lget ls 2) (esG c_Reference 1 (fun _ => (⟨13, 0⟩ : Reference))) 82 1 2, rowO (lget ls 3) (esG c_Event 2 (updF (fun _ => (⟨false, 1, 13⟩ : Event)) 1 (⟨true, 1, 14⟩ : Event))) 63 2 3], 0, .normal, fun ls => [.tuple #[.int .i64 (0), .int .i64 (110)]], fun ls => [.cells #[(rowV (lget ls 1) 1 1), (rowV (lget ls 2) 1 2), .int .i64 (0), .int .i64 (1), (rowV (lget ls 3) 2 3)] 78, rowO (lget ls 1) (esG cZ 1 (updF (fun _ => 1) 0 0)) 3 1 1, rowO (lget ls 2) (esG c_Reference 1 (fun _ => (⟨13, 0⟩ : Reference))) 82 1 2, rowO (lget ls 3) (esG c_Event 2 (updF (fun _ => (⟨false, 1, 13⟩ : Event)) 1 (⟨true, 1, 14⟩ : Event))) 63 2 3], fun ls => []⟩
theorem p0_sock_Ledger_Release_v1 : SpcG Try.prog M B0 S (sq0_sock_Ledger_Release_v1  ) :=
  fn_specG hU (P := Try.prog) Try.func19 (fun xs w => by kernel_rfl) 4 _ _ (fun _ => rfl) _ _ _ []
    [.o, .o, .o, .o, .xg (p0_sock_Ledger_What_v1 hU  ) [0, 1, 2, 3], .o, .o, .o, .o, .o, .o, .o, .o, .o, .o, .o]
    [] (fun b => by kernel_rfl)
def sq0_sock_counting_counted_v3   : Spc := ⟨fun ls => .call 34 #[.pointer (some ⟨(lget ls 0).n, 0, none⟩), .int .i64 (0)], fun ls => [.cells #[(rowV (lget ls 1) 1 1), (rowV (lget ls 2) 1 20)] 72, rowO (lget ls 1) (esG cZ 1 (fun _ => 1)) 3 1 1, rowO (lget ls 2) (esG c_Arr73 1 (fun _ => (⟨0#8, 0#8, 0#8, 0#8, 0#8, 0#8, 0#8, 0#8, 0#8, 0#8, 0#8, 0#8, 0#8, 0#8, 0#8, 0#8, 0#8, 0#8, 0#8, 0#8⟩ : Arr73))) 73 1 20], 0, .normal, fun ls => [.int .i64 (1)], fun ls => [.cells #[(rowV (lget ls 1) 1 1), (rowV (lget ls 2) 1 20)] 72, rowO (lget ls 1) (esG cZ 1 (fun _ => 1)) 3 1 1, rowO (lget ls 2) (esG c_Arr73 1 (fun _ => (⟨0#8, 0#8, 0#8, 0#8, 0#8, 0#8, 0#8, 0#8, 0#8, 0#8, 0#8, 0#8, 0#8, 0#8, 0#8, 0#8, 0#8, 0#8, 0#8, 0#8⟩ : Arr73))) 73 1 20], fun ls => []⟩
theorem p0_sock_counting_counted_v3 : SpcG Try.prog M B0 S (sq0_sock_counting_counted_v3  ) :=
  fn_specG hU (P := Try.prog) Try.func34 (fun xs w => by kernel_rfl) 3 _ _ (fun _ => rfl) _ _ _ []
    [.o, .o, .o, .o, .o, .o, .o, .o, .a 0, .o, .o, .o, .o, .o, .o, .a 0, .o, .q (ixM_ok (kd := .i64) (T := 56) (x := 0) (N := 1) (sz := 1) rfl (fun w => by kernel_rfl) (show inR 0 1 = true from by decide)), .l (accG (i := 1) (f := cZ) (A := (fun _ => 1)) (k := 0) 0 [.int .i64 (1)] cZ_len (inR_nat (show inR 0 1 = true from by decide)) rfl), .o]
    [] (fun b => by kernel_rfl)
def sq0_sock_counting_change_v1   : Spc := ⟨fun ls => .call 35 #[.pointer (some ⟨(lget ls 0).n, 0, none⟩), .int .i64 (0), .int .i64 (1)], fun ls => [.cells #[(rowV (lget ls 1) 1 1), (rowV (lget ls 2) 1 20)] 72, rowO (lget ls 1) (esG cZ 1 (fun _ => 1)) 3 1 1, rowO (lget ls 2) (esG c_Arr73 1 (fun _ => (⟨0#8, 0#8, 0#8, 0#8, 0#8, 0#8, 0#8, 0#8, 0#8, 0#8, 0#8, 0#8, 0#8, 0#8, 0#8, 0#8, 0#8, 0#8, 0#8, 0#8⟩ : Arr73))) 73 1 20], 0, .normal, fun ls => [.tuple #[]], fun ls => [.cells #[(rowV (lget ls 1) 1 1), (rowV (lget ls 2) 1 20)] 72, rowO (lget ls 1) (esG cZ 1 (updF (fun _ => 1) 0 2)) 3 1 1, rowO (lget ls 2) (esG c_Arr73 1 (fun _ => (⟨0#8, 0#8, 0#8, 0#8, 0#8, 0#8, 0#8, 0#8, 0#8, 0#8, 0#8, 0#8, 0#8, 0#8, 0#8, 0#8, 0#8, 0#8, 0#8, 0#8⟩ : Arr73))) 73 1 20], fun ls => []⟩
theorem p0_sock_counting_change_v1 : SpcG Try.prog M B0 S (sq0_sock_counting_change_v1  ) :=
  fn_specG hU (P := Try.prog) Try.func35 (fun xs w => by kernel_rfl) 3 _ _ (fun _ => rfl) _ _ _ []
    [.o, .o, .o, .a 0, .o, .q (ixM_ok (kd := .i64) (T := 56) (x := 0) (N := 1) (sz := 1) rfl (fun w => by kernel_rfl) (show inR 0 1 = true from by decide)), .l (accG (i := 1) (f := cZ) (A := (fun _ => 1)) (k := 0) 0 [.int .i64 (1)] cZ_len (inR_nat (show inR 0 1 = true from by decide)) rfl), .o, .o, .q (ixM_ok (kd := .i64) (T := 56) (x := 0) (N := 1) (sz := 1) rfl (fun w => by kernel_rfl) (show inR 0 1 = true from by decide)), .x (sqStG_ok (T := 3) (e := 3) (f := cZ) (A := (fun _ => 1)) (v := 2) 0 (.int .i64 (2)) cZ_len cZ_one rfl rfl (fun w => by kernel_rfl) (inR_nat (show inR 0 1 = true from by decide))) [1]]
    [] (fun b => by kernel_rfl)
def sq0_sock_Table_Take   : Spc := ⟨fun ls => .call 11 #[.pointer (some ⟨(lget ls 0).n, 0, none⟩), .int .i64 (0)], fun ls => [.cells #[(rowV (lget ls 1) 1 1), (rowV (lget ls 2) 1 20)] 72, rowO (lget ls 1) (esG cZ 1 (fun _ => 1)) 3 1 1, rowO (lget ls 2) (esG c_Arr73 1 (fun _ => (⟨0#8, 0#8, 0#8, 0#8, 0#8, 0#8, 0#8, 0#8, 0#8, 0#8, 0#8, 0#8, 0#8, 0#8, 0#8, 0#8, 0#8, 0#8, 0#8, 0#8⟩ : Arr73))) 73 1 20], 0, .normal, fun ls => [.int .i64 (0)], fun ls => [.cells #[(rowV (lget ls 1) 1 1), (rowV (lget ls 2) 1 20)] 72, rowO (lget ls 1) (esG cZ 1 (updF (fun _ => 1) 0 2)) 3 1 1, rowO (lget ls 2) (esG c_Arr73 1 (fun _ => (⟨0#8, 0#8, 0#8, 0#8, 0#8, 0#8, 0#8, 0#8, 0#8, 0#8, 0#8, 0#8, 0#8, 0#8, 0#8, 0#8, 0#8, 0#8, 0#8, 0#8⟩ : Arr73))) 73 1 20], fun ls => []⟩
theorem p0_sock_Table_Take : SpcG Try.prog M B0 S (sq0_sock_Table_Take  ) :=
  fn_specG hU (P := Try.prog) Try.func11 (fun xs w => by kernel_rfl) 3 _ _ (fun _ => rfl) _ _ _ []
    [.o, .o, .o, .o, .o, .xg (p0_sock_counting_counted_v3 hU  ) [0, 1, 2], .o, .o, .o, .o, .o, .xg (p0_sock_counting_change_v1 hU  ) [0, 1, 2], .o]
    [] (fun b => by kernel_rfl)
def sq0_sock_counting_counted_v4   : Spc := ⟨fun ls => .call 34 #[.pointer (some ⟨(lget ls 0).n, 0, none⟩), .int .i64 (0)], fun ls => [.cells #[(rowV (lget ls 1) 1 1), (rowV (lget ls 2) 1 20)] 72, rowO (lget ls 1) (esG cZ 1 (updF (fun _ => 1) 0 2)) 3 1 1, rowO (lget ls 2) (esG c_Arr73 1 (fun _ => (⟨0#8, 0#8, 0#8, 0#8, 0#8, 0#8, 0#8, 0#8, 0#8, 0#8, 0#8, 0#8, 0#8, 0#8, 0#8, 0#8, 0#8, 0#8, 0#8, 0#8⟩ : Arr73))) 73 1 20], 0, .normal, fun ls => [.int .i64 (2)], fun ls => [.cells #[(rowV (lget ls 1) 1 1), (rowV (lget ls 2) 1 20)] 72, rowO (lget ls 1) (esG cZ 1 (updF (fun _ => 1) 0 2)) 3 1 1, rowO (lget ls 2) (esG c_Arr73 1 (fun _ => (⟨0#8, 0#8, 0#8, 0#8, 0#8, 0#8, 0#8, 0#8, 0#8, 0#8, 0#8, 0#8, 0#8, 0#8, 0#8, 0#8, 0#8, 0#8, 0#8, 0#8⟩ : Arr73))) 73 1 20], fun ls => []⟩
theorem p0_sock_counting_counted_v4 : SpcG Try.prog M B0 S (sq0_sock_counting_counted_v4  ) :=
  fn_specG hU (P := Try.prog) Try.func34 (fun xs w => by kernel_rfl) 3 _ _ (fun _ => rfl) _ _ _ []
    [.o, .o, .o, .o, .o, .o, .o, .o, .a 0, .o, .o, .o, .o, .o, .o, .a 0, .o, .q (ixM_ok (kd := .i64) (T := 56) (x := 0) (N := 1) (sz := 1) rfl (fun w => by kernel_rfl) (show inR 0 1 = true from by decide)), .l (accG (i := 1) (f := cZ) (A := updF (fun _ => 1) 0 2) (k := 0) 0 [.int .i64 (2)] cZ_len (inR_nat (show inR 0 1 = true from by decide)) rfl), .o]
    [] (fun b => by kernel_rfl)
def sq0_sock_counting_change_v2   : Spc := ⟨fun ls => .call 35 #[.pointer (some ⟨(lget ls 0).n, 0, none⟩), .int .i64 (0), .int .i64 ((-1))], fun ls => [.cells #[(rowV (lget ls 1) 1 1), (rowV (lget ls 2) 1 20)] 72, rowO (lget ls 1) (esG cZ 1 (updF (fun _ => 1) 0 2)) 3 1 1, rowO (lget ls 2) (esG c_Arr73 1 (fun _ => (⟨0#8, 0#8, 0#8, 0#8, 0#8, 0#8, 0#8, 0#8, 0#8, 0#8, 0#8, 0#8, 0#8, 0#8, 0#8, 0#8, 0#8, 0#8, 0#8, 0#8⟩ : Arr73))) 73 1 20], 0, .normal, fun ls => [.tuple #[]], fun ls => [.cells #[(rowV (lget ls 1) 1 1), (rowV (lget ls 2) 1 20)] 72, rowO (lget ls 1) (esG cZ 1 (updF (updF (fun _ => 1) 0 2) 0 1)) 3 1 1, rowO (lget ls 2) (esG c_Arr73 1 (fun _ => (⟨0#8, 0#8, 0#8, 0#8, 0#8, 0#8, 0#8, 0#8, 0#8, 0#8, 0#8, 0#8, 0#8, 0#8, 0#8, 0#8, 0#8, 0#8, 0#8, 0#8⟩ : Arr73))) 73 1 20], fun ls => []⟩
theorem p0_sock_counting_change_v2 : SpcG Try.prog M B0 S (sq0_sock_counting_change_v2  ) :=
  fn_specG hU (P := Try.prog) Try.func35 (fun xs w => by kernel_rfl) 3 _ _ (fun _ => rfl) _ _ _ []
    [.o, .o, .o, .a 0, .o, .q (ixM_ok (kd := .i64) (T := 56) (x := 0) (N := 1) (sz := 1) rfl (fun w => by kernel_rfl) (show inR 0 1 = true from by decide)), .l (accG (i := 1) (f := cZ) (A := updF (fun _ => 1) 0 2) (k := 0) 0 [.int .i64 (2)] cZ_len (inR_nat (show inR 0 1 = true from by decide)) rfl), .o, .o, .q (ixM_ok (kd := .i64) (T := 56) (x := 0) (N := 1) (sz := 1) rfl (fun w => by kernel_rfl) (show inR 0 1 = true from by decide)), .x (sqStG_ok (T := 3) (e := 3) (f := cZ) (A := updF (fun _ => 1) 0 2) (v := 1) 0 (.int .i64 (1)) cZ_len cZ_one rfl rfl (fun w => by kernel_rfl) (inR_nat (show inR 0 1 = true from by decide))) [1]]
    [] (fun b => by kernel_rfl)
def sq0_sock_Table_Drop   : Spc := ⟨fun ls => .call 13 #[.pointer (some ⟨(lget ls 0).n, 0, none⟩), .int .i64 (0)], fun ls => [.cells #[(rowV (lget ls 1) 1 1), (rowV (lget ls 2) 1 20)] 72, rowO (lget ls 1) (esG cZ 1 (updF (fun _ => 1) 0 2)) 3 1 1, rowO (lget ls 2) (esG c_Arr73 1 (fun _ => (⟨0#8, 0#8, 0#8, 0#8, 0#8, 0#8, 0#8, 0#8, 0#8, 0#8, 0#8, 0#8, 0#8, 0#8, 0#8, 0#8, 0#8, 0#8, 0#8, 0#8⟩ : Arr73))) 73 1 20], 0, .normal, fun ls => [.int .i64 (0)], fun ls => [.cells #[(rowV (lget ls 1) 1 1), (rowV (lget ls 2) 1 20)] 72, rowO (lget ls 1) (esG cZ 1 (updF (updF (fun _ => 1) 0 2) 0 1)) 3 1 1, rowO (lget ls 2) (esG c_Arr73 1 (fun _ => (⟨0#8, 0#8, 0#8, 0#8, 0#8, 0#8, 0#8, 0#8, 0#8, 0#8, 0#8, 0#8, 0#8, 0#8, 0#8, 0#8, 0#8, 0#8, 0#8, 0#8⟩ : Arr73))) 73 1 20], fun ls => []⟩
theorem p0_sock_Table_Drop : SpcG Try.prog M B0 S (sq0_sock_Table_Drop  ) :=
  fn_specG hU (P := Try.prog) Try.func13 (fun xs w => by kernel_rfl) 3 _ _ (fun _ => rfl) _ _ _ []
    [.o, .o, .o, .o, .o, .xg (p0_sock_counting_counted_v4 hU  ) [0, 1, 2], .o, .o, .o, .o, .o, .xg (p0_sock_counting_change_v2 hU  ) [0, 1, 2], .o]
    [] (fun b => by kernel_rfl)
def sq0_sock_counting_counted_v5   : Spc := ⟨fun ls => .call 34 #[.pointer (some ⟨(lget ls 0).n, 0, none⟩), .int .i64 (0)], fun ls => [.cells #[(rowV (lget ls 1) 1 1), (rowV (lget ls 2) 1 20)] 72, rowO (lget ls 1) (esG cZ 1 (updF (updF (fun _ => 1) 0 2) 0 1)) 3 1 1, rowO (lget ls 2) (esG c_Arr73 1 (fun _ => (⟨0#8, 0#8, 0#8, 0#8, 0#8, 0#8, 0#8, 0#8, 0#8, 0#8, 0#8, 0#8, 0#8, 0#8, 0#8, 0#8, 0#8, 0#8, 0#8, 0#8⟩ : Arr73))) 73 1 20], 0, .normal, fun ls => [.int .i64 (1)], fun ls => [.cells #[(rowV (lget ls 1) 1 1), (rowV (lget ls 2) 1 20)] 72, rowO (lget ls 1) (esG cZ 1 (updF (updF (fun _ => 1) 0 2) 0 1)) 3 1 1, rowO (lget ls 2) (esG c_Arr73 1 (fun _ => (⟨0#8, 0#8, 0#8, 0#8, 0#8, 0#8, 0#8, 0#8, 0#8, 0#8, 0#8, 0#8, 0#8, 0#8, 0#8, 0#8, 0#8, 0#8, 0#8, 0#8⟩ : Arr73))) 73 1 20], fun ls => []⟩
theorem p0_sock_counting_counted_v5 : SpcG Try.prog M B0 S (sq0_sock_counting_counted_v5  ) :=
  fn_specG hU (P := Try.prog) Try.func34 (fun xs w => by kernel_rfl) 3 _ _ (fun _ => rfl) _ _ _ []
    [.o, .o, .o, .o, .o, .o, .o, .o, .a 0, .o, .o, .o, .o, .o, .o, .a 0, .o, .q (ixM_ok (kd := .i64) (T := 56) (x := 0) (N := 1) (sz := 1) rfl (fun w => by kernel_rfl) (show inR 0 1 = true from by decide)), .l (accG (i := 1) (f := cZ) (A := updF (updF (fun _ => 1) 0 2) 0 1) (k := 0) 0 [.int .i64 (1)] cZ_len (inR_nat (show inR 0 1 = true from by decide)) rfl), .o]
    [] (fun b => by kernel_rfl)
def sq0_sock_Table_Drop_v1   : Spc := ⟨fun ls => .call 13 #[.pointer (some ⟨(lget ls 0).n, 0, none⟩), .int .i64 (0)], fun ls => [.cells #[(rowV (lget ls 1) 1 1), (rowV (lget ls 2) 1 20)] 72, rowO (lget ls 1) (esG cZ 1 (updF (updF (fun _ => 1) 0 2) 0 1)) 3 1 1, rowO (lget ls 2) (esG c_Arr73 1 (fun _ => (⟨0#8, 0#8, 0#8, 0#8, 0#8, 0#8, 0#8, 0#8, 0#8, 0#8, 0#8, 0#8, 0#8, 0#8, 0#8, 0#8, 0#8, 0#8, 0#8, 0#8⟩ : Arr73))) 73 1 20], 0, .normal, fun ls => [.int .i64 (110)], fun ls => [.cells #[(rowV (lget ls 1) 1 1), (rowV (lget ls 2) 1 20)] 72, rowO (lget ls 1) (esG cZ 1 (updF (updF (fun _ => 1) 0 2) 0 1)) 3 1 1, rowO (lget ls 2) (esG c_Arr73 1 (fun _ => (⟨0#8, 0#8, 0#8, 0#8, 0#8, 0#8, 0#8, 0#8, 0#8, 0#8, 0#8, 0#8, 0#8, 0#8, 0#8, 0#8, 0#8, 0#8, 0#8, 0#8⟩ : Arr73))) 73 1 20], fun ls => []⟩
theorem p0_sock_Table_Drop_v1 : SpcG Try.prog M B0 S (sq0_sock_Table_Drop_v1  ) :=
  fn_specG hU (P := Try.prog) Try.func13 (fun xs w => by kernel_rfl) 3 _ _ (fun _ => rfl) _ _ _ []
    [.o, .o, .o, .o, .o, .xg (p0_sock_counting_counted_v5 hU  ) [0, 1, 2], .o, .o]
    [] (fun b => by kernel_rfl)
theorem ok_barbicanlaw11_known : ConG Try.prog S 7 #[] (.bool true) :=
  fn_conG hU (P := Try.prog) Try.func7 (fun xs w => by kernel_rfl) [] (.bool true)
    [.o, .xg (p0_sock_NewLedger hU  ) [], .o, .o, .o, .xg (p0_sock_NewTable hU  ) [2, 1], .o, .o, .o, .o, .o, .o, .o, .o, .o, .o, .o, .o, .o, .o, .o, .o, .xg (p0_sock_Ledger_Acquire hU  ) [0], .o, .o, .o, .o, .o, .o, .xg (p0_sock_Ledger_Release hU  ) [0, 6, 7, 8], .o, .o, .o, .o, .o, .o, .xg (p0_sock_Ledger_Release_v1 hU  ) [0, 6, 7, 9], .o, .o, .o, .o, .o, .o, .o, .o, .o, .o, .o, .o, .o, .o, .o, .o, .o, .o, .o, .o, .o, .o, .o, .o, .xg (p0_sock_Table_Take hU  ) [3, 4, 5], .o, .o, .o, .o, .xg (p0_sock_Table_Drop hU  ) [3, 4, 5], .o, .o, .o, .o, .xg (p0_sock_Table_Drop_v1 hU  ) [3, 4, 5], .o, .o, .o]
    [] (fun b => by kernel_rfl)
end

end Go.Proofs.Ytmopkmjddaaknaa
