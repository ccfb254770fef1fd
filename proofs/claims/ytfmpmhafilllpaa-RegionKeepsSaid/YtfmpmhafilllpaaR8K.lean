/-
  Memory: the test that all laws begin with.
-/
import Derived.Test.YtfmpmhafilllpaaRxH
import Derived.Test.YtfmpmhafilllpaaRxO
import Derived.Test.YtfmpmhafilllpaaProg
namespace Go.Proofs.Ytfmpmhafilllpaa
open Go.RowKit
set_option linter.unusedVariables false
set_option linter.unusedSimpArgs false
set_option linter.unusedSectionVars false
set_option maxRecDepth 100000
set_option maxHeartbeats 4000000
structure Val where
  fKind : Int
  fNum : BitVec 64
  fId : Int
  fOff : Int
abbrev c_Val (x : Val) : List Value := [.int .i64 (x.fKind), .int .u64 (nn x.fNum), .int .i64 (x.fId), .int .i64 (x.fOff)]
def v_Val (x : Val) : Value := .agg #[.int .i64 (x.fKind), .int .u64 (nn x.fNum), .int .i64 (x.fId), .int .i64 (x.fOff)]
theorem c_Val_len (x : Val) : (c_Val x).length = 4 := rfl
theorem c_Val_one (x : Val) : ((c_Val x).all fun u => u.oneCell') = true := rfl
abbrev cu8 (x : BitVec 8) : List Value := [.int .u8 (nn x)]
theorem cu8_len (x : BitVec 8) : (cu8 x).length = 1 := rfl
theorem cu8_one (x : BitVec 8) : ((cu8 x).all fun u => u.oneCell') = true := rfl
def sq0_region_New   : Spc := ⟨fun ls => .call 16 #[], fun ls => [], 2, .normal, fun ls => [.pointer (some ⟨(lget ls 0).n, 0, none⟩)], fun ls => [], fun ls => [.cells #[.map (some (lget ls 1).n), .int .i64 (0)] 91, .map #[] 0]⟩
section
variable {M : Nat → Prop} {B0 : Nat} {S : World → Prop} (hU : Up M B0 S)
include hU
theorem p0_region_New : SpcG Try.prog M B0 S (sq0_region_New  ) :=
  fn_specG hU (P := Try.prog) Try.func16 (fun xs w => by kernel_rfl) 0 _ _ (fun _ => rfl) _ _ _ [1, 0]
    [.o, .o, .o, .o, .o]
    [] (fun b => by kernel_rfl)
def sq0_region_Mem_add   : Spc := ⟨fun ls => .call 46 #[.pointer (some ⟨(lget ls 0).n, 0, none⟩), .iface 93 (.pointer (some ⟨(lget ls 2).n, 0, none⟩))], fun ls => [.cells #[.map (some (lget ls 1).n), .int .i64 (0)] 91, .map #[] 0, .cells ⟨segs [esG cu8 512 (fun _ => 0#8), esG cu8 64 (fun _ => 0#8), esG c_Val 64 (fun _ => (⟨0, 0#64, 0, 0⟩ : Val)), esG cZ 64 (fun _ => 0), esG cB 64 (fun _ => false)]⟩ 100], 0, .normal, fun ls => [.int .i64 (1)], fun ls => [.cells #[.map (some (lget ls 1).n), .int .i64 (1)] 91, .map #[⟨.int .i64 (1), .iface 93 (.pointer (some ⟨(lget ls 2).n, 0, none⟩)), 0⟩] 1, .cells ⟨segs [esG cu8 512 (fun _ => 0#8), esG cu8 64 (fun _ => 0#8), esG c_Val 64 (fun _ => (⟨0, 0#64, 0, 0⟩ : Val)), esG cZ 64 (fun _ => 0), esG cB 64 (fun _ => false)]⟩ 100], fun ls => []⟩
theorem p0_region_Mem_add : SpcG Try.prog M B0 S (sq0_region_Mem_add  ) :=
  fn_specG hU (P := Try.prog) Try.func46 (fun xs w => by kernel_rfl) 3 _ _ (fun _ => rfl) _ _ _ []
    [.o, .o, .o, .o, .a 0, .o, .o, .o, .a 0, .r [0, 1, 2, 3, 4, 5, 6, 7, 8] [] [9], .o, .o, .o, .a 0, .o, .o, .o, .a 0, .o, .a 1, .o, .o, .o, .a 0, .o]
    [] (fun b => by kernel_rfl)
def sq0_region_Mem_Frame   : Spc := ⟨fun ls => .call 17 #[.pointer (some ⟨(lget ls 0).n, 0, none⟩)], fun ls => [.cells #[.map (some (lget ls 1).n), .int .i64 (0)] 91, .map #[] 0], 1, .normal, fun ls => [.int .i64 (1)], fun ls => [.cells #[.map (some (lget ls 1).n), .int .i64 (1)] 91, .map #[⟨.int .i64 (1), .iface 93 (.pointer (some ⟨(lget ls 2).n, 0, none⟩)), 0⟩] 1], fun ls => [.cells ⟨segs [esG cu8 512 (fun _ => 0#8), esG cu8 64 (fun _ => 0#8), esG c_Val 64 (fun _ => (⟨0, 0#64, 0, 0⟩ : Val)), esG cZ 64 (fun _ => 0), esG cB 64 (fun _ => false)]⟩ 100]⟩
theorem p0_region_Mem_Frame : SpcG Try.prog M B0 S (sq0_region_Mem_Frame  ) :=
  fn_specG hU (P := Try.prog) Try.func17 (fun xs w => by kernel_rfl) 2 _ _ (fun _ => rfl) _ _ _ [2]
    [.o, .o, .o, .o, .o, .xg (p0_region_Mem_add hU  ) [0, 1, 2], .o]
    [] (fun b => by kernel_rfl)
theorem ok_region_kindTrap : ConG Try.prog S 47 #[.agg #[.int .i64 (2), .int .u64 (0), .int .i64 (1), .int .i64 ((-8))]] (.int .i64 (0)) :=
  fn_conG hU (P := Try.prog) Try.func47 (fun xs w => by kernel_rfl) [.agg #[.int .i64 (2), .int .u64 (0), .int .i64 (1), .int .i64 ((-8))]] (.int .i64 (0))
    [.o, .o, .o, .a 0, .o, .o, .o, .o, .o, .o, .o]
    [] (fun b => by kernel_rfl)
theorem ok_region_rightSize : ConG Try.prog S 48 #[.int .i64 (8)] (.bool true) :=
  fn_conG hU (P := Try.prog) Try.func48 (fun xs w => by kernel_rfl) [.int .i64 (8)] (.bool true)
    [.o, .o, .o, .o, .o, .o, .o, .o, .o, .o, .o, .o, .o, .o, .o, .o]
    [] (fun b => by kernel_rfl)
def sq0_region_Mem_live   : Spc := ⟨fun ls => .call 66 #[.pointer (some ⟨(lget ls 0).n, 0, none⟩), .agg #[.int .i64 (2), .int .u64 (0), .int .i64 (1), .int .i64 ((-8))]], fun ls => [.cells #[.map (some (lget ls 1).n), .int .i64 (1)] 91, .map #[⟨.int .i64 (1), .iface 93 (.pointer (some ⟨(lget ls 2).n, 0, none⟩)), 0⟩] 1, .cells ⟨segs [esG cu8 512 (fun _ => 0#8), esG cu8 64 (fun _ => 0#8), esG c_Val 64 (fun _ => (⟨0, 0#64, 0, 0⟩ : Val)), esG cZ 64 (fun _ => 0), esG cB 64 (fun _ => false)]⟩ 100], 0, .normal, fun ls => [.tuple #[.iface 93 (.pointer (some ⟨(lget ls 2).n, 0, none⟩)), .bool true]], fun ls => [.cells #[.map (some (lget ls 1).n), .int .i64 (1)] 91, .map #[⟨.int .i64 (1), .iface 93 (.pointer (some ⟨(lget ls 2).n, 0, none⟩)), 0⟩] 1, .cells ⟨segs [esG cu8 512 (fun _ => 0#8), esG cu8 64 (fun _ => 0#8), esG c_Val 64 (fun _ => (⟨0, 0#64, 0, 0⟩ : Val)), esG cZ 64 (fun _ => 0), esG cB 64 (fun _ => false)]⟩ 100], fun ls => []⟩
theorem p0_region_Mem_live : SpcG Try.prog M B0 S (sq0_region_Mem_live  ) :=
  fn_specG hU (P := Try.prog) Try.func66 (fun xs w => by kernel_rfl) 3 _ _ (fun _ => rfl) _ _ _ []
    [.o, .o, .o, .o, .a 3, .o, .r [0, 1, 2, 3, 4, 5, 6, 7, 8, 9, 10, 11, 12] [] [], .o, .o, .o, .a 0, .o, .a 3, .a 1, .o, .o, .o, .o, .o, .o, .o, .o, .o, .o, .o]
    [] (fun b => by kernel_rfl)
def sq0_region_frame_span   : Spc := ⟨fun ls => .call 127 #[.pointer (some ⟨(lget ls 0).n, 0, none⟩)], fun ls => [.cells ⟨segs [esG cu8 512 (fun _ => 0#8), esG cu8 64 (fun _ => 0#8), esG c_Val 64 (fun _ => (⟨0, 0#64, 0, 0⟩ : Val)), esG cZ 64 (fun _ => 0), esG cB 64 (fun _ => false)]⟩ 100], 0, .normal, fun ls => [.tuple #[.int .i64 ((-512)), .int .i64 (0)]], fun ls => [.cells ⟨segs [esG cu8 512 (fun _ => 0#8), esG cu8 64 (fun _ => 0#8), esG c_Val 64 (fun _ => (⟨0, 0#64, 0, 0⟩ : Val)), esG cZ 64 (fun _ => 0), esG cB 64 (fun _ => false)]⟩ 100], fun ls => []⟩
theorem p0_region_frame_span : SpcG Try.prog M B0 S (sq0_region_frame_span  ) :=
  fn_specG hU (P := Try.prog) Try.func127 (fun xs w => by kernel_rfl) 1 _ _ (fun _ => rfl) _ _ _ []
    [.o, .o, .o, .o]
    [] (fun b => by kernel_rfl)
theorem ok_region_inside : ConG Try.prog S 63 #[.int .i64 ((-8)), .int .i64 (8), .int .i64 ((-512)), .int .i64 (0)] (.bool true) :=
  fn_conG hU (P := Try.prog) Try.func63 (fun xs w => by kernel_rfl) [.int .i64 ((-8)), .int .i64 (8), .int .i64 ((-512)), .int .i64 (0)] (.bool true)
    [.o, .o, .o, .o, .o, .o, .o, .o, .o, .o, .o, .o, .o, .o, .o, .o, .o, .o, .o, .o]
    [] (fun b => by kernel_rfl)
def sq0_region_Mem_find   : Spc := ⟨fun ls => .call 49 #[.pointer (some ⟨(lget ls 0).n, 0, none⟩), .agg #[.int .i64 (2), .int .u64 (0), .int .i64 (1), .int .i64 ((-8))], .int .i64 (8)], fun ls => [.cells #[.map (some (lget ls 1).n), .int .i64 (1)] 91, .map #[⟨.int .i64 (1), .iface 93 (.pointer (some ⟨(lget ls 2).n, 0, none⟩)), 0⟩] 1, .cells ⟨segs [esG cu8 512 (fun _ => 0#8), esG cu8 64 (fun _ => 0#8), esG c_Val 64 (fun _ => (⟨0, 0#64, 0, 0⟩ : Val)), esG cZ 64 (fun _ => 0), esG cB 64 (fun _ => false)]⟩ 100], 0, .normal, fun ls => [.tuple #[.iface 93 (.pointer (some ⟨(lget ls 2).n, 0, none⟩)), .int .i64 (504), .int .i64 (0)]], fun ls => [.cells #[.map (some (lget ls 1).n), .int .i64 (1)] 91, .map #[⟨.int .i64 (1), .iface 93 (.pointer (some ⟨(lget ls 2).n, 0, none⟩)), 0⟩] 1, .cells ⟨segs [esG cu8 512 (fun _ => 0#8), esG cu8 64 (fun _ => 0#8), esG c_Val 64 (fun _ => (⟨0, 0#64, 0, 0⟩ : Val)), esG cZ 64 (fun _ => 0), esG cB 64 (fun _ => false)]⟩ 100], fun ls => []⟩
theorem p0_region_Mem_find : SpcG Try.prog M B0 S (sq0_region_Mem_find  ) :=
  fn_specG hU (P := Try.prog) Try.func49 (fun xs w => by kernel_rfl) 3 _ _ (fun _ => rfl) _ _ _ []
    [.o, .o, .o, .o, .o, .a 3, .xg (p0_region_Mem_live hU  ) [0, 1, 2], .o, .o, .o, .o, .o, .o, .o, .o, .xg (p0_region_frame_span hU  ) [2], .o, .o, .o, .o, .o, .o, .a 3, .o, .o, .o, .cg (ok_region_inside hU  ), .o, .o, .o, .r [0, 1, 2, 3, 4, 5, 6, 7] [] [], .o, .o, .a 3, .o, .o, .o, .o, .o]
    [] (fun b => by kernel_rfl)
theorem ok_region_touched : ConG Try.prog S 134 #[.int .i64 (504), .int .i64 (8)] (.tuple #[.int .i64 (63), .int .i64 (63)]) :=
  fn_conG hU (P := Try.prog) Try.func134 (fun xs w => by kernel_rfl) [.int .i64 (504), .int .i64 (8)] (.tuple #[.int .i64 (63), .int .i64 (63)])
    [.o, .o, .o, .o, .o, .o, .o, .o, .o, .o, .o]
    [] (fun b => by kernel_rfl)
def sq0_region_frame_can   : Spc := ⟨fun ls => .call 131 #[.pointer (some ⟨(lget ls 0).n, 0, none⟩), .int .i64 (504), .int .i64 (8)], fun ls => [.cells ⟨segs [esG cu8 512 (fun _ => 0#8), esG cu8 64 (fun _ => 0#8), esG c_Val 64 (fun _ => (⟨0, 0#64, 0, 0⟩ : Val)), esG cZ 64 (fun _ => 0), esG cB 64 (fun _ => false)]⟩ 100], 0, .normal, fun ls => [.int .i64 (0)], fun ls => [.cells ⟨segs [esG cu8 512 (fun _ => 0#8), esG cu8 64 (fun _ => 0#8), esG c_Val 64 (fun _ => (⟨0, 0#64, 0, 0⟩ : Val)), esG cZ 64 (fun _ => 0), esG cB 64 (fun _ => false)]⟩ 100], fun ls => []⟩
theorem p0_region_frame_can : SpcG Try.prog M B0 S (sq0_region_frame_can  ) :=
  fn_specG hU (P := Try.prog) Try.func131 (fun xs w => by kernel_rfl) 1 _ _ (fun _ => rfl) _ _ _ []
    [.o, .o, .o, .o, .o, .cg (ok_region_touched hU  ), .o, .o, .o, .o, .o, .o, .o, .o, .o, .o, .o, .o, .o, .o, .q (ixA_ok (kd := .i64) (T := 97) (x := 63) (sz := 1) (N := 64) rfl rfl (fun w => by kernel_rfl) (show inR 63 64 = true from by decide)), .l (accSg (i := 0) (f := cZ) (N := 64) (A := (fun _ => 0)) (k := 63) (pre := [esG cu8 512 (fun _ => 0#8), esG cu8 64 (fun _ => 0#8), esG c_Val 64 (fun _ => (⟨0, 0#64, 0, 0⟩ : Val))]) (post := [esG cB 64 (fun _ => false)]) (off := 832) (sgc (esG_len cu8_len) (sgc (esG_len cu8_len) (sgc (esG_len c_Val_len) sg0))) rfl 0 [.int .i64 (0)] cZ_len (inR_nat (show inR 63 64 = true from by decide)) rfl), .o, .o, .o, .o, .o, .o, .o, .o]
    [] (fun b => by kernel_rfl)
def sq0_region_frame_store   : Spc := ⟨fun ls => .call 128 #[.pointer (some ⟨(lget ls 0).n, 0, none⟩), .int .i64 (504), .int .i64 (8), .agg #[.int .i64 (3), .int .u64 (0), .int .i64 (0), .int .i64 (0)]], fun ls => [.cells ⟨segs [esG cu8 512 (fun _ => 0#8), esG cu8 64 (fun _ => 0#8), esG c_Val 64 (fun _ => (⟨0, 0#64, 0, 0⟩ : Val)), esG cZ 64 (fun _ => 0), esG cB 64 (fun _ => false)]⟩ 100], 0, .normal, fun ls => [.int .i64 (0)], fun ls => [.cells ⟨segs [esG cu8 512 (fun _ => 0#8), esG cu8 64 (updF (fun _ => 0#8) 63 (0#8)), esG c_Val 64 (updF (fun _ => (⟨0, 0#64, 0, 0⟩ : Val)) 63 (⟨3, 0#64, 0, 0⟩ : Val)), esG cZ 64 (fun _ => 0), esG cB 64 (fun _ => false)]⟩ 100], fun ls => []⟩
theorem p0_region_frame_store : SpcG Try.prog M B0 S (sq0_region_frame_store  ) :=
  fn_specG hU (P := Try.prog) Try.func128 (fun xs w => by kernel_rfl) 1 _ _ (fun _ => rfl) _ _ _ []
    [.o, .o, .o, .o, .o, .xg (p0_region_frame_can hU  ) [0], .o, .o, .o, .o, .a 1, .o, .o, .o, .o, .o, .o, .o, .o, .r [0, 1, 2, 3, 4, 5, 6] [] [7], .o, .o, .o, .a 1, .o, .o, .q (ixA_ok (kd := .i64) (T := 96) (x := 63) (sz := 4) (N := 64) rfl rfl (fun w => by kernel_rfl) (show inR 63 64 = true from by decide)), .x (sqSg_ok (T := 28) (e := 100) (f := c_Val) (N := 64) (A := (fun _ => (⟨0, 0#64, 0, 0⟩ : Val))) (v := (⟨3, 0#64, 0, 0⟩ : Val)) (pre := [esG cu8 512 (fun _ => 0#8), esG cu8 64 (fun _ => 0#8)]) (post := [esG cZ 64 (fun _ => 0), esG cB 64 (fun _ => false)]) (off := 576) (sgc (esG_len cu8_len) (sgc (esG_len cu8_len) sg0)) rfl 0 (.agg #[.int .i64 (3), .int .u64 (0), .int .i64 (0), .int .i64 (0)]) c_Val_len c_Val_one rfl rfl (fun w => by kernel_rfl) (inR_nat (show inR 63 64 = true from by decide)) rfl) [0], .o, .o, .o, .o, .o, .q (ixA_ok (kd := .i64) (T := 95) (x := 63) (sz := 1) (N := 64) rfl rfl (fun w => by kernel_rfl) (show inR 63 64 = true from by decide)), .x (sqSg_ok (T := 5) (e := 100) (f := cu8) (N := 64) (A := (fun _ => 0#8)) (v := 0#8) (pre := [esG cu8 512 (fun _ => 0#8)]) (post := [esG c_Val 64 (updF (fun _ => (⟨0, 0#64, 0, 0⟩ : Val)) 63 (⟨3, 0#64, 0, 0⟩ : Val)), esG cZ 64 (fun _ => 0), esG cB 64 (fun _ => false)]) (off := 512) (sgc (esG_len cu8_len) sg0) rfl 0 (.int .u8 (0)) cu8_len cu8_one rfl rfl (fun w => by kernel_rfl) (inR_nat (show inR 63 64 = true from by decide)) rfl) [0], .o]
    [] (fun b => by kernel_rfl)
def sq0_region_Mem_Store   : Spc := ⟨fun ls => .call 18 #[.pointer (some ⟨(lget ls 0).n, 0, none⟩), .agg #[.int .i64 (2), .int .u64 (0), .int .i64 (1), .int .i64 ((-8))], .int .i64 (8), .agg #[.int .i64 (3), .int .u64 (0), .int .i64 (0), .int .i64 (0)]], fun ls => [.cells #[.map (some (lget ls 1).n), .int .i64 (1)] 91, .map #[⟨.int .i64 (1), .iface 93 (.pointer (some ⟨(lget ls 2).n, 0, none⟩)), 0⟩] 1, .cells ⟨segs [esG cu8 512 (fun _ => 0#8), esG cu8 64 (fun _ => 0#8), esG c_Val 64 (fun _ => (⟨0, 0#64, 0, 0⟩ : Val)), esG cZ 64 (fun _ => 0), esG cB 64 (fun _ => false)]⟩ 100], 0, .normal, fun ls => [.int .i64 (0)], fun ls => [.cells #[.map (some (lget ls 1).n), .int .i64 (1)] 91, .map #[⟨.int .i64 (1), .iface 93 (.pointer (some ⟨(lget ls 2).n, 0, none⟩)), 0⟩] 1, .cells ⟨segs [esG cu8 512 (fun _ => 0#8), esG cu8 64 (updF (fun _ => 0#8) 63 (0#8)), esG c_Val 64 (updF (fun _ => (⟨0, 0#64, 0, 0⟩ : Val)) 63 (⟨3, 0#64, 0, 0⟩ : Val)), esG cZ 64 (fun _ => 0), esG cB 64 (fun _ => false)]⟩ 100], fun ls => []⟩
theorem p0_region_Mem_Store : SpcG Try.prog M B0 S (sq0_region_Mem_Store  ) :=
  fn_specG hU (P := Try.prog) Try.func18 (fun xs w => by kernel_rfl) 3 _ _ (fun _ => rfl) _ _ _ []
    [.o, .o, .o, .a 3, .cg (ok_region_kindTrap hU  ), .o, .o, .o, .o, .o, .a 4, .o, .o, .o, .cg (ok_region_rightSize hU  ), .o, .o, .o, .a 3, .o, .xg (p0_region_Mem_find hU  ) [0, 1, 2], .o, .o, .o, .o, .o, .o, .o, .o, .o, .o, .o, .o, .a 4, .xg (p0_region_frame_store hU  ) [2], .o]
    [] (fun b => by kernel_rfl)
def sq0_region_Mem_live_v1   : Spc := ⟨fun ls => .call 66 #[.pointer (some ⟨(lget ls 0).n, 0, none⟩), .agg #[.int .i64 (2), .int .u64 (0), .int .i64 (1), .int .i64 ((-8))]], fun ls => [.cells #[.map (some (lget ls 1).n), .int .i64 (1)] 91, .map #[⟨.int .i64 (1), .iface 93 (.pointer (some ⟨(lget ls 2).n, 0, none⟩)), 0⟩] 1, .cells ⟨segs [esG cu8 512 (fun _ => 0#8), esG cu8 64 (updF (fun _ => 0#8) 63 (0#8)), esG c_Val 64 (updF (fun _ => (⟨0, 0#64, 0, 0⟩ : Val)) 63 (⟨3, 0#64, 0, 0⟩ : Val)), esG cZ 64 (fun _ => 0), esG cB 64 (fun _ => false)]⟩ 100], 0, .normal, fun ls => [.tuple #[.iface 93 (.pointer (some ⟨(lget ls 2).n, 0, none⟩)), .bool true]], fun ls => [.cells #[.map (some (lget ls 1).n), .int .i64 (1)] 91, .map #[⟨.int .i64 (1), .iface 93 (.pointer (some ⟨(lget ls 2).n, 0, none⟩)), 0⟩] 1, .cells ⟨segs [esG cu8 512 (fun _ => 0#8), esG cu8 64 (updF (fun _ => 0#8) 63 (0#8)), esG c_Val 64 (updF (fun _ => (⟨0, 0#64, 0, 0⟩ : Val)) 63 (⟨3, 0#64, 0, 0⟩ : Val)), esG cZ 64 (fun _ => 0), esG cB 64 (fun _ => false)]⟩ 100], fun ls => []⟩
theorem p0_region_Mem_live_v1 : SpcG Try.prog M B0 S (sq0_region_Mem_live_v1  ) :=
  fn_specG hU (P := Try.prog) Try.func66 (fun xs w => by kernel_rfl) 3 _ _ (fun _ => rfl) _ _ _ []
    [.o, .o, .o, .o, .a 3, .o, .r [0, 1, 2, 3, 4, 5, 6, 7, 8, 9, 10, 11, 12] [] [], .o, .o, .o, .a 0, .o, .a 3, .a 1, .o, .o, .o, .o, .o, .o, .o, .o, .o, .o, .o]
    [] (fun b => by kernel_rfl)
def sq0_region_frame_span_v1   : Spc := ⟨fun ls => .call 127 #[.pointer (some ⟨(lget ls 0).n, 0, none⟩)], fun ls => [.cells ⟨segs [esG cu8 512 (fun _ => 0#8), esG cu8 64 (updF (fun _ => 0#8) 63 (0#8)), esG c_Val 64 (updF (fun _ => (⟨0, 0#64, 0, 0⟩ : Val)) 63 (⟨3, 0#64, 0, 0⟩ : Val)), esG cZ 64 (fun _ => 0), esG cB 64 (fun _ => false)]⟩ 100], 0, .normal, fun ls => [.tuple #[.int .i64 ((-512)), .int .i64 (0)]], fun ls => [.cells ⟨segs [esG cu8 512 (fun _ => 0#8), esG cu8 64 (updF (fun _ => 0#8) 63 (0#8)), esG c_Val 64 (updF (fun _ => (⟨0, 0#64, 0, 0⟩ : Val)) 63 (⟨3, 0#64, 0, 0⟩ : Val)), esG cZ 64 (fun _ => 0), esG cB 64 (fun _ => false)]⟩ 100], fun ls => []⟩
theorem p0_region_frame_span_v1 : SpcG Try.prog M B0 S (sq0_region_frame_span_v1  ) :=
  fn_specG hU (P := Try.prog) Try.func127 (fun xs w => by kernel_rfl) 1 _ _ (fun _ => rfl) _ _ _ []
    [.o, .o, .o, .o]
    [] (fun b => by kernel_rfl)
def sq0_region_Mem_find_v1   : Spc := ⟨fun ls => .call 49 #[.pointer (some ⟨(lget ls 0).n, 0, none⟩), .agg #[.int .i64 (2), .int .u64 (0), .int .i64 (1), .int .i64 ((-8))], .int .i64 (8)], fun ls => [.cells #[.map (some (lget ls 1).n), .int .i64 (1)] 91, .map #[⟨.int .i64 (1), .iface 93 (.pointer (some ⟨(lget ls 2).n, 0, none⟩)), 0⟩] 1, .cells ⟨segs [esG cu8 512 (fun _ => 0#8), esG cu8 64 (updF (fun _ => 0#8) 63 (0#8)), esG c_Val 64 (updF (fun _ => (⟨0, 0#64, 0, 0⟩ : Val)) 63 (⟨3, 0#64, 0, 0⟩ : Val)), esG cZ 64 (fun _ => 0), esG cB 64 (fun _ => false)]⟩ 100], 0, .normal, fun ls => [.tuple #[.iface 93 (.pointer (some ⟨(lget ls 2).n, 0, none⟩)), .int .i64 (504), .int .i64 (0)]], fun ls => [.cells #[.map (some (lget ls 1).n), .int .i64 (1)] 91, .map #[⟨.int .i64 (1), .iface 93 (.pointer (some ⟨(lget ls 2).n, 0, none⟩)), 0⟩] 1, .cells ⟨segs [esG cu8 512 (fun _ => 0#8), esG cu8 64 (updF (fun _ => 0#8) 63 (0#8)), esG c_Val 64 (updF (fun _ => (⟨0, 0#64, 0, 0⟩ : Val)) 63 (⟨3, 0#64, 0, 0⟩ : Val)), esG cZ 64 (fun _ => 0), esG cB 64 (fun _ => false)]⟩ 100], fun ls => []⟩
theorem p0_region_Mem_find_v1 : SpcG Try.prog M B0 S (sq0_region_Mem_find_v1  ) :=
  fn_specG hU (P := Try.prog) Try.func49 (fun xs w => by kernel_rfl) 3 _ _ (fun _ => rfl) _ _ _ []
    [.o, .o, .o, .o, .o, .a 3, .xg (p0_region_Mem_live_v1 hU  ) [0, 1, 2], .o, .o, .o, .o, .o, .o, .o, .o, .xg (p0_region_frame_span_v1 hU  ) [2], .o, .o, .o, .o, .o, .o, .a 3, .o, .o, .o, .cg (ok_region_inside hU  ), .o, .o, .o, .r [0, 1, 2, 3, 4, 5, 6, 7] [] [], .o, .o, .a 3, .o, .o, .o, .o, .o]
    [] (fun b => by kernel_rfl)
def sq0_region_frame_load   : Spc := ⟨fun ls => .call 126 #[.pointer (some ⟨(lget ls 0).n, 0, none⟩), .int .i64 (504), .int .i64 (8)], fun ls => [.cells ⟨segs [esG cu8 512 (fun _ => 0#8), esG cu8 64 (updF (fun _ => 0#8) 63 (0#8)), esG c_Val 64 (updF (fun _ => (⟨0, 0#64, 0, 0⟩ : Val)) 63 (⟨3, 0#64, 0, 0⟩ : Val)), esG cZ 64 (fun _ => 0), esG cB 64 (fun _ => false)]⟩ 100], 0, .normal, fun ls => [.tuple #[.agg #[.int .i64 (3), .int .u64 (0), .int .i64 (0), .int .i64 (0)], .int .i64 (0)]], fun ls => [.cells ⟨segs [esG cu8 512 (fun _ => 0#8), esG cu8 64 (updF (fun _ => 0#8) 63 (0#8)), esG c_Val 64 (updF (fun _ => (⟨0, 0#64, 0, 0⟩ : Val)) 63 (⟨3, 0#64, 0, 0⟩ : Val)), esG cZ 64 (fun _ => 0), esG cB 64 (fun _ => false)]⟩ 100], fun ls => []⟩
theorem p0_region_frame_load : SpcG Try.prog M B0 S (sq0_region_frame_load  ) :=
  fn_specG hU (P := Try.prog) Try.func126 (fun xs w => by kernel_rfl) 1 _ _ (fun _ => rfl) _ _ _ []
    [.o, .o, .o, .o, .o, .o, .o, .o, .o, .o, .o, .o, .o, .o, .o, .o, .o, .q (ixA_ok (kd := .i64) (T := 97) (x := 63) (sz := 1) (N := 64) rfl rfl (fun w => by kernel_rfl) (show inR 63 64 = true from by decide)), .l (accSg (i := 0) (f := cZ) (N := 64) (A := (fun _ => 0)) (k := 63) (pre := [esG cu8 512 (fun _ => 0#8), esG cu8 64 (updF (fun _ => 0#8) 63 (0#8)), esG c_Val 64 (updF (fun _ => (⟨0, 0#64, 0, 0⟩ : Val)) 63 (⟨3, 0#64, 0, 0⟩ : Val))]) (post := [esG cB 64 (fun _ => false)]) (off := 832) (sgc (esG_len cu8_len) (sgc (esG_len cu8_len) (sgc (esG_len c_Val_len) sg0))) rfl 0 [.int .i64 (0)] cZ_len (inR_nat (show inR 63 64 = true from by decide)) rfl), .o, .o, .o, .o, .o, .o, .o, .q (ixA_ok (kd := .i64) (T := 96) (x := 63) (sz := 4) (N := 64) rfl rfl (fun w => by kernel_rfl) (show inR 63 64 = true from by decide)), .o, .l (accSg (i := 0) (f := c_Val) (N := 64) (A := updF (fun _ => (⟨0, 0#64, 0, 0⟩ : Val)) 63 (⟨3, 0#64, 0, 0⟩ : Val)) (k := 63) (pre := [esG cu8 512 (fun _ => 0#8), esG cu8 64 (updF (fun _ => 0#8) 63 (0#8))]) (post := [esG cZ 64 (fun _ => 0), esG cB 64 (fun _ => false)]) (off := 576) (sgc (esG_len cu8_len) (sgc (esG_len cu8_len) sg0)) rfl 0 [.int .i64 (3)] c_Val_len (inR_nat (show inR 63 64 = true from by decide)) rfl), .o, .o, .o, .o, .o, .o, .q (ixA_ok (kd := .i64) (T := 96) (x := 63) (sz := 4) (N := 64) rfl rfl (fun w => by kernel_rfl) (show inR 63 64 = true from by decide)), .l (accSg (i := 0) (f := c_Val) (N := 64) (A := updF (fun _ => (⟨0, 0#64, 0, 0⟩ : Val)) 63 (⟨3, 0#64, 0, 0⟩ : Val)) (k := 63) (pre := [esG cu8 512 (fun _ => 0#8), esG cu8 64 (updF (fun _ => 0#8) 63 (0#8))]) (post := [esG cZ 64 (fun _ => 0), esG cB 64 (fun _ => false)]) (off := 576) (sgc (esG_len cu8_len) (sgc (esG_len cu8_len) sg0)) rfl 0 [.int .i64 (3), .int .u64 (0), .int .i64 (0), .int .i64 (0)] c_Val_len (inR_nat (show inR 63 64 = true from by decide)) rfl), .a 1, .o]
    [1, 1, 1, 1] (fun b => by kernel_rfl)
def sq0_region_Mem_Load   : Spc := ⟨fun ls => .call 19 #[.pointer (some ⟨(lget ls 0).n, 0, none⟩), .agg #[.int .i64 (2), .int .u64 (0), .int .i64 (1), .int .i64 ((-8))], .int .i64 (8)], fun ls => [.cells #[.map (some (lget ls 1).n), .int .i64 (1)] 91, .map #[⟨.int .i64 (1), .iface 93 (.pointer (some ⟨(lget ls 2).n, 0, none⟩)), 0⟩] 1, .cells ⟨segs [esG cu8 512 (fun _ => 0#8), esG cu8 64 (updF (fun _ => 0#8) 63 (0#8)), esG c_Val 64 (updF (fun _ => (⟨0, 0#64, 0, 0⟩ : Val)) 63 (⟨3, 0#64, 0, 0⟩ : Val)), esG cZ 64 (fun _ => 0), esG cB 64 (fun _ => false)]⟩ 100], 0, .normal, fun ls => [.tuple #[.agg #[.int .i64 (3), .int .u64 (0), .int .i64 (0), .int .i64 (0)], .int .i64 (0)]], fun ls => [.cells #[.map (some (lget ls 1).n), .int .i64 (1)] 91, .map #[⟨.int .i64 (1), .iface 93 (.pointer (some ⟨(lget ls 2).n, 0, none⟩)), 0⟩] 1, .cells ⟨segs [esG cu8 512 (fun _ => 0#8), esG cu8 64 (updF (fun _ => 0#8) 63 (0#8)), esG c_Val 64 (updF (fun _ => (⟨0, 0#64, 0, 0⟩ : Val)) 63 (⟨3, 0#64, 0, 0⟩ : Val)), esG cZ 64 (fun _ => 0), esG cB 64 (fun _ => false)]⟩ 100], fun ls => []⟩
theorem p0_region_Mem_Load : SpcG Try.prog M B0 S (sq0_region_Mem_Load  ) :=
  fn_specG hU (P := Try.prog) Try.func19 (fun xs w => by kernel_rfl) 3 _ _ (fun _ => rfl) _ _ _ []
    [.o, .o, .o, .a 3, .cg (ok_region_kindTrap hU  ), .o, .o, .o, .o, .cg (ok_region_rightSize hU  ), .o, .o, .a 3, .o, .xg (p0_region_Mem_find_v1 hU  ) [0, 1, 2], .o, .o, .o, .o, .o, .o, .o, .o, .o, .o, .o, .o, .xg (p0_region_frame_load hU  ) [2], .o, .o, .a 4, .o]
    [4, 4, 4, 4] (fun b => by kernel_rfl)
theorem ok_region_rightSize_v1 : ConG Try.prog S 48 #[.int .i64 (4)] (.bool true) :=
  fn_conG hU (P := Try.prog) Try.func48 (fun xs w => by kernel_rfl) [.int .i64 (4)] (.bool true)
    [.o, .o, .o, .o, .o, .o, .o, .o, .o, .o, .o, .o, .o, .o]
    [] (fun b => by kernel_rfl)
theorem ok_region_inside_v1 : ConG Try.prog S 63 #[.int .i64 ((-8)), .int .i64 (4), .int .i64 ((-512)), .int .i64 (0)] (.bool true) :=
  fn_conG hU (P := Try.prog) Try.func63 (fun xs w => by kernel_rfl) [.int .i64 ((-8)), .int .i64 (4), .int .i64 ((-512)), .int .i64 (0)] (.bool true)
    [.o, .o, .o, .o, .o, .o, .o, .o, .o, .o, .o, .o, .o, .o, .o, .o, .o, .o, .o, .o]
    [] (fun b => by kernel_rfl)
def sq0_region_Mem_find_v2   : Spc := ⟨fun ls => .call 49 #[.pointer (some ⟨(lget ls 0).n, 0, none⟩), .agg #[.int .i64 (2), .int .u64 (0), .int .i64 (1), .int .i64 ((-8))], .int .i64 (4)], fun ls => [.cells #[.map (some (lget ls 1).n), .int .i64 (1)] 91, .map #[⟨.int .i64 (1), .iface 93 (.pointer (some ⟨(lget ls 2).n, 0, none⟩)), 0⟩] 1, .cells ⟨segs [esG cu8 512 (fun _ => 0#8), esG cu8 64 (updF (fun _ => 0#8) 63 (0#8)), esG c_Val 64 (updF (fun _ => (⟨0, 0#64, 0, 0⟩ : Val)) 63 (⟨3, 0#64, 0, 0⟩ : Val)), esG cZ 64 (fun _ => 0), esG cB 64 (fun _ => false)]⟩ 100], 0, .normal, fun ls => [.tuple #[.iface 93 (.pointer (some ⟨(lget ls 2).n, 0, none⟩)), .int .i64 (504), .int .i64 (0)]], fun ls => [.cells #[.map (some (lget ls 1).n), .int .i64 (1)] 91, .map #[⟨.int .i64 (1), .iface 93 (.pointer (some ⟨(lget ls 2).n, 0, none⟩)), 0⟩] 1, .cells ⟨segs [esG cu8 512 (fun _ => 0#8), esG cu8 64 (updF (fun _ => 0#8) 63 (0#8)), esG c_Val 64 (updF (fun _ => (⟨0, 0#64, 0, 0⟩ : Val)) 63 (⟨3, 0#64, 0, 0⟩ : Val)), esG cZ 64 (fun _ => 0), esG cB 64 (fun _ => false)]⟩ 100], fun ls => []⟩
theorem p0_region_Mem_find_v2 : SpcG Try.prog M B0 S (sq0_region_Mem_find_v2  ) :=
  fn_specG hU (P := Try.prog) Try.func49 (fun xs w => by kernel_rfl) 3 _ _ (fun _ => rfl) _ _ _ []
    [.o, .o, .o, .o, .o, .a 3, .xg (p0_region_Mem_live_v1 hU  ) [0, 1, 2], .o, .o, .o, .o, .o, .o, .o, .o, .xg (p0_region_frame_span_v1 hU  ) [2], .o, .o, .o, .o, .o, .o, .a 3, .o, .o, .o, .cg (ok_region_inside_v1 hU  ), .o, .o, .o, .r [0, 1, 2, 3, 4, 5, 6, 7] [] [], .o, .o, .a 3, .o, .o, .o, .o, .o]
    [] (fun b => by kernel_rfl)
theorem ok_region_touched_v1 : ConG Try.prog S 134 #[.int .i64 (504), .int .i64 (4)] (.tuple #[.int .i64 (63), .int .i64 (63)]) :=
  fn_conG hU (P := Try.prog) Try.func134 (fun xs w => by kernel_rfl) [.int .i64 (504), .int .i64 (4)] (.tuple #[.int .i64 (63), .int .i64 (63)])
    [.o, .o, .o, .o, .o, .o, .o, .o, .o, .o, .o]
    [] (fun b => by kernel_rfl)
def sq0_region_frame_readable   : Spc := ⟨fun ls => .call 129 #[.pointer (some ⟨(lget ls 0).n, 0, none⟩), .int .i64 (504), .int .i64 (4)], fun ls => [.cells ⟨segs [esG cu8 512 (fun _ => 0#8), esG cu8 64 (updF (fun _ => 0#8) 63 (0#8)), esG c_Val 64 (updF (fun _ => (⟨0, 0#64, 0, 0⟩ : Val)) 63 (⟨3, 0#64, 0, 0⟩ : Val)), esG cZ 64 (fun _ => 0), esG cB 64 (fun _ => false)]⟩ 100], 0, .normal, fun ls => [.int .i64 (6)], fun ls => [.cells ⟨segs [esG cu8 512 (fun _ => 0#8), esG cu8 64 (updF (fun _ => 0#8) 63 (0#8)), esG c_Val 64 (updF (fun _ => (⟨0, 0#64, 0, 0⟩ : Val)) 63 (⟨3, 0#64, 0, 0⟩ : Val)), esG cZ 64 (fun _ => 0), esG cB 64 (fun _ => false)]⟩ 100], fun ls => []⟩
theorem p0_region_frame_readable : SpcG Try.prog M B0 S (sq0_region_frame_readable  ) :=
  fn_specG hU (P := Try.prog) Try.func129 (fun xs w => by kernel_rfl) 1 _ _ (fun _ => rfl) _ _ _ []
    [.o, .o, .o, .o, .o, .cg (ok_region_touched_v1 hU  ), .o, .o, .o, .o, .o, .o, .o, .o, .o, .o, .o, .o, .o, .o, .q (ixA_ok (kd := .i64) (T := 97) (x := 63) (sz := 1) (N := 64) rfl rfl (fun w => by kernel_rfl) (show inR 63 64 = true from by decide)), .l (accSg (i := 0) (f := cZ) (N := 64) (A := (fun _ => 0)) (k := 63) (pre := [esG cu8 512 (fun _ => 0#8), esG cu8 64 (updF (fun _ => 0#8) 63 (0#8)), esG c_Val 64 (updF (fun _ => (⟨0, 0#64, 0, 0⟩ : Val)) 63 (⟨3, 0#64, 0, 0⟩ : Val))]) (post := [esG cB 64 (fun _ => false)]) (off := 832) (sgc (esG_len cu8_len) (sgc (esG_len cu8_len) (sgc (esG_len c_Val_len) sg0))) rfl 0 [.int .i64 (0)] cZ_len (inR_nat (show inR 63 64 = true from by decide)) rfl), .o, .o, .o, .o, .o, .o, .o, .o, .o, .o, .o, .o, .o, .o, .o, .o, .q (ixA_ok (kd := .i64) (T := 96) (x := 63) (sz := 4) (N := 64) rfl rfl (fun w => by kernel_rfl) (show inR 63 64 = true from by decide)), .o, .l (accSg (i := 0) (f := c_Val) (N := 64) (A := updF (fun _ => (⟨0, 0#64, 0, 0⟩ : Val)) 63 (⟨3, 0#64, 0, 0⟩ : Val)) (k := 63) (pre := [esG cu8 512 (fun _ => 0#8), esG cu8 64 (updF (fun _ => 0#8) 63 (0#8))]) (post := [esG cZ 64 (fun _ => 0), esG cB 64 (fun _ => false)]) (off := 576) (sgc (esG_len cu8_len) (sgc (esG_len cu8_len) sg0)) rfl 0 [.int .i64 (3)] c_Val_len (inR_nat (show inR 63 64 = true from by decide)) rfl), .o, .o]
    [] (fun b => by kernel_rfl)
def sq0_region_frame_load_v1   : Spc := ⟨fun ls => .call 126 #[.pointer (some ⟨(lget ls 0).n, 0, none⟩), .int .i64 (504), .int .i64 (4)], fun ls => [.cells ⟨segs [esG cu8 512 (fun _ => 0#8), esG cu8 64 (updF (fun _ => 0#8) 63 (0#8)), esG c_Val 64 (updF (fun _ => (⟨0, 0#64, 0, 0⟩ : Val)) 63 (⟨3, 0#64, 0, 0⟩ : Val)), esG cZ 64 (fun _ => 0), esG cB 64 (fun _ => false)]⟩ 100], 0, .normal, fun ls => [.tuple #[.agg #[.int .i64 (0), .int .u64 (0), .int .i64 (0), .int .i64 (0)], .int .i64 (6)]], fun ls => [.cells ⟨segs [esG cu8 512 (fun _ => 0#8), esG cu8 64 (updF (fun _ => 0#8) 63 (0#8)), esG c_Val 64 (updF (fun _ => (⟨0, 0#64, 0, 0⟩ : Val)) 63 (⟨3, 0#64, 0, 0⟩ : Val)), esG cZ 64 (fun _ => 0), esG cB 64 (fun _ => false)]⟩ 100], fun ls => []⟩
theorem p0_region_frame_load_v1 : SpcG Try.prog M B0 S (sq0_region_frame_load_v1  ) :=
  fn_specG hU (P := Try.prog) Try.func126 (fun xs w => by kernel_rfl) 1 _ _ (fun _ => rfl) _ _ _ []
    [.o, .o, .o, .o, .o, .o, .o, .o, .o, .o, .o, .o, .o, .o, .o, .o, .xg (p0_region_frame_readable hU  ) [0], .o, .o, .o, .o, .o, .a 1, .o]
    [1, 1, 1, 1] (fun b => by kernel_rfl)
def sq0_region_Mem_Load_v1   : Spc := ⟨fun ls => .call 19 #[.pointer (some ⟨(lget ls 0).n, 0, none⟩), .agg #[.int .i64 (2), .int .u64 (0), .int .i64 (1), .int .i64 ((-8))], .int .i64 (4)], fun ls => [.cells #[.map (some (lget ls 1).n), .int .i64 (1)] 91, .map #[⟨.int .i64 (1), .iface 93 (.pointer (some ⟨(lget ls 2).n, 0, none⟩)), 0⟩] 1, .cells ⟨segs [esG cu8 512 (fun _ => 0#8), esG cu8 64 (updF (fun _ => 0#8) 63 (0#8)), esG c_Val 64 (updF (fun _ => (⟨0, 0#64, 0, 0⟩ : Val)) 63 (⟨3, 0#64, 0, 0⟩ : Val)), esG cZ 64 (fun _ => 0), esG cB 64 (fun _ => false)]⟩ 100], 0, .normal, fun ls => [.tuple #[.agg #[.int .i64 (0), .int .u64 (0), .int .i64 (0), .int .i64 (0)], .int .i64 (6)]], fun ls => [.cells #[.map (some (lget ls 1).n), .int .i64 (1)] 91, .map #[⟨.int .i64 (1), .iface 93 (.pointer (some ⟨(lget ls 2).n, 0, none⟩)), 0⟩] 1, .cells ⟨segs [esG cu8 512 (fun _ => 0#8), esG cu8 64 (updF (fun _ => 0#8) 63 (0#8)), esG c_Val 64 (updF (fun _ => (⟨0, 0#64, 0, 0⟩ : Val)) 63 (⟨3, 0#64, 0, 0⟩ : Val)), esG cZ 64 (fun _ => 0), esG cB 64 (fun _ => false)]⟩ 100], fun ls => []⟩
theorem p0_region_Mem_Load_v1 : SpcG Try.prog M B0 S (sq0_region_Mem_Load_v1  ) :=
  fn_specG hU (P := Try.prog) Try.func19 (fun xs w => by kernel_rfl) 3 _ _ (fun _ => rfl) _ _ _ []
    [.o, .o, .o, .a 3, .cg (ok_region_kindTrap hU  ), .o, .o, .o, .o, .cg (ok_region_rightSize_v1 hU  ), .o, .o, .a 3, .o, .xg (p0_region_Mem_find_v2 hU  ) [0, 1, 2], .o, .o, .o, .o, .o, .o, .o, .o, .o, .o, .o, .o, .xg (p0_region_frame_load_v1 hU  ) [2], .o, .o, .a 4, .o]
    [4, 4, 4, 4] (fun b => by kernel_rfl)
theorem ok_barbicanlaw8_known : ConG Try.prog S 15 #[] (.bool true) :=
  fn_conG hU (P := Try.prog) Try.func15 (fun xs w => by kernel_rfl) [] (.bool true)
    [.o, .xg (p0_region_New hU  ) [], .o, .o, .o, .o, .o, .xg (p0_region_Mem_Frame hU  ) [0, 1], .o, .o, .o, .o, .a 3, .o, .o, .a 4, .o, .a 3, .a 4, .xg (p0_region_Mem_Store hU  ) [0, 1, 2], .o, .o, .a 3, .xg (p0_region_Mem_Load hU  ) [0, 1, 2], .o, .o, .o, .o, .a 5, .o, .o, .a 3, .xg (p0_region_Mem_Load_v1 hU  ) [0, 1, 2], .o, .o, .o, .o, .a 6, .o, .o, .o, .o, .o, .o, .o, .o, .a 5, .a 4, .o, .o, .o]
    [] (fun b => by kernel_rfl)
end

end Go.Proofs.Ytfmpmhafilllpaa
