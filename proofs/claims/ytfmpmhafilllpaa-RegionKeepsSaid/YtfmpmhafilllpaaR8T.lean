/-
  The law on tags, by the program's text.
-/
import Derived.Test.YtfmpmhafilllpaaR8L
namespace Go.Proofs.Ytfmpmhafilllpaa
open Go.RowKit
set_option linter.unusedVariables false
set_option linter.unusedSimpArgs false
set_option linter.unusedSectionVars false
set_option maxRecDepth 100000
set_option maxHeartbeats 4000000
def vt1 (r : (Int) × (Int)) : Value := .tuple #[(.int .i64 (r.1)), (.int .i64 (r.2))]
def sq0_region_Mem_add_v2 (w0 : Nat → BitVec 8) (w1 : Nat → BitVec 8) (w2 : Nat → Val) (w3 : Nat → Int) (w4 : Nat → Bool)  : Spc := ⟨fun ls => .call 46 #[.pointer (some ⟨(lget ls 0).n, 0, none⟩), .iface 93 (.pointer (some ⟨(lget ls 2).n, 0, none⟩))], fun ls => [.cells #[.map (some (lget ls 1).n), .int .i64 (0)] 91, .map #[] 0, .cells ⟨segs [esG cu8 512 w0, esG cu8 64 w1, esG c_Val 64 w2, esG cZ 64 w3, esG cB 64 w4]⟩ 100], 0, .normal, fun ls => [.int .i64 (1)], fun ls => [.cells #[.map (some (lget ls 1).n), .int .i64 (1)] 91, .map #[⟨.int .i64 (1), .iface 93 (.pointer (some ⟨(lget ls 2).n, 0, none⟩)), 0⟩] 1, .cells ⟨segs [esG cu8 512 w0, esG cu8 64 w1, esG c_Val 64 w2, esG cZ 64 w3, esG cB 64 w4]⟩ 100], fun ls => []⟩
section
variable {M : Nat → Prop} {B0 : Nat} {S : World → Prop} (hU : Up M B0 S)
include hU
theorem p0_region_Mem_add_v2 (w0 : Nat → BitVec 8) (w1 : Nat → BitVec 8) (w2 : Nat → Val) (w3 : Nat → Int) (w4 : Nat → Bool) : SpcG Try.prog M B0 S (sq0_region_Mem_add_v2 w0 w1 w2 w3 w4 ) :=
  fn_specG hU (P := Try.prog) Try.func46 (fun xs w => by kernel_rfl) 3 _ _ (fun _ => rfl) _ _ _ []
    [.o, .o, .o, .o, .a 0, .o, .o, .o, .a 0, .r [0, 1, 2, 3, 4, 5, 6, 7, 8] [] [9], .o, .o, .o, .a 0, .o, .o, .o, .a 0, .o, .a 1, .o, .o, .o, .a 0, .o]
    [] (fun b => by kernel_rfl)
def sq0_region_Mem_Frame_v1   : Spc := ⟨fun ls => .call 17 #[.pointer (some ⟨(lget ls 0).n, 0, none⟩)], fun ls => [.cells #[.map (some (lget ls 1).n), .int .i64 (0)] 91, .map #[] 0], 1, .normal, fun ls => [.int .i64 (1)], fun ls => [.cells #[.map (some (lget ls 1).n), .int .i64 (1)] 91, .map #[⟨.int .i64 (1), .iface 93 (.pointer (some ⟨(lget ls 2).n, 0, none⟩)), 0⟩] 1], fun ls => [.cells ⟨segs [esG cu8 512 (fun _ => 0#8), esG cu8 64 (fun _ => 0#8), esG c_Val 64 (fun _ => (⟨0, 0#64, 0, 0⟩ : Val)), esG cZ 64 (fun _ => 0), esG cB 64 (fun _ => false)]⟩ 100]⟩
theorem p0_region_Mem_Frame_v1 : SpcG Try.prog M B0 S (sq0_region_Mem_Frame_v1  ) :=
  fn_specG hU (P := Try.prog) Try.func17 (fun xs w => by kernel_rfl) 2 _ _ (fun _ => rfl) _ _ _ [2]
    [.o, .o, .o, .o, .o, .xg (p0_region_Mem_add_v2 hU (fun _ => 0#8) (fun _ => 0#8) (fun _ => (⟨0, 0#64, 0, 0⟩ : Val)) (fun _ => 0) (fun _ => false) ) [0, 1, 2], .o]
    [] (fun b => by kernel_rfl)
def sq0_region_Mem_live_v3 (w0 : Int) (w1 : Nat → BitVec 8) (w2 : Nat → BitVec 8) (w3 : Nat → Val) (w4 : Nat → Int) (w5 : Nat → Bool)  : Spc := ⟨fun ls => .call 66 #[.pointer (some ⟨(lget ls 0).n, 0, none⟩), .agg #[.int .i64 (2), .int .u64 (0), .int .i64 (1), .int .i64 (w0)]], fun ls => [.cells #[.map (some (lget ls 1).n), .int .i64 (1)] 91, .map #[⟨.int .i64 (1), .iface 93 (.pointer (some ⟨(lget ls 2).n, 0, none⟩)), 0⟩] 1, .cells ⟨segs [esG cu8 512 w1, esG cu8 64 w2, esG c_Val 64 w3, esG cZ 64 w4, esG cB 64 w5]⟩ 100], 0, .normal, fun ls => [.tuple #[.iface 93 (.pointer (some ⟨(lget ls 2).n, 0, none⟩)), .bool true]], fun ls => [.cells #[.map (some (lget ls 1).n), .int .i64 (1)] 91, .map #[⟨.int .i64 (1), .iface 93 (.pointer (some ⟨(lget ls 2).n, 0, none⟩)), 0⟩] 1, .cells ⟨segs [esG cu8 512 w1, esG cu8 64 w2, esG c_Val 64 w3, esG cZ 64 w4, esG cB 64 w5]⟩ 100], fun ls => []⟩
theorem p0_region_Mem_live_v3 (w0 : Int) (w1 : Nat → BitVec 8) (w2 : Nat → BitVec 8) (w3 : Nat → Val) (w4 : Nat → Int) (w5 : Nat → Bool) : SpcG Try.prog M B0 S (sq0_region_Mem_live_v3 w0 w1 w2 w3 w4 w5 ) :=
  fn_specG hU (P := Try.prog) Try.func66 (fun xs w => by kernel_rfl) 3 _ _ (fun _ => rfl) _ _ _ []
    [.o, .o, .o, .o, .a 3, .o, .r [0, 1, 2, 3, 4, 5, 6, 7, 8, 9, 10, 11, 12] [] [], .o, .o, .o, .a 0, .o, .a 3, .a 1, .o, .o, .o, .o, .o, .o, .o, .o, .o, .o, .o]
    [] (fun b => by kernel_rfl)
def sq0_region_frame_span_v2 (w0 : Nat → BitVec 8) (w1 : Nat → BitVec 8) (w2 : Nat → Val) (w3 : Nat → Int) (w4 : Nat → Bool)  : Spc := ⟨fun ls => .call 127 #[.pointer (some ⟨(lget ls 0).n, 0, none⟩)], fun ls => [.cells ⟨segs [esG cu8 512 w0, esG cu8 64 w1, esG c_Val 64 w2, esG cZ 64 w3, esG cB 64 w4]⟩ 100], 0, .normal, fun ls => [.tuple #[.int .i64 ((-512)), .int .i64 (0)]], fun ls => [.cells ⟨segs [esG cu8 512 w0, esG cu8 64 w1, esG c_Val 64 w2, esG cZ 64 w3, esG cB 64 w4]⟩ 100], fun ls => []⟩
theorem p0_region_frame_span_v2 (w0 : Nat → BitVec 8) (w1 : Nat → BitVec 8) (w2 : Nat → Val) (w3 : Nat → Int) (w4 : Nat → Bool) : SpcG Try.prog M B0 S (sq0_region_frame_span_v2 w0 w1 w2 w3 w4 ) :=
  fn_specG hU (P := Try.prog) Try.func127 (fun xs w => by kernel_rfl) 1 _ _ (fun _ => rfl) _ _ _ []
    [.o, .o, .o, .o]
    [] (fun b => by kernel_rfl)
inductive R_region_Mem_find_v4 where
  | e0 (c0_0 : Int)
  | e1 
noncomputable def m_region_Mem_find_v4 (y2 : Int) (w0 : Int) (w1 : Nat → BitVec 8) (w2 : Nat → BitVec 8) (w3 : Nat → Val) (w4 : Nat → Int) (w5 : Nat → Bool) : Option R_region_Mem_find_v4 :=
  bif m_region_inside_v2 w0 y2 (-512) 0 then
    (bif y2 == 0 then
      (some (.e0 0))
    else (some (.e0 (IntKind.i64.wrap (w0 - (-512))))))
  else (some (.e1))
def sq0_region_Mem_find_v4 (y2 : Int) (w0 : Int) (w1 : Nat → BitVec 8) (w2 : Nat → BitVec 8) (w3 : Nat → Val) (w4 : Nat → Int) (w5 : Nat → Bool) (c0_0 : Int) : Spc := ⟨fun ls => .call 49 #[.pointer (some ⟨(lget ls 0).n, 0, none⟩), .agg #[.int .i64 (2), .int .u64 (0), .int .i64 (1), .int .i64 (w0)], .int .i64 (y2)], fun ls => [.cells #[.map (some (lget ls 1).n), .int .i64 (1)] 91, .map #[⟨.int .i64 (1), .iface 93 (.pointer (some ⟨(lget ls 2).n, 0, none⟩)), 0⟩] 1, .cells ⟨segs [esG cu8 512 w1, esG cu8 64 w2, esG c_Val 64 w3, esG cZ 64 w4, esG cB 64 w5]⟩ 100], 0, .normal, fun ls => [.tuple #[.iface 93 (.pointer (some ⟨(lget ls 2).n, 0, none⟩)), .int .i64 (c0_0), .int .i64 (0)]], fun ls => [.cells #[.map (some (lget ls 1).n), .int .i64 (1)] 91, .map #[⟨.int .i64 (1), .iface 93 (.pointer (some ⟨(lget ls 2).n, 0, none⟩)), 0⟩] 1, .cells ⟨segs [esG cu8 512 w1, esG cu8 64 w2, esG c_Val 64 w3, esG cZ 64 w4, esG cB 64 w5]⟩ 100], fun ls => []⟩
def sq1_region_Mem_find_v4 (y2 : Int) (w0 : Int) (w1 : Nat → BitVec 8) (w2 : Nat → BitVec 8) (w3 : Nat → Val) (w4 : Nat → Int) (w5 : Nat → Bool)  : Spc := ⟨fun ls => .call 49 #[.pointer (some ⟨(lget ls 0).n, 0, none⟩), .agg #[.int .i64 (2), .int .u64 (0), .int .i64 (1), .int .i64 (w0)], .int .i64 (y2)], fun ls => [.cells #[.map (some (lget ls 1).n), .int .i64 (1)] 91, .map #[⟨.int .i64 (1), .iface 93 (.pointer (some ⟨(lget ls 2).n, 0, none⟩)), 0⟩] 1, .cells ⟨segs [esG cu8 512 w1, esG cu8 64 w2, esG c_Val 64 w3, esG cZ 64 w4, esG cB 64 w5]⟩ 100], 0, .normal, fun ls => [.tuple #[.nilIface, .int .i64 (0), .int .i64 (3)]], fun ls => [.cells #[.map (some (lget ls 1).n), .int .i64 (1)] 91, .map #[⟨.int .i64 (1), .iface 93 (.pointer (some ⟨(lget ls 2).n, 0, none⟩)), 0⟩] 1, .cells ⟨segs [esG cu8 512 w1, esG cu8 64 w2, esG c_Val 64 w3, esG cZ 64 w4, esG cB 64 w5]⟩ 100], fun ls => []⟩
end
section
variable {M : Nat → Prop} {B0 : Nat} {S : World → Prop} (hU : Up M B0 S) (y2 : Int) (w0 : Int) (w1 : Nat → BitVec 8) (w2 : Nat → BitVec 8) (w3 : Nat → Val) (w4 : Nat → Int) (w5 : Nat → Bool)
include hU y2 w0 w1 w2 w3 w4 w5
theorem ok0_region_Mem_find_v4 (c0_0 : Int) (e : m_region_Mem_find_v4 y2 w0 w1 w2 w3 w4 w5 = some (.e0 c0_0)) : SpcG Try.prog M B0 S (sq0_region_Mem_find_v4 y2 w0 w1 w2 w3 w4 w5 c0_0) := by
  unfold m_region_Mem_find_v4 at e
  replace e := cond_eq_or e
  rcases e with ⟨hq0, e⟩ | ⟨hq0, e⟩
  · replace e := cond_eq_or e
    rcases e with ⟨hq1, e⟩ | ⟨hq1, e⟩
    · injection e with e; injection e with i0; subst i0; exact fn_specG hU (P := Try.prog) Try.func49 (fun xs w => by kernel_rfl) 3 _ _ (fun _ => rfl) _ _ _ [] [.o, .o, .o, .o, .o, .a 3, .xg (p0_region_Mem_live_v3 hU w0 w1 w2 w3 w4 w5 ) [0, 1, 2], .o, .o, .o, .o, .o, .o, .o, .o, .xg (p0_region_frame_span_v2 hU w1 w2 w3 w4 w5 ) [2], .o, .o, .o, .o, .o, .o, .a 3, .o, .o, .o, .cg (ok_region_inside_v2 hU w0 y2 (-512) 0 true hq0), .o, .o, .b (z_eqlT hq1), .o, .o, .o, .o] [] (fun b => by kernel_rfl)
    · injection e with e; injection e with i0; subst i0; exact fn_specG hU (P := Try.prog) Try.func49 (fun xs w => by kernel_rfl) 3 _ _ (fun _ => rfl) _ _ _ [] [.o, .o, .o, .o, .o, .a 3, .xg (p0_region_Mem_live_v3 hU w0 w1 w2 w3 w4 w5 ) [0, 1, 2], .o, .o, .o, .o, .o, .o, .o, .o, .xg (p0_region_frame_span_v2 hU w1 w2 w3 w4 w5 ) [2], .o, .o, .o, .o, .o, .o, .a 3, .o, .o, .o, .cg (ok_region_inside_v2 hU w0 y2 (-512) 0 true hq0), .o, .o, .b (z_eqlF hq1), .r [0, 1, 2, 3, 4, 5, 6, 7] [] [], .o, .o, .a 3, .o, .o, .o, .o, .o] [] (fun b => by kernel_rfl)
  · cases e
theorem ok1_region_Mem_find_v4 (e : m_region_Mem_find_v4 y2 w0 w1 w2 w3 w4 w5 = some (.e1 )) : SpcG Try.prog M B0 S (sq1_region_Mem_find_v4 y2 w0 w1 w2 w3 w4 w5 ) := by
  unfold m_region_Mem_find_v4 at e
  replace e := cond_eq_or e
  rcases e with ⟨hq0, e⟩ | ⟨hq0, e⟩
  · replace e := cond_eq_or e
    rcases e with ⟨hq1, e⟩ | ⟨hq1, e⟩
    · cases e
    · cases e
  · exact fn_specG hU (P := Try.prog) Try.func49 (fun xs w => by kernel_rfl) 3 _ _ (fun _ => rfl) _ _ _ [] [.o, .o, .o, .o, .o, .a 3, .xg (p0_region_Mem_live_v3 hU w0 w1 w2 w3 w4 w5 ) [0, 1, 2], .o, .o, .o, .o, .o, .o, .o, .o, .xg (p0_region_frame_span_v2 hU w1 w2 w3 w4 w5 ) [2], .o, .o, .o, .o, .o, .o, .a 3, .o, .o, .o, .cg (ok_region_inside_v2 hU w0 y2 (-512) 0 false hq0), .o, .o, .o, .o] [] (fun b => by kernel_rfl)
inductive R_region_Mem_findFrame where
  | e0 (c0_0 : Int)
  | e1 
noncomputable def m_region_Mem_findFrame (w0 : Int) (w1 : Nat → BitVec 8) (w2 : Nat → BitVec 8) (w3 : Nat → Val) (w4 : Nat → Int) (w5 : Nat → Bool) : Option R_region_Mem_findFrame :=
  (m_region_Mem_find_v4 16 w0 w1 w2 w3 w4 w5).bind fun g0 => match g0 with
  | .e0 g0_0 => (some (.e0 g0_0))
  | .e1  => (some (.e1))
def sq0_region_Mem_findFrame (w0 : Int) (w1 : Nat → BitVec 8) (w2 : Nat → BitVec 8) (w3 : Nat → Val) (w4 : Nat → Int) (w5 : Nat → Bool) (c0_0 : Int) : Spc := ⟨fun ls => .call 51 #[.pointer (some ⟨(lget ls 0).n, 0, none⟩), .agg #[.int .i64 (2), .int .u64 (0), .int .i64 (1), .int .i64 (w0)]], fun ls => [.cells #[.map (some (lget ls 1).n), .int .i64 (1)] 91, .map #[⟨.int .i64 (1), .iface 93 (.pointer (some ⟨(lget ls 2).n, 0, none⟩)), 0⟩] 1, .cells ⟨segs [esG cu8 512 w1, esG cu8 64 w2, esG c_Val 64 w3, esG cZ 64 w4, esG cB 64 w5]⟩ 100], 0, .normal, fun ls => [.tuple #[.pointer (some ⟨(lget ls 2).n, 0, none⟩), .int .i64 (c0_0), .int .i64 (0)]], fun ls => [.cells #[.map (some (lget ls 1).n), .int .i64 (1)] 91, .map #[⟨.int .i64 (1), .iface 93 (.pointer (some ⟨(lget ls 2).n, 0, none⟩)), 0⟩] 1, .cells ⟨segs [esG cu8 512 w1, esG cu8 64 w2, esG c_Val 64 w3, esG cZ 64 w4, esG cB 64 w5]⟩ 100], fun ls => []⟩
def sq1_region_Mem_findFrame (w0 : Int) (w1 : Nat → BitVec 8) (w2 : Nat → BitVec 8) (w3 : Nat → Val) (w4 : Nat → Int) (w5 : Nat → Bool)  : Spc := ⟨fun ls => .call 51 #[.pointer (some ⟨(lget ls 0).n, 0, none⟩), .agg #[.int .i64 (2), .int .u64 (0), .int .i64 (1), .int .i64 (w0)]], fun ls => [.cells #[.map (some (lget ls 1).n), .int .i64 (1)] 91, .map #[⟨.int .i64 (1), .iface 93 (.pointer (some ⟨(lget ls 2).n, 0, none⟩)), 0⟩] 1, .cells ⟨segs [esG cu8 512 w1, esG cu8 64 w2, esG c_Val 64 w3, esG cZ 64 w4, esG cB 64 w5]⟩ 100], 0, .normal, fun ls => [.tuple #[.pointer none, .int .i64 (0), .int .i64 (3)]], fun ls => [.cells #[.map (some (lget ls 1).n), .int .i64 (1)] 91, .map #[⟨.int .i64 (1), .iface 93 (.pointer (some ⟨(lget ls 2).n, 0, none⟩)), 0⟩] 1, .cells ⟨segs [esG cu8 512 w1, esG cu8 64 w2, esG c_Val 64 w3, esG cZ 64 w4, esG cB 64 w5]⟩ 100], fun ls => []⟩
end
section
variable {M : Nat → Prop} {B0 : Nat} {S : World → Prop} (hU : Up M B0 S) (w0 : Int) (w1 : Nat → BitVec 8) (w2 : Nat → BitVec 8) (w3 : Nat → Val) (w4 : Nat → Int) (w5 : Nat → Bool)
include hU w0 w1 w2 w3 w4 w5
theorem ok0_region_Mem_findFrame (c0_0 : Int) (e : m_region_Mem_findFrame w0 w1 w2 w3 w4 w5 = some (.e0 c0_0)) : SpcG Try.prog M B0 S (sq0_region_Mem_findFrame w0 w1 w2 w3 w4 w5 c0_0) := by
  unfold m_region_Mem_findFrame at e
  replace e := bindO_eq e
  obtain ⟨g0, e_g0, e⟩ := e
  rcases g0 with ⟨g0_0⟩ | _
  · try dsimp only at e
    injection e with e; injection e with i0; subst i0; exact fn_specG hU (P := Try.prog) Try.func51 (fun xs w => by kernel_rfl) 3 _ _ (fun _ => rfl) _ _ _ [] [.o, .o, .o, .o, .o, .a 3, .xg (ok0_region_Mem_find_v4 hU 16 w0 w1 w2 w3 w4 w5 g0_0 e_g0) [0, 1, 2], .o, .o, .o, .o, .o, .o, .o, .o, .o, .o, .o, .o, .o, .o, .o, .o, .o, .o, .o, .o, .o, .o, .o] [] (fun b => by kernel_rfl)
  · try dsimp only at e
    cases e
theorem ok1_region_Mem_findFrame (e : m_region_Mem_findFrame w0 w1 w2 w3 w4 w5 = some (.e1 )) : SpcG Try.prog M B0 S (sq1_region_Mem_findFrame w0 w1 w2 w3 w4 w5 ) := by
  unfold m_region_Mem_findFrame at e
  replace e := bindO_eq e
  obtain ⟨g0, e_g0, e⟩ := e
  rcases g0 with ⟨g0_0⟩ | _
  · try dsimp only at e
    cases e
  · try dsimp only at e
    exact fn_specG hU (P := Try.prog) Try.func51 (fun xs w => by kernel_rfl) 3 _ _ (fun _ => rfl) _ _ _ [] [.o, .o, .o, .o, .o, .a 3, .xg (ok1_region_Mem_find_v4 hU 16 w0 w1 w2 w3 w4 w5  e_g0) [0, 1, 2], .o, .o, .o, .o, .o, .o, .o, .o, .o, .o, .o, .o, .o] [] (fun b => by kernel_rfl)
inductive R_region_frame_empty where
  | e0 (c0_0 : Nat → BitVec 8) (c0_1 : Nat → Val) (c0_2 : Nat → Int) (c0_3 : Nat → Bool)
noncomputable def m_region_frame_empty (y1 : Int) (w0 : Nat → BitVec 8) (w1 : Nat → BitVec 8) (w2 : Nat → Val) (w3 : Nat → Int) (w4 : Nat → Bool) : Option R_region_frame_empty :=
  bif inR y1 64 then
    (some (.e0 (updF w1 (y1).toNat (0#8)) (updF w2 (y1).toNat (⟨0, 0#64, 0, 0⟩ : Val)) (updF w3 (y1).toNat 0) (updF w4 (y1).toNat false)))
  else (none)
def sq0_region_frame_empty (y1 : Int) (w0 : Nat → BitVec 8) (w1 : Nat → BitVec 8) (w2 : Nat → Val) (w3 : Nat → Int) (w4 : Nat → Bool) (c0_0 : Nat → BitVec 8) (c0_1 : Nat → Val) (c0_2 : Nat → Int) (c0_3 : Nat → Bool) : Spc := ⟨fun ls => .call 67 #[.pointer (some ⟨(lget ls 0).n, 0, none⟩), .int .i64 (y1)], fun ls => [.cells ⟨segs [esG cu8 512 w0, esG cu8 64 w1, esG c_Val 64 w2, esG cZ 64 w3, esG cB 64 w4]⟩ 100], 0, .normal, fun ls => [.tuple #[]], fun ls => [.cells ⟨segs [esG cu8 512 w0, esG cu8 64 c0_0, esG c_Val 64 c0_1, esG cZ 64 c0_2, esG cB 64 c0_3]⟩ 100], fun ls => []⟩
end
section
variable {M : Nat → Prop} {B0 : Nat} {S : World → Prop} (hU : Up M B0 S) (y1 : Int)
include hU y1
theorem ok0_region_frame_empty (w0 : Nat → BitVec 8) (w1 : Nat → BitVec 8) (w2 : Nat → Val) (w3 : Nat → Int) (w4 : Nat → Bool) (c0_0 : Nat → BitVec 8) (c0_1 : Nat → Val) (c0_2 : Nat → Int) (c0_3 : Nat → Bool) (e : m_region_frame_empty y1 w0 w1 w2 w3 w4 = some (.e0 c0_0 c0_1 c0_2 c0_3)) : SpcG Try.prog M B0 S (sq0_region_frame_empty y1 w0 w1 w2 w3 w4 c0_0 c0_1 c0_2 c0_3) := by
  unfold m_region_frame_empty at e
  replace e := cond_eq_or e
  rcases e with ⟨hq0, e⟩ | ⟨hq0, e⟩
  · injection e with e; injection e with i0 i1 i2 i3; subst i0 i1 i2 i3; exact fn_specG hU (P := Try.prog) Try.func67 (fun xs w => by kernel_rfl) 1 _ _ (fun _ => rfl) _ _ _ [] [.o, .o, .o, .o, .o, .q (ixA_ok (kd := .i64) (T := 96) (x := y1) (sz := 4) (N := 64) rfl rfl (fun w => by kernel_rfl) hq0), .x (sqSg_ok (T := 28) (e := 100) (f := c_Val) (N := 64) (A := w2) (v := (⟨0, 0#64, 0, 0⟩ : Val)) (pre := [esG cu8 512 w0, esG cu8 64 w1]) (post := [esG cZ 64 w3, esG cB 64 w4]) (off := 576) (sgc (esG_len cu8_len) (sgc (esG_len cu8_len) sg0)) rfl 0 (.agg #[.int .i64 (0), .int .u64 (0), .int .i64 (0), .int .i64 (0)]) c_Val_len c_Val_one rfl rfl (fun w => by kernel_rfl) (inR_nat hq0) rfl) [0], .o, .o, .o, .o, .q (ixA_ok (kd := .i64) (T := 95) (x := y1) (sz := 1) (N := 64) rfl rfl (fun w => by kernel_rfl) hq0), .x (sqSg_ok (T := 5) (e := 100) (f := cu8) (N := 64) (A := w1) (v := 0#8) (pre := [esG cu8 512 w0]) (post := [esG c_Val 64 (updF w2 (y1).toNat (⟨0, 0#64, 0, 0⟩ : Val)), esG cZ 64 w3, esG cB 64 w4]) (off := 512) (sgc (esG_len cu8_len) sg0) rfl 0 (.int .u8 (0)) cu8_len cu8_one rfl rfl (fun w => by kernel_rfl) (inR_nat hq0) rfl) [0], .o, .o, .o, .o, .q (ixA_ok (kd := .i64) (T := 97) (x := y1) (sz := 1) (N := 64) rfl rfl (fun w => by kernel_rfl) hq0), .x (sqSg_ok (T := 3) (e := 100) (f := cZ) (N := 64) (A := w3) (v := 0) (pre := [esG cu8 512 w0, esG cu8 64 (updF w1 (y1).toNat (0#8)), esG c_Val 64 (updF w2 (y1).toNat (⟨0, 0#64, 0, 0⟩ : Val))]) (post := [esG cB 64 w4]) (off := 832) (sgc (esG_len cu8_len) (sgc (esG_len cu8_len) (sgc (esG_len c_Val_len) sg0))) rfl 0 (.int .i64 (0)) cZ_len cZ_one rfl rfl (fun w => by kernel_rfl) (inR_nat hq0) rfl) [0], .o, .o, .o, .o, .q (ixA_ok (kd := .i64) (T := 98) (x := y1) (sz := 1) (N := 64) rfl rfl (fun w => by kernel_rfl) hq0), .x (sqSg_ok (T := 4) (e := 100) (f := cB) (N := 64) (A := w4) (v := false) (pre := [esG cu8 512 w0, esG cu8 64 (updF w1 (y1).toNat (0#8)), esG c_Val 64 (updF w2 (y1).toNat (⟨0, 0#64, 0, 0⟩ : Val)), esG cZ 64 (updF w3 (y1).toNat 0)]) (post := []) (off := 896) (sgc (esG_len cu8_len) (sgc (esG_len cu8_len) (sgc (esG_len c_Val_len) (sgc (esG_len cZ_len) sg0)))) rfl 0 (.bool false) cB_len cB_one rfl rfl (fun w => by kernel_rfl) (inR_nat hq0) rfl) [0]] [] (fun b => by kernel_rfl)
  · exact none_some e
inductive Sh_region_frame_mark_L0 where
  | c0 (s0_0 : Nat → BitVec 8) (s0_1 : Nat → Val) (s0_2 : Nat → Int) (s0_3 : Nat → Bool) (s0_4 : Int)
inductive Ex_region_frame_mark_L0 where
  | e0 (c0_0 : Nat → BitVec 8) (c0_1 : Nat → Val) (c0_2 : Nat → Int) (c0_3 : Nat → Bool)
noncomputable def st_region_frame_mark_L0 (y1 : Int) (y2 : Int) (w0 : Nat → BitVec 8) : Sh_region_frame_mark_L0 → Option (Sh_region_frame_mark_L0 ⊕ Ex_region_frame_mark_L0)
  | .c0 s0_0 s0_1 s0_2 s0_3 s0_4 =>
    bif decide (s0_4 < (IntKind.i64.wrap (y1 + 2))) then
      ((m_region_frame_empty s0_4 w0 s0_0 s0_1 s0_2 s0_3).bind fun gb0 => match gb0 with
      | .e0 gb0_0 gb0_1 gb0_2 gb0_3 =>
      bif inR s0_4 64 then
        (some (.inl (.c0 gb0_0 gb0_1 (updF gb0_2 (s0_4).toNat y2) gb0_3 (IntKind.i64.wrap (s0_4 + 1)))))
      else (none))
    else (some (.inr (.e0 s0_0 s0_1 s0_2 s0_3)))
noncomputable def bd_region_frame_mark_L0 : Code := codeOf Try.f52 [1, 1, 0, 1, 0, 0]
def fl_region_frame_mark_L0 (y1 : Int) (y2 : Int) (w0 : Nat → BitVec 8) (w1 : Nat → BitVec 8) (w2 : Nat → Val) (w3 : Nat → Int) (w4 : Nat → Bool) : Sh_region_frame_mark_L0 → List L1 → List Value
  | .c0 s0_0 s0_1 s0_2 s0_3 s0_4, ls => [.pointer (some ⟨(lget ls 0).n, 0, none⟩), .int .i64 (y1), .int .i64 (y2), .int .i64 (0), .int .i64 (s0_4)]
def mf_region_frame_mark_L0 : Sh_region_frame_mark_L0 → List (Nat × Nat)
  | .c0 _ _ _ _ _ => [(3, 3), (2, 38)]
noncomputable def fr_region_frame_mark_L0 (y1 : Int) (y2 : Int) (w0 : Nat → BitVec 8) (w1 : Nat → BitVec 8) (w2 : Nat → Val) (w3 : Nat → Int) (w4 : Nat → Bool) (s : Sh_region_frame_mark_L0) : List L1 → List Value := mrgF (mf_region_frame_mark_L0 s) (fl_region_frame_mark_L0 y1 y2 w0 w1 w2 w3 w4 s) 1
def Hs_region_frame_mark_L0 (y1 : Int) (y2 : Int) (w0 : Nat → BitVec 8) (w1 : Nat → BitVec 8) (w2 : Nat → Val) (w3 : Nat → Int) (w4 : Nat → Bool) : Sh_region_frame_mark_L0 → List L1 → List Obj
  | .c0 s0_0 s0_1 s0_2 s0_3 s0_4, ls => [.cells ⟨segs [esG cu8 512 w0, esG cu8 64 s0_0, esG c_Val 64 s0_1, esG cZ 64 s0_2, esG cB 64 s0_3]⟩ 100, unb]
def vl_region_frame_mark_L0 (y1 : Int) (y2 : Int) (w0 : Nat → BitVec 8) (w1 : Nat → BitVec 8) (w2 : Nat → Val) (w3 : Nat → Int) (w4 : Nat → Bool) : Ex_region_frame_mark_L0 → List L1 → List Value
  | .e0 c0_0 c0_1 c0_2 c0_3, ls => [.pointer (some ⟨(lget ls 0).n, 0, none⟩), .int .i64 (y1), .int .i64 (y2), .int .i64 (0)]
def mk_region_frame_mark_L0 : Ex_region_frame_mark_L0 → List (Nat × Nat)
  | .e0 _ _ _ _ => [(3, 3), (1, 39)]
noncomputable def vf_region_frame_mark_L0 (y1 : Int) (y2 : Int) (w0 : Nat → BitVec 8) (w1 : Nat → BitVec 8) (w2 : Nat → Val) (w3 : Nat → Int) (w4 : Nat → Bool) (r : Ex_region_frame_mark_L0) : List L1 → List Value := mrgF (mk_region_frame_mark_L0 r) (vl_region_frame_mark_L0 y1 y2 w0 w1 w2 w3 w4 r) 1
def Hf_region_frame_mark_L0 (y1 : Int) (y2 : Int) (w0 : Nat → BitVec 8) (w1 : Nat → BitVec 8) (w2 : Nat → Val) (w3 : Nat → Int) (w4 : Nat → Bool) : Ex_region_frame_mark_L0 → List L1 → List Obj
  | .e0 c0_0 c0_1 c0_2 c0_3, ls => [.cells ⟨segs [esG cu8 512 w0, esG cu8 64 c0_0, esG c_Val 64 c0_1, esG cZ 64 c0_2, esG cB 64 c0_3]⟩ 100, unb]
def ex_region_frame_mark_L0 : Ex_region_frame_mark_L0 → Ex
  | .e0 _ _ _ _ => (.exit 0)
end
section
variable {M : Nat → Prop} {B0 : Nat} {S : World → Prop} (hU : Up M B0 S) (y1 : Int) (y2 : Int) (w0 : Nat → BitVec 8) (w1 : Nat → BitVec 8) (w2 : Nat → Val) (w3 : Nat → Int) (w4 : Nat → Bool)
include hU y1 y2 w0 w1 w2 w3 w4
theorem go_region_frame_mark_L0 (s : Sh_region_frame_mark_L0) (r : Ex_region_frame_mark_L0) (h : lpO (st_region_frame_mark_L0 y1 y2 w0) s = some r) : GoesG Try.prog M B0 S (.loop bd_region_frame_mark_L0) 2 (fr_region_frame_mark_L0 y1 y2 w0 w1 w2 w3 w4 s) (Hs_region_frame_mark_L0 y1 y2 w0 w1 w2 w3 w4 s) (ex_region_frame_mark_L0 r) 1 (vf_region_frame_mark_L0 y1 y2 w0 w1 w2 w3 w4 r) (Hf_region_frame_mark_L0 y1 y2 w0 w1 w2 w3 w4 r) 2 :=
  goes_lpO (fun s q e => by
    cases s with
    | c0 s0_0 s0_1 s0_2 s0_3 s0_4 =>
      unfold st_region_frame_mark_L0 at e
      dsimp only at e
      replace e := cond_eq_or e
      rcases e with ⟨hq0, e⟩ | ⟨hq0, e⟩
      · replace e := bindO_eq e
        obtain ⟨gb0, e_gb0, e⟩ := e
        obtain ⟨gb0_0, gb0_1, gb0_2, gb0_3⟩ := gb0
        try dsimp only at e
        replace e := cond_eq_or e
        rcases e with ⟨hq1, e⟩ | ⟨hq1, e⟩
        · cases e; exact goes_runM hU [.o, .o, .o, .b (z_lssT hq0), .o, .o, .xg (ok0_region_frame_empty hU s0_4 w0 s0_0 s0_1 s0_2 s0_3 gb0_0 gb0_1 gb0_2 gb0_3 e_gb0) [0], .o, .o, .o, .o, .o, .q (ixA_ok (kd := .i64) (T := 97) (x := s0_4) (sz := 1) (N := 64) rfl rfl (fun w => by kernel_rfl) hq1), .x (sqSg_ok (T := 3) (e := 100) (f := cZ) (N := 64) (A := gb0_2) (v := y2) (pre := [esG cu8 512 w0, esG cu8 64 gb0_0, esG c_Val 64 gb0_1]) (post := [esG cB 64 gb0_3]) (off := 832) (sgc (esG_len cu8_len) (sgc (esG_len cu8_len) (sgc (esG_len c_Val_len) sg0))) rfl 0 (.int .i64 (y2)) cZ_len cZ_one rfl rfl (fun w => by kernel_rfl) (inR_nat hq1) rfl) [0], .o, .o, .o] [0] (fun b => rfl) (by decide) rfl rfl (fun b => by kernel_rfl)
        · exact none_some e
      · cases e; exact ⟨ne_exit 0, goes_runM hU [.o, .o, .o, .b (z_lssF hq0)] [0] (fun b => rfl) (by decide) rfl rfl (fun b => by kernel_rfl)⟩) s r h
noncomputable def t0_region_frame_mark_L0_0 (y1 : Int) (y2 : Int) (w0 : Nat → BitVec 8) (w1 : Nat → BitVec 8) (w2 : Nat → Val) (w3 : Nat → Int) (w4 : Nat → Bool) (s0_0 : Nat → BitVec 8) (s0_1 : Nat → Val) (s0_2 : Nat → Int) (s0_3 : Nat → Bool) (s0_4 : Int) (ls : List L1) : List Value := List.append [.pointer (some ⟨(lget ls 0).n, 0, none⟩), .int .i64 (y1), .int .i64 (y2), undef, undef, undef, .int .i64 (0), .int .i64 (s0_4), .pointer (some ⟨(lget ls 0).n, 0, none⟩), .int .i64 (y1), .pointer (some ⟨(lget ls 0).n, 0, none⟩), .pointer (some ⟨(lget ls 0).n, 832, none⟩), .pointer (some ⟨(lget ls 0).n, 832 + (y1).toNat * 1, none⟩), .int .i64 ((w3 (y1).toNat)), .bool false, .bool false, .pointer (some ⟨(lget ls 0).n, 0, none⟩), .int .i64 (y1), .int .i64 ((IntKind.i64.wrap (y1 + 1))), .pointer (some ⟨(lget ls 0).n, 0, none⟩), .pointer (some ⟨(lget ls 0).n, 832, none⟩), .pointer (some ⟨(lget ls 0).n, 832 + ((IntKind.i64.wrap (y1 + 1))).toNat * 1, none⟩), .int .i64 ((w3 ((IntKind.i64.wrap (y1 + 1))).toNat)), .bool false, .bool false, .int .i64 (y1)] (und 20)
def pre_region_frame_mark_L0_0 (y1 : Int) (y2 : Int) (w0 : Nat → BitVec 8) (w1 : Nat → BitVec 8) (w2 : Nat → Val) (w3 : Nat → Int) (w4 : Nat → Bool) (s0_0 : Nat → BitVec 8) (s0_1 : Nat → Val) (s0_2 : Nat → Int) (s0_3 : Nat → Bool) (s0_4 : Int) (ls : List L1) : List Obj := [.cells ⟨segs [esG cu8 512 w0, esG cu8 64 s0_0, esG c_Val 64 s0_1, esG cZ 64 s0_2, esG cB 64 s0_3]⟩ 100]
theorem sp0_region_frame_mark_L0_0_ok (s0_0 : Nat → BitVec 8) (s0_1 : Nat → Val) (s0_2 : Nat → Int) (s0_3 : Nat → Bool) (s0_4 : Int) (c0_0 : Nat → BitVec 8) (c0_1 : Nat → Val) (c0_2 : Nat → Int) (c0_3 : Nat → Bool) (h : lpO (st_region_frame_mark_L0 y1 y2 w0) (.c0 s0_0 s0_1 s0_2 s0_3 s0_4) = some (.e0 c0_0 c0_1 c0_2 c0_3)) : SpcG Try.prog M B0 S ⟨fun ls => .code (.loop bd_region_frame_mark_L0) (t0_region_frame_mark_L0_0 y1 y2 w0 w1 w2 w3 w4 s0_0 s0_1 s0_2 s0_3 s0_4 ls), pre_region_frame_mark_L0_0 y1 y2 w0 w1 w2 w3 w4 s0_0 s0_1 s0_2 s0_3 s0_4, 1, (.exit 0), fun ls => vf_region_frame_mark_L0 y1 y2 w0 w1 w2 w3 w4 (.e0 c0_0 c0_1 c0_2 c0_3) (ls.take 1 ++ ls.drop 1), fun ls => (Hf_region_frame_mark_L0 y1 y2 w0 w1 w2 w3 w4 (.e0 c0_0 c0_1 c0_2 c0_3) (ls.take 1 ++ ls.drop 1)).take 1 ++ List.replicate 0 unb, fun ls => (Hf_region_frame_mark_L0 y1 y2 w0 w1 w2 w3 w4 (.e0 c0_0 c0_1 c0_2 c0_3) (ls.take 1 ++ ls.drop 1)).drop 1⟩ :=
  spc_of_goesM hU 0 (k0 := 1) (go_region_frame_mark_L0 hU y1 y2 w0 w1 w2 w3 w4 _ _ h) (t0_region_frame_mark_L0_0 y1 y2 w0 w1 w2 w3 w4 s0_0 s0_1 s0_2 s0_3 s0_4) (pre_region_frame_mark_L0_0 y1 y2 w0 w1 w2 w3 w4 s0_0 s0_1 s0_2 s0_3 s0_4) (fun _ => rfl) (fun ls h => by match ls, h with | [l0], _ => exact ⟨by kernel_rfl, by kernel_rfl⟩) (fun ls h => by match ls, h with | [l0], _ => rfl) (by decide) (by decide) (fun ls => rfl)
inductive R_region_frame_mark where
  | e0 (c0_0 : Nat → BitVec 8) (c0_1 : Nat → Val) (c0_2 : Nat → Int) (c0_3 : Nat → Bool) (c0_4 : Int)
noncomputable def m_region_frame_mark (y1 : Int) (y2 : Int) (w0 : Nat → BitVec 8) (w1 : Nat → BitVec 8) (w2 : Nat → Val) (w3 : Nat → Int) (w4 : Nat → Bool) : Option R_region_frame_mark :=
  bif inR y1 64 then
    (bif (w3 (y1).toNat) == 0 then
      (bif inR (IntKind.i64.wrap (y1 + 1)) 64 then
        (bif (w3 ((IntKind.i64.wrap (y1 + 1))).toNat) == 0 then
          ((lpO (st_region_frame_mark_L0 y1 y2 w0) (.c0 w1 w2 w3 w4 y1)).bind fun g0 => match g0 with
          | .e0 g0_0 g0_1 g0_2 g0_3 =>
          some (.e0 g0_0 g0_1 g0_2 (updF g0_3 (y1).toNat true) 0))
        else (some (.e0 w1 w2 w3 w4 14)))
      else (none))
    else (some (.e0 w1 w2 w3 w4 14)))
  else (none)
def sq0_region_frame_mark (y1 : Int) (y2 : Int) (w0 : Nat → BitVec 8) (w1 : Nat → BitVec 8) (w2 : Nat → Val) (w3 : Nat → Int) (w4 : Nat → Bool) (c0_0 : Nat → BitVec 8) (c0_1 : Nat → Val) (c0_2 : Nat → Int) (c0_3 : Nat → Bool) (c0_4 : Int) : Spc := ⟨fun ls => .call 52 #[.pointer (some ⟨(lget ls 0).n, 0, none⟩), .int .i64 (y1), .int .i64 (y2)], fun ls => [.cells ⟨segs [esG cu8 512 w0, esG cu8 64 w1, esG c_Val 64 w2, esG cZ 64 w3, esG cB 64 w4]⟩ 100], 0, .normal, fun ls => [.int .i64 (c0_4)], fun ls => [.cells ⟨segs [esG cu8 512 w0, esG cu8 64 c0_0, esG c_Val 64 c0_1, esG cZ 64 c0_2, esG cB 64 c0_3]⟩ 100], fun ls => []⟩
theorem ok0_region_frame_mark (c0_0 : Nat → BitVec 8) (c0_1 : Nat → Val) (c0_2 : Nat → Int) (c0_3 : Nat → Bool) (c0_4 : Int) (e : m_region_frame_mark y1 y2 w0 w1 w2 w3 w4 = some (.e0 c0_0 c0_1 c0_2 c0_3 c0_4)) : SpcG Try.prog M B0 S (sq0_region_frame_mark y1 y2 w0 w1 w2 w3 w4 c0_0 c0_1 c0_2 c0_3 c0_4) := by
  unfold m_region_frame_mark at e
  replace e := cond_eq_or e
  rcases e with ⟨hq0, e⟩ | ⟨hq0, e⟩
  · replace e := cond_eq_or e
    rcases e with ⟨hq1, e⟩ | ⟨hq1, e⟩
    · replace e := cond_eq_or e
      rcases e with ⟨hq2, e⟩ | ⟨hq2, e⟩
      · replace e := cond_eq_or e
        rcases e with ⟨hq3, e⟩ | ⟨hq3, e⟩
        · replace e := bindO_eq e
          obtain ⟨g0, e_g0, e⟩ := e
          obtain ⟨g0_0, g0_1, g0_2, g0_3⟩ := g0
          try dsimp only at e
          injection e with e; injection e with i0 i1 i2 i3 i4; subst i0 i1 i2 i3 i4; exact fn_specG hU (P := Try.prog) Try.func52 (fun xs w => by kernel_rfl) 1 _ _ (fun _ => rfl) _ _ _ [] [.o, .o, .o, .o, .o, .q (ixA_ok (kd := .i64) (T := 97) (x := y1) (sz := 1) (N := 64) rfl rfl (fun w => by kernel_rfl) hq0), .l (accSg (i := 0) (f := cZ) (N := 64) (A := w3) (k := (y1).toNat) (pre := [esG cu8 512 w0, esG cu8 64 w1, esG c_Val 64 w2]) (post := [esG cB 64 w4]) (off := 832) (sgc (esG_len cu8_len) (sgc (esG_len cu8_len) (sgc (esG_len c_Val_len) sg0))) rfl 0 [.int .i64 ((w3 (y1).toNat))] cZ_len (inR_nat hq0) rfl), .b (z_neqT hq1), .o, .o, .o, .o, .o, .o, .q (ixA_ok (kd := .i64) (T := 97) (x := (IntKind.i64.wrap (y1 + 1))) (sz := 1) (N := 64) rfl rfl (fun w => by kernel_rfl) hq2), .l (accSg (i := 0) (f := cZ) (N := 64) (A := w3) (k := ((IntKind.i64.wrap (y1 + 1))).toNat) (pre := [esG cu8 512 w0, esG cu8 64 w1, esG c_Val 64 w2]) (post := [esG cB 64 w4]) (off := 832) (sgc (esG_len cu8_len) (sgc (esG_len cu8_len) (sgc (esG_len c_Val_len) sg0))) rfl 0 [.int .i64 ((w3 ((IntKind.i64.wrap (y1 + 1))).toNat))] cZ_len (inR_nat hq2) rfl), .b (z_neqT hq3), .o, .o, .o, .cp, .cx (sp0_region_frame_mark_L0_0_ok hU y1 y2 w0 w1 w2 w3 w4 w1 w2 w3 w4 y1 g0_0 g0_1 g0_2 g0_3 e_g0) [0], .o, .o, .o, .o, .q (ixA_ok (kd := .i64) (T := 98) (x := y1) (sz := 1) (N := 64) rfl rfl (fun w => by kernel_rfl) hq0), .x (sqSg_ok (T := 4) (e := 100) (f := cB) (N := 64) (A := g0_3) (v := true) (pre := [esG cu8 512 w0, esG cu8 64 g0_0, esG c_Val 64 g0_1, esG cZ 64 g0_2]) (post := []) (off := 896) (sgc (esG_len cu8_len) (sgc (esG_len cu8_len) (sgc (esG_len c_Val_len) (sgc (esG_len cZ_len) sg0)))) rfl 0 (.bool true) cB_len cB_one rfl rfl (fun w => by kernel_rfl) (inR_nat hq0) rfl) [0], .o] [] (fun b => by kernel_rfl)
        · injection e with e; injection e with i0 i1 i2 i3 i4; subst i0 i1 i2 i3 i4; exact fn_specG hU (P := Try.prog) Try.func52 (fun xs w => by kernel_rfl) 1 _ _ (fun _ => rfl) _ _ _ [] [.o, .o, .o, .o, .o, .q (ixA_ok (kd := .i64) (T := 97) (x := y1) (sz := 1) (N := 64) rfl rfl (fun w => by kernel_rfl) hq0), .l (accSg (i := 0) (f := cZ) (N := 64) (A := w3) (k := (y1).toNat) (pre := [esG cu8 512 w0, esG cu8 64 w1, esG c_Val 64 w2]) (post := [esG cB 64 w4]) (off := 832) (sgc (esG_len cu8_len) (sgc (esG_len cu8_len) (sgc (esG_len c_Val_len) sg0))) rfl 0 [.int .i64 ((w3 (y1).toNat))] cZ_len (inR_nat hq0) rfl), .b (z_neqT hq1), .o, .o, .o, .o, .o, .o, .q (ixA_ok (kd := .i64) (T := 97) (x := (IntKind.i64.wrap (y1 + 1))) (sz := 1) (N := 64) rfl rfl (fun w => by kernel_rfl) hq2), .l (accSg (i := 0) (f := cZ) (N := 64) (A := w3) (k := ((IntKind.i64.wrap (y1 + 1))).toNat) (pre := [esG cu8 512 w0, esG cu8 64 w1, esG c_Val 64 w2]) (post := [esG cB 64 w4]) (off := 832) (sgc (esG_len cu8_len) (sgc (esG_len cu8_len) (sgc (esG_len c_Val_len) sg0))) rfl 0 [.int .i64 ((w3 ((IntKind.i64.wrap (y1 + 1))).toNat))] cZ_len (inR_nat hq2) rfl), .b (z_neqF hq3), .o, .o] [] (fun b => by kernel_rfl)
      · exact none_some e
    · injection e with e; injection e with i0 i1 i2 i3 i4; subst i0 i1 i2 i3 i4; exact fn_specG hU (P := Try.prog) Try.func52 (fun xs w => by kernel_rfl) 1 _ _ (fun _ => rfl) _ _ _ [] [.o, .o, .o, .o, .o, .q (ixA_ok (kd := .i64) (T := 97) (x := y1) (sz := 1) (N := 64) rfl rfl (fun w => by kernel_rfl) hq0), .l (accSg (i := 0) (f := cZ) (N := 64) (A := w3) (k := (y1).toNat) (pre := [esG cu8 512 w0, esG cu8 64 w1, esG c_Val 64 w2]) (post := [esG cB 64 w4]) (off := 832) (sgc (esG_len cu8_len) (sgc (esG_len cu8_len) (sgc (esG_len c_Val_len) sg0))) rfl 0 [.int .i64 ((w3 (y1).toNat))] cZ_len (inR_nat hq0) rfl), .b (z_neqF hq1), .o, .o, .o] [] (fun b => by kernel_rfl)
  · exact none_some e
inductive R_region_Mem_Mark where
  | e0 (c0_0 : Nat → BitVec 8) (c0_1 : Nat → Val) (c0_2 : Nat → Int) (c0_3 : Nat → Bool) (c0_4 : Int)
noncomputable def m_region_Mem_Mark (y2 : Int) (w0 : Int) (w1 : Nat → BitVec 8) (w2 : Nat → BitVec 8) (w3 : Nat → Val) (w4 : Nat → Int) (w5 : Nat → Bool) : Option R_region_Mem_Mark :=
  bif (zrem w0 8) == 0 then
    (bif y2 == 0 then
      (some (.e0 w2 w3 w4 w5 8))
    else ((m_region_Mem_findFrame w0 w1 w2 w3 w4 w5).bind fun g0 => match g0 with
    | .e0 g0_0 => ((m_region_frame_mark (zquo g0_0 8) y2 w1 w2 w3 w4 w5).bind fun g1 => match g1 with
      | .e0 g1_0 g1_1 g1_2 g1_3 g1_4 =>
      some (.e0 g1_0 g1_1 g1_2 g1_3 g1_4))
    | .e1  => (some (.e0 w2 w3 w4 w5 3))))
  else (some (.e0 w2 w3 w4 w5 8))
def sq0_region_Mem_Mark (y2 : Int) (w0 : Int) (w1 : Nat → BitVec 8) (w2 : Nat → BitVec 8) (w3 : Nat → Val) (w4 : Nat → Int) (w5 : Nat → Bool) (c0_0 : Nat → BitVec 8) (c0_1 : Nat → Val) (c0_2 : Nat → Int) (c0_3 : Nat → Bool) (c0_4 : Int) : Spc := ⟨fun ls => .call 22 #[.pointer (some ⟨(lget ls 0).n, 0, none⟩), .agg #[.int .i64 (2), .int .u64 (0), .int .i64 (1), .int .i64 (w0)], .int .i64 (y2)], fun ls => [.cells #[.map (some (lget ls 1).n), .int .i64 (1)] 91, .map #[⟨.int .i64 (1), .iface 93 (.pointer (some ⟨(lget ls 2).n, 0, none⟩)), 0⟩] 1, .cells ⟨segs [esG cu8 512 w1, esG cu8 64 w2, esG c_Val 64 w3, esG cZ 64 w4, esG cB 64 w5]⟩ 100], 0, .normal, fun ls => [.int .i64 (c0_4)], fun ls => [.cells #[.map (some (lget ls 1).n), .int .i64 (1)] 91, .map #[⟨.int .i64 (1), .iface 93 (.pointer (some ⟨(lget ls 2).n, 0, none⟩)), 0⟩] 1, .cells ⟨segs [esG cu8 512 w1, esG cu8 64 c0_0, esG c_Val 64 c0_1, esG cZ 64 c0_2, esG cB 64 c0_3]⟩ 100], fun ls => []⟩
end
section
variable {M : Nat → Prop} {B0 : Nat} {S : World → Prop} (hU : Up M B0 S)
include hU
theorem ok0_region_Mem_Mark (y2 : Int) (w0 : Int) (w1 : Nat → BitVec 8) (w2 : Nat → BitVec 8) (w3 : Nat → Val) (w4 : Nat → Int) (w5 : Nat → Bool) (c0_0 : Nat → BitVec 8) (c0_1 : Nat → Val) (c0_2 : Nat → Int) (c0_3 : Nat → Bool) (c0_4 : Int) (e : m_region_Mem_Mark y2 w0 w1 w2 w3 w4 w5 = some (.e0 c0_0 c0_1 c0_2 c0_3 c0_4)) : SpcG Try.prog M B0 S (sq0_region_Mem_Mark y2 w0 w1 w2 w3 w4 w5 c0_0 c0_1 c0_2 c0_3 c0_4) := by
  unfold m_region_Mem_Mark at e
  replace e := cond_eq_or e
  rcases e with ⟨hq0, e⟩ | ⟨hq0, e⟩
  · replace e := cond_eq_or e
    rcases e with ⟨hq1, e⟩ | ⟨hq1, e⟩
    · injection e with e; injection e with i0 i1 i2 i3 i4; subst i0 i1 i2 i3 i4; exact fn_specG hU (P := Try.prog) Try.func22 (fun xs w => by kernel_rfl) 3 _ _ (fun _ => rfl) _ _ _ [] [.o, .o, .o, .a 3, .o, .o, .o, .a 3, .ov (z_rem Try.prog 2 (.tmp 15) (.const (.int .i64 (8))) w0 8 (by decide)), .b (z_neqT hq0), .o, .o, .o, .b (z_eqlT hq1), .o, .o] [] (fun b => by kernel_rfl)
    · replace e := bindO_eq e
      obtain ⟨g0, e_g0, e⟩ := e
      rcases g0 with ⟨g0_0⟩ | _
      · try dsimp only at e
        replace e := bindO_eq e
        obtain ⟨g1, e_g1, e⟩ := e
        obtain ⟨g1_0, g1_1, g1_2, g1_3, g1_4⟩ := g1
        try dsimp only at e
        injection e with e; injection e with i0 i1 i2 i3 i4; subst i0 i1 i2 i3 i4; exact fn_specG hU (P := Try.prog) Try.func22 (fun xs w => by kernel_rfl) 3 _ _ (fun _ => rfl) _ _ _ [] [.o, .o, .o, .a 3, .o, .o, .o, .a 3, .ov (z_rem Try.prog 2 (.tmp 15) (.const (.int .i64 (8))) w0 8 (by decide)), .b (z_neqT hq0), .o, .o, .o, .b (z_eqlF hq1), .o, .o, .a 3, .xg (ok0_region_Mem_findFrame hU w0 w1 w2 w3 w4 w5 g0_0 e_g0) [0, 1, 2], .o, .o, .o, .o, .o, .o, .o, .o, .o, .o, .o, .ov (z_quo Try.prog 3 (.tmp 34) (.const (.int .i64 (8))) g0_0 8 (by decide)), .o, .xg (ok0_region_frame_mark hU (zquo g0_0 8) y2 w1 w2 w3 w4 w5 g1_0 g1_1 g1_2 g1_3 g1_4 e_g1) [2], .o] [] (fun b => by kernel_rfl)
      · try dsimp only at e
        injection e with e; injection e with i0 i1 i2 i3 i4; subst i0 i1 i2 i3 i4; exact fn_specG hU (P := Try.prog) Try.func22 (fun xs w => by kernel_rfl) 3 _ _ (fun _ => rfl) _ _ _ [] [.o, .o, .o, .a 3, .o, .o, .o, .a 3, .ov (z_rem Try.prog 2 (.tmp 15) (.const (.int .i64 (8))) w0 8 (by decide)), .b (z_neqT hq0), .o, .o, .o, .b (z_eqlF hq1), .o, .o, .a 3, .xg (ok1_region_Mem_findFrame hU w0 w1 w2 w3 w4 w5  e_g0) [0, 1, 2], .o, .o, .o, .o, .o, .o, .o, .o, .o, .o, .o] [] (fun b => by kernel_rfl)
  · injection e with e; injection e with i0 i1 i2 i3 i4; subst i0 i1 i2 i3 i4; exact fn_specG hU (P := Try.prog) Try.func22 (fun xs w => by kernel_rfl) 3 _ _ (fun _ => rfl) _ _ _ [] [.o, .o, .o, .a 3, .o, .o, .o, .a 3, .ov (z_rem Try.prog 2 (.tmp 15) (.const (.int .i64 (8))) w0 8 (by decide)), .b (z_neqF hq0), .o, .o, .o, .o] [] (fun b => by kernel_rfl)
inductive R_region_frame_tagAt where
  | e0 (c0_0 : Int) (c0_1 : Int)
noncomputable def m_region_frame_tagAt (y1 : Int) (w0 : Nat → BitVec 8) (w1 : Nat → BitVec 8) (w2 : Nat → Val) (w3 : Nat → Int) (w4 : Nat → Bool) : Option R_region_frame_tagAt :=
  bif (zrem y1 8) == 0 then
    (bif inR (zquo y1 8) 64 then
      (bif (w4 ((zquo y1 8)).toNat) then
        (some (.e0 (w3 ((zquo y1 8)).toNat) 0))
      else (some (.e0 0 14)))
    else (none))
  else (some (.e0 0 14))
def sq0_region_frame_tagAt (y1 : Int) (w0 : Nat → BitVec 8) (w1 : Nat → BitVec 8) (w2 : Nat → Val) (w3 : Nat → Int) (w4 : Nat → Bool) (c0_0 : Int) (c0_1 : Int) : Spc := ⟨fun ls => .call 53 #[.pointer (some ⟨(lget ls 0).n, 0, none⟩), .int .i64 (y1)], fun ls => [.cells ⟨segs [esG cu8 512 w0, esG cu8 64 w1, esG c_Val 64 w2, esG cZ 64 w3, esG cB 64 w4]⟩ 100], 0, .normal, fun ls => [.tuple #[.int .i64 (c0_0), .int .i64 (c0_1)]], fun ls => [.cells ⟨segs [esG cu8 512 w0, esG cu8 64 w1, esG c_Val 64 w2, esG cZ 64 w3, esG cB 64 w4]⟩ 100], fun ls => []⟩
theorem ok0_region_frame_tagAt (y1 : Int) (w0 : Nat → BitVec 8) (w1 : Nat → BitVec 8) (w2 : Nat → Val) (w3 : Nat → Int) (w4 : Nat → Bool) (c0_0 : Int) (c0_1 : Int) (e : m_region_frame_tagAt y1 w0 w1 w2 w3 w4 = some (.e0 c0_0 c0_1)) : SpcG Try.prog M B0 S (sq0_region_frame_tagAt y1 w0 w1 w2 w3 w4 c0_0 c0_1) := by
  unfold m_region_frame_tagAt at e
  replace e := cond_eq_or e
  rcases e with ⟨hq0, e⟩ | ⟨hq0, e⟩
  · replace e := cond_eq_or e
    rcases e with ⟨hq1, e⟩ | ⟨hq1, e⟩
    · replace e := cond_eq_or e
      rcases e with ⟨hq2, e⟩ | ⟨hq2, e⟩
      · injection e with e; injection e with i0 i1; subst i0 i1; exact fn_specG hU (P := Try.prog) Try.func53 (fun xs w => by kernel_rfl) 1 _ _ (fun _ => rfl) _ _ _ [] [.o, .o, .o, .ov (z_rem Try.prog 3 (.tmp 6) (.const (.int .i64 (8))) y1 8 (by decide)), .b (z_neqT hq0), .o, .o, .o, .ov (z_quo Try.prog 3 (.tmp 11) (.const (.int .i64 (8))) y1 8 (by decide)), .o, .o, .q (ixA_ok (kd := .i64) (T := 98) (x := (zquo y1 8)) (sz := 1) (N := 64) rfl rfl (fun w => by kernel_rfl) hq1), .l (accSg (i := 0) (f := cB) (N := 64) (A := w4) (k := ((zquo y1 8)).toNat) (pre := [esG cu8 512 w0, esG cu8 64 w1, esG c_Val 64 w2, esG cZ 64 w3]) (post := []) (off := 896) (sgc (esG_len cu8_len) (sgc (esG_len cu8_len) (sgc (esG_len c_Val_len) (sgc (esG_len cZ_len) sg0)))) rfl 0 [.bool true] cB_len (inR_nat hq1) (congrArg (fun b => [Value.bool b]) hq2)), .o, .o, .o, .o, .ov (z_quo Try.prog 3 (.tmp 20) (.const (.int .i64 (8))) y1 8 (by decide)), .o, .o, .q (ixA_ok (kd := .i64) (T := 97) (x := (zquo y1 8)) (sz := 1) (N := 64) rfl rfl (fun w => by kernel_rfl) hq1), .l (accSg (i := 0) (f := cZ) (N := 64) (A := w3) (k := ((zquo y1 8)).toNat) (pre := [esG cu8 512 w0, esG cu8 64 w1, esG c_Val 64 w2]) (post := [esG cB 64 w4]) (off := 832) (sgc (esG_len cu8_len) (sgc (esG_len cu8_len) (sgc (esG_len c_Val_len) sg0))) rfl 0 [.int .i64 ((w3 ((zquo y1 8)).toNat))] cZ_len (inR_nat hq1) rfl), .o, .o] [] (fun b => by kernel_rfl)
      · injection e with e; injection e with i0 i1; subst i0 i1; exact fn_specG hU (P := Try.prog) Try.func53 (fun xs w => by kernel_rfl) 1 _ _ (fun _ => rfl) _ _ _ [] [.o, .o, .o, .ov (z_rem Try.prog 3 (.tmp 6) (.const (.int .i64 (8))) y1 8 (by decide)), .b (z_neqT hq0), .o, .o, .o, .ov (z_quo Try.prog 3 (.tmp 11) (.const (.int .i64 (8))) y1 8 (by decide)), .o, .o, .q (ixA_ok (kd := .i64) (T := 98) (x := (zquo y1 8)) (sz := 1) (N := 64) rfl rfl (fun w => by kernel_rfl) hq1), .l (accSg (i := 0) (f := cB) (N := 64) (A := w4) (k := ((zquo y1 8)).toNat) (pre := [esG cu8 512 w0, esG cu8 64 w1, esG c_Val 64 w2, esG cZ 64 w3]) (post := []) (off := 896) (sgc (esG_len cu8_len) (sgc (esG_len cu8_len) (sgc (esG_len c_Val_len) (sgc (esG_len cZ_len) sg0)))) rfl 0 [.bool false] cB_len (inR_nat hq1) (congrArg (fun b => [Value.bool b]) hq2)), .o, .o, .o, .o] [] (fun b => by kernel_rfl)
    · exact none_some e
  · injection e with e; injection e with i0 i1; subst i0 i1; exact fn_specG hU (P := Try.prog) Try.func53 (fun xs w => by kernel_rfl) 1 _ _ (fun _ => rfl) _ _ _ [] [.o, .o, .o, .ov (z_rem Try.prog 3 (.tmp 6) (.const (.int .i64 (8))) y1 8 (by decide)), .b (z_neqF hq0), .o, .o, .o, .o] [] (fun b => by kernel_rfl)
inductive R_region_Mem_Tag where
  | e0 (c0_0 : Int) (c0_1 : Int)
noncomputable def m_region_Mem_Tag (w0 : Int) (w1 : Nat → BitVec 8) (w2 : Nat → BitVec 8) (w3 : Nat → Val) (w4 : Nat → Int) (w5 : Nat → Bool) : Option R_region_Mem_Tag :=
  (m_region_Mem_findFrame w0 w1 w2 w3 w4 w5).bind fun g0 => match g0 with
  | .e0 g0_0 => ((m_region_frame_tagAt g0_0 w1 w2 w3 w4 w5).bind fun g1 => match g1 with
    | .e0 g1_0 g1_1 =>
    some (.e0 g1_0 g1_1))
  | .e1  => (some (.e0 0 3))
def sq0_region_Mem_Tag (w0 : Int) (w1 : Nat → BitVec 8) (w2 : Nat → BitVec 8) (w3 : Nat → Val) (w4 : Nat → Int) (w5 : Nat → Bool) (c0_0 : Int) (c0_1 : Int) : Spc := ⟨fun ls => .call 23 #[.pointer (some ⟨(lget ls 0).n, 0, none⟩), .agg #[.int .i64 (2), .int .u64 (0), .int .i64 (1), .int .i64 (w0)]], fun ls => [.cells #[.map (some (lget ls 1).n), .int .i64 (1)] 91, .map #[⟨.int .i64 (1), .iface 93 (.pointer (some ⟨(lget ls 2).n, 0, none⟩)), 0⟩] 1, .cells ⟨segs [esG cu8 512 w1, esG cu8 64 w2, esG c_Val 64 w3, esG cZ 64 w4, esG cB 64 w5]⟩ 100], 0, .normal, fun ls => [.tuple #[.int .i64 (c0_0), .int .i64 (c0_1)]], fun ls => [.cells #[.map (some (lget ls 1).n), .int .i64 (1)] 91, .map #[⟨.int .i64 (1), .iface 93 (.pointer (some ⟨(lget ls 2).n, 0, none⟩)), 0⟩] 1, .cells ⟨segs [esG cu8 512 w1, esG cu8 64 w2, esG c_Val 64 w3, esG cZ 64 w4, esG cB 64 w5]⟩ 100], fun ls => []⟩
theorem ok0_region_Mem_Tag (w0 : Int) (w1 : Nat → BitVec 8) (w2 : Nat → BitVec 8) (w3 : Nat → Val) (w4 : Nat → Int) (w5 : Nat → Bool) (c0_0 : Int) (c0_1 : Int) (e : m_region_Mem_Tag w0 w1 w2 w3 w4 w5 = some (.e0 c0_0 c0_1)) : SpcG Try.prog M B0 S (sq0_region_Mem_Tag w0 w1 w2 w3 w4 w5 c0_0 c0_1) := by
  unfold m_region_Mem_Tag at e
  replace e := bindO_eq e
  obtain ⟨g0, e_g0, e⟩ := e
  rcases g0 with ⟨g0_0⟩ | _
  · try dsimp only at e
    replace e := bindO_eq e
    obtain ⟨g1, e_g1, e⟩ := e
    obtain ⟨g1_0, g1_1⟩ := g1
    try dsimp only at e
    injection e with e; injection e with i0 i1; subst i0 i1; exact fn_specG hU (P := Try.prog) Try.func23 (fun xs w => by kernel_rfl) 3 _ _ (fun _ => rfl) _ _ _ [] [.o, .o, .o, .o, .a 3, .o, .o, .a 3, .xg (ok0_region_Mem_findFrame hU w0 w1 w2 w3 w4 w5 g0_0 e_g0) [0, 1, 2], .o, .o, .o, .o, .o, .o, .o, .o, .o, .o, .o, .xg (ok0_region_frame_tagAt hU g0_0 w1 w2 w3 w4 w5 g1_0 g1_1 e_g1) [2], .o, .o, .o, .o] [] (fun b => by kernel_rfl)
  · try dsimp only at e
    injection e with e; injection e with i0 i1; subst i0 i1; exact fn_specG hU (P := Try.prog) Try.func23 (fun xs w => by kernel_rfl) 3 _ _ (fun _ => rfl) _ _ _ [] [.o, .o, .o, .o, .a 3, .o, .o, .a 3, .xg (ok1_region_Mem_findFrame hU w0 w1 w2 w3 w4 w5  e_g0) [0, 1, 2], .o, .o, .o, .o, .o, .o, .o, .o, .o, .o, .o, .o] [] (fun b => by kernel_rfl)
theorem ok_region_kindTrap_v2 (w0 : Int) : ConG Try.prog S 47 #[.agg #[.int .i64 (2), .int .u64 (0), .int .i64 (1), .int .i64 (w0)]] (.int .i64 (0)) :=
  fn_conG hU (P := Try.prog) Try.func47 (fun xs w => by kernel_rfl) [.agg #[.int .i64 (2), .int .u64 (0), .int .i64 (1), .int .i64 (w0)]] (.int .i64 (0))
    [.o, .o, .o, .a 0, .o, .o, .o, .o, .o, .o, .o]
    [] (fun b => by kernel_rfl)
noncomputable def m_region_touched_v2 (y0 : Int) (y1 : Int) : (Int) × (Int) :=
  ((zquo y0 8), (zquo (IntKind.i64.wrap ((IntKind.i64.wrap (y0 + y1)) - 1)) 8))
theorem ok_region_touched_v2 (y0 : Int) (y1 : Int) (r : (Int) × (Int)) (e : m_region_touched_v2 y0 y1 = r) : ConG Try.prog S 134 #[.int .i64 (y0), .int .i64 (y1)] (vt1 r) := by
  unfold m_region_touched_v2 at e
  subst e; exact fn_conG hU (P := Try.prog) Try.func134 (fun xs w => by kernel_rfl) _ _ [.o, .o, .o, .ov (z_quo Try.prog 3 (.tmp 6) (.const (.int .i64 (8))) y0 8 (by decide)), .o, .o, .o, .o, .ov (z_quo Try.prog 3 (.tmp 11) (.const (.int .i64 (8))) (IntKind.i64.wrap ((IntKind.i64.wrap (y0 + y1)) - 1)) 8 (by decide)), .o, .o] [] (fun b => by kernel_rfl)
inductive Sh_region_frame_can_v1_L0 where
  | c0 (s0_0 : Int)
inductive Ex_region_frame_can_v1_L0 where
  | e0 
  | e1 
noncomputable def st_region_frame_can_v1_L0 (w3 : Nat → Int) (r0 : (Int) × (Int)) : Sh_region_frame_can_v1_L0 → Option (Sh_region_frame_can_v1_L0 ⊕ Ex_region_frame_can_v1_L0)
  | .c0 s0_0 =>
    bif decide (s0_0 ≤ r0.2) then
      (bif inR s0_0 64 then
        (bif (w3 (s0_0).toNat) == 0 then
          (some (.inl (.c0 (IntKind.i64.wrap (s0_0 + 1)))))
        else (some (.inr (.e1 ))))
      else (none))
    else (some (.inr (.e0 )))
noncomputable def bd_region_frame_can_v1_L0 : Code := codeOf Try.f131 [1, 1, 1, 0, 1, 0, 0]
def fl_region_frame_can_v1_L0 (y1 : Int) (y2 : Int) (w0 : Nat → BitVec 8) (w1 : Nat → BitVec 8) (w2 : Nat → Val) (w3 : Nat → Int) (w4 : Nat → Bool) (r0 : (Int) × (Int)) : Sh_region_frame_can_v1_L0 → List L1 → List Value
  | .c0 s0_0, ls => [.pointer (some ⟨(lget ls 0).n, 0, none⟩), .int .i64 (0), .int .i64 (r0.2), .int .i64 (s0_0)]
def mf_region_frame_can_v1_L0 : Sh_region_frame_can_v1_L0 → List (Nat × Nat)
  | .c0 _ => [(1, 5), (1, 1), (2, 21)]
noncomputable def fr_region_frame_can_v1_L0 (y1 : Int) (y2 : Int) (w0 : Nat → BitVec 8) (w1 : Nat → BitVec 8) (w2 : Nat → Val) (w3 : Nat → Int) (w4 : Nat → Bool) (r0 : (Int) × (Int)) (s : Sh_region_frame_can_v1_L0) : List L1 → List Value := mrgF (mf_region_frame_can_v1_L0 s) (fl_region_frame_can_v1_L0 y1 y2 w0 w1 w2 w3 w4 r0 s) 1
def Hs_region_frame_can_v1_L0 (y1 : Int) (y2 : Int) (w0 : Nat → BitVec 8) (w1 : Nat → BitVec 8) (w2 : Nat → Val) (w3 : Nat → Int) (w4 : Nat → Bool) (r0 : (Int) × (Int)) : Sh_region_frame_can_v1_L0 → List L1 → List Obj
  | .c0 s0_0, ls => [.cells ⟨segs [esG cu8 512 w0, esG cu8 64 w1, esG c_Val 64 w2, esG cZ 64 w3, esG cB 64 w4]⟩ 100, unb]
def vl_region_frame_can_v1_L0 (y1 : Int) (y2 : Int) (w0 : Nat → BitVec 8) (w1 : Nat → BitVec 8) (w2 : Nat → Val) (w3 : Nat → Int) (w4 : Nat → Bool) (r0 : (Int) × (Int)) : Ex_region_frame_can_v1_L0 → List L1 → List Value
  | .e0 , ls => [.pointer (some ⟨(lget ls 0).n, 0, none⟩), .int .i64 (0), .int .i64 (r0.2)]
  | .e1 , ls => [.pointer (some ⟨(lget ls 0).n, 0, none⟩), .int .i64 (14), .int .i64 (r0.2)]
def mk_region_frame_can_v1_L0 : Ex_region_frame_can_v1_L0 → List (Nat × Nat)
  | .e0  => [(1, 5), (1, 1), (1, 22)]
  | .e1  => [(1, 5), (1, 1), (1, 22)]
noncomputable def vf_region_frame_can_v1_L0 (y1 : Int) (y2 : Int) (w0 : Nat → BitVec 8) (w1 : Nat → BitVec 8) (w2 : Nat → Val) (w3 : Nat → Int) (w4 : Nat → Bool) (r0 : (Int) × (Int)) (r : Ex_region_frame_can_v1_L0) : List L1 → List Value := mrgF (mk_region_frame_can_v1_L0 r) (vl_region_frame_can_v1_L0 y1 y2 w0 w1 w2 w3 w4 r0 r) 1
def Hf_region_frame_can_v1_L0 (y1 : Int) (y2 : Int) (w0 : Nat → BitVec 8) (w1 : Nat → BitVec 8) (w2 : Nat → Val) (w3 : Nat → Int) (w4 : Nat → Bool) (r0 : (Int) × (Int)) : Ex_region_frame_can_v1_L0 → List L1 → List Obj
  | .e0 , ls => [.cells ⟨segs [esG cu8 512 w0, esG cu8 64 w1, esG c_Val 64 w2, esG cZ 64 w3, esG cB 64 w4]⟩ 100, unb]
  | .e1 , ls => [.cells ⟨segs [esG cu8 512 w0, esG cu8 64 w1, esG c_Val 64 w2, esG cZ 64 w3, esG cB 64 w4]⟩ 100, unb]
def ex_region_frame_can_v1_L0 : Ex_region_frame_can_v1_L0 → Ex
  | .e0  => (.exit 0)
  | .e1  => .ret
end
section
variable {M : Nat → Prop} {B0 : Nat} {S : World → Prop} (hU : Up M B0 S) (y1 : Int) (y2 : Int) (w0 : Nat → BitVec 8) (w1 : Nat → BitVec 8) (w2 : Nat → Val) (w3 : Nat → Int) (w4 : Nat → Bool) (r0 : (Int) × (Int))
include hU y1 y2 w0 w1 w2 w3 w4 r0
theorem go_region_frame_can_v1_L0 (s : Sh_region_frame_can_v1_L0) (r : Ex_region_frame_can_v1_L0) (h : lpO (st_region_frame_can_v1_L0 w3 r0) s = some r) : GoesG Try.prog M B0 S (.loop bd_region_frame_can_v1_L0) 2 (fr_region_frame_can_v1_L0 y1 y2 w0 w1 w2 w3 w4 r0 s) (Hs_region_frame_can_v1_L0 y1 y2 w0 w1 w2 w3 w4 r0 s) (ex_region_frame_can_v1_L0 r) 1 (vf_region_frame_can_v1_L0 y1 y2 w0 w1 w2 w3 w4 r0 r) (Hf_region_frame_can_v1_L0 y1 y2 w0 w1 w2 w3 w4 r0 r) 2 :=
  goes_lpO (fun s q e => by
    cases s with
    | c0 s0_0 =>
      unfold st_region_frame_can_v1_L0 at e
      dsimp only at e
      replace e := cond_eq_or e
      rcases e with ⟨hq0, e⟩ | ⟨hq0, e⟩
      · replace e := cond_eq_or e
        rcases e with ⟨hq1, e⟩ | ⟨hq1, e⟩
        · replace e := cond_eq_or e
          rcases e with ⟨hq2, e⟩ | ⟨hq2, e⟩
          · cases e; exact goes_runM hU [.o, .o, .b (z_leqT hq0), .o, .o, .o, .o, .q (ixA_ok (kd := .i64) (T := 97) (x := s0_0) (sz := 1) (N := 64) rfl rfl (fun w => by kernel_rfl) hq1), .l (accSg (i := 0) (f := cZ) (N := 64) (A := w3) (k := (s0_0).toNat) (pre := [esG cu8 512 w0, esG cu8 64 w1, esG c_Val 64 w2]) (post := [esG cB 64 w4]) (off := 832) (sgc (esG_len cu8_len) (sgc (esG_len cu8_len) (sgc (esG_len c_Val_len) sg0))) rfl 0 [.int .i64 ((w3 (s0_0).toNat))] cZ_len (inR_nat hq1) rfl), .b (z_neqT hq2), .o, .o, .o] [0] (fun b => rfl) (by decide) rfl rfl (fun b => by kernel_rfl)
          · cases e; exact ⟨ne_ret, goes_runM hU [.o, .o, .b (z_leqT hq0), .o, .o, .o, .o, .q (ixA_ok (kd := .i64) (T := 97) (x := s0_0) (sz := 1) (N := 64) rfl rfl (fun w => by kernel_rfl) hq1), .l (accSg (i := 0) (f := cZ) (N := 64) (A := w3) (k := (s0_0).toNat) (pre := [esG cu8 512 w0, esG cu8 64 w1, esG c_Val 64 w2]) (post := [esG cB 64 w4]) (off := 832) (sgc (esG_len cu8_len) (sgc (esG_len cu8_len) (sgc (esG_len c_Val_len) sg0))) rfl 0 [.int .i64 ((w3 (s0_0).toNat))] cZ_len (inR_nat hq1) rfl), .b (z_neqF hq2), .o] [0] (fun b => rfl) (by decide) rfl rfl (fun b => by kernel_rfl)⟩
        · exact none_some e
      · cases e; exact ⟨ne_exit 0, goes_runM hU [.o, .o, .b (z_leqF hq0)] [0] (fun b => rfl) (by decide) rfl rfl (fun b => by kernel_rfl)⟩) s r h
noncomputable def t0_region_frame_can_v1_L0_0 (y1 : Int) (y2 : Int) (w0 : Nat → BitVec 8) (w1 : Nat → BitVec 8) (w2 : Nat → Val) (w3 : Nat → Int) (w4 : Nat → Bool) (r0 : (Int) × (Int)) (s0_0 : Int) (ls : List L1) : List Value := List.append [.pointer (some ⟨(lget ls 0).n, 0, none⟩), .int .i64 (y1), .int .i64 (y2), undef, undef, undef, .int .i64 (0), .int .i64 (r0.1), .int .i64 (r0.2), .int .i64 (s0_0), .int .i64 (y2), .bool false, .tuple #[.int .i64 (r0.1), .int .i64 (r0.2)], .int .i64 (y1), .int .i64 (y2), .tuple #[.int .i64 (r0.1), .int .i64 (r0.2)], .int .i64 (r0.1), .int .i64 (r0.2), .int .i64 (r0.1)] (und 12)
def pre_region_frame_can_v1_L0_0 (y1 : Int) (y2 : Int) (w0 : Nat → BitVec 8) (w1 : Nat → BitVec 8) (w2 : Nat → Val) (w3 : Nat → Int) (w4 : Nat → Bool) (r0 : (Int) × (Int)) (s0_0 : Int) (ls : List L1) : List Obj := [.cells ⟨segs [esG cu8 512 w0, esG cu8 64 w1, esG c_Val 64 w2, esG cZ 64 w3, esG cB 64 w4]⟩ 100]
theorem sp0_region_frame_can_v1_L0_0_ok (s0_0 : Int) (h : lpO (st_region_frame_can_v1_L0 w3 r0) (.c0 s0_0) = some (.e0 )) : SpcG Try.prog M B0 S ⟨fun ls => .code (.loop bd_region_frame_can_v1_L0) (t0_region_frame_can_v1_L0_0 y1 y2 w0 w1 w2 w3 w4 r0 s0_0 ls), pre_region_frame_can_v1_L0_0 y1 y2 w0 w1 w2 w3 w4 r0 s0_0, 1, (.exit 0), fun ls => vf_region_frame_can_v1_L0 y1 y2 w0 w1 w2 w3 w4 r0 (.e0 ) (ls.take 1 ++ ls.drop 1), fun ls => (Hf_region_frame_can_v1_L0 y1 y2 w0 w1 w2 w3 w4 r0 (.e0 ) (ls.take 1 ++ ls.drop 1)).take 1 ++ List.replicate 0 unb, fun ls => (Hf_region_frame_can_v1_L0 y1 y2 w0 w1 w2 w3 w4 r0 (.e0 ) (ls.take 1 ++ ls.drop 1)).drop 1⟩ :=
  spc_of_goesM hU 0 (k0 := 1) (go_region_frame_can_v1_L0 hU y1 y2 w0 w1 w2 w3 w4 r0 _ _ h) (t0_region_frame_can_v1_L0_0 y1 y2 w0 w1 w2 w3 w4 r0 s0_0) (pre_region_frame_can_v1_L0_0 y1 y2 w0 w1 w2 w3 w4 r0 s0_0) (fun _ => rfl) (fun ls h => by match ls, h with | [l0], _ => exact ⟨by kernel_rfl, by kernel_rfl⟩) (fun ls h => by match ls, h with | [l0], _ => rfl) (by decide) (by decide) (fun ls => rfl)
theorem sp1_region_frame_can_v1_L0_0_ok (s0_0 : Int) (h : lpO (st_region_frame_can_v1_L0 w3 r0) (.c0 s0_0) = some (.e1 )) : SpcG Try.prog M B0 S ⟨fun ls => .code (.loop bd_region_frame_can_v1_L0) (t0_region_frame_can_v1_L0_0 y1 y2 w0 w1 w2 w3 w4 r0 s0_0 ls), pre_region_frame_can_v1_L0_0 y1 y2 w0 w1 w2 w3 w4 r0 s0_0, 1, .ret, fun ls => vf_region_frame_can_v1_L0 y1 y2 w0 w1 w2 w3 w4 r0 (.e1 ) (ls.take 1 ++ ls.drop 1), fun ls => (Hf_region_frame_can_v1_L0 y1 y2 w0 w1 w2 w3 w4 r0 (.e1 ) (ls.take 1 ++ ls.drop 1)).take 1 ++ List.replicate 0 unb, fun ls => (Hf_region_frame_can_v1_L0 y1 y2 w0 w1 w2 w3 w4 r0 (.e1 ) (ls.take 1 ++ ls.drop 1)).drop 1⟩ :=
  spc_of_goesM hU 0 (k0 := 1) (go_region_frame_can_v1_L0 hU y1 y2 w0 w1 w2 w3 w4 r0 _ _ h) (t0_region_frame_can_v1_L0_0 y1 y2 w0 w1 w2 w3 w4 r0 s0_0) (pre_region_frame_can_v1_L0_0 y1 y2 w0 w1 w2 w3 w4 r0 s0_0) (fun _ => rfl) (fun ls h => by match ls, h with | [l0], _ => exact ⟨by kernel_rfl, by kernel_rfl⟩) (fun ls h => by match ls, h with | [l0], _ => rfl) (by decide) (by decide) (fun ls => rfl)
inductive R_region_frame_can_v1 where
  | e0 (c0_0 : Int)
noncomputable def m_region_frame_can_v1 (y1 : Int) (y2 : Int) (w0 : Nat → BitVec 8) (w1 : Nat → BitVec 8) (w2 : Nat → Val) (w3 : Nat → Int) (w4 : Nat → Bool) : Option R_region_frame_can_v1 :=
  bif y2 == 0 then
    (some (.e0 0))
  else (bindT (m_region_touched_v2 y1 y2) fun r0 =>
  (lpO (st_region_frame_can_v1_L0 w3 r0) (.c0 r0.1)).bind fun g1 => match g1 with
  | .e0  => (some (.e0 0))
  | .e1  => (some (.e0 14)))
def sq0_region_frame_can_v1 (y1 : Int) (y2 : Int) (w0 : Nat → BitVec 8) (w1 : Nat → BitVec 8) (w2 : Nat → Val) (w3 : Nat → Int) (w4 : Nat → Bool) (c0_0 : Int) : Spc := ⟨fun ls => .call 131 #[.pointer (some ⟨(lget ls 0).n, 0, none⟩), .int .i64 (y1), .int .i64 (y2)], fun ls => [.cells ⟨segs [esG cu8 512 w0, esG cu8 64 w1, esG c_Val 64 w2, esG cZ 64 w3, esG cB 64 w4]⟩ 100], 0, .normal, fun ls => [.int .i64 (c0_0)], fun ls => [.cells ⟨segs [esG cu8 512 w0, esG cu8 64 w1, esG c_Val 64 w2, esG cZ 64 w3, esG cB 64 w4]⟩ 100], fun ls => []⟩
end
section
variable {M : Nat → Prop} {B0 : Nat} {S : World → Prop} (hU : Up M B0 S)
include hU
theorem ok0_region_frame_can_v1 (y1 : Int) (y2 : Int) (w0 : Nat → BitVec 8) (w1 : Nat → BitVec 8) (w2 : Nat → Val) (w3 : Nat → Int) (w4 : Nat → Bool) (c0_0 : Int) (e : m_region_frame_can_v1 y1 y2 w0 w1 w2 w3 w4 = some (.e0 c0_0)) : SpcG Try.prog M B0 S (sq0_region_frame_can_v1 y1 y2 w0 w1 w2 w3 w4 c0_0) := by
  unfold m_region_frame_can_v1 at e
  replace e := cond_eq_or e
  rcases e with ⟨hq0, e⟩ | ⟨hq0, e⟩
  · injection e with e; injection e with i0; subst i0; exact fn_specG hU (P := Try.prog) Try.func131 (fun xs w => by kernel_rfl) 1 _ _ (fun _ => rfl) _ _ _ [] [.o, .o, .b (z_eqlT hq0), .o] [] (fun b => by kernel_rfl)
  · replace e := bindT_eq e
    obtain ⟨r0, e_r0, e⟩ := e
    try dsimp only at e
    replace e := bindO_eq e
    obtain ⟨g1, e_g1, e⟩ := e
    rcases g1 with _ | _
    · try dsimp only at e
      injection e with e; injection e with i0; subst i0; exact fn_specG hU (P := Try.prog) Try.func131 (fun xs w => by kernel_rfl) 1 _ _ (fun _ => rfl) _ _ _ [] [.o, .o, .b (z_eqlF hq0), .o, .o, .cg (ok_region_touched_v2 hU y1 y2 r0 e_r0), .o, .o, .o, .o, .o, .o, .o, .cp, .cx (sp0_region_frame_can_v1_L0_0_ok hU y1 y2 w0 w1 w2 w3 w4 r0 r0.1  e_g1) [0], .o] [] (fun b => by kernel_rfl)
    · try dsimp only at e
      injection e with e; injection e with i0; subst i0; exact fn_specG hU (P := Try.prog) Try.func131 (fun xs w => by kernel_rfl) 1 _ _ (fun _ => rfl) _ _ _ [] [.o, .o, .b (z_eqlF hq0), .o, .o, .cg (ok_region_touched_v2 hU y1 y2 r0 e_r0), .o, .o, .o, .o, .o, .o, .o, .cp, .cx (sp1_region_frame_can_v1_L0_0_ok hU y1 y2 w0 w1 w2 w3 w4 r0 r0.1  e_g1) [0]] [] (fun b => by kernel_rfl)
def sq0_region_putNumber_v1 (y1 : BitVec 64)  : Spc := ⟨fun ls => .call 132 #[.slice (some ⟨(lget ls 0).n, 0, none⟩) 8 8, .int .u64 (nn y1)], fun ls => [.cells #[.int .u8 (0), .int .u8 (0), .int .u8 (0), .int .u8 (0), .int .u8 (0), .int .u8 (0), .int .u8 (0), .int .u8 (0)] 203], 0, .normal, fun ls => [.tuple #[]], fun ls => [.cells #[.int .u8 (nn ((y1 >>> 0).setWidth 8)), .int .u8 (nn ((y1 >>> 8).setWidth 8)), .int .u8 (nn ((y1 >>> 16).setWidth 8)), .int .u8 (nn ((y1 >>> 24).setWidth 8)), .int .u8 (nn ((y1 >>> 32).setWidth 8)), .int .u8 (nn ((y1 >>> 40).setWidth 8)), .int .u8 (nn ((y1 >>> 48).setWidth 8)), .int .u8 (nn ((y1 >>> 56).setWidth 8))] 203], fun ls => []⟩
theorem p0_region_putNumber_v1 (y1 : BitVec 64) : SpcG Try.prog M B0 S (sq0_region_putNumber_v1 y1 ) :=
  fn_specG hU (P := Try.prog) Try.func132 (fun xs w => by kernel_rfl) 1 _ _ (fun _ => rfl) _ _ _ []
    [.o, .o, .o, .o, .o, .o, .o, .o, .o, .o, .o, .ov (u64_shr Try.prog 22 (.tmp 12) (.tmp 14) y1 0 .i64 rfl), .v .u8 (u8_of_u64 (y1 >>> 0)), .o, .a 0, .o, .o, .o, .o, .o, .o, .o, .o, .o, .o, .ov (u64_shr Try.prog 22 (.tmp 12) (.tmp 14) y1 8 .i64 rfl), .v .u8 (u8_of_u64 (y1 >>> 8)), .o, .a 0, .o, .o, .o, .o, .o, .o, .o, .o, .o, .o, .ov (u64_shr Try.prog 22 (.tmp 12) (.tmp 14) y1 16 .i64 rfl), .v .u8 (u8_of_u64 (y1 >>> 16)), .o, .a 0, .o, .o, .o, .o, .o, .o, .o, .o, .o, .o, .ov (u64_shr Try.prog 22 (.tmp 12) (.tmp 14) y1 24 .i64 rfl), .v .u8 (u8_of_u64 (y1 >>> 24)), .o, .a 0, .o, .o, .o, .o, .o, .o, .o, .o, .o, .o, .ov (u64_shr Try.prog 22 (.tmp 12) (.tmp 14) y1 32 .i64 rfl), .v .u8 (u8_of_u64 (y1 >>> 32)), .o, .a 0, .o, .o, .o, .o, .o, .o, .o, .o, .o, .o, .ov (u64_shr Try.prog 22 (.tmp 12) (.tmp 14) y1 40 .i64 rfl), .v .u8 (u8_of_u64 (y1 >>> 40)), .o, .a 0, .o, .o, .o, .o, .o, .o, .o, .o, .o, .o, .ov (u64_shr Try.prog 22 (.tmp 12) (.tmp 14) y1 48 .i64 rfl), .v .u8 (u8_of_u64 (y1 >>> 48)), .o, .a 0, .o, .o, .o, .o, .o, .o, .o, .o, .o, .o, .ov (u64_shr Try.prog 22 (.tmp 12) (.tmp 14) y1 56 .i64 rfl), .v .u8 (u8_of_u64 (y1 >>> 56)), .o, .a 0, .o, .o, .o]
    [] (fun b => by kernel_rfl)
inductive Sh_region_frame_put_L0 where
  | c0 (s0_0 : Nat → BitVec 8) (s0_1 : Nat → BitVec 8) (s0_2 : Nat → Val) (s0_3 : Nat → Int) (s0_4 : Nat → Bool) (s0_5 : Int)
inductive Ex_region_frame_put_L0 where
  | e0 (c0_0 : Nat → BitVec 8) (c0_1 : Nat → BitVec 8) (c0_2 : Nat → Val) (c0_3 : Nat → Int) (c0_4 : Nat → Bool)
noncomputable def st_region_frame_put_L0 (y1 : Int) (n0 : Nat) (A0 : Nat → BitVec 8) : Sh_region_frame_put_L0 → Option (Sh_region_frame_put_L0 ⊕ Ex_region_frame_put_L0)
  | .c0 s0_0 s0_1 s0_2 s0_3 s0_4 s0_5 =>
    bif decide (s0_5 < (n0 : Int)) then
      (bif inR s0_5 n0 then
        (bif inR (zquo (IntKind.i64.wrap (y1 + s0_5)) 8) 64 then
          (bif ((s0_2 ((zquo (IntKind.i64.wrap (y1 + s0_5)) 8)).toNat)).fKind == 0 then
            (bif inR (IntKind.i64.wrap (y1 + s0_5)) 512 then
              (bif decide (0 ≤ (zrem (IntKind.i64.wrap (y1 + s0_5)) 8)) then
                (bindT (updF s0_1 ((zquo (IntKind.i64.wrap (y1 + s0_5)) 8)).toNat ((s0_1 ((zquo (IntKind.i64.wrap (y1 + s0_5)) 8)).toNat) ||| (1#8 <<< ((zrem (IntKind.i64.wrap (y1 + s0_5)) 8)).toNat))) fun rb0 =>
                some (.inl (.c0 (updF s0_0 ((IntKind.i64.wrap (y1 + s0_5))).toNat (A0 (s0_5).toNat)) rb0 s0_2 s0_3 s0_4 (IntKind.i64.wrap (s0_5 + 1)))))
              else (none))
            else (none))
          else ((m_region_frame_empty (zquo (IntKind.i64.wrap (y1 + s0_5)) 8) s0_0 s0_1 s0_2 s0_3 s0_4).bind fun gb0 => match gb0 with
          | .e0 gb0_0 gb0_1 gb0_2 gb0_3 =>
          bif inR (IntKind.i64.wrap (y1 + s0_5)) 512 then
            (bif decide (0 ≤ (zrem (IntKind.i64.wrap (y1 + s0_5)) 8)) then
              (bindT (updF gb0_0 ((zquo (IntKind.i64.wrap (y1 + s0_5)) 8)).toNat ((gb0_0 ((zquo (IntKind.i64.wrap (y1 + s0_5)) 8)).toNat) ||| (1#8 <<< ((zrem (IntKind.i64.wrap (y1 + s0_5)) 8)).toNat))) fun rb1 =>
              some (.inl (.c0 (updF s0_0 ((IntKind.i64.wrap (y1 + s0_5))).toNat (A0 (s0_5).toNat)) rb1 gb0_1 gb0_2 gb0_3 (IntKind.i64.wrap (s0_5 + 1)))))
            else (none))
          else (none)))
        else (none))
      else (none))
    else (some (.inr (.e0 s0_0 s0_1 s0_2 s0_3 s0_4)))
noncomputable def bd_region_frame_put_L0 : Code := codeOf Try.f133 [1, 0, 0]
def fl_region_frame_put_L0 (y1 : Int) (a0 : Option Addr) (p0 : Nat) (q0 : Nat) (n0 : Nat) (k0 : Nat) (A0 : Nat → BitVec 8) (w0 : Nat → BitVec 8) (w1 : Nat → BitVec 8) (w2 : Nat → Val) (w3 : Nat → Int) (w4 : Nat → Bool) : Sh_region_frame_put_L0 → List L1 → List Value
  | .c0 s0_0 s0_1 s0_2 s0_3 s0_4 s0_5, ls => [.pointer (some ⟨(lget ls 0).n, 0, none⟩), .int .i64 (y1), .slice a0 n0 (n0 + k0), .int .i64 ((n0 : Int)), .int .i64 (s0_5)]
def mf_region_frame_put_L0 : Sh_region_frame_put_L0 → List (Nat × Nat)
  | .c0 _ _ _ _ _ _ => [(2, 7), (3, 43)]
noncomputable def fr_region_frame_put_L0 (y1 : Int) (a0 : Option Addr) (p0 : Nat) (q0 : Nat) (n0 : Nat) (k0 : Nat) (A0 : Nat → BitVec 8) (w0 : Nat → BitVec 8) (w1 : Nat → BitVec 8) (w2 : Nat → Val) (w3 : Nat → Int) (w4 : Nat → Bool) (s : Sh_region_frame_put_L0) : List L1 → List Value := mrgF (mf_region_frame_put_L0 s) (fl_region_frame_put_L0 y1 a0 p0 q0 n0 k0 A0 w0 w1 w2 w3 w4 s) 1
def Hs_region_frame_put_L0 (y1 : Int) (a0 : Option Addr) (p0 : Nat) (q0 : Nat) (n0 : Nat) (k0 : Nat) (A0 : Nat → BitVec 8) (w0 : Nat → BitVec 8) (w1 : Nat → BitVec 8) (w2 : Nat → Val) (w3 : Nat → Int) (w4 : Nat → Bool) : Sh_region_frame_put_L0 → List L1 → List Obj
  | .c0 s0_0 s0_1 s0_2 s0_3 s0_4 s0_5, ls => [.cells ⟨segs [esG cu8 512 s0_0, esG cu8 64 s0_1, esG c_Val 64 s0_2, esG cZ 64 s0_3, esG cB 64 s0_4]⟩ 100, unb]
def vl_region_frame_put_L0 (y1 : Int) (a0 : Option Addr) (p0 : Nat) (q0 : Nat) (n0 : Nat) (k0 : Nat) (A0 : Nat → BitVec 8) (w0 : Nat → BitVec 8) (w1 : Nat → BitVec 8) (w2 : Nat → Val) (w3 : Nat → Int) (w4 : Nat → Bool) : Ex_region_frame_put_L0 → List L1 → List Value
  | .e0 c0_0 c0_1 c0_2 c0_3 c0_4, ls => [.pointer (some ⟨(lget ls 0).n, 0, none⟩), .int .i64 (y1), .slice a0 n0 (n0 + k0), .int .i64 ((n0 : Int))]
def mk_region_frame_put_L0 : Ex_region_frame_put_L0 → List (Nat × Nat)
  | .e0 _ _ _ _ _ => [(2, 7), (2, 44)]
noncomputable def vf_region_frame_put_L0 (y1 : Int) (a0 : Option Addr) (p0 : Nat) (q0 : Nat) (n0 : Nat) (k0 : Nat) (A0 : Nat → BitVec 8) (w0 : Nat → BitVec 8) (w1 : Nat → BitVec 8) (w2 : Nat → Val) (w3 : Nat → Int) (w4 : Nat → Bool) (r : Ex_region_frame_put_L0) : List L1 → List Value := mrgF (mk_region_frame_put_L0 r) (vl_region_frame_put_L0 y1 a0 p0 q0 n0 k0 A0 w0 w1 w2 w3 w4 r) 1
def Hf_region_frame_put_L0 (y1 : Int) (a0 : Option Addr) (p0 : Nat) (q0 : Nat) (n0 : Nat) (k0 : Nat) (A0 : Nat → BitVec 8) (w0 : Nat → BitVec 8) (w1 : Nat → BitVec 8) (w2 : Nat → Val) (w3 : Nat → Int) (w4 : Nat → Bool) : Ex_region_frame_put_L0 → List L1 → List Obj
  | .e0 c0_0 c0_1 c0_2 c0_3 c0_4, ls => [.cells ⟨segs [esG cu8 512 c0_0, esG cu8 64 c0_1, esG c_Val 64 c0_2, esG cZ 64 c0_3, esG cB 64 c0_4]⟩ 100, unb]
def ex_region_frame_put_L0 : Ex_region_frame_put_L0 → Ex
  | .e0 _ _ _ _ _ => (.exit 0)
end
section
variable {M : Nat → Prop} {B0 : Nat} {S : World → Prop} (hU : Up M B0 S) (y1 : Int) (a0 : Option Addr) (p0 : Nat) (q0 : Nat) (n0 : Nat) (k0 : Nat) (A0 : Nat → BitVec 8) (hR0 : Ro S cu8 1 a0 p0 q0 n0 A0) (w0 : Nat → BitVec 8) (w1 : Nat → BitVec 8) (w2 : Nat → Val) (w3 : Nat → Int) (w4 : Nat → Bool)
include hU y1 a0 p0 q0 n0 k0 A0 hR0 w0 w1 w2 w3 w4
theorem go_region_frame_put_L0 (s : Sh_region_frame_put_L0) (r : Ex_region_frame_put_L0) (h : lpO (st_region_frame_put_L0 y1 n0 A0) s = some r) : GoesG Try.prog M B0 S (.loop bd_region_frame_put_L0) 2 (fr_region_frame_put_L0 y1 a0 p0 q0 n0 k0 A0 w0 w1 w2 w3 w4 s) (Hs_region_frame_put_L0 y1 a0 p0 q0 n0 k0 A0 w0 w1 w2 w3 w4 s) (ex_region_frame_put_L0 r) 1 (vf_region_frame_put_L0 y1 a0 p0 q0 n0 k0 A0 w0 w1 w2 w3 w4 r) (Hf_region_frame_put_L0 y1 a0 p0 q0 n0 k0 A0 w0 w1 w2 w3 w4 r) 2 :=
  goes_lpO (fun s q e => by
    cases s with
    | c0 s0_0 s0_1 s0_2 s0_3 s0_4 s0_5 =>
      unfold st_region_frame_put_L0 at e
      dsimp only at e
      replace e := cond_eq_or e
      rcases e with ⟨hq0, e⟩ | ⟨hq0, e⟩
      · replace e := cond_eq_or e
        rcases e with ⟨hq1, e⟩ | ⟨hq1, e⟩
        · replace e := cond_eq_or e
          rcases e with ⟨hq2, e⟩ | ⟨hq2, e⟩
          · replace e := cond_eq_or e
            rcases e with ⟨hq3, e⟩ | ⟨hq3, e⟩
            · replace e := cond_eq_or e
              rcases e with ⟨hq4, e⟩ | ⟨hq4, e⟩
              · replace e := cond_eq_or e
                rcases e with ⟨hq5, e⟩ | ⟨hq5, e⟩
                · replace e := bindT_eq e
                  obtain ⟨rb0, e_rb0, e⟩ := e
                  try dsimp only at e
                  cases e; exact goes_runM hU [.b (z_lssT hq0), .o, .q (ixRo_ok (kd := .i64) (T := 34) (x := s0_5) (sz := 1) rfl (fun w => by kernel_rfl) hR0 hq1), .l (accRo hR0 cu8_len (inR_nat hq1) 0 [.int .u8 (nn (A0 (s0_5).toNat))] rfl), .o, .o, .o, .o, .o, .ov (z_quo Try.prog 3 (.tmp 18) (.const (.int .i64 (8))) (IntKind.i64.wrap (y1 + s0_5)) 8 (by decide)), .o, .o, .o, .o, .o, .q (ixA_ok (kd := .i64) (T := 96) (x := (zquo (IntKind.i64.wrap (y1 + s0_5)) 8)) (sz := 4) (N := 64) rfl rfl (fun w => by kernel_rfl) hq2), .o, .l (accSg (i := 0) (f := c_Val) (N := 64) (A := s0_2) (k := ((zquo (IntKind.i64.wrap (y1 + s0_5)) 8)).toNat) (pre := [esG cu8 512 s0_0, esG cu8 64 s0_1]) (post := [esG cZ 64 s0_3, esG cB 64 s0_4]) (off := 576) (sgc (esG_len cu8_len) (sgc (esG_len cu8_len) sg0)) rfl 0 [.int .i64 (((s0_2 ((zquo (IntKind.i64.wrap (y1 + s0_5)) 8)).toNat)).fKind)] c_Val_len (inR_nat hq2) rfl), .b (z_neqT hq3), .o, .o, .o, .o, .o, .o, .o, .q (ixA_ok (kd := .i64) (T := 94) (x := (IntKind.i64.wrap (y1 + s0_5))) (sz := 1) (N := 512) rfl rfl (fun w => by kernel_rfl) hq4), .x (sqSg_ok (T := 5) (e := 100) (f := cu8) (N := 512) (A := s0_0) (v := (A0 (s0_5).toNat)) (pre := []) (post := [esG cu8 64 s0_1, esG c_Val 64 s0_2, esG cZ 64 s0_3, esG cB 64 s0_4]) (off := 0) sg0 rfl 0 (.int .u8 (nn (A0 (s0_5).toNat))) cu8_len cu8_one rfl rfl (fun w => by kernel_rfl) (inR_nat hq4) rfl) [0], .r [0, 1, 2, 3, 4, 5, 6, 7, 8, 9, 10, 11, 12, 13, 14] [] [15], .o, .o, .o, .o, .q (ixA_ok (kd := .i64) (T := 95) (x := (zquo (IntKind.i64.wrap (y1 + s0_5)) 8)) (sz := 1) (N := 64) rfl rfl (fun w => by kernel_rfl) hq2), .l (accSg (i := 0) (f := cu8) (N := 64) (A := s0_1) (k := ((zquo (IntKind.i64.wrap (y1 + s0_5)) 8)).toNat) (pre := [esG cu8 512 (updF s0_0 ((IntKind.i64.wrap (y1 + s0_5))).toNat (A0 (s0_5).toNat))]) (post := [esG c_Val 64 s0_2, esG cZ 64 s0_3, esG cB 64 s0_4]) (off := 512) (sgc (esG_len cu8_len) sg0) rfl 0 [.int .u8 (nn (s0_1 ((zquo (IntKind.i64.wrap (y1 + s0_5)) 8)).toNat))] cu8_len (inR_nat hq2) rfl), .o, .o, .o, .ov (z_rem Try.prog 3 (.tmp 47) (.const (.int .i64 (8))) (IntKind.i64.wrap (y1 + s0_5)) 8 (by decide)), .ov (u8_shl Try.prog 5 (.const (.int .u8 (1))) (.tmp 48) (1#8) ((zrem (IntKind.i64.wrap (y1 + s0_5)) 8)).toNat .i64 (z_pos hq5)), .v .u8 (u8_or (s0_1 ((zquo (IntKind.i64.wrap (y1 + s0_5)) 8)).toNat) (1#8 <<< ((zrem (IntKind.i64.wrap (y1 + s0_5)) 8)).toNat)), .o, .o, .q (ixA_ok (kd := .i64) (T := 95) (x := (zquo (IntKind.i64.wrap (y1 + s0_5)) 8)) (sz := 1) (N := 64) rfl rfl (fun w => by kernel_rfl) hq2), .x (sqSg_ok (T := 5) (e := 100) (f := cu8) (N := 64) (A := s0_1) (v := ((s0_1 ((zquo (IntKind.i64.wrap (y1 + s0_5)) 8)).toNat) ||| (1#8 <<< ((zrem (IntKind.i64.wrap (y1 + s0_5)) 8)).toNat))) (pre := [esG cu8 512 (updF s0_0 ((IntKind.i64.wrap (y1 + s0_5))).toNat (A0 (s0_5).toNat))]) (post := [esG c_Val 64 s0_2, esG cZ 64 s0_3, esG cB 64 s0_4]) (off := 512) (sgc (esG_len cu8_len) sg0) rfl 0 (.int .u8 (nn ((s0_1 ((zquo (IntKind.i64.wrap (y1 + s0_5)) 8)).toNat) ||| (1#8 <<< ((zrem (IntKind.i64.wrap (y1 + s0_5)) 8)).toNat)))) cu8_len cu8_one rfl rfl (fun w => by kernel_rfl) (inR_nat hq2) e_rb0) [0], .o, .o] [0] (fun b => rfl) (by decide) rfl rfl (fun b => by kernel_rfl)
                · exact none_some e
              · exact none_some e
            · replace e := bindO_eq e
              obtain ⟨gb0, e_gb0, e⟩ := e
              obtain ⟨gb0_0, gb0_1, gb0_2, gb0_3⟩ := gb0
              try dsimp only at e
              replace e := cond_eq_or e
              rcases e with ⟨hq4, e⟩ | ⟨hq4, e⟩
              · replace e := cond_eq_or e
                rcases e with ⟨hq5, e⟩ | ⟨hq5, e⟩
                · replace e := bindT_eq e
                  obtain ⟨rb1, e_rb1, e⟩ := e
                  try dsimp only at e
                  cases e; exact goes_runM hU [.b (z_lssT hq0), .o, .q (ixRo_ok (kd := .i64) (T := 34) (x := s0_5) (sz := 1) rfl (fun w => by kernel_rfl) hR0 hq1), .l (accRo hR0 cu8_len (inR_nat hq1) 0 [.int .u8 (nn (A0 (s0_5).toNat))] rfl), .o, .o, .o, .o, .o, .ov (z_quo Try.prog 3 (.tmp 18) (.const (.int .i64 (8))) (IntKind.i64.wrap (y1 + s0_5)) 8 (by decide)), .o, .o, .o, .o, .o, .q (ixA_ok (kd := .i64) (T := 96) (x := (zquo (IntKind.i64.wrap (y1 + s0_5)) 8)) (sz := 4) (N := 64) rfl rfl (fun w => by kernel_rfl) hq2), .o, .l (accSg (i := 0) (f := c_Val) (N := 64) (A := s0_2) (k := ((zquo (IntKind.i64.wrap (y1 + s0_5)) 8)).toNat) (pre := [esG cu8 512 s0_0, esG cu8 64 s0_1]) (post := [esG cZ 64 s0_3, esG cB 64 s0_4]) (off := 576) (sgc (esG_len cu8_len) (sgc (esG_len cu8_len) sg0)) rfl 0 [.int .i64 (((s0_2 ((zquo (IntKind.i64.wrap (y1 + s0_5)) 8)).toNat)).fKind)] c_Val_len (inR_nat hq2) rfl), .b (z_neqF hq3), .o, .o, .xg (ok0_region_frame_empty hU (zquo (IntKind.i64.wrap (y1 + s0_5)) 8) s0_0 s0_1 s0_2 s0_3 s0_4 gb0_0 gb0_1 gb0_2 gb0_3 e_gb0) [0], .o, .o, .o, .o, .o, .o, .o, .q (ixA_ok (kd := .i64) (T := 94) (x := (IntKind.i64.wrap (y1 + s0_5))) (sz := 1) (N := 512) rfl rfl (fun w => by kernel_rfl) hq4), .x (sqSg_ok (T := 5) (e := 100) (f := cu8) (N := 512) (A := s0_0) (v := (A0 (s0_5).toNat)) (pre := []) (post := [esG cu8 64 gb0_0, esG c_Val 64 gb0_1, esG cZ 64 gb0_2, esG cB 64 gb0_3]) (off := 0) sg0 rfl 0 (.int .u8 (nn (A0 (s0_5).toNat))) cu8_len cu8_one rfl rfl (fun w => by kernel_rfl) (inR_nat hq4) rfl) [0], .r [0, 1, 2, 3, 4, 5, 6, 7, 8, 9, 10, 11, 12, 13, 14] [] [15], .o, .o, .o, .o, .q (ixA_ok (kd := .i64) (T := 95) (x := (zquo (IntKind.i64.wrap (y1 + s0_5)) 8)) (sz := 1) (N := 64) rfl rfl (fun w => by kernel_rfl) hq2), .l (accSg (i := 0) (f := cu8) (N := 64) (A := gb0_0) (k := ((zquo (IntKind.i64.wrap (y1 + s0_5)) 8)).toNat) (pre := [esG cu8 512 (updF s0_0 ((IntKind.i64.wrap (y1 + s0_5))).toNat (A0 (s0_5).toNat))]) (post := [esG c_Val 64 gb0_1, esG cZ 64 gb0_2, esG cB 64 gb0_3]) (off := 512) (sgc (esG_len cu8_len) sg0) rfl 0 [.int .u8 (nn (gb0_0 ((zquo (IntKind.i64.wrap (y1 + s0_5)) 8)).toNat))] cu8_len (inR_nat hq2) rfl), .o, .o, .o, .ov (z_rem Try.prog 3 (.tmp 47) (.const (.int .i64 (8))) (IntKind.i64.wrap (y1 + s0_5)) 8 (by decide)), .ov (u8_shl Try.prog 5 (.const (.int .u8 (1))) (.tmp 48) (1#8) ((zrem (IntKind.i64.wrap (y1 + s0_5)) 8)).toNat .i64 (z_pos hq5)), .v .u8 (u8_or (gb0_0 ((zquo (IntKind.i64.wrap (y1 + s0_5)) 8)).toNat) (1#8 <<< ((zrem (IntKind.i64.wrap (y1 + s0_5)) 8)).toNat)), .o, .o, .q (ixA_ok (kd := .i64) (T := 95) (x := (zquo (IntKind.i64.wrap (y1 + s0_5)) 8)) (sz := 1) (N := 64) rfl rfl (fun w => by kernel_rfl) hq2), .x (sqSg_ok (T := 5) (e := 100) (f := cu8) (N := 64) (A := gb0_0) (v := ((gb0_0 ((zquo (IntKind.i64.wrap (y1 + s0_5)) 8)).toNat) ||| (1#8 <<< ((zrem (IntKind.i64.wrap (y1 + s0_5)) 8)).toNat))) (pre := [esG cu8 512 (updF s0_0 ((IntKind.i64.wrap (y1 + s0_5))).toNat (A0 (s0_5).toNat))]) (post := [esG c_Val 64 gb0_1, esG cZ 64 gb0_2, esG cB 64 gb0_3]) (off := 512) (sgc (esG_len cu8_len) sg0) rfl 0 (.int .u8 (nn ((gb0_0 ((zquo (IntKind.i64.wrap (y1 + s0_5)) 8)).toNat) ||| (1#8 <<< ((zrem (IntKind.i64.wrap (y1 + s0_5)) 8)).toNat)))) cu8_len cu8_one rfl rfl (fun w => by kernel_rfl) (inR_nat hq2) e_rb1) [0], .o, .o] [0] (fun b => rfl) (by decide) rfl rfl (fun b => by kernel_rfl)
                · exact none_some e
              · exact none_some e
          · exact none_some e
        · exact none_some e
      · cases e; exact ⟨ne_exit 0, goes_runM hU [.b (z_lssF hq0)] [0] (fun b => rfl) (by decide) rfl rfl (fun b => by kernel_rfl)⟩) s r h
noncomputable def t0_region_frame_put_L0_0 (y1 : Int) (a0 : Option Addr) (p0 : Nat) (q0 : Nat) (n0 : Nat) (k0 : Nat) (A0 : Nat → BitVec 8) (w0 : Nat → BitVec 8) (w1 : Nat → BitVec 8) (w2 : Nat → Val) (w3 : Nat → Int) (w4 : Nat → Bool) (s0_0 : Nat → BitVec 8) (s0_1 : Nat → BitVec 8) (s0_2 : Nat → Val) (s0_3 : Nat → Int) (s0_4 : Nat → Bool) (s0_5 : Int) (ls : List L1) : List Value := List.append [.pointer (some ⟨(lget ls 0).n, 0, none⟩), .int .i64 (y1), .slice a0 n0 (n0 + k0)] (List.append (und 6) (List.append [.slice a0 n0 (n0 + k0), .int .i64 ((n0 : Int)), .int .i64 (s0_5)] (und 43)))
def pre_region_frame_put_L0_0 (y1 : Int) (a0 : Option Addr) (p0 : Nat) (q0 : Nat) (n0 : Nat) (k0 : Nat) (A0 : Nat → BitVec 8) (w0 : Nat → BitVec 8) (w1 : Nat → BitVec 8) (w2 : Nat → Val) (w3 : Nat → Int) (w4 : Nat → Bool) (s0_0 : Nat → BitVec 8) (s0_1 : Nat → BitVec 8) (s0_2 : Nat → Val) (s0_3 : Nat → Int) (s0_4 : Nat → Bool) (s0_5 : Int) (ls : List L1) : List Obj := [.cells ⟨segs [esG cu8 512 s0_0, esG cu8 64 s0_1, esG c_Val 64 s0_2, esG cZ 64 s0_3, esG cB 64 s0_4]⟩ 100]
theorem sp0_region_frame_put_L0_0_ok (s0_0 : Nat → BitVec 8) (s0_1 : Nat → BitVec 8) (s0_2 : Nat → Val) (s0_3 : Nat → Int) (s0_4 : Nat → Bool) (s0_5 : Int) (c0_0 : Nat → BitVec 8) (c0_1 : Nat → BitVec 8) (c0_2 : Nat → Val) (c0_3 : Nat → Int) (c0_4 : Nat → Bool) (h : lpO (st_region_frame_put_L0 y1 n0 A0) (.c0 s0_0 s0_1 s0_2 s0_3 s0_4 s0_5) = some (.e0 c0_0 c0_1 c0_2 c0_3 c0_4)) : SpcG Try.prog M B0 S ⟨fun ls => .code (.loop bd_region_frame_put_L0) (t0_region_frame_put_L0_0 y1 a0 p0 q0 n0 k0 A0 w0 w1 w2 w3 w4 s0_0 s0_1 s0_2 s0_3 s0_4 s0_5 ls), pre_region_frame_put_L0_0 y1 a0 p0 q0 n0 k0 A0 w0 w1 w2 w3 w4 s0_0 s0_1 s0_2 s0_3 s0_4 s0_5, 1, (.exit 0), fun ls => vf_region_frame_put_L0 y1 a0 p0 q0 n0 k0 A0 w0 w1 w2 w3 w4 (.e0 c0_0 c0_1 c0_2 c0_3 c0_4) (ls.take 1 ++ ls.drop 1), fun ls => (Hf_region_frame_put_L0 y1 a0 p0 q0 n0 k0 A0 w0 w1 w2 w3 w4 (.e0 c0_0 c0_1 c0_2 c0_3 c0_4) (ls.take 1 ++ ls.drop 1)).take 1 ++ List.replicate 0 unb, fun ls => (Hf_region_frame_put_L0 y1 a0 p0 q0 n0 k0 A0 w0 w1 w2 w3 w4 (.e0 c0_0 c0_1 c0_2 c0_3 c0_4) (ls.take 1 ++ ls.drop 1)).drop 1⟩ :=
  spc_of_goesM hU 0 (k0 := 1) (go_region_frame_put_L0 hU y1 a0 p0 q0 n0 k0 A0 hR0 w0 w1 w2 w3 w4 _ _ h) (t0_region_frame_put_L0_0 y1 a0 p0 q0 n0 k0 A0 w0 w1 w2 w3 w4 s0_0 s0_1 s0_2 s0_3 s0_4 s0_5) (pre_region_frame_put_L0_0 y1 a0 p0 q0 n0 k0 A0 w0 w1 w2 w3 w4 s0_0 s0_1 s0_2 s0_3 s0_4 s0_5) (fun _ => rfl) (fun ls h => by match ls, h with | [l0], _ => exact ⟨by kernel_rfl, by kernel_rfl⟩) (fun ls h => by match ls, h with | [l0], _ => rfl) (by decide) (by decide) (fun ls => rfl)
inductive R_region_frame_put where
  | e0 (c0_0 : Nat → BitVec 8) (c0_1 : Nat → BitVec 8) (c0_2 : Nat → Val) (c0_3 : Nat → Int) (c0_4 : Nat → Bool)
noncomputable def m_region_frame_put (y1 : Int) (n0 : Nat) (A0 : Nat → BitVec 8) (w0 : Nat → BitVec 8) (w1 : Nat → BitVec 8) (w2 : Nat → Val) (w3 : Nat → Int) (w4 : Nat → Bool) : Option R_region_frame_put :=
  (lpO (st_region_frame_put_L0 y1 n0 A0) (.c0 w0 w1 w2 w3 w4 0)).bind fun g0 => match g0 with
  | .e0 g0_0 g0_1 g0_2 g0_3 g0_4 =>
  some (.e0 g0_0 g0_1 g0_2 g0_3 g0_4)
def sq0_region_frame_put (y1 : Int) (a0 : Option Addr) (p0 : Nat) (q0 : Nat) (n0 : Nat) (k0 : Nat) (A0 : Nat → BitVec 8) (w0 : Nat → BitVec 8) (w1 : Nat → BitVec 8) (w2 : Nat → Val) (w3 : Nat → Int) (w4 : Nat → Bool) (c0_0 : Nat → BitVec 8) (c0_1 : Nat → BitVec 8) (c0_2 : Nat → Val) (c0_3 : Nat → Int) (c0_4 : Nat → Bool) : Spc := ⟨fun ls => .call 133 #[.pointer (some ⟨(lget ls 0).n, 0, none⟩), .int .i64 (y1), .slice a0 n0 (n0 + k0)], fun ls => [.cells ⟨segs [esG cu8 512 w0, esG cu8 64 w1, esG c_Val 64 w2, esG cZ 64 w3, esG cB 64 w4]⟩ 100], 0, .normal, fun ls => [.tuple #[]], fun ls => [.cells ⟨segs [esG cu8 512 c0_0, esG cu8 64 c0_1, esG c_Val 64 c0_2, esG cZ 64 c0_3, esG cB 64 c0_4]⟩ 100], fun ls => []⟩
theorem ok0_region_frame_put (c0_0 : Nat → BitVec 8) (c0_1 : Nat → BitVec 8) (c0_2 : Nat → Val) (c0_3 : Nat → Int) (c0_4 : Nat → Bool) (e : m_region_frame_put y1 n0 A0 w0 w1 w2 w3 w4 = some (.e0 c0_0 c0_1 c0_2 c0_3 c0_4)) : SpcG Try.prog M B0 S (sq0_region_frame_put y1 a0 p0 q0 n0 k0 A0 w0 w1 w2 w3 w4 c0_0 c0_1 c0_2 c0_3 c0_4) := by
  unfold m_region_frame_put at e
  replace e := bindO_eq e
  obtain ⟨g0, e_g0, e⟩ := e
  obtain ⟨g0_0, g0_1, g0_2, g0_3, g0_4⟩ := g0
  try dsimp only at e
  injection e with e; injection e with i0 i1 i2 i3 i4; subst i0 i1 i2 i3 i4; exact fn_specG hU (P := Try.prog) Try.func133 (fun xs w => by kernel_rfl) 1 _ _ (fun _ => rfl) _ _ _ [] [.o, .o, .o, .cp, .cx (sp0_region_frame_put_L0_0_ok hU y1 a0 p0 q0 n0 k0 A0 hR0 w0 w1 w2 w3 w4 w0 w1 w2 w3 w4 0 g0_0 g0_1 g0_2 g0_3 g0_4 e_g0) [0]] [] (fun b => by kernel_rfl)
inductive R_region_frame_store_v1 where
  | e0 (c0_0 : Nat → BitVec 8) (c0_1 : Nat → BitVec 8) (c0_2 : Nat → Val) (c0_3 : Nat → Int) (c0_4 : Nat → Bool) (c0_5 : Int)
noncomputable def m_region_frame_store_v1 (y1 : Int) (y2 : Int) (y3 : Val) (w0 : Nat → BitVec 8) (w1 : Nat → BitVec 8) (w2 : Nat → Val) (w3 : Nat → Int) (w4 : Nat → Bool) : Option R_region_frame_store_v1 :=
  (m_region_frame_can_v1 y1 y2 w0 w1 w2 w3 w4).bind fun g0 => match g0 with
  | .e0 g0_0 =>
  bif g0_0 == 0 then
    (bif y3.fKind == 1 then
      (bif inR y2 (8 + 1) then
        ((m_region_frame_put y1 ((y2).toNat - 0) (fun k => (fun k => if k = 0 then ((y3.fNum >>> 0).setWidth 8) else if k = 1 then ((y3.fNum >>> 8).setWidth 8) else if k = 2 then ((y3.fNum >>> 16).setWidth 8) else if k = 3 then ((y3.fNum >>> 24).setWidth 8) else if k = 4 then ((y3.fNum >>> 32).setWidth 8) else if k = 5 then ((y3.fNum >>> 40).setWidth 8) else if k = 6 then ((y3.fNum >>> 48).setWidth 8) else ((y3.fNum >>> 56).setWidth 8)) (0 + k)) w0 w1 w2 w3 w4).bind fun g1 => match g1 with
        | .e0 g1_0 g1_1 g1_2 g1_3 g1_4 =>
        some (.e0 g1_0 g1_1 g1_2 g1_3 g1_4 0))
      else (none))
    else (bif y2 == 8 then
      (bif (zrem y1 8) == 0 then
        (bif inR (zquo y1 8) 64 then
          (some (.e0 w0 (updF w1 ((zquo y1 8)).toNat (0#8)) (updF w2 ((zquo y1 8)).toNat y3) w3 w4 0))
        else (none))
      else (some (.e0 w0 w1 w2 w3 w4 6)))
    else (some (.e0 w0 w1 w2 w3 w4 6))))
  else (some (.e0 w0 w1 w2 w3 w4 g0_0))
def sq0_region_frame_store_v1 (y1 : Int) (y2 : Int) (y3 : Val) (w0 : Nat → BitVec 8) (w1 : Nat → BitVec 8) (w2 : Nat → Val) (w3 : Nat → Int) (w4 : Nat → Bool) (c0_0 : Nat → BitVec 8) (c0_1 : Nat → BitVec 8) (c0_2 : Nat → Val) (c0_3 : Nat → Int) (c0_4 : Nat → Bool) (c0_5 : Int) : Spc := ⟨fun ls => .call 128 #[.pointer (some ⟨(lget ls 0).n, 0, none⟩), .int .i64 (y1), .int .i64 (y2), (v_Val y3)], fun ls => [.cells ⟨segs [esG cu8 512 w0, esG cu8 64 w1, esG c_Val 64 w2, esG cZ 64 w3, esG cB 64 w4]⟩ 100], 0, .normal, fun ls => [.int .i64 (c0_5)], fun ls => [.cells ⟨segs [esG cu8 512 c0_0, esG cu8 64 c0_1, esG c_Val 64 c0_2, esG cZ 64 c0_3, esG cB 64 c0_4]⟩ 100], fun ls => []⟩
end
section
variable {M : Nat → Prop} {B0 : Nat} {S : World → Prop} (hU : Up M B0 S)
include hU
theorem ok0_region_frame_store_v1 (y1 : Int) (y2 : Int) (y3 : Val) (w0 : Nat → BitVec 8) (w1 : Nat → BitVec 8) (w2 : Nat → Val) (w3 : Nat → Int) (w4 : Nat → Bool) (c0_0 : Nat → BitVec 8) (c0_1 : Nat → BitVec 8) (c0_2 : Nat → Val) (c0_3 : Nat → Int) (c0_4 : Nat → Bool) (c0_5 : Int) (e : m_region_frame_store_v1 y1 y2 y3 w0 w1 w2 w3 w4 = some (.e0 c0_0 c0_1 c0_2 c0_3 c0_4 c0_5)) : SpcG Try.prog M B0 S (sq0_region_frame_store_v1 y1 y2 y3 w0 w1 w2 w3 w4 c0_0 c0_1 c0_2 c0_3 c0_4 c0_5) := by
  unfold m_region_frame_store_v1 at e
  replace e := bindO_eq e
  obtain ⟨g0, e_g0, e⟩ := e
  obtain ⟨g0_0⟩ := g0
  try dsimp only at e
  replace e := cond_eq_or e
  rcases e with ⟨hq0, e⟩ | ⟨hq0, e⟩
  · replace e := cond_eq_or e
    rcases e with ⟨hq1, e⟩ | ⟨hq1, e⟩
    · replace e := cond_eq_or e
      rcases e with ⟨hq2, e⟩ | ⟨hq2, e⟩
      · replace e := bindO_eq e
        obtain ⟨g1, e_g1, e⟩ := e
        obtain ⟨g1_0, g1_1, g1_2, g1_3, g1_4⟩ := g1
        try dsimp only at e
        injection e with e; injection e with i0 i1 i2 i3 i4 i5; subst i0 i1 i2 i3 i4 i5; exact fn_specG hU (P := Try.prog) Try.func128 (fun xs w => by kernel_rfl) 1 _ _ (fun _ => rfl) _ _ _ [] [.o, .o, .o, .o, .o, .xg (ok0_region_frame_can_v1 hU y1 y2 w0 w1 w2 w3 w4 g0_0 e_g0) [0], .o, .o, .b (z_neqT hq0), .o, .a 1, .b (z_eqlT hq1), .o, .r [0, 1, 2] [] [3], .o, .o, .a 1, .xg (p0_region_putNumber_v1 hU y3.fNum ) [2], .o, .o, .o, .q (slArr_ok (T := 203) (e := 5) (sz := 1) (N := 8) (off := 0) (x := none) (y := (some y2)) (by kernel_rfl) (fun w => by kernel_rfl) (by decide) hq2 (inR_lo0 hq2)), .xg (SpcG.ownT hU (f := cu8) cu8_len 8 (fun k => if k = 0 then ((y3.fNum >>> 0).setWidth 8) else if k = 1 then ((y3.fNum >>> 8).setWidth 8) else if k = 2 then ((y3.fNum >>> 16).setWidth 8) else if k = 3 then ((y3.fNum >>> 24).setWidth 8) else if k = 4 then ((y3.fNum >>> 32).setWidth 8) else if k = 5 then ((y3.fNum >>> 40).setWidth 8) else if k = 6 then ((y3.fNum >>> 48).setWidth 8) else ((y3.fNum >>> 56).setWidth 8)) 203 (fun _ => []) (fun _ => 8 - (y2).toNat) 0 ((y2).toNat - 0) (arr_le (x := none) (y := (some y2)) (n := 8) (by decide) hq2 (inR_lo0 hq2)) _ 0 .normal (by intros; rfl) (by intros; rfl) (by intros; rfl) (fun M0 B0 S0 x0 u0 v0 z0 hU0 hs0 hr0 => ok0_region_frame_put hU0 y1 x0 u0 v0 ((y2).toNat - 0) z0 (fun k => (fun k => if k = 0 then ((y3.fNum >>> 0).setWidth 8) else if k = 1 then ((y3.fNum >>> 8).setWidth 8) else if k = 2 then ((y3.fNum >>> 16).setWidth 8) else if k = 3 then ((y3.fNum >>> 24).setWidth 8) else if k = 4 then ((y3.fNum >>> 32).setWidth 8) else if k = 5 then ((y3.fNum >>> 40).setWidth 8) else if k = 6 then ((y3.fNum >>> 48).setWidth 8) else ((y3.fNum >>> 56).setWidth 8)) (0 + k)) hr0 w0 w1 w2 w3 w4 g1_0 g1_1 g1_2 g1_3 g1_4 e_g1)) [2, 0], .o] [] (fun b => by kernel_rfl)
      · exact none_some e
    · replace e := cond_eq_or e
      rcases e with ⟨hq2, e⟩ | ⟨hq2, e⟩
      · replace e := cond_eq_or e
        rcases e with ⟨hq3, e⟩ | ⟨hq3, e⟩
        · replace e := cond_eq_or e
          rcases e with ⟨hq4, e⟩ | ⟨hq4, e⟩
          · injection e with e; injection e with i0 i1 i2 i3 i4 i5; subst i0 i1 i2 i3 i4 i5; exact fn_specG hU (P := Try.prog) Try.func128 (fun xs w => by kernel_rfl) 1 _ _ (fun _ => rfl) _ _ _ [] [.o, .o, .o, .o, .o, .xg (ok0_region_frame_can_v1 hU y1 y2 w0 w1 w2 w3 w4 g0_0 e_g0) [0], .o, .o, .b (z_neqT hq0), .o, .a 1, .b (z_eqlF hq1), .o, .b (z_neqT hq2), .o, .o, .ov (z_rem Try.prog 3 (.tmp 33) (.const (.int .i64 (8))) y1 8 (by decide)), .b (z_neqT hq3), .o, .r [0, 1, 2, 3, 4, 5, 6] [] [7], .o, .o, .ov (z_quo Try.prog 3 (.tmp 38) (.const (.int .i64 (8))) y1 8 (by decide)), .a 1, .o, .o, .q (ixA_ok (kd := .i64) (T := 96) (x := (zquo y1 8)) (sz := 4) (N := 64) rfl rfl (fun w => by kernel_rfl) hq4), .x (sqSg_ok (T := 28) (e := 100) (f := c_Val) (N := 64) (A := w2) (v := y3) (pre := [esG cu8 512 w0, esG cu8 64 w1]) (post := [esG cZ 64 w3, esG cB 64 w4]) (off := 576) (sgc (esG_len cu8_len) (sgc (esG_len cu8_len) sg0)) rfl 0 (.agg #[.int .i64 (y3.fKind), .int .u64 (nn y3.fNum), .int .i64 (y3.fId), .int .i64 (y3.fOff)]) c_Val_len c_Val_one rfl rfl (fun w => by kernel_rfl) (inR_nat hq4) rfl) [0], .o, .o, .ov (z_quo Try.prog 3 (.tmp 45) (.const (.int .i64 (8))) y1 8 (by decide)), .o, .o, .q (ixA_ok (kd := .i64) (T := 95) (x := (zquo y1 8)) (sz := 1) (N := 64) rfl rfl (fun w => by kernel_rfl) hq4), .x (sqSg_ok (T := 5) (e := 100) (f := cu8) (N := 64) (A := w1) (v := 0#8) (pre := [esG cu8 512 w0]) (post := [esG c_Val 64 (updF w2 ((zquo y1 8)).toNat y3), esG cZ 64 w3, esG cB 64 w4]) (off := 512) (sgc (esG_len cu8_len) sg0) rfl 0 (.int .u8 (0)) cu8_len cu8_one rfl rfl (fun w => by kernel_rfl) (inR_nat hq4) rfl) [0], .o] [] (fun b => by kernel_rfl)
          · exact none_some e
        · injection e with e; injection e with i0 i1 i2 i3 i4 i5; subst i0 i1 i2 i3 i4 i5; exact fn_specG hU (P := Try.prog) Try.func128 (fun xs w => by kernel_rfl) 1 _ _ (fun _ => rfl) _ _ _ [] [.o, .o, .o, .o, .o, .xg (ok0_region_frame_can_v1 hU y1 y2 w0 w1 w2 w3 w4 g0_0 e_g0) [0], .o, .o, .b (z_neqT hq0), .o, .a 1, .b (z_eqlF hq1), .o, .b (z_neqT hq2), .o, .o, .ov (z_rem Try.prog 3 (.tmp 33) (.const (.int .i64 (8))) y1 8 (by decide)), .b (z_neqF hq3), .o, .o] [] (fun b => by kernel_rfl)
      · injection e with e; injection e with i0 i1 i2 i3 i4 i5; subst i0 i1 i2 i3 i4 i5; exact fn_specG hU (P := Try.prog) Try.func128 (fun xs w => by kernel_rfl) 1 _ _ (fun _ => rfl) _ _ _ [] [.o, .o, .o, .o, .o, .xg (ok0_region_frame_can_v1 hU y1 y2 w0 w1 w2 w3 w4 g0_0 e_g0) [0], .o, .o, .b (z_neqT hq0), .o, .a 1, .b (z_eqlF hq1), .o, .b (z_neqF hq2), .o, .o, .o] [] (fun b => by kernel_rfl)
  · injection e with e; injection e with i0 i1 i2 i3 i4 i5; subst i0 i1 i2 i3 i4 i5; exact fn_specG hU (P := Try.prog) Try.func128 (fun xs w => by kernel_rfl) 1 _ _ (fun _ => rfl) _ _ _ [] [.o, .o, .o, .o, .o, .xg (ok0_region_frame_can_v1 hU y1 y2 w0 w1 w2 w3 w4 g0_0 e_g0) [0], .o, .o, .b (z_neqF hq0), .o, .o] [] (fun b => by kernel_rfl)
inductive R_region_Mem_Store_v2 where
  | e0 (c0_0 : Nat → BitVec 8) (c0_1 : Nat → BitVec 8) (c0_2 : Nat → Val) (c0_3 : Nat → Int) (c0_4 : Nat → Bool) (c0_5 : Int)
noncomputable def m_region_Mem_Store_v2 (y2 : Int) (y3 : Val) (w0 : Int) (w1 : Nat → BitVec 8) (w2 : Nat → BitVec 8) (w3 : Nat → Val) (w4 : Nat → Int) (w5 : Nat → Bool) : Option R_region_Mem_Store_v2 :=
  bif y3.fKind == 0 then
    (some (.e0 w1 w2 w3 w4 w5 1))
  else (bif m_region_rightSize_v2 y2 then
    ((m_region_Mem_find_v4 y2 w0 w1 w2 w3 w4 w5).bind fun g0 => match g0 with
    | .e0 g0_0 => ((m_region_frame_store_v1 g0_0 y2 y3 w1 w2 w3 w4 w5).bind fun g1 => match g1 with
      | .e0 g1_0 g1_1 g1_2 g1_3 g1_4 g1_5 =>
      some (.e0 g1_0 g1_1 g1_2 g1_3 g1_4 g1_5))
    | .e1  => (some (.e0 w1 w2 w3 w4 w5 3)))
  else (some (.e0 w1 w2 w3 w4 w5 8)))
def sq0_region_Mem_Store_v2 (y2 : Int) (y3 : Val) (w0 : Int) (w1 : Nat → BitVec 8) (w2 : Nat → BitVec 8) (w3 : Nat → Val) (w4 : Nat → Int) (w5 : Nat → Bool) (c0_0 : Nat → BitVec 8) (c0_1 : Nat → BitVec 8) (c0_2 : Nat → Val) (c0_3 : Nat → Int) (c0_4 : Nat → Bool) (c0_5 : Int) : Spc := ⟨fun ls => .call 18 #[.pointer (some ⟨(lget ls 0).n, 0, none⟩), .agg #[.int .i64 (2), .int .u64 (0), .int .i64 (1), .int .i64 (w0)], .int .i64 (y2), (v_Val y3)], fun ls => [.cells #[.map (some (lget ls 1).n), .int .i64 (1)] 91, .map #[⟨.int .i64 (1), .iface 93 (.pointer (some ⟨(lget ls 2).n, 0, none⟩)), 0⟩] 1, .cells ⟨segs [esG cu8 512 w1, esG cu8 64 w2, esG c_Val 64 w3, esG cZ 64 w4, esG cB 64 w5]⟩ 100], 0, .normal, fun ls => [.int .i64 (c0_5)], fun ls => [.cells #[.map (some (lget ls 1).n), .int .i64 (1)] 91, .map #[⟨.int .i64 (1), .iface 93 (.pointer (some ⟨(lget ls 2).n, 0, none⟩)), 0⟩] 1, .cells ⟨segs [esG cu8 512 c0_0, esG cu8 64 c0_1, esG c_Val 64 c0_2, esG cZ 64 c0_3, esG cB 64 c0_4]⟩ 100], fun ls => []⟩
theorem ok0_region_Mem_Store_v2 (y2 : Int) (y3 : Val) (w0 : Int) (w1 : Nat → BitVec 8) (w2 : Nat → BitVec 8) (w3 : Nat → Val) (w4 : Nat → Int) (w5 : Nat → Bool) (c0_0 : Nat → BitVec 8) (c0_1 : Nat → BitVec 8) (c0_2 : Nat → Val) (c0_3 : Nat → Int) (c0_4 : Nat → Bool) (c0_5 : Int) (e : m_region_Mem_Store_v2 y2 y3 w0 w1 w2 w3 w4 w5 = some (.e0 c0_0 c0_1 c0_2 c0_3 c0_4 c0_5)) : SpcG Try.prog M B0 S (sq0_region_Mem_Store_v2 y2 y3 w0 w1 w2 w3 w4 w5 c0_0 c0_1 c0_2 c0_3 c0_4 c0_5) := by
  unfold m_region_Mem_Store_v2 at e
  replace e := cond_eq_or e
  rcases e with ⟨hq0, e⟩ | ⟨hq0, e⟩
  · injection e with e; injection e with i0 i1 i2 i3 i4 i5; subst i0 i1 i2 i3 i4 i5; exact fn_specG hU (P := Try.prog) Try.func18 (fun xs w => by kernel_rfl) 3 _ _ (fun _ => rfl) _ _ _ [] [.o, .o, .o, .a 3, .cg (ok_region_kindTrap_v2 hU w0 ), .o, .o, .o, .o, .o, .a 4, .b (z_eqlT hq0), .o, .o] [] (fun b => by kernel_rfl)
  · replace e := cond_eq_or e
    rcases e with ⟨hq1, e⟩ | ⟨hq1, e⟩
    · replace e := bindO_eq e
      obtain ⟨g0, e_g0, e⟩ := e
      rcases g0 with ⟨g0_0⟩ | _
      · try dsimp only at e
        replace e := bindO_eq e
        obtain ⟨g1, e_g1, e⟩ := e
        obtain ⟨g1_0, g1_1, g1_2, g1_3, g1_4, g1_5⟩ := g1
        try dsimp only at e
        injection e with e; injection e with i0 i1 i2 i3 i4 i5; subst i0 i1 i2 i3 i4 i5; exact fn_specG hU (P := Try.prog) Try.func18 (fun xs w => by kernel_rfl) 3 _ _ (fun _ => rfl) _ _ _ [] [.o, .o, .o, .a 3, .cg (ok_region_kindTrap_v2 hU w0 ), .o, .o, .o, .o, .o, .a 4, .b (z_eqlF hq0), .o, .o, .cg (ok_region_rightSize_v2 hU y2 true hq1), .o, .o, .o, .a 3, .o, .xg (ok0_region_Mem_find_v4 hU y2 w0 w1 w2 w3 w4 w5 g0_0 e_g0) [0, 1, 2], .o, .o, .o, .o, .o, .o, .o, .o, .o, .o, .o, .o, .a 4, .xg (ok0_region_frame_store_v1 hU g0_0 y2 y3 w1 w2 w3 w4 w5 g1_0 g1_1 g1_2 g1_3 g1_4 g1_5 e_g1) [2], .o] [] (fun b => by kernel_rfl)
      · try dsimp only at e
        injection e with e; injection e with i0 i1 i2 i3 i4 i5; subst i0 i1 i2 i3 i4 i5; exact fn_specG hU (P := Try.prog) Try.func18 (fun xs w => by kernel_rfl) 3 _ _ (fun _ => rfl) _ _ _ [] [.o, .o, .o, .a 3, .cg (ok_region_kindTrap_v2 hU w0 ), .o, .o, .o, .o, .o, .a 4, .b (z_eqlF hq0), .o, .o, .cg (ok_region_rightSize_v2 hU y2 true hq1), .o, .o, .o, .a 3, .o, .xg (ok1_region_Mem_find_v4 hU y2 w0 w1 w2 w3 w4 w5  e_g0) [0, 1, 2], .o, .o, .o, .o, .o, .o, .o, .o, .o, .o, .o] [] (fun b => by kernel_rfl)
    · injection e with e; injection e with i0 i1 i2 i3 i4 i5; subst i0 i1 i2 i3 i4 i5; exact fn_specG hU (P := Try.prog) Try.func18 (fun xs w => by kernel_rfl) 3 _ _ (fun _ => rfl) _ _ _ [] [.o, .o, .o, .a 3, .cg (ok_region_kindTrap_v2 hU w0 ), .o, .o, .o, .o, .o, .a 4, .b (z_eqlF hq0), .o, .o, .cg (ok_region_rightSize_v2 hU y2 false hq1), .o, .o, .o] [] (fun b => by kernel_rfl)
inductive R_region_frame_unmark where
  | e0 (c0_0 : Nat → BitVec 8) (c0_1 : Nat → Val) (c0_2 : Nat → Int) (c0_3 : Nat → Bool)
noncomputable def m_region_frame_unmark (y1 : Int) (w0 : Nat → BitVec 8) (w1 : Nat → BitVec 8) (w2 : Nat → Val) (w3 : Nat → Int) (w4 : Nat → Bool) : Option R_region_frame_unmark :=
  (m_region_frame_empty y1 w0 w1 w2 w3 w4).bind fun g0 => match g0 with
  | .e0 g0_0 g0_1 g0_2 g0_3 =>
  (m_region_frame_empty (IntKind.i64.wrap (y1 + 1)) w0 g0_0 g0_1 g0_2 g0_3).bind fun g1 => match g1 with
  | .e0 g1_0 g1_1 g1_2 g1_3 =>
  some (.e0 g1_0 g1_1 g1_2 g1_3)
def sq0_region_frame_unmark (y1 : Int) (w0 : Nat → BitVec 8) (w1 : Nat → BitVec 8) (w2 : Nat → Val) (w3 : Nat → Int) (w4 : Nat → Bool) (c0_0 : Nat → BitVec 8) (c0_1 : Nat → Val) (c0_2 : Nat → Int) (c0_3 : Nat → Bool) : Spc := ⟨fun ls => .call 54 #[.pointer (some ⟨(lget ls 0).n, 0, none⟩), .int .i64 (y1)], fun ls => [.cells ⟨segs [esG cu8 512 w0, esG cu8 64 w1, esG c_Val 64 w2, esG cZ 64 w3, esG cB 64 w4]⟩ 100], 0, .normal, fun ls => [.tuple #[]], fun ls => [.cells ⟨segs [esG cu8 512 w0, esG cu8 64 c0_0, esG c_Val 64 c0_1, esG cZ 64 c0_2, esG cB 64 c0_3]⟩ 100], fun ls => []⟩
theorem ok0_region_frame_unmark (y1 : Int) (w0 : Nat → BitVec 8) (w1 : Nat → BitVec 8) (w2 : Nat → Val) (w3 : Nat → Int) (w4 : Nat → Bool) (c0_0 : Nat → BitVec 8) (c0_1 : Nat → Val) (c0_2 : Nat → Int) (c0_3 : Nat → Bool) (e : m_region_frame_unmark y1 w0 w1 w2 w3 w4 = some (.e0 c0_0 c0_1 c0_2 c0_3)) : SpcG Try.prog M B0 S (sq0_region_frame_unmark y1 w0 w1 w2 w3 w4 c0_0 c0_1 c0_2 c0_3) := by
  unfold m_region_frame_unmark at e
  replace e := bindO_eq e
  obtain ⟨g0, e_g0, e⟩ := e
  obtain ⟨g0_0, g0_1, g0_2, g0_3⟩ := g0
  try dsimp only at e
  replace e := bindO_eq e
  obtain ⟨g1, e_g1, e⟩ := e
  obtain ⟨g1_0, g1_1, g1_2, g1_3⟩ := g1
  try dsimp only at e
  injection e with e; injection e with i0 i1 i2 i3; subst i0 i1 i2 i3; exact fn_specG hU (P := Try.prog) Try.func54 (fun xs w => by kernel_rfl) 1 _ _ (fun _ => rfl) _ _ _ [] [.o, .o, .xg (ok0_region_frame_empty hU y1 w0 w1 w2 w3 w4 g0_0 g0_1 g0_2 g0_3 e_g0) [0], .o, .o, .o, .xg (ok0_region_frame_empty hU (IntKind.i64.wrap (y1 + 1)) w0 g0_0 g0_1 g0_2 g0_3 g1_0 g1_1 g1_2 g1_3 e_g1) [0]] [] (fun b => by kernel_rfl)
inductive R_region_Mem_Clear where
  | e0 (c0_0 : Nat → BitVec 8) (c0_1 : Nat → Val) (c0_2 : Nat → Int) (c0_3 : Nat → Bool) (c0_4 : Int)
noncomputable def m_region_Mem_Clear (w0 : Int) (w1 : Nat → BitVec 8) (w2 : Nat → BitVec 8) (w3 : Nat → Val) (w4 : Nat → Int) (w5 : Nat → Bool) : Option R_region_Mem_Clear :=
  (m_region_Mem_Tag w0 w1 w2 w3 w4 w5).bind fun g0 => match g0 with
  | .e0 g0_0 g0_1 =>
  bif g0_1 == 0 then
    ((m_region_Mem_findFrame w0 w1 w2 w3 w4 w5).bind fun g1 => match g1 with
    | .e0 g1_0 => ((m_region_frame_unmark (zquo g1_0 8) w1 w2 w3 w4 w5).bind fun g2 => match g2 with
      | .e0 g2_0 g2_1 g2_2 g2_3 =>
      some (.e0 g2_0 g2_1 g2_2 g2_3 0))
    | .e1  => (some (.e0 w2 w3 w4 w5 0)))
  else (some (.e0 w2 w3 w4 w5 g0_1))
def sq0_region_Mem_Clear (w0 : Int) (w1 : Nat → BitVec 8) (w2 : Nat → BitVec 8) (w3 : Nat → Val) (w4 : Nat → Int) (w5 : Nat → Bool) (c0_0 : Nat → BitVec 8) (c0_1 : Nat → Val) (c0_2 : Nat → Int) (c0_3 : Nat → Bool) (c0_4 : Int) : Spc := ⟨fun ls => .call 24 #[.pointer (some ⟨(lget ls 0).n, 0, none⟩), .agg #[.int .i64 (2), .int .u64 (0), .int .i64 (1), .int .i64 (w0)]], fun ls => [.cells #[.map (some (lget ls 1).n), .int .i64 (1)] 91, .map #[⟨.int .i64 (1), .iface 93 (.pointer (some ⟨(lget ls 2).n, 0, none⟩)), 0⟩] 1, .cells ⟨segs [esG cu8 512 w1, esG cu8 64 w2, esG c_Val 64 w3, esG cZ 64 w4, esG cB 64 w5]⟩ 100], 0, .normal, fun ls => [.int .i64 (c0_4)], fun ls => [.cells #[.map (some (lget ls 1).n), .int .i64 (1)] 91, .map #[⟨.int .i64 (1), .iface 93 (.pointer (some ⟨(lget ls 2).n, 0, none⟩)), 0⟩] 1, .cells ⟨segs [esG cu8 512 w1, esG cu8 64 c0_0, esG c_Val 64 c0_1, esG cZ 64 c0_2, esG cB 64 c0_3]⟩ 100], fun ls => []⟩
theorem ok0_region_Mem_Clear (w0 : Int) (w1 : Nat → BitVec 8) (w2 : Nat → BitVec 8) (w3 : Nat → Val) (w4 : Nat → Int) (w5 : Nat → Bool) (c0_0 : Nat → BitVec 8) (c0_1 : Nat → Val) (c0_2 : Nat → Int) (c0_3 : Nat → Bool) (c0_4 : Int) (e : m_region_Mem_Clear w0 w1 w2 w3 w4 w5 = some (.e0 c0_0 c0_1 c0_2 c0_3 c0_4)) : SpcG Try.prog M B0 S (sq0_region_Mem_Clear w0 w1 w2 w3 w4 w5 c0_0 c0_1 c0_2 c0_3 c0_4) := by
  unfold m_region_Mem_Clear at e
  replace e := bindO_eq e
  obtain ⟨g0, e_g0, e⟩ := e
  obtain ⟨g0_0, g0_1⟩ := g0
  try dsimp only at e
  replace e := cond_eq_or e
  rcases e with ⟨hq0, e⟩ | ⟨hq0, e⟩
  · replace e := bindO_eq e
    obtain ⟨g1, e_g1, e⟩ := e
    rcases g1 with ⟨g1_0⟩ | _
    · try dsimp only at e
      replace e := bindO_eq e
      obtain ⟨g2, e_g2, e⟩ := e
      obtain ⟨g2_0, g2_1, g2_2, g2_3⟩ := g2
      try dsimp only at e
      injection e with e; injection e with i0 i1 i2 i3 i4; subst i0 i1 i2 i3 i4; exact fn_specG hU (P := Try.prog) Try.func24 (fun xs w => by kernel_rfl) 3 _ _ (fun _ => rfl) _ _ _ [] [.o, .o, .o, .a 3, .xg (ok0_region_Mem_Tag hU w0 w1 w2 w3 w4 w5 g0_0 g0_1 e_g0) [0, 1, 2], .o, .o, .o, .o, .o, .o, .b (z_neqT hq0), .o, .a 3, .xg (ok0_region_Mem_findFrame hU w0 w1 w2 w3 w4 w5 g1_0 e_g1) [0, 1, 2], .o, .o, .o, .o, .o, .o, .o, .o, .o, .o, .o, .ov (z_quo Try.prog 3 (.tmp 29) (.const (.int .i64 (8))) g1_0 8 (by decide)), .xg (ok0_region_frame_unmark hU (zquo g1_0 8) w1 w2 w3 w4 w5 g2_0 g2_1 g2_2 g2_3 e_g2) [2], .o] [] (fun b => by kernel_rfl)
    · try dsimp only at e
      injection e with e; injection e with i0 i1 i2 i3 i4; subst i0 i1 i2 i3 i4; exact fn_specG hU (P := Try.prog) Try.func24 (fun xs w => by kernel_rfl) 3 _ _ (fun _ => rfl) _ _ _ [] [.o, .o, .o, .a 3, .xg (ok0_region_Mem_Tag hU w0 w1 w2 w3 w4 w5 g0_0 g0_1 e_g0) [0, 1, 2], .o, .o, .o, .o, .o, .o, .b (z_neqT hq0), .o, .a 3, .xg (ok1_region_Mem_findFrame hU w0 w1 w2 w3 w4 w5  e_g1) [0, 1, 2], .o, .o, .o, .o, .o, .o, .o, .o, .o, .o] [] (fun b => by kernel_rfl)
  · injection e with e; injection e with i0 i1 i2 i3 i4; subst i0 i1 i2 i3 i4; exact fn_specG hU (P := Try.prog) Try.func24 (fun xs w => by kernel_rfl) 3 _ _ (fun _ => rfl) _ _ _ [] [.o, .o, .o, .a 3, .xg (ok0_region_Mem_Tag hU w0 w1 w2 w3 w4 w5 g0_0 g0_1 e_g0) [0, 1, 2], .o, .o, .o, .o, .o, .o, .b (z_neqF hq0), .o, .o] [] (fun b => by kernel_rfl)
inductive Sh_region_frame_readable_v1_L0 where
  | c0 (s0_0 : Int)
inductive Ex_region_frame_readable_v1_L0 where
  | e0 
  | e1 
noncomputable def st_region_frame_readable_v1_L0 (w3 : Nat → Int) (r0 : (Int) × (Int)) : Sh_region_frame_readable_v1_L0 → Option (Sh_region_frame_readable_v1_L0 ⊕ Ex_region_frame_readable_v1_L0)
  | .c0 s0_0 =>
    bif decide (s0_0 ≤ r0.2) then
      (bif inR s0_0 64 then
        (bif (w3 (s0_0).toNat) == 0 then
          (some (.inl (.c0 (IntKind.i64.wrap (s0_0 + 1)))))
        else (some (.inr (.e1 ))))
      else (none))
    else (some (.inr (.e0 )))
noncomputable def bd_region_frame_readable_v1_L0 : Code := codeOf Try.f129 [1, 1, 1, 0, 1, 0, 0]
def fl_region_frame_readable_v1_L0 (y1 : Int) (y2 : Int) (w0 : Nat → BitVec 8) (w1 : Nat → BitVec 8) (w2 : Nat → Val) (w3 : Nat → Int) (w4 : Nat → Bool) (r0 : (Int) × (Int)) : Sh_region_frame_readable_v1_L0 → List L1 → List Value
  | .c0 s0_0, ls => [.pointer (some ⟨(lget ls 0).n, 0, none⟩), .int .i64 (y1), .int .i64 (y2), .int .i64 (0), .int .i64 (r0.1), .int .i64 (r0.2), .int .i64 (s0_0)]
def mf_region_frame_readable_v1_L0 : Sh_region_frame_readable_v1_L0 → List (Nat × Nat)
  | .c0 _ => [(3, 3), (4, 57)]
noncomputable def fr_region_frame_readable_v1_L0 (y1 : Int) (y2 : Int) (w0 : Nat → BitVec 8) (w1 : Nat → BitVec 8) (w2 : Nat → Val) (w3 : Nat → Int) (w4 : Nat → Bool) (r0 : (Int) × (Int)) (s : Sh_region_frame_readable_v1_L0) : List L1 → List Value := mrgF (mf_region_frame_readable_v1_L0 s) (fl_region_frame_readable_v1_L0 y1 y2 w0 w1 w2 w3 w4 r0 s) 1
def Hs_region_frame_readable_v1_L0 (y1 : Int) (y2 : Int) (w0 : Nat → BitVec 8) (w1 : Nat → BitVec 8) (w2 : Nat → Val) (w3 : Nat → Int) (w4 : Nat → Bool) (r0 : (Int) × (Int)) : Sh_region_frame_readable_v1_L0 → List L1 → List Obj
  | .c0 s0_0, ls => [.cells ⟨segs [esG cu8 512 w0, esG cu8 64 w1, esG c_Val 64 w2, esG cZ 64 w3, esG cB 64 w4]⟩ 100, unb]
def vl_region_frame_readable_v1_L0 (y1 : Int) (y2 : Int) (w0 : Nat → BitVec 8) (w1 : Nat → BitVec 8) (w2 : Nat → Val) (w3 : Nat → Int) (w4 : Nat → Bool) (r0 : (Int) × (Int)) : Ex_region_frame_readable_v1_L0 → List L1 → List Value
  | .e0 , ls => [.pointer (some ⟨(lget ls 0).n, 0, none⟩), .int .i64 (y1), .int .i64 (y2), .int .i64 (0), .int .i64 (r0.1), .int .i64 (r0.2)]
  | .e1 , ls => [.pointer (some ⟨(lget ls 0).n, 0, none⟩), .int .i64 (y1), .int .i64 (y2), .int .i64 (14), .int .i64 (r0.1), .int .i64 (r0.2)]
def mk_region_frame_readable_v1_L0 : Ex_region_frame_readable_v1_L0 → List (Nat × Nat)
  | .e0  => [(3, 3), (3, 58)]
  | .e1  => [(3, 3), (3, 58)]
noncomputable def vf_region_frame_readable_v1_L0 (y1 : Int) (y2 : Int) (w0 : Nat → BitVec 8) (w1 : Nat → BitVec 8) (w2 : Nat → Val) (w3 : Nat → Int) (w4 : Nat → Bool) (r0 : (Int) × (Int)) (r : Ex_region_frame_readable_v1_L0) : List L1 → List Value := mrgF (mk_region_frame_readable_v1_L0 r) (vl_region_frame_readable_v1_L0 y1 y2 w0 w1 w2 w3 w4 r0 r) 1
def Hf_region_frame_readable_v1_L0 (y1 : Int) (y2 : Int) (w0 : Nat → BitVec 8) (w1 : Nat → BitVec 8) (w2 : Nat → Val) (w3 : Nat → Int) (w4 : Nat → Bool) (r0 : (Int) × (Int)) : Ex_region_frame_readable_v1_L0 → List L1 → List Obj
  | .e0 , ls => [.cells ⟨segs [esG cu8 512 w0, esG cu8 64 w1, esG c_Val 64 w2, esG cZ 64 w3, esG cB 64 w4]⟩ 100, unb]
  | .e1 , ls => [.cells ⟨segs [esG cu8 512 w0, esG cu8 64 w1, esG c_Val 64 w2, esG cZ 64 w3, esG cB 64 w4]⟩ 100, unb]
def ex_region_frame_readable_v1_L0 : Ex_region_frame_readable_v1_L0 → Ex
  | .e0  => (.exit 0)
  | .e1  => .ret
end
section
variable {M : Nat → Prop} {B0 : Nat} {S : World → Prop} (hU : Up M B0 S) (y1 : Int) (y2 : Int) (w0 : Nat → BitVec 8) (w1 : Nat → BitVec 8) (w2 : Nat → Val) (w3 : Nat → Int) (w4 : Nat → Bool) (r0 : (Int) × (Int))
include hU y1 y2 w0 w1 w2 w3 w4 r0
theorem go_region_frame_readable_v1_L0 (s : Sh_region_frame_readable_v1_L0) (r : Ex_region_frame_readable_v1_L0) (h : lpO (st_region_frame_readable_v1_L0 w3 r0) s = some r) : GoesG Try.prog M B0 S (.loop bd_region_frame_readable_v1_L0) 2 (fr_region_frame_readable_v1_L0 y1 y2 w0 w1 w2 w3 w4 r0 s) (Hs_region_frame_readable_v1_L0 y1 y2 w0 w1 w2 w3 w4 r0 s) (ex_region_frame_readable_v1_L0 r) 1 (vf_region_frame_readable_v1_L0 y1 y2 w0 w1 w2 w3 w4 r0 r) (Hf_region_frame_readable_v1_L0 y1 y2 w0 w1 w2 w3 w4 r0 r) 2 :=
  goes_lpO (fun s q e => by
    cases s with
    | c0 s0_0 =>
      unfold st_region_frame_readable_v1_L0 at e
      dsimp only at e
      replace e := cond_eq_or e
      rcases e with ⟨hq0, e⟩ | ⟨hq0, e⟩
      · replace e := cond_eq_or e
        rcases e with ⟨hq1, e⟩ | ⟨hq1, e⟩
        · replace e := cond_eq_or e
          rcases e with ⟨hq2, e⟩ | ⟨hq2, e⟩
          · cases e; exact goes_runM hU [.o, .o, .b (z_leqT hq0), .o, .o, .o, .o, .q (ixA_ok (kd := .i64) (T := 97) (x := s0_0) (sz := 1) (N := 64) rfl rfl (fun w => by kernel_rfl) hq1), .l (accSg (i := 0) (f := cZ) (N := 64) (A := w3) (k := (s0_0).toNat) (pre := [esG cu8 512 w0, esG cu8 64 w1, esG c_Val 64 w2]) (post := [esG cB 64 w4]) (off := 832) (sgc (esG_len cu8_len) (sgc (esG_len cu8_len) (sgc (esG_len c_Val_len) sg0))) rfl 0 [.int .i64 ((w3 (s0_0).toNat))] cZ_len (inR_nat hq1) rfl), .b (z_neqT hq2), .o, .o, .o] [0] (fun b => rfl) (by decide) rfl rfl (fun b => by kernel_rfl)
          · cases e; exact ⟨ne_ret, goes_runM hU [.o, .o, .b (z_leqT hq0), .o, .o, .o, .o, .q (ixA_ok (kd := .i64) (T := 97) (x := s0_0) (sz := 1) (N := 64) rfl rfl (fun w => by kernel_rfl) hq1), .l (accSg (i := 0) (f := cZ) (N := 64) (A := w3) (k := (s0_0).toNat) (pre := [esG cu8 512 w0, esG cu8 64 w1, esG c_Val 64 w2]) (post := [esG cB 64 w4]) (off := 832) (sgc (esG_len cu8_len) (sgc (esG_len cu8_len) (sgc (esG_len c_Val_len) sg0))) rfl 0 [.int .i64 ((w3 (s0_0).toNat))] cZ_len (inR_nat hq1) rfl), .b (z_neqF hq2), .o] [0] (fun b => rfl) (by decide) rfl rfl (fun b => by kernel_rfl)⟩
        · exact none_some e
      · cases e; exact ⟨ne_exit 0, goes_runM hU [.o, .o, .b (z_leqF hq0)] [0] (fun b => rfl) (by decide) rfl rfl (fun b => by kernel_rfl)⟩) s r h
noncomputable def t0_region_frame_readable_v1_L0_0 (y1 : Int) (y2 : Int) (w0 : Nat → BitVec 8) (w1 : Nat → BitVec 8) (w2 : Nat → Val) (w3 : Nat → Int) (w4 : Nat → Bool) (r0 : (Int) × (Int)) (s0_0 : Int) (ls : List L1) : List Value := List.append [.pointer (some ⟨(lget ls 0).n, 0, none⟩), .int .i64 (y1), .int .i64 (y2), undef, undef, undef, .int .i64 (0), .int .i64 (r0.1), .int .i64 (r0.2), .int .i64 (s0_0), undef, undef, .int .i64 (y2), .bool false, .tuple #[.int .i64 (r0.1), .int .i64 (r0.2)], .int .i64 (y1), .int .i64 (y2), .tuple #[.int .i64 (r0.1), .int .i64 (r0.2)], .int .i64 (r0.1), .int .i64 (r0.2), .int .i64 (r0.1)] (und 46)
def pre_region_frame_readable_v1_L0_0 (y1 : Int) (y2 : Int) (w0 : Nat → BitVec 8) (w1 : Nat → BitVec 8) (w2 : Nat → Val) (w3 : Nat → Int) (w4 : Nat → Bool) (r0 : (Int) × (Int)) (s0_0 : Int) (ls : List L1) : List Obj := [.cells ⟨segs [esG cu8 512 w0, esG cu8 64 w1, esG c_Val 64 w2, esG cZ 64 w3, esG cB 64 w4]⟩ 100]
theorem sp0_region_frame_readable_v1_L0_0_ok (s0_0 : Int) (h : lpO (st_region_frame_readable_v1_L0 w3 r0) (.c0 s0_0) = some (.e0 )) : SpcG Try.prog M B0 S ⟨fun ls => .code (.loop bd_region_frame_readable_v1_L0) (t0_region_frame_readable_v1_L0_0 y1 y2 w0 w1 w2 w3 w4 r0 s0_0 ls), pre_region_frame_readable_v1_L0_0 y1 y2 w0 w1 w2 w3 w4 r0 s0_0, 1, (.exit 0), fun ls => vf_region_frame_readable_v1_L0 y1 y2 w0 w1 w2 w3 w4 r0 (.e0 ) (ls.take 1 ++ ls.drop 1), fun ls => (Hf_region_frame_readable_v1_L0 y1 y2 w0 w1 w2 w3 w4 r0 (.e0 ) (ls.take 1 ++ ls.drop 1)).take 1 ++ List.replicate 0 unb, fun ls => (Hf_region_frame_readable_v1_L0 y1 y2 w0 w1 w2 w3 w4 r0 (.e0 ) (ls.take 1 ++ ls.drop 1)).drop 1⟩ :=
  spc_of_goesM hU 0 (k0 := 1) (go_region_frame_readable_v1_L0 hU y1 y2 w0 w1 w2 w3 w4 r0 _ _ h) (t0_region_frame_readable_v1_L0_0 y1 y2 w0 w1 w2 w3 w4 r0 s0_0) (pre_region_frame_readable_v1_L0_0 y1 y2 w0 w1 w2 w3 w4 r0 s0_0) (fun _ => rfl) (fun ls h => by match ls, h with | [l0], _ => exact ⟨by kernel_rfl, by kernel_rfl⟩) (fun ls h => by match ls, h with | [l0], _ => rfl) (by decide) (by decide) (fun ls => rfl)
theorem sp1_region_frame_readable_v1_L0_0_ok (s0_0 : Int) (h : lpO (st_region_frame_readable_v1_L0 w3 r0) (.c0 s0_0) = some (.e1 )) : SpcG Try.prog M B0 S ⟨fun ls => .code (.loop bd_region_frame_readable_v1_L0) (t0_region_frame_readable_v1_L0_0 y1 y2 w0 w1 w2 w3 w4 r0 s0_0 ls), pre_region_frame_readable_v1_L0_0 y1 y2 w0 w1 w2 w3 w4 r0 s0_0, 1, .ret, fun ls => vf_region_frame_readable_v1_L0 y1 y2 w0 w1 w2 w3 w4 r0 (.e1 ) (ls.take 1 ++ ls.drop 1), fun ls => (Hf_region_frame_readable_v1_L0 y1 y2 w0 w1 w2 w3 w4 r0 (.e1 ) (ls.take 1 ++ ls.drop 1)).take 1 ++ List.replicate 0 unb, fun ls => (Hf_region_frame_readable_v1_L0 y1 y2 w0 w1 w2 w3 w4 r0 (.e1 ) (ls.take 1 ++ ls.drop 1)).drop 1⟩ :=
  spc_of_goesM hU 0 (k0 := 1) (go_region_frame_readable_v1_L0 hU y1 y2 w0 w1 w2 w3 w4 r0 _ _ h) (t0_region_frame_readable_v1_L0_0 y1 y2 w0 w1 w2 w3 w4 r0 s0_0) (pre_region_frame_readable_v1_L0_0 y1 y2 w0 w1 w2 w3 w4 r0 s0_0) (fun _ => rfl) (fun ls h => by match ls, h with | [l0], _ => exact ⟨by kernel_rfl, by kernel_rfl⟩) (fun ls h => by match ls, h with | [l0], _ => rfl) (by decide) (by decide) (fun ls => rfl)
inductive Sh_region_frame_readable_v1_L1 where
  | c0 (s0_0 : Int)
inductive Ex_region_frame_readable_v1_L1 where
  | e0 
  | e1 
noncomputable def st_region_frame_readable_v1_L1 (w2 : Nat → Val) (r0 : (Int) × (Int)) : Sh_region_frame_readable_v1_L1 → Option (Sh_region_frame_readable_v1_L1 ⊕ Ex_region_frame_readable_v1_L1)
  | .c0 s0_0 =>
    bif decide (s0_0 ≤ r0.2) then
      (bif inR s0_0 64 then
        (bif ((w2 (s0_0).toNat)).fKind == 0 then
          (some (.inl (.c0 (IntKind.i64.wrap (s0_0 + 1)))))
        else (some (.inr (.e1 ))))
      else (none))
    else (some (.inr (.e0 )))
noncomputable def bd_region_frame_readable_v1_L1 : Code := codeOf Try.f129 [1, 1, 1, 1, 0, 1, 0, 0]
def fl_region_frame_readable_v1_L1 (y1 : Int) (y2 : Int) (w0 : Nat → BitVec 8) (w1 : Nat → BitVec 8) (w2 : Nat → Val) (w3 : Nat → Int) (w4 : Nat → Bool) (r0 : (Int) × (Int)) : Sh_region_frame_readable_v1_L1 → List L1 → List Value
  | .c0 s0_0, ls => [.pointer (some ⟨(lget ls 0).n, 0, none⟩), .int .i64 (y1), .int .i64 (y2), .int .i64 (0), .int .i64 (r0.2), .int .i64 (s0_0), ((lget ls 1).u 11), ((lget ls 1).u 47), ((lget ls 1).u 48), ((lget ls 1).u 49), ((lget ls 1).u 50), ((lget ls 1).u 51), ((lget ls 1).u 52), ((lget ls 1).u 53), ((lget ls 1).u 54), ((lget ls 1).u 55), ((lget ls 1).u 56), ((lget ls 1).u 57), ((lget ls 1).u 58), ((lget ls 1).u 59), ((lget ls 1).u 60), ((lget ls 1).u 61), ((lget ls 1).u 62), ((lget ls 1).u 63), ((lget ls 1).u 64), ((lget ls 1).u 65), ((lget ls 1).u 66)]
def mf_region_frame_readable_v1_L1 : Sh_region_frame_readable_v1_L1 → List (Nat × Nat)
  | .c0 _ => [(3, 3), (1, 1), (1, 1), (2, 35), (20, 0)]
noncomputable def fr_region_frame_readable_v1_L1 (y1 : Int) (y2 : Int) (w0 : Nat → BitVec 8) (w1 : Nat → BitVec 8) (w2 : Nat → Val) (w3 : Nat → Int) (w4 : Nat → Bool) (r0 : (Int) × (Int)) (s : Sh_region_frame_readable_v1_L1) : List L1 → List Value := mrgF (mf_region_frame_readable_v1_L1 s) (fl_region_frame_readable_v1_L1 y1 y2 w0 w1 w2 w3 w4 r0 s) 2
def Hs_region_frame_readable_v1_L1 (y1 : Int) (y2 : Int) (w0 : Nat → BitVec 8) (w1 : Nat → BitVec 8) (w2 : Nat → Val) (w3 : Nat → Int) (w4 : Nat → Bool) (r0 : (Int) × (Int)) : Sh_region_frame_readable_v1_L1 → List L1 → List Obj
  | .c0 s0_0, ls => [.cells ⟨segs [esG cu8 512 w0, esG cu8 64 w1, esG c_Val 64 w2, esG cZ 64 w3, esG cB 64 w4]⟩ 100, unb, unb]
def vl_region_frame_readable_v1_L1 (y1 : Int) (y2 : Int) (w0 : Nat → BitVec 8) (w1 : Nat → BitVec 8) (w2 : Nat → Val) (w3 : Nat → Int) (w4 : Nat → Bool) (r0 : (Int) × (Int)) : Ex_region_frame_readable_v1_L1 → List L1 → List Value
  | .e0 , ls => [.pointer (some ⟨(lget ls 0).n, 0, none⟩), .int .i64 (y1), .int .i64 (y2), .int .i64 (0), .int .i64 (r0.2), ((lget ls 1).u 11), ((lget ls 1).u 47), ((lget ls 1).u 48), ((lget ls 1).u 49), ((lget ls 1).u 50), ((lget ls 1).u 51), ((lget ls 1).u 52), ((lget ls 1).u 53), ((lget ls 1).u 54), ((lget ls 1).u 55), ((lget ls 1).u 56), ((lget ls 1).u 57), ((lget ls 1).u 58), ((lget ls 1).u 59), ((lget ls 1).u 60), ((lget ls 1).u 61), ((lget ls 1).u 62), ((lget ls 1).u 63), ((lget ls 1).u 64), ((lget ls 1).u 65), ((lget ls 1).u 66)]
  | .e1 , ls => [.pointer (some ⟨(lget ls 0).n, 0, none⟩), .int .i64 (y1), .int .i64 (y2), .int .i64 (6), .int .i64 (r0.2), ((lget ls 1).u 11), ((lget ls 1).u 47), ((lget ls 1).u 48), ((lget ls 1).u 49), ((lget ls 1).u 50), ((lget ls 1).u 51), ((lget ls 1).u 52), ((lget ls 1).u 53), ((lget ls 1).u 54), ((lget ls 1).u 55), ((lget ls 1).u 56), ((lget ls 1).u 57), ((lget ls 1).u 58), ((lget ls 1).u 59), ((lget ls 1).u 60), ((lget ls 1).u 61), ((lget ls 1).u 62), ((lget ls 1).u 63), ((lget ls 1).u 64), ((lget ls 1).u 65), ((lget ls 1).u 66)]
def mk_region_frame_readable_v1_L1 : Ex_region_frame_readable_v1_L1 → List (Nat × Nat)
  | .e0  => [(3, 3), (1, 1), (1, 2), (1, 35), (20, 0)]
  | .e1  => [(3, 3), (1, 1), (1, 2), (1, 35), (20, 0)]
noncomputable def vf_region_frame_readable_v1_L1 (y1 : Int) (y2 : Int) (w0 : Nat → BitVec 8) (w1 : Nat → BitVec 8) (w2 : Nat → Val) (w3 : Nat → Int) (w4 : Nat → Bool) (r0 : (Int) × (Int)) (r : Ex_region_frame_readable_v1_L1) : List L1 → List Value := mrgF (mk_region_frame_readable_v1_L1 r) (vl_region_frame_readable_v1_L1 y1 y2 w0 w1 w2 w3 w4 r0 r) 2
def Hf_region_frame_readable_v1_L1 (y1 : Int) (y2 : Int) (w0 : Nat → BitVec 8) (w1 : Nat → BitVec 8) (w2 : Nat → Val) (w3 : Nat → Int) (w4 : Nat → Bool) (r0 : (Int) × (Int)) : Ex_region_frame_readable_v1_L1 → List L1 → List Obj
  | .e0 , ls => [.cells ⟨segs [esG cu8 512 w0, esG cu8 64 w1, esG c_Val 64 w2, esG cZ 64 w3, esG cB 64 w4]⟩ 100, unb, unb]
  | .e1 , ls => [.cells ⟨segs [esG cu8 512 w0, esG cu8 64 w1, esG c_Val 64 w2, esG cZ 64 w3, esG cB 64 w4]⟩ 100, unb, unb]
def ex_region_frame_readable_v1_L1 : Ex_region_frame_readable_v1_L1 → Ex
  | .e0  => (.exit 2)
  | .e1  => .ret
theorem go_region_frame_readable_v1_L1 (s : Sh_region_frame_readable_v1_L1) (r : Ex_region_frame_readable_v1_L1) (h : lpO (st_region_frame_readable_v1_L1 w2 r0) s = some r) : GoesG Try.prog M B0 S (.loop bd_region_frame_readable_v1_L1) 3 (fr_region_frame_readable_v1_L1 y1 y2 w0 w1 w2 w3 w4 r0 s) (Hs_region_frame_readable_v1_L1 y1 y2 w0 w1 w2 w3 w4 r0 s) (ex_region_frame_readable_v1_L1 r) 2 (vf_region_frame_readable_v1_L1 y1 y2 w0 w1 w2 w3 w4 r0 r) (Hf_region_frame_readable_v1_L1 y1 y2 w0 w1 w2 w3 w4 r0 r) 3 :=
  goes_lpO (fun s q e => by
    cases s with
    | c0 s0_0 =>
      unfold st_region_frame_readable_v1_L1 at e
      dsimp only at e
      replace e := cond_eq_or e
      rcases e with ⟨hq0, e⟩ | ⟨hq0, e⟩
      · replace e := cond_eq_or e
        rcases e with ⟨hq1, e⟩ | ⟨hq1, e⟩
        · replace e := cond_eq_or e
          rcases e with ⟨hq2, e⟩ | ⟨hq2, e⟩
          · cases e; exact goes_runM hU [.o, .o, .b (z_leqT hq0), .o, .o, .o, .o, .q (ixA_ok (kd := .i64) (T := 96) (x := s0_0) (sz := 4) (N := 64) rfl rfl (fun w => by kernel_rfl) hq1), .o, .l (accSg (i := 0) (f := c_Val) (N := 64) (A := w2) (k := (s0_0).toNat) (pre := [esG cu8 512 w0, esG cu8 64 w1]) (post := [esG cZ 64 w3, esG cB 64 w4]) (off := 576) (sgc (esG_len cu8_len) (sgc (esG_len cu8_len) sg0)) rfl 0 [.int .i64 (((w2 (s0_0).toNat)).fKind)] c_Val_len (inR_nat hq1) rfl), .b (z_neqT hq2), .o, .o, .o] [0, 1] (fun b => rfl) (by decide) rfl rfl (fun b => by kernel_rfl)
          · cases e; exact ⟨ne_ret, goes_runM hU [.o, .o, .b (z_leqT hq0), .o, .o, .o, .o, .q (ixA_ok (kd := .i64) (T := 96) (x := s0_0) (sz := 4) (N := 64) rfl rfl (fun w => by kernel_rfl) hq1), .o, .l (accSg (i := 0) (f := c_Val) (N := 64) (A := w2) (k := (s0_0).toNat) (pre := [esG cu8 512 w0, esG cu8 64 w1]) (post := [esG cZ 64 w3, esG cB 64 w4]) (off := 576) (sgc (esG_len cu8_len) (sgc (esG_len cu8_len) sg0)) rfl 0 [.int .i64 (((w2 (s0_0).toNat)).fKind)] c_Val_len (inR_nat hq1) rfl), .b (z_neqF hq2), .o] [0, 1] (fun b => rfl) (by decide) rfl rfl (fun b => by kernel_rfl)⟩
        · exact none_some e
      · cases e; exact ⟨ne_exit 2, goes_runM hU [.o, .o, .b (z_leqF hq0)] [0, 1] (fun b => rfl) (by decide) rfl rfl (fun b => by kernel_rfl)⟩) s r h
noncomputable def t0_region_frame_readable_v1_L1_0 (y1 : Int) (y2 : Int) (w0 : Nat → BitVec 8) (w1 : Nat → BitVec 8) (w2 : Nat → Val) (w3 : Nat → Int) (w4 : Nat → Bool) (r0 : (Int) × (Int)) (s0_0 : Int) (ls : List L1) : List Value := List.append [.pointer (some ⟨(lget ls 0).n, 0, none⟩), .int .i64 (y1), .int .i64 (y2), ((lget ls 1).u 3), ((lget ls 1).u 4), ((lget ls 1).u 5), .int .i64 (0), .int .i64 (r0.1), .int .i64 (r0.2), ((lget ls 1).u 9), .int .i64 (s0_0)] (List.append (jks (lget ls 1).u 11 22) (List.append [.int .i64 (r0.1)] (jks (lget ls 1).u 34 33)))
def pre_region_frame_readable_v1_L1_0 (y1 : Int) (y2 : Int) (w0 : Nat → BitVec 8) (w1 : Nat → BitVec 8) (w2 : Nat → Val) (w3 : Nat → Int) (w4 : Nat → Bool) (r0 : (Int) × (Int)) (s0_0 : Int) (ls : List L1) : List Obj := [.cells ⟨segs [esG cu8 512 w0, esG cu8 64 w1, esG c_Val 64 w2, esG cZ 64 w3, esG cB 64 w4]⟩ 100, unb]
theorem sp0_region_frame_readable_v1_L1_0_ok (s0_0 : Int) (h : lpO (st_region_frame_readable_v1_L1 w2 r0) (.c0 s0_0) = some (.e0 )) : SpcG Try.prog M B0 S ⟨fun ls => .code (.loop bd_region_frame_readable_v1_L1) (t0_region_frame_readable_v1_L1_0 y1 y2 w0 w1 w2 w3 w4 r0 s0_0 ls), pre_region_frame_readable_v1_L1_0 y1 y2 w0 w1 w2 w3 w4 r0 s0_0, 1, (.exit 2), fun ls => vf_region_frame_readable_v1_L1 y1 y2 w0 w1 w2 w3 w4 r0 (.e0 ) (ls.take 2 ++ ls.drop 2), fun ls => (Hf_region_frame_readable_v1_L1 y1 y2 w0 w1 w2 w3 w4 r0 (.e0 ) (ls.take 2 ++ ls.drop 2)).take 2 ++ List.replicate 0 unb, fun ls => (Hf_region_frame_readable_v1_L1 y1 y2 w0 w1 w2 w3 w4 r0 (.e0 ) (ls.take 2 ++ ls.drop 2)).drop 2⟩ :=
  spc_of_goesM hU 0 (k0 := 2) (go_region_frame_readable_v1_L1 hU y1 y2 w0 w1 w2 w3 w4 r0 _ _ h) (t0_region_frame_readable_v1_L1_0 y1 y2 w0 w1 w2 w3 w4 r0 s0_0) (pre_region_frame_readable_v1_L1_0 y1 y2 w0 w1 w2 w3 w4 r0 s0_0) (fun _ => rfl) (fun ls h => by match ls, h with | [l0, l1], _ => exact ⟨by kernel_rfl, by kernel_rfl⟩) (fun ls h => by match ls, h with | [l0, l1], _ => rfl) (by decide) (by decide) (fun ls => rfl)
theorem sp1_region_frame_readable_v1_L1_0_ok (s0_0 : Int) (h : lpO (st_region_frame_readable_v1_L1 w2 r0) (.c0 s0_0) = some (.e1 )) : SpcG Try.prog M B0 S ⟨fun ls => .code (.loop bd_region_frame_readable_v1_L1) (t0_region_frame_readable_v1_L1_0 y1 y2 w0 w1 w2 w3 w4 r0 s0_0 ls), pre_region_frame_readable_v1_L1_0 y1 y2 w0 w1 w2 w3 w4 r0 s0_0, 1, .ret, fun ls => vf_region_frame_readable_v1_L1 y1 y2 w0 w1 w2 w3 w4 r0 (.e1 ) (ls.take 2 ++ ls.drop 2), fun ls => (Hf_region_frame_readable_v1_L1 y1 y2 w0 w1 w2 w3 w4 r0 (.e1 ) (ls.take 2 ++ ls.drop 2)).take 2 ++ List.replicate 0 unb, fun ls => (Hf_region_frame_readable_v1_L1 y1 y2 w0 w1 w2 w3 w4 r0 (.e1 ) (ls.take 2 ++ ls.drop 2)).drop 2⟩ :=
  spc_of_goesM hU 0 (k0 := 2) (go_region_frame_readable_v1_L1 hU y1 y2 w0 w1 w2 w3 w4 r0 _ _ h) (t0_region_frame_readable_v1_L1_0 y1 y2 w0 w1 w2 w3 w4 r0 s0_0) (pre_region_frame_readable_v1_L1_0 y1 y2 w0 w1 w2 w3 w4 r0 s0_0) (fun _ => rfl) (fun ls h => by match ls, h with | [l0, l1], _ => exact ⟨by kernel_rfl, by kernel_rfl⟩) (fun ls h => by match ls, h with | [l0, l1], _ => rfl) (by decide) (by decide) (fun ls => rfl)
inductive Sh_region_frame_readable_v1_L2 where
  | c0 (s0_0 : Int)
inductive Ex_region_frame_readable_v1_L2 where
  | e0 
  | e1 
noncomputable def st_region_frame_readable_v1_L2 (y1 : Int) (y2 : Int) (w1 : Nat → BitVec 8) : Sh_region_frame_readable_v1_L2 → Option (Sh_region_frame_readable_v1_L2 ⊕ Ex_region_frame_readable_v1_L2)
  | .c0 s0_0 =>
    bif decide (s0_0 < (IntKind.i64.wrap (y1 + y2))) then
      (bif inR (zquo s0_0 8) 64 then
        (bif decide (0 ≤ (zrem s0_0 8)) then
          (bif ((w1 ((zquo s0_0 8)).toNat) &&& (1#8 <<< ((zrem s0_0 8)).toNat)) == 0#8 then
            (some (.inr (.e1 )))
          else (some (.inl (.c0 (IntKind.i64.wrap (s0_0 + 1))))))
        else (none))
      else (none))
    else (some (.inr (.e0 )))
noncomputable def bd_region_frame_readable_v1_L2 : Code := codeOf Try.f129 [1, 1, 1, 1, 1, 0, 1, 0, 0]
def fl_region_frame_readable_v1_L2 (y1 : Int) (y2 : Int) (w0 : Nat → BitVec 8) (w1 : Nat → BitVec 8) (w2 : Nat → Val) (w3 : Nat → Int) (w4 : Nat → Bool) (r0 : (Int) × (Int)) : Sh_region_frame_readable_v1_L2 → List L1 → List Value
  | .c0 s0_0, ls => [.pointer (some ⟨(lget ls 0).n, 0, none⟩), .int .i64 (y1), .int .i64 (y2), .int .i64 (0), .int .i64 (s0_0)]
def mf_region_frame_readable_v1_L2 : Sh_region_frame_readable_v1_L2 → List (Nat × Nat)
  | .c0 _ => [(3, 3), (1, 4), (1, 55)]
noncomputable def fr_region_frame_readable_v1_L2 (y1 : Int) (y2 : Int) (w0 : Nat → BitVec 8) (w1 : Nat → BitVec 8) (w2 : Nat → Val) (w3 : Nat → Int) (w4 : Nat → Bool) (r0 : (Int) × (Int)) (s : Sh_region_frame_readable_v1_L2) : List L1 → List Value := mrgF (mf_region_frame_readable_v1_L2 s) (fl_region_frame_readable_v1_L2 y1 y2 w0 w1 w2 w3 w4 r0 s) 3
def Hs_region_frame_readable_v1_L2 (y1 : Int) (y2 : Int) (w0 : Nat → BitVec 8) (w1 : Nat → BitVec 8) (w2 : Nat → Val) (w3 : Nat → Int) (w4 : Nat → Bool) (r0 : (Int) × (Int)) : Sh_region_frame_readable_v1_L2 → List L1 → List Obj
  | .c0 s0_0, ls => [.cells ⟨segs [esG cu8 512 w0, esG cu8 64 w1, esG c_Val 64 w2, esG cZ 64 w3, esG cB 64 w4]⟩ 100, unb, unb, unb]
def vl_region_frame_readable_v1_L2 (y1 : Int) (y2 : Int) (w0 : Nat → BitVec 8) (w1 : Nat → BitVec 8) (w2 : Nat → Val) (w3 : Nat → Int) (w4 : Nat → Bool) (r0 : (Int) × (Int)) : Ex_region_frame_readable_v1_L2 → List L1 → List Value
  | .e0 , ls => [.pointer (some ⟨(lget ls 0).n, 0, none⟩), .int .i64 (y1), .int .i64 (y2), .int .i64 (0)]
  | .e1 , ls => [.pointer (some ⟨(lget ls 0).n, 0, none⟩), .int .i64 (y1), .int .i64 (y2), .int .i64 (1)]
def mk_region_frame_readable_v1_L2 : Ex_region_frame_readable_v1_L2 → List (Nat × Nat)
  | .e0  => [(3, 3), (1, 60)]
  | .e1  => [(3, 3), (1, 60)]
noncomputable def vf_region_frame_readable_v1_L2 (y1 : Int) (y2 : Int) (w0 : Nat → BitVec 8) (w1 : Nat → BitVec 8) (w2 : Nat → Val) (w3 : Nat → Int) (w4 : Nat → Bool) (r0 : (Int) × (Int)) (r : Ex_region_frame_readable_v1_L2) : List L1 → List Value := mrgF (mk_region_frame_readable_v1_L2 r) (vl_region_frame_readable_v1_L2 y1 y2 w0 w1 w2 w3 w4 r0 r) 3
def Hf_region_frame_readable_v1_L2 (y1 : Int) (y2 : Int) (w0 : Nat → BitVec 8) (w1 : Nat → BitVec 8) (w2 : Nat → Val) (w3 : Nat → Int) (w4 : Nat → Bool) (r0 : (Int) × (Int)) : Ex_region_frame_readable_v1_L2 → List L1 → List Obj
  | .e0 , ls => [.cells ⟨segs [esG cu8 512 w0, esG cu8 64 w1, esG c_Val 64 w2, esG cZ 64 w3, esG cB 64 w4]⟩ 100, unb, unb, unb]
  | .e1 , ls => [.cells ⟨segs [esG cu8 512 w0, esG cu8 64 w1, esG c_Val 64 w2, esG cZ 64 w3, esG cB 64 w4]⟩ 100, unb, unb, unb]
def ex_region_frame_readable_v1_L2 : Ex_region_frame_readable_v1_L2 → Ex
  | .e0  => (.exit 4)
  | .e1  => .ret
theorem go_region_frame_readable_v1_L2 (s : Sh_region_frame_readable_v1_L2) (r : Ex_region_frame_readable_v1_L2) (h : lpO (st_region_frame_readable_v1_L2 y1 y2 w1) s = some r) : GoesG Try.prog M B0 S (.loop bd_region_frame_readable_v1_L2) 4 (fr_region_frame_readable_v1_L2 y1 y2 w0 w1 w2 w3 w4 r0 s) (Hs_region_frame_readable_v1_L2 y1 y2 w0 w1 w2 w3 w4 r0 s) (ex_region_frame_readable_v1_L2 r) 3 (vf_region_frame_readable_v1_L2 y1 y2 w0 w1 w2 w3 w4 r0 r) (Hf_region_frame_readable_v1_L2 y1 y2 w0 w1 w2 w3 w4 r0 r) 4 :=
  goes_lpO (fun s q e => by
    cases s with
    | c0 s0_0 =>
      unfold st_region_frame_readable_v1_L2 at e
      dsimp only at e
      replace e := cond_eq_or e
      rcases e with ⟨hq0, e⟩ | ⟨hq0, e⟩
      · replace e := cond_eq_or e
        rcases e with ⟨hq1, e⟩ | ⟨hq1, e⟩
        · replace e := cond_eq_or e
          rcases e with ⟨hq2, e⟩ | ⟨hq2, e⟩
          · replace e := cond_eq_or e
            rcases e with ⟨hq3, e⟩ | ⟨hq3, e⟩
            · cases e; exact ⟨ne_ret, goes_runM hU [.o, .o, .o, .o, .b (z_lssT hq0), .r [0, 1, 2, 3, 4, 5, 6, 7, 8, 9, 10, 11] [] [], .o, .o, .ov (z_quo Try.prog 3 (.tmp 56) (.const (.int .i64 (8))) s0_0 8 (by decide)), .o, .o, .q (ixA_ok (kd := .i64) (T := 95) (x := (zquo s0_0 8)) (sz := 1) (N := 64) rfl rfl (fun w => by kernel_rfl) hq1), .l (accSg (i := 0) (f := cu8) (N := 64) (A := w1) (k := ((zquo s0_0 8)).toNat) (pre := [esG cu8 512 w0]) (post := [esG c_Val 64 w2, esG cZ 64 w3, esG cB 64 w4]) (off := 512) (sgc (esG_len cu8_len) sg0) rfl 0 [.int .u8 (nn (w1 ((zquo s0_0 8)).toNat))] cu8_len (inR_nat hq1) rfl), .o, .ov (z_rem Try.prog 3 (.tmp 62) (.const (.int .i64 (8))) s0_0 8 (by decide)), .ov (u8_shl Try.prog 5 (.const (.int .u8 (1))) (.tmp 63) (1#8) ((zrem s0_0 8)).toNat .i64 (z_pos hq2)), .v .u8 (u8_and (w1 ((zquo s0_0 8)).toNat) (1#8 <<< ((zrem s0_0 8)).toNat)), .t (u_eq ((w1 ((zquo s0_0 8)).toNat) &&& (1#8 <<< ((zrem s0_0 8)).toNat)) (0#8)) hq3, .o] [0, 1, 2] (fun b => rfl) (by decide) rfl rfl (fun b => by kernel_rfl)⟩
            · cases e; exact goes_runM hU [.o, .o, .o, .o, .b (z_lssT hq0), .r [0, 1, 2, 3, 4, 5, 6, 7, 8, 9, 10, 11] [] [], .o, .o, .ov (z_quo Try.prog 3 (.tmp 56) (.const (.int .i64 (8))) s0_0 8 (by decide)), .o, .o, .q (ixA_ok (kd := .i64) (T := 95) (x := (zquo s0_0 8)) (sz := 1) (N := 64) rfl rfl (fun w => by kernel_rfl) hq1), .l (accSg (i := 0) (f := cu8) (N := 64) (A := w1) (k := ((zquo s0_0 8)).toNat) (pre := [esG cu8 512 w0]) (post := [esG c_Val 64 w2, esG cZ 64 w3, esG cB 64 w4]) (off := 512) (sgc (esG_len cu8_len) sg0) rfl 0 [.int .u8 (nn (w1 ((zquo s0_0 8)).toNat))] cu8_len (inR_nat hq1) rfl), .o, .ov (z_rem Try.prog 3 (.tmp 62) (.const (.int .i64 (8))) s0_0 8 (by decide)), .ov (u8_shl Try.prog 5 (.const (.int .u8 (1))) (.tmp 63) (1#8) ((zrem s0_0 8)).toNat .i64 (z_pos hq2)), .v .u8 (u8_and (w1 ((zquo s0_0 8)).toNat) (1#8 <<< ((zrem s0_0 8)).toNat)), .t (u_eq ((w1 ((zquo s0_0 8)).toNat) &&& (1#8 <<< ((zrem s0_0 8)).toNat)) (0#8)) hq3, .o, .o, .o] [0, 1, 2] (fun b => rfl) (by decide) rfl rfl (fun b => by kernel_rfl)
          · exact none_some e
        · exact none_some e
      · cases e; exact ⟨ne_exit 4, goes_runM hU [.o, .o, .o, .o, .b (z_lssF hq0)] [0, 1, 2] (fun b => rfl) (by decide) rfl rfl (fun b => by kernel_rfl)⟩) s r h
noncomputable def t0_region_frame_readable_v1_L2_0 (y1 : Int) (y2 : Int) (w0 : Nat → BitVec 8) (w1 : Nat → BitVec 8) (w2 : Nat → Val) (w3 : Nat → Int) (w4 : Nat → Bool) (r0 : (Int) × (Int)) (s0_0 : Int) (ls : List L1) : List Value := List.append [.pointer (some ⟨(lget ls 0).n, 0, none⟩), .int .i64 (y1), .int .i64 (y2), ((lget ls 2).u 3), ((lget ls 2).u 4), ((lget ls 2).u 5), .int .i64 (0), ((lget ls 2).u 7), .int .i64 (r0.2), ((lget ls 2).u 9), ((lget ls 2).u 10), .int .i64 (s0_0)] (List.append (jks (lget ls 2).u 12 35) (List.append [.int .i64 (y1)] (jks (lget ls 1).u 48 19)))
def pre_region_frame_readable_v1_L2_0 (y1 : Int) (y2 : Int) (w0 : Nat → BitVec 8) (w1 : Nat → BitVec 8) (w2 : Nat → Val) (w3 : Nat → Int) (w4 : Nat → Bool) (r0 : (Int) × (Int)) (s0_0 : Int) (ls : List L1) : List Obj := [.cells ⟨segs [esG cu8 512 w0, esG cu8 64 w1, esG c_Val 64 w2, esG cZ 64 w3, esG cB 64 w4]⟩ 100, unb, unb]
theorem sp0_region_frame_readable_v1_L2_0_ok (s0_0 : Int) (h : lpO (st_region_frame_readable_v1_L2 y1 y2 w1) (.c0 s0_0) = some (.e0 )) : SpcG Try.prog M B0 S ⟨fun ls => .code (.loop bd_region_frame_readable_v1_L2) (t0_region_frame_readable_v1_L2_0 y1 y2 w0 w1 w2 w3 w4 r0 s0_0 ls), pre_region_frame_readable_v1_L2_0 y1 y2 w0 w1 w2 w3 w4 r0 s0_0, 1, (.exit 4), fun ls => vf_region_frame_readable_v1_L2 y1 y2 w0 w1 w2 w3 w4 r0 (.e0 ) (ls.take 3 ++ ls.drop 3), fun ls => (Hf_region_frame_readable_v1_L2 y1 y2 w0 w1 w2 w3 w4 r0 (.e0 ) (ls.take 3 ++ ls.drop 3)).take 3 ++ List.replicate 0 unb, fun ls => (Hf_region_frame_readable_v1_L2 y1 y2 w0 w1 w2 w3 w4 r0 (.e0 ) (ls.take 3 ++ ls.drop 3)).drop 3⟩ :=
  spc_of_goesM hU 0 (k0 := 3) (go_region_frame_readable_v1_L2 hU y1 y2 w0 w1 w2 w3 w4 r0 _ _ h) (t0_region_frame_readable_v1_L2_0 y1 y2 w0 w1 w2 w3 w4 r0 s0_0) (pre_region_frame_readable_v1_L2_0 y1 y2 w0 w1 w2 w3 w4 r0 s0_0) (fun _ => rfl) (fun ls h => by match ls, h with | [l0, l1, l2], _ => exact ⟨by kernel_rfl, by kernel_rfl⟩) (fun ls h => by match ls, h with | [l0, l1, l2], _ => rfl) (by decide) (by decide) (fun ls => rfl)
theorem sp1_region_frame_readable_v1_L2_0_ok (s0_0 : Int) (h : lpO (st_region_frame_readable_v1_L2 y1 y2 w1) (.c0 s0_0) = some (.e1 )) : SpcG Try.prog M B0 S ⟨fun ls => .code (.loop bd_region_frame_readable_v1_L2) (t0_region_frame_readable_v1_L2_0 y1 y2 w0 w1 w2 w3 w4 r0 s0_0 ls), pre_region_frame_readable_v1_L2_0 y1 y2 w0 w1 w2 w3 w4 r0 s0_0, 1, .ret, fun ls => vf_region_frame_readable_v1_L2 y1 y2 w0 w1 w2 w3 w4 r0 (.e1 ) (ls.take 3 ++ ls.drop 3), fun ls => (Hf_region_frame_readable_v1_L2 y1 y2 w0 w1 w2 w3 w4 r0 (.e1 ) (ls.take 3 ++ ls.drop 3)).take 3 ++ List.replicate 0 unb, fun ls => (Hf_region_frame_readable_v1_L2 y1 y2 w0 w1 w2 w3 w4 r0 (.e1 ) (ls.take 3 ++ ls.drop 3)).drop 3⟩ :=
  spc_of_goesM hU 0 (k0 := 3) (go_region_frame_readable_v1_L2 hU y1 y2 w0 w1 w2 w3 w4 r0 _ _ h) (t0_region_frame_readable_v1_L2_0 y1 y2 w0 w1 w2 w3 w4 r0 s0_0) (pre_region_frame_readable_v1_L2_0 y1 y2 w0 w1 w2 w3 w4 r0 s0_0) (fun _ => rfl) (fun ls h => by match ls, h with | [l0, l1, l2], _ => exact ⟨by kernel_rfl, by kernel_rfl⟩) (fun ls h => by match ls, h with | [l0, l1, l2], _ => rfl) (by decide) (by decide) (fun ls => rfl)
inductive R_region_frame_readable_v1 where
  | e0 (c0_0 : Int)
noncomputable def m_region_frame_readable_v1 (y1 : Int) (y2 : Int) (w0 : Nat → BitVec 8) (w1 : Nat → BitVec 8) (w2 : Nat → Val) (w3 : Nat → Int) (w4 : Nat → Bool) : Option R_region_frame_readable_v1 :=
  bif y2 == 0 then
    (some (.e0 0))
  else (bindT (m_region_touched_v2 y1 y2) fun r0 =>
  (lpO (st_region_frame_readable_v1_L0 w3 r0) (.c0 r0.1)).bind fun g1 => match g1 with
  | .e0  => ((lpO (st_region_frame_readable_v1_L1 w2 r0) (.c0 r0.1)).bind fun g2 => match g2 with
    | .e0  => ((lpO (st_region_frame_readable_v1_L2 y1 y2 w1) (.c0 y1)).bind fun g3 => match g3 with
      | .e0  => (some (.e0 0))
      | .e1  => (some (.e0 1)))
    | .e1  => (some (.e0 6)))
  | .e1  => (some (.e0 14)))
def sq0_region_frame_readable_v1 (y1 : Int) (y2 : Int) (w0 : Nat → BitVec 8) (w1 : Nat → BitVec 8) (w2 : Nat → Val) (w3 : Nat → Int) (w4 : Nat → Bool) (c0_0 : Int) : Spc := ⟨fun ls => .call 129 #[.pointer (some ⟨(lget ls 0).n, 0, none⟩), .int .i64 (y1), .int .i64 (y2)], fun ls => [.cells ⟨segs [esG cu8 512 w0, esG cu8 64 w1, esG c_Val 64 w2, esG cZ 64 w3, esG cB 64 w4]⟩ 100], 0, .normal, fun ls => [.int .i64 (c0_0)], fun ls => [.cells ⟨segs [esG cu8 512 w0, esG cu8 64 w1, esG c_Val 64 w2, esG cZ 64 w3, esG cB 64 w4]⟩ 100], fun ls => []⟩
end
section
variable {M : Nat → Prop} {B0 : Nat} {S : World → Prop} (hU : Up M B0 S) (y1 : Int) (y2 : Int) (w0 : Nat → BitVec 8) (w1 : Nat → BitVec 8) (w2 : Nat → Val) (w3 : Nat → Int) (w4 : Nat → Bool) (c0_0 : Int)
include hU y1 y2 w0 w1 w2 w3 w4 c0_0
theorem ok0_region_frame_readable_v1 (e : m_region_frame_readable_v1 y1 y2 w0 w1 w2 w3 w4 = some (.e0 c0_0)) : SpcG Try.prog M B0 S (sq0_region_frame_readable_v1 y1 y2 w0 w1 w2 w3 w4 c0_0) := by
  unfold m_region_frame_readable_v1 at e
  replace e := cond_eq_or e
  rcases e with ⟨hq0, e⟩ | ⟨hq0, e⟩
  · injection e with e; injection e with i0; subst i0; exact fn_specG hU (P := Try.prog) Try.func129 (fun xs w => by kernel_rfl) 1 _ _ (fun _ => rfl) _ _ _ [] [.o, .o, .b (z_eqlT hq0), .o] [] (fun b => by kernel_rfl)
  · replace e := bindT_eq e
    obtain ⟨r0, e_r0, e⟩ := e
    try dsimp only at e
    replace e := bindO_eq e
    obtain ⟨g1, e_g1, e⟩ := e
    rcases g1 with _ | _
    · try dsimp only at e
      replace e := bindO_eq e
      obtain ⟨g2, e_g2, e⟩ := e
      rcases g2 with _ | _
      · try dsimp only at e
        replace e := bindO_eq e
        obtain ⟨g3, e_g3, e⟩ := e
        rcases g3 with _ | _
        · try dsimp only at e
          injection e with e; injection e with i0; subst i0; exact fn_specG hU (P := Try.prog) Try.func129 (fun xs w => by kernel_rfl) 1 _ _ (fun _ => rfl) _ _ _ [] [.o, .o, .b (z_eqlF hq0), .o, .o, .cg (ok_region_touched_v2 hU y1 y2 r0 e_r0), .o, .o, .o, .o, .o, .o, .o, .cp, .cx (sp0_region_frame_readable_v1_L0_0_ok hU y1 y2 w0 w1 w2 w3 w4 r0 r0.1  e_g1) [0], .o, .o, .cp, .cx (sp0_region_frame_readable_v1_L1_0_ok hU y1 y2 w0 w1 w2 w3 w4 r0 r0.1  e_g2) [0, 1], .o, .o, .cp, .cx (sp0_region_frame_readable_v1_L2_0_ok hU y1 y2 w0 w1 w2 w3 w4 r0 y1  e_g3) [0, 1, 2], .o] [] (fun b => by kernel_rfl)
        · try dsimp only at e
          injection e with e; injection e with i0; subst i0; exact fn_specG hU (P := Try.prog) Try.func129 (fun xs w => by kernel_rfl) 1 _ _ (fun _ => rfl) _ _ _ [] [.o, .o, .b (z_eqlF hq0), .o, .o, .cg (ok_region_touched_v2 hU y1 y2 r0 e_r0), .o, .o, .o, .o, .o, .o, .o, .cp, .cx (sp0_region_frame_readable_v1_L0_0_ok hU y1 y2 w0 w1 w2 w3 w4 r0 r0.1  e_g1) [0], .o, .o, .cp, .cx (sp0_region_frame_readable_v1_L1_0_ok hU y1 y2 w0 w1 w2 w3 w4 r0 r0.1  e_g2) [0, 1], .o, .o, .cp, .cx (sp1_region_frame_readable_v1_L2_0_ok hU y1 y2 w0 w1 w2 w3 w4 r0 y1  e_g3) [0, 1, 2]] [] (fun b => by kernel_rfl)
      · try dsimp only at e
        injection e with e; injection e with i0; subst i0; exact fn_specG hU (P := Try.prog) Try.func129 (fun xs w => by kernel_rfl) 1 _ _ (fun _ => rfl) _ _ _ [] [.o, .o, .b (z_eqlF hq0), .o, .o, .cg (ok_region_touched_v2 hU y1 y2 r0 e_r0), .o, .o, .o, .o, .o, .o, .o, .cp, .cx (sp0_region_frame_readable_v1_L0_0_ok hU y1 y2 w0 w1 w2 w3 w4 r0 r0.1  e_g1) [0], .o, .o, .cp, .cx (sp1_region_frame_readable_v1_L1_0_ok hU y1 y2 w0 w1 w2 w3 w4 r0 r0.1  e_g2) [0, 1]] [] (fun b => by kernel_rfl)
    · try dsimp only at e
      injection e with e; injection e with i0; subst i0; exact fn_specG hU (P := Try.prog) Try.func129 (fun xs w => by kernel_rfl) 1 _ _ (fun _ => rfl) _ _ _ [] [.o, .o, .b (z_eqlF hq0), .o, .o, .cg (ok_region_touched_v2 hU y1 y2 r0 e_r0), .o, .o, .o, .o, .o, .o, .o, .cp, .cx (sp1_region_frame_readable_v1_L0_0_ok hU y1 y2 w0 w1 w2 w3 w4 r0 r0.1  e_g1) [0]] [] (fun b => by kernel_rfl)
inductive R_region_frame_load_v2 where
  | e0 (c0_0 : Int) (c0_1 : BitVec 64) (c0_2 : Int) (c0_3 : Int) (c0_4 : Int)
noncomputable def m_region_frame_load_v2 (y1 : Int) (y2 : Int) (w0 : Nat → BitVec 8) (w1 : Nat → BitVec 8) (w2 : Nat → Val) (w3 : Nat → Int) (w4 : Nat → Bool) : Option R_region_frame_load_v2 :=
  bif y2 == 8 then
    (bif (zrem y1 8) == 0 then
      (bif inR (zquo y1 8) 64 then
        (bif (w3 ((zquo y1 8)).toNat) == 0 then
          (bif ((w2 ((zquo y1 8)).toNat)).fKind == 0 then
            ((m_region_frame_readable_v1 y1 y2 w0 w1 w2 w3 w4).bind fun g0 => match g0 with
            | .e0 g0_0 =>
            bif g0_0 == 0 then
              (bif inR y1 512 then
                (bif inR (IntKind.i64.wrap (y1 + y2)) (512 + 1) then
                  (bif decide (y1 ≤ (IntKind.i64.wrap (y1 + y2))) then
                    ((m_region_number (((IntKind.i64.wrap (y1 + y2))).toNat - (y1).toNat) (fun k => w0 ((y1).toNat + k))).bind fun r1 =>
                    some (.e0 r1.fKind r1.fNum r1.fId r1.fOff 0))
                  else (none))
                else (none))
              else (none))
            else (some (.e0 0 (0#64) 0 0 g0_0)))
          else (some (.e0 ((w2 ((zquo y1 8)).toNat)).fKind ((w2 ((zquo y1 8)).toNat)).fNum ((w2 ((zquo y1 8)).toNat)).fId ((w2 ((zquo y1 8)).toNat)).fOff 0)))
        else ((m_region_frame_readable_v1 y1 y2 w0 w1 w2 w3 w4).bind fun g0 => match g0 with
        | .e0 g0_0 =>
        bif g0_0 == 0 then
          (bif inR y1 512 then
            (bif inR (IntKind.i64.wrap (y1 + y2)) (512 + 1) then
              (bif decide (y1 ≤ (IntKind.i64.wrap (y1 + y2))) then
                ((m_region_number (((IntKind.i64.wrap (y1 + y2))).toNat - (y1).toNat) (fun k => w0 ((y1).toNat + k))).bind fun r1 =>
                some (.e0 r1.fKind r1.fNum r1.fId r1.fOff 0))
              else (none))
            else (none))
          else (none))
        else (some (.e0 0 (0#64) 0 0 g0_0))))
      else (none))
    else ((m_region_frame_readable_v1 y1 y2 w0 w1 w2 w3 w4).bind fun g0 => match g0 with
    | .e0 g0_0 =>
    bif g0_0 == 0 then
      (bif inR y1 512 then
        (bif inR (IntKind.i64.wrap (y1 + y2)) (512 + 1) then
          (bif decide (y1 ≤ (IntKind.i64.wrap (y1 + y2))) then
            ((m_region_number (((IntKind.i64.wrap (y1 + y2))).toNat - (y1).toNat) (fun k => w0 ((y1).toNat + k))).bind fun r1 =>
            some (.e0 r1.fKind r1.fNum r1.fId r1.fOff 0))
          else (none))
        else (none))
      else (none))
    else (some (.e0 0 (0#64) 0 0 g0_0))))
  else ((m_region_frame_readable_v1 y1 y2 w0 w1 w2 w3 w4).bind fun g0 => match g0 with
  | .e0 g0_0 =>
  bif g0_0 == 0 then
    (bif inR y1 512 then
      (bif inR (IntKind.i64.wrap (y1 + y2)) (512 + 1) then
        (bif decide (y1 ≤ (IntKind.i64.wrap (y1 + y2))) then
          ((m_region_number (((IntKind.i64.wrap (y1 + y2))).toNat - (y1).toNat) (fun k => w0 ((y1).toNat + k))).bind fun r1 =>
          some (.e0 r1.fKind r1.fNum r1.fId r1.fOff 0))
        else (none))
      else (none))
    else (none))
  else (some (.e0 0 (0#64) 0 0 g0_0)))
def sq0_region_frame_load_v2 (y1 : Int) (y2 : Int) (w0 : Nat → BitVec 8) (w1 : Nat → BitVec 8) (w2 : Nat → Val) (w3 : Nat → Int) (w4 : Nat → Bool) (c0_0 : Int) (c0_1 : BitVec 64) (c0_2 : Int) (c0_3 : Int) (c0_4 : Int) : Spc := ⟨fun ls => .call 126 #[.pointer (some ⟨(lget ls 0).n, 0, none⟩), .int .i64 (y1), .int .i64 (y2)], fun ls => [.cells ⟨segs [esG cu8 512 w0, esG cu8 64 w1, esG c_Val 64 w2, esG cZ 64 w3, esG cB 64 w4]⟩ 100], 0, .normal, fun ls => [.tuple #[.agg #[.int .i64 (c0_0), .int .u64 (nn c0_1), .int .i64 (c0_2), .int .i64 (c0_3)], .int .i64 (c0_4)]], fun ls => [.cells ⟨segs [esG cu8 512 w0, esG cu8 64 w1, esG c_Val 64 w2, esG cZ 64 w3, esG cB 64 w4]⟩ 100], fun ls => []⟩
theorem ok0_region_frame_load_v2 (c0_1 : BitVec 64) (c0_2 : Int) (c0_3 : Int) (c0_4 : Int) (e : m_region_frame_load_v2 y1 y2 w0 w1 w2 w3 w4 = some (.e0 c0_0 c0_1 c0_2 c0_3 c0_4)) : SpcG Try.prog M B0 S (sq0_region_frame_load_v2 y1 y2 w0 w1 w2 w3 w4 c0_0 c0_1 c0_2 c0_3 c0_4) := by
  unfold m_region_frame_load_v2 at e
  replace e := cond_eq_or e
  rcases e with ⟨hq0, e⟩ | ⟨hq0, e⟩
  · replace e := cond_eq_or e
    rcases e with ⟨hq1, e⟩ | ⟨hq1, e⟩
    · replace e := cond_eq_or e
      rcases e with ⟨hq2, e⟩ | ⟨hq2, e⟩
      · replace e := cond_eq_or e
        rcases e with ⟨hq3, e⟩ | ⟨hq3, e⟩
        · replace e := cond_eq_or e
          rcases e with ⟨hq4, e⟩ | ⟨hq4, e⟩
          · replace e := bindO_eq e
            obtain ⟨g0, e_g0, e⟩ := e
            obtain ⟨g0_0⟩ := g0
            try dsimp only at e
            replace e := cond_eq_or e
            rcases e with ⟨hq5, e⟩ | ⟨hq5, e⟩
            · replace e := cond_eq_or e
              rcases e with ⟨hq6, e⟩ | ⟨hq6, e⟩
              · replace e := cond_eq_or e
                rcases e with ⟨hq7, e⟩ | ⟨hq7, e⟩
                · replace e := cond_eq_or e
                  rcases e with ⟨hq8, e⟩ | ⟨hq8, e⟩
                  · replace e := bindO_eq e
                    obtain ⟨r1, e_r1, e⟩ := e
                    try dsimp only at e
                    injection e with e; injection e with i0 i1 i2 i3 i4; subst i0 i1 i2 i3 i4; exact fn_specG hU (P := Try.prog) Try.func126 (fun xs w => by kernel_rfl) 1 _ _ (fun _ => rfl) _ _ _ [] [.o, .o, .o, .ov (z_quo Try.prog 3 (.tmp 10) (.const (.int .i64 (8))) y1 8 (by decide)), .o, .o, .b (z_eqlT hq0), .o, .o, .ov (z_rem Try.prog 3 (.tmp 15) (.const (.int .i64 (8))) y1 8 (by decide)), .b (z_eqlT hq1), .o, .o, .o, .o, .o, .o, .q (ixA_ok (kd := .i64) (T := 97) (x := (zquo y1 8)) (sz := 1) (N := 64) rfl rfl (fun w => by kernel_rfl) hq2), .l (accSg (i := 0) (f := cZ) (N := 64) (A := w3) (k := ((zquo y1 8)).toNat) (pre := [esG cu8 512 w0, esG cu8 64 w1, esG c_Val 64 w2]) (post := [esG cB 64 w4]) (off := 832) (sgc (esG_len cu8_len) (sgc (esG_len cu8_len) (sgc (esG_len c_Val_len) sg0))) rfl 0 [.int .i64 ((w3 ((zquo y1 8)).toNat))] cZ_len (inR_nat hq2) rfl), .b (z_eqlT hq3), .o, .o, .o, .o, .o, .o, .q (ixA_ok (kd := .i64) (T := 96) (x := (zquo y1 8)) (sz := 4) (N := 64) rfl rfl (fun w => by kernel_rfl) hq2), .o, .l (accSg (i := 0) (f := c_Val) (N := 64) (A := w2) (k := ((zquo y1 8)).toNat) (pre := [esG cu8 512 w0, esG cu8 64 w1]) (post := [esG cZ 64 w3, esG cB 64 w4]) (off := 576) (sgc (esG_len cu8_len) (sgc (esG_len cu8_len) sg0)) rfl 0 [.int .i64 (((w2 ((zquo y1 8)).toNat)).fKind)] c_Val_len (inR_nat hq2) rfl), .b (z_neqT hq4), .o, .o, .o, .o, .xg (ok0_region_frame_readable_v1 hU y1 y2 w0 w1 w2 w3 w4 g0_0 e_g0) [0], .o, .o, .b (z_neqT hq5), .o, .o, .o, .o, .o, .o, .o, .q (slArr_ok (T := 94) (e := 5) (sz := 1) (N := 512) (off := 0) (x := (some y1)) (y := (some (IntKind.i64.wrap (y1 + y2)))) (by kernel_rfl) (fun w => by kernel_rfl) hq6 hq7 hq8), .xg (SpcG.ownT hU (f := cu8) cu8_len 512 w0 100 (fun _ => segs [esG cu8 64 w1, esG c_Val 64 w2, esG cZ 64 w3, esG cB 64 w4]) (fun _ => 512 - ((IntKind.i64.wrap (y1 + y2))).toNat) (y1).toNat (((IntKind.i64.wrap (y1 + y2))).toNat - (y1).toNat) (arr_le (x := (some y1)) (y := (some (IntKind.i64.wrap (y1 + y2)))) (n := 512) hq6 hq7 hq8) _ 0 .normal (by intros; rfl) (by intros; rfl) (by intros; rfl) (fun M0 B0 S0 x0 u0 v0 z0 hU0 hs0 hr0 => ConG.sp (ok_region_number hU0 x0 u0 v0 (((IntKind.i64.wrap (y1 + y2))).toNat - (y1).toNat) z0 (fun k => w0 ((y1).toNat + k)) hr0 r1 e_r1))) [0], .a 1, .o] [1, 1, 1, 1] (fun b => by kernel_rfl)
                  · exact none_some e
                · exact none_some e
              · exact none_some e
            · injection e with e; injection e with i0 i1 i2 i3 i4; subst i0 i1 i2 i3 i4; exact fn_specG hU (P := Try.prog) Try.func126 (fun xs w => by kernel_rfl) 1 _ _ (fun _ => rfl) _ _ _ [] [.o, .o, .o, .ov (z_quo Try.prog 3 (.tmp 10) (.const (.int .i64 (8))) y1 8 (by decide)), .o, .o, .b (z_eqlT hq0), .o, .o, .ov (z_rem Try.prog 3 (.tmp 15) (.const (.int .i64 (8))) y1 8 (by decide)), .b (z_eqlT hq1), .o, .o, .o, .o, .o, .o, .q (ixA_ok (kd := .i64) (T := 97) (x := (zquo y1 8)) (sz := 1) (N := 64) rfl rfl (fun w => by kernel_rfl) hq2), .l (accSg (i := 0) (f := cZ) (N := 64) (A := w3) (k := ((zquo y1 8)).toNat) (pre := [esG cu8 512 w0, esG cu8 64 w1, esG c_Val 64 w2]) (post := [esG cB 64 w4]) (off := 832) (sgc (esG_len cu8_len) (sgc (esG_len cu8_len) (sgc (esG_len c_Val_len) sg0))) rfl 0 [.int .i64 ((w3 ((zquo y1 8)).toNat))] cZ_len (inR_nat hq2) rfl), .b (z_eqlT hq3), .o, .o, .o, .o, .o, .o, .q (ixA_ok (kd := .i64) (T := 96) (x := (zquo y1 8)) (sz := 4) (N := 64) rfl rfl (fun w => by kernel_rfl) hq2), .o, .l (accSg (i := 0) (f := c_Val) (N := 64) (A := w2) (k := ((zquo y1 8)).toNat) (pre := [esG cu8 512 w0, esG cu8 64 w1]) (post := [esG cZ 64 w3, esG cB 64 w4]) (off := 576) (sgc (esG_len cu8_len) (sgc (esG_len cu8_len) sg0)) rfl 0 [.int .i64 (((w2 ((zquo y1 8)).toNat)).fKind)] c_Val_len (inR_nat hq2) rfl), .b (z_neqT hq4), .o, .o, .o, .o, .xg (ok0_region_frame_readable_v1 hU y1 y2 w0 w1 w2 w3 w4 g0_0 e_g0) [0], .o, .o, .b (z_neqF hq5), .o, .o, .a 1, .o] [1, 1, 1, 1] (fun b => by kernel_rfl)
          · injection e with e; injection e with i0 i1 i2 i3 i4; subst i0 i1 i2 i3 i4; exact fn_specG hU (P := Try.prog) Try.func126 (fun xs w => by kernel_rfl) 1 _ _ (fun _ => rfl) _ _ _ [] [.o, .o, .o, .ov (z_quo Try.prog 3 (.tmp 10) (.const (.int .i64 (8))) y1 8 (by decide)), .o, .o, .b (z_eqlT hq0), .o, .o, .ov (z_rem Try.prog 3 (.tmp 15) (.const (.int .i64 (8))) y1 8 (by decide)), .b (z_eqlT hq1), .o, .o, .o, .o, .o, .o, .q (ixA_ok (kd := .i64) (T := 97) (x := (zquo y1 8)) (sz := 1) (N := 64) rfl rfl (fun w => by kernel_rfl) hq2), .l (accSg (i := 0) (f := cZ) (N := 64) (A := w3) (k := ((zquo y1 8)).toNat) (pre := [esG cu8 512 w0, esG cu8 64 w1, esG c_Val 64 w2]) (post := [esG cB 64 w4]) (off := 832) (sgc (esG_len cu8_len) (sgc (esG_len cu8_len) (sgc (esG_len c_Val_len) sg0))) rfl 0 [.int .i64 ((w3 ((zquo y1 8)).toNat))] cZ_len (inR_nat hq2) rfl), .b (z_eqlT hq3), .o, .o, .o, .o, .o, .o, .q (ixA_ok (kd := .i64) (T := 96) (x := (zquo y1 8)) (sz := 4) (N := 64) rfl rfl (fun w => by kernel_rfl) hq2), .o, .l (accSg (i := 0) (f := c_Val) (N := 64) (A := w2) (k := ((zquo y1 8)).toNat) (pre := [esG cu8 512 w0, esG cu8 64 w1]) (post := [esG cZ 64 w3, esG cB 64 w4]) (off := 576) (sgc (esG_len cu8_len) (sgc (esG_len cu8_len) sg0)) rfl 0 [.int .i64 (((w2 ((zquo y1 8)).toNat)).fKind)] c_Val_len (inR_nat hq2) rfl), .b (z_neqF hq4), .o, .o, .o, .o, .o, .q (ixA_ok (kd := .i64) (T := 96) (x := (zquo y1 8)) (sz := 4) (N := 64) rfl rfl (fun w => by kernel_rfl) hq2), .l (accSg (i := 0) (f := c_Val) (N := 64) (A := w2) (k := ((zquo y1 8)).toNat) (pre := [esG cu8 512 w0, esG cu8 64 w1]) (post := [esG cZ 64 w3, esG cB 64 w4]) (off := 576) (sgc (esG_len cu8_len) (sgc (esG_len cu8_len) sg0)) rfl 0 [.int .i64 (((w2 ((zquo y1 8)).toNat)).fKind), .int .u64 (nn ((w2 ((zquo y1 8)).toNat)).fNum), .int .i64 (((w2 ((zquo y1 8)).toNat)).fId), .int .i64 (((w2 ((zquo y1 8)).toNat)).fOff)] c_Val_len (inR_nat hq2) rfl), .a 1, .o] [1, 1, 1, 1] (fun b => by kernel_rfl)
        · replace e := bindO_eq e
          obtain ⟨g0, e_g0, e⟩ := e
          obtain ⟨g0_0⟩ := g0
          try dsimp only at e
          replace e := cond_eq_or e
          rcases e with ⟨hq4, e⟩ | ⟨hq4, e⟩
          · replace e := cond_eq_or e
            rcases e with ⟨hq5, e⟩ | ⟨hq5, e⟩
            · replace e := cond_eq_or e
              rcases e with ⟨hq6, e⟩ | ⟨hq6, e⟩
              · replace e := cond_eq_or e
                rcases e with ⟨hq7, e⟩ | ⟨hq7, e⟩
                · replace e := bindO_eq e
                  obtain ⟨r1, e_r1, e⟩ := e
                  try dsimp only at e
                  injection e with e; injection e with i0 i1 i2 i3 i4; subst i0 i1 i2 i3 i4; exact fn_specG hU (P := Try.prog) Try.func126 (fun xs w => by kernel_rfl) 1 _ _ (fun _ => rfl) _ _ _ [] [.o, .o, .o, .ov (z_quo Try.prog 3 (.tmp 10) (.const (.int .i64 (8))) y1 8 (by decide)), .o, .o, .b (z_eqlT hq0), .o, .o, .ov (z_rem Try.prog 3 (.tmp 15) (.const (.int .i64 (8))) y1 8 (by decide)), .b (z_eqlT hq1), .o, .o, .o, .o, .o, .o, .q (ixA_ok (kd := .i64) (T := 97) (x := (zquo y1 8)) (sz := 1) (N := 64) rfl rfl (fun w => by kernel_rfl) hq2), .l (accSg (i := 0) (f := cZ) (N := 64) (A := w3) (k := ((zquo y1 8)).toNat) (pre := [esG cu8 512 w0, esG cu8 64 w1, esG c_Val 64 w2]) (post := [esG cB 64 w4]) (off := 832) (sgc (esG_len cu8_len) (sgc (esG_len cu8_len) (sgc (esG_len c_Val_len) sg0))) rfl 0 [.int .i64 ((w3 ((zquo y1 8)).toNat))] cZ_len (inR_nat hq2) rfl), .b (z_eqlF hq3), .o, .o, .o, .o, .o, .o, .xg (ok0_region_frame_readable_v1 hU y1 y2 w0 w1 w2 w3 w4 g0_0 e_g0) [0], .o, .o, .b (z_neqT hq4), .o, .o, .o, .o, .o, .o, .o, .q (slArr_ok (T := 94) (e := 5) (sz := 1) (N := 512) (off := 0) (x := (some y1)) (y := (some (IntKind.i64.wrap (y1 + y2)))) (by kernel_rfl) (fun w => by kernel_rfl) hq5 hq6 hq7), .xg (SpcG.ownT hU (f := cu8) cu8_len 512 w0 100 (fun _ => segs [esG cu8 64 w1, esG c_Val 64 w2, esG cZ 64 w3, esG cB 64 w4]) (fun _ => 512 - ((IntKind.i64.wrap (y1 + y2))).toNat) (y1).toNat (((IntKind.i64.wrap (y1 + y2))).toNat - (y1).toNat) (arr_le (x := (some y1)) (y := (some (IntKind.i64.wrap (y1 + y2)))) (n := 512) hq5 hq6 hq7) _ 0 .normal (by intros; rfl) (by intros; rfl) (by intros; rfl) (fun M0 B0 S0 x0 u0 v0 z0 hU0 hs0 hr0 => ConG.sp (ok_region_number hU0 x0 u0 v0 (((IntKind.i64.wrap (y1 + y2))).toNat - (y1).toNat) z0 (fun k => w0 ((y1).toNat + k)) hr0 r1 e_r1))) [0], .a 1, .o] [1, 1, 1, 1] (fun b => by kernel_rfl)
                · exact none_some e
              · exact none_some e
            · exact none_some e
          · injection e with e; injection e with i0 i1 i2 i3 i4; subst i0 i1 i2 i3 i4; exact fn_specG hU (P := Try.prog) Try.func126 (fun xs w => by kernel_rfl) 1 _ _ (fun _ => rfl) _ _ _ [] [.o, .o, .o, .ov (z_quo Try.prog 3 (.tmp 10) (.const (.int .i64 (8))) y1 8 (by decide)), .o, .o, .b (z_eqlT hq0), .o, .o, .ov (z_rem Try.prog 3 (.tmp 15) (.const (.int .i64 (8))) y1 8 (by decide)), .b (z_eqlT hq1), .o, .o, .o, .o, .o, .o, .q (ixA_ok (kd := .i64) (T := 97) (x := (zquo y1 8)) (sz := 1) (N := 64) rfl rfl (fun w => by kernel_rfl) hq2), .l (accSg (i := 0) (f := cZ) (N := 64) (A := w3) (k := ((zquo y1 8)).toNat) (pre := [esG cu8 512 w0, esG cu8 64 w1, esG c_Val 64 w2]) (post := [esG cB 64 w4]) (off := 832) (sgc (esG_len cu8_len) (sgc (esG_len cu8_len) (sgc (esG_len c_Val_len) sg0))) rfl 0 [.int .i64 ((w3 ((zquo y1 8)).toNat))] cZ_len (inR_nat hq2) rfl), .b (z_eqlF hq3), .o, .o, .o, .o, .o, .o, .xg (ok0_region_frame_readable_v1 hU y1 y2 w0 w1 w2 w3 w4 g0_0 e_g0) [0], .o, .o, .b (z_neqF hq4), .o, .o, .a 1, .o] [1, 1, 1, 1] (fun b => by kernel_rfl)
      · exact none_some e
    · replace e := bindO_eq e
      obtain ⟨g0, e_g0, e⟩ := e
      obtain ⟨g0_0⟩ := g0
      try dsimp only at e
      replace e := cond_eq_or e
      rcases e with ⟨hq2, e⟩ | ⟨hq2, e⟩
      · replace e := cond_eq_or e
        rcases e with ⟨hq3, e⟩ | ⟨hq3, e⟩
        · replace e := cond_eq_or e
          rcases e with ⟨hq4, e⟩ | ⟨hq4, e⟩
          · replace e := cond_eq_or e
            rcases e with ⟨hq5, e⟩ | ⟨hq5, e⟩
            · replace e := bindO_eq e
              obtain ⟨r1, e_r1, e⟩ := e
              try dsimp only at e
              injection e with e; injection e with i0 i1 i2 i3 i4; subst i0 i1 i2 i3 i4; exact fn_specG hU (P := Try.prog) Try.func126 (fun xs w => by kernel_rfl) 1 _ _ (fun _ => rfl) _ _ _ [] [.o, .o, .o, .ov (z_quo Try.prog 3 (.tmp 10) (.const (.int .i64 (8))) y1 8 (by decide)), .o, .o, .b (z_eqlT hq0), .o, .o, .ov (z_rem Try.prog 3 (.tmp 15) (.const (.int .i64 (8))) y1 8 (by decide)), .b (z_eqlF hq1), .o, .o, .o, .o, .o, .o, .o, .o, .xg (ok0_region_frame_readable_v1 hU y1 y2 w0 w1 w2 w3 w4 g0_0 e_g0) [0], .o, .o, .b (z_neqT hq2), .o, .o, .o, .o, .o, .o, .o, .q (slArr_ok (T := 94) (e := 5) (sz := 1) (N := 512) (off := 0) (x := (some y1)) (y := (some (IntKind.i64.wrap (y1 + y2)))) (by kernel_rfl) (fun w => by kernel_rfl) hq3 hq4 hq5), .xg (SpcG.ownT hU (f := cu8) cu8_len 512 w0 100 (fun _ => segs [esG cu8 64 w1, esG c_Val 64 w2, esG cZ 64 w3, esG cB 64 w4]) (fun _ => 512 - ((IntKind.i64.wrap (y1 + y2))).toNat) (y1).toNat (((IntKind.i64.wrap (y1 + y2))).toNat - (y1).toNat) (arr_le (x := (some y1)) (y := (some (IntKind.i64.wrap (y1 + y2)))) (n := 512) hq3 hq4 hq5) _ 0 .normal (by intros; rfl) (by intros; rfl) (by intros; rfl) (fun M0 B0 S0 x0 u0 v0 z0 hU0 hs0 hr0 => ConG.sp (ok_region_number hU0 x0 u0 v0 (((IntKind.i64.wrap (y1 + y2))).toNat - (y1).toNat) z0 (fun k => w0 ((y1).toNat + k)) hr0 r1 e_r1))) [0], .a 1, .o] [1, 1, 1, 1] (fun b => by kernel_rfl)
            · exact none_some e
          · exact none_some e
        · exact none_some e
      · injection e with e; injection e with i0 i1 i2 i3 i4; subst i0 i1 i2 i3 i4; exact fn_specG hU (P := Try.prog) Try.func126 (fun xs w => by kernel_rfl) 1 _ _ (fun _ => rfl) _ _ _ [] [.o, .o, .o, .ov (z_quo Try.prog 3 (.tmp 10) (.const (.int .i64 (8))) y1 8 (by decide)), .o, .o, .b (z_eqlT hq0), .o, .o, .ov (z_rem Try.prog 3 (.tmp 15) (.const (.int .i64 (8))) y1 8 (by decide)), .b (z_eqlF hq1), .o, .o, .o, .o, .o, .o, .o, .o, .xg (ok0_region_frame_readable_v1 hU y1 y2 w0 w1 w2 w3 w4 g0_0 e_g0) [0], .o, .o, .b (z_neqF hq2), .o, .o, .a 1, .o] [1, 1, 1, 1] (fun b => by kernel_rfl)
  · replace e := bindO_eq e
    obtain ⟨g0, e_g0, e⟩ := e
    obtain ⟨g0_0⟩ := g0
    try dsimp only at e
    replace e := cond_eq_or e
    rcases e with ⟨hq1, e⟩ | ⟨hq1, e⟩
    · replace e := cond_eq_or e
      rcases e with ⟨hq2, e⟩ | ⟨hq2, e⟩
      · replace e := cond_eq_or e
        rcases e with ⟨hq3, e⟩ | ⟨hq3, e⟩
        · replace e := cond_eq_or e
          rcases e with ⟨hq4, e⟩ | ⟨hq4, e⟩
          · replace e := bindO_eq e
            obtain ⟨r1, e_r1, e⟩ := e
            try dsimp only at e
            injection e with e; injection e with i0 i1 i2 i3 i4; subst i0 i1 i2 i3 i4; exact fn_specG hU (P := Try.prog) Try.func126 (fun xs w => by kernel_rfl) 1 _ _ (fun _ => rfl) _ _ _ [] [.o, .o, .o, .ov (z_quo Try.prog 3 (.tmp 10) (.const (.int .i64 (8))) y1 8 (by decide)), .o, .o, .b (z_eqlF hq0), .o, .o, .o, .o, .o, .o, .o, .o, .o, .xg (ok0_region_frame_readable_v1 hU y1 y2 w0 w1 w2 w3 w4 g0_0 e_g0) [0], .o, .o, .b (z_neqT hq1), .o, .o, .o, .o, .o, .o, .o, .q (slArr_ok (T := 94) (e := 5) (sz := 1) (N := 512) (off := 0) (x := (some y1)) (y := (some (IntKind.i64.wrap (y1 + y2)))) (by kernel_rfl) (fun w => by kernel_rfl) hq2 hq3 hq4), .xg (SpcG.ownT hU (f := cu8) cu8_len 512 w0 100 (fun _ => segs [esG cu8 64 w1, esG c_Val 64 w2, esG cZ 64 w3, esG cB 64 w4]) (fun _ => 512 - ((IntKind.i64.wrap (y1 + y2))).toNat) (y1).toNat (((IntKind.i64.wrap (y1 + y2))).toNat - (y1).toNat) (arr_le (x := (some y1)) (y := (some (IntKind.i64.wrap (y1 + y2)))) (n := 512) hq2 hq3 hq4) _ 0 .normal (by intros; rfl) (by intros; rfl) (by intros; rfl) (fun M0 B0 S0 x0 u0 v0 z0 hU0 hs0 hr0 => ConG.sp (ok_region_number hU0 x0 u0 v0 (((IntKind.i64.wrap (y1 + y2))).toNat - (y1).toNat) z0 (fun k => w0 ((y1).toNat + k)) hr0 r1 e_r1))) [0], .a 1, .o] [1, 1, 1, 1] (fun b => by kernel_rfl)
          · exact none_some e
        · exact none_some e
      · exact none_some e
    · injection e with e; injection e with i0 i1 i2 i3 i4; subst i0 i1 i2 i3 i4; exact fn_specG hU (P := Try.prog) Try.func126 (fun xs w => by kernel_rfl) 1 _ _ (fun _ => rfl) _ _ _ [] [.o, .o, .o, .ov (z_quo Try.prog 3 (.tmp 10) (.const (.int .i64 (8))) y1 8 (by decide)), .o, .o, .b (z_eqlF hq0), .o, .o, .o, .o, .o, .o, .o, .o, .o, .xg (ok0_region_frame_readable_v1 hU y1 y2 w0 w1 w2 w3 w4 g0_0 e_g0) [0], .o, .o, .b (z_neqF hq1), .o, .o, .a 1, .o] [1, 1, 1, 1] (fun b => by kernel_rfl)
inductive R_region_Mem_Load_v3 where
  | e0 (c0_0 : Int) (c0_1 : BitVec 64) (c0_2 : Int) (c0_3 : Int) (c0_4 : Int)
noncomputable def m_region_Mem_Load_v3 (y2 : Int) (w0 : Int) (w1 : Nat → BitVec 8) (w2 : Nat → BitVec 8) (w3 : Nat → Val) (w4 : Nat → Int) (w5 : Nat → Bool) : Option R_region_Mem_Load_v3 :=
  bif m_region_rightSize_v2 y2 then
    ((m_region_Mem_find_v4 y2 w0 w1 w2 w3 w4 w5).bind fun g0 => match g0 with
    | .e0 g0_0 => ((m_region_frame_load_v2 g0_0 y2 w1 w2 w3 w4 w5).bind fun g1 => match g1 with
      | .e0 g1_0 g1_1 g1_2 g1_3 g1_4 =>
      some (.e0 g1_0 g1_1 g1_2 g1_3 g1_4))
    | .e1  => (some (.e0 0 (0#64) 0 0 3)))
  else (some (.e0 0 (0#64) 0 0 8))
def sq0_region_Mem_Load_v3 (y2 : Int) (w0 : Int) (w1 : Nat → BitVec 8) (w2 : Nat → BitVec 8) (w3 : Nat → Val) (w4 : Nat → Int) (w5 : Nat → Bool) (c0_0 : Int) (c0_1 : BitVec 64) (c0_2 : Int) (c0_3 : Int) (c0_4 : Int) : Spc := ⟨fun ls => .call 19 #[.pointer (some ⟨(lget ls 0).n, 0, none⟩), .agg #[.int .i64 (2), .int .u64 (0), .int .i64 (1), .int .i64 (w0)], .int .i64 (y2)], fun ls => [.cells #[.map (some (lget ls 1).n), .int .i64 (1)] 91, .map #[⟨.int .i64 (1), .iface 93 (.pointer (some ⟨(lget ls 2).n, 0, none⟩)), 0⟩] 1, .cells ⟨segs [esG cu8 512 w1, esG cu8 64 w2, esG c_Val 64 w3, esG cZ 64 w4, esG cB 64 w5]⟩ 100], 0, .normal, fun ls => [.tuple #[.agg #[.int .i64 (c0_0), .int .u64 (nn c0_1), .int .i64 (c0_2), .int .i64 (c0_3)], .int .i64 (c0_4)]], fun ls => [.cells #[.map (some (lget ls 1).n), .int .i64 (1)] 91, .map #[⟨.int .i64 (1), .iface 93 (.pointer (some ⟨(lget ls 2).n, 0, none⟩)), 0⟩] 1, .cells ⟨segs [esG cu8 512 w1, esG cu8 64 w2, esG c_Val 64 w3, esG cZ 64 w4, esG cB 64 w5]⟩ 100], fun ls => []⟩
end
section
variable {M : Nat → Prop} {B0 : Nat} {S : World → Prop} (hU : Up M B0 S)
include hU
theorem ok0_region_Mem_Load_v3 (y2 : Int) (w0 : Int) (w1 : Nat → BitVec 8) (w2 : Nat → BitVec 8) (w3 : Nat → Val) (w4 : Nat → Int) (w5 : Nat → Bool) (c0_0 : Int) (c0_1 : BitVec 64) (c0_2 : Int) (c0_3 : Int) (c0_4 : Int) (e : m_region_Mem_Load_v3 y2 w0 w1 w2 w3 w4 w5 = some (.e0 c0_0 c0_1 c0_2 c0_3 c0_4)) : SpcG Try.prog M B0 S (sq0_region_Mem_Load_v3 y2 w0 w1 w2 w3 w4 w5 c0_0 c0_1 c0_2 c0_3 c0_4) := by
  unfold m_region_Mem_Load_v3 at e
  replace e := cond_eq_or e
  rcases e with ⟨hq0, e⟩ | ⟨hq0, e⟩
  · replace e := bindO_eq e
    obtain ⟨g0, e_g0, e⟩ := e
    rcases g0 with ⟨g0_0⟩ | _
    · try dsimp only at e
      replace e := bindO_eq e
      obtain ⟨g1, e_g1, e⟩ := e
      obtain ⟨g1_0, g1_1, g1_2, g1_3, g1_4⟩ := g1
      try dsimp only at e
      injection e with e; injection e with i0 i1 i2 i3 i4; subst i0 i1 i2 i3 i4; exact fn_specG hU (P := Try.prog) Try.func19 (fun xs w => by kernel_rfl) 3 _ _ (fun _ => rfl) _ _ _ [] [.o, .o, .o, .a 3, .cg (ok_region_kindTrap_v2 hU w0 ), .o, .o, .o, .o, .cg (ok_region_rightSize_v2 hU y2 true hq0), .o, .o, .a 3, .o, .xg (ok0_region_Mem_find_v4 hU y2 w0 w1 w2 w3 w4 w5 g0_0 e_g0) [0, 1, 2], .o, .o, .o, .o, .o, .o, .o, .o, .o, .o, .o, .o, .xg (ok0_region_frame_load_v2 hU g0_0 y2 w1 w2 w3 w4 w5 g1_0 g1_1 g1_2 g1_3 g1_4 e_g1) [2], .o, .o, .a 4, .o] [4, 4, 4, 4] (fun b => by kernel_rfl)
    · try dsimp only at e
      injection e with e; injection e with i0 i1 i2 i3 i4; subst i0 i1 i2 i3 i4; exact fn_specG hU (P := Try.prog) Try.func19 (fun xs w => by kernel_rfl) 3 _ _ (fun _ => rfl) _ _ _ [] [.o, .o, .o, .a 3, .cg (ok_region_kindTrap_v2 hU w0 ), .o, .o, .o, .o, .cg (ok_region_rightSize_v2 hU y2 true hq0), .o, .o, .a 3, .o, .xg (ok1_region_Mem_find_v4 hU y2 w0 w1 w2 w3 w4 w5  e_g0) [0, 1, 2], .o, .o, .o, .o, .o, .o, .o, .o, .o, .o, .o, .a 4, .o] [4, 4, 4, 4] (fun b => by kernel_rfl)
  · injection e with e; injection e with i0 i1 i2 i3 i4; subst i0 i1 i2 i3 i4; exact fn_specG hU (P := Try.prog) Try.func19 (fun xs w => by kernel_rfl) 3 _ _ (fun _ => rfl) _ _ _ [] [.o, .o, .o, .a 3, .cg (ok_region_kindTrap_v2 hU w0 ), .o, .o, .o, .o, .cg (ok_region_rightSize_v2 hU y2 false hq0), .o, .o, .a 4, .o] [4, 4, 4, 4] (fun b => by kernel_rfl)
inductive Ex_barbicanlaw8_RegionTags_J0 where
  | e0 (c0_0 : Bool)
noncomputable def jp_barbicanlaw8_RegionTags_J0 (y0 : Int) (y1 : Int) (y2 : Int) (y3 : Int) : Bool :=
  bif decide (y0 < (-64)) then
    (true)
  else (bif decide ((-2) < y0) then
    (true)
  else (bif decide (y1 < (-512)) then
    (true)
  else (bif decide ((-8) < y1) then
    (true)
  else (bif y3 == 0 then
    (true)
  else (bif y2 == 1 then
    (false)
  else (bif y2 == 2 then
    (false)
  else (bif y2 == 4 then
    (false)
  else (bif y2 == 8 then
    (false)
  else (true)))))))))
noncomputable def bd_barbicanlaw8_RegionTags_J0 : Code := codeOf Try.f6 [1, 1, 0, 0]
def fl_barbicanlaw8_RegionTags_J0 (y0 : Int) (y1 : Int) (y2 : Int) (y3 : Int) (ls : List L1) : List Value := [.int .i64 (y0), .int .i64 (y1), .int .i64 (y2), .int .i64 (y3), .bool false]
noncomputable def fr_barbicanlaw8_RegionTags_J0 (y0 : Int) (y1 : Int) (y2 : Int) (y3 : Int) : List L1 → List Value := mrgF [(4, 4), (1, 136)] (fl_barbicanlaw8_RegionTags_J0 y0 y1 y2 y3) 0
def Hs_barbicanlaw8_RegionTags_J0 (y0 : Int) (y1 : Int) (y2 : Int) (y3 : Int) (ls : List L1) : List Obj := [unb]
def vl_barbicanlaw8_RegionTags_J0 (y0 : Int) (y1 : Int) (y2 : Int) (y3 : Int) : Ex_barbicanlaw8_RegionTags_J0 → List L1 → List Value
  | .e0 c0_0, ls => [.int .i64 (y0), .int .i64 (y1), .int .i64 (y2), .int .i64 (y3), .bool false, .bool (c0_0)]
def mk_barbicanlaw8_RegionTags_J0 : Ex_barbicanlaw8_RegionTags_J0 → List (Nat × Nat)
  | .e0 _ => [(4, 4), (1, 43), (1, 92)]
noncomputable def vf_barbicanlaw8_RegionTags_J0 (y0 : Int) (y1 : Int) (y2 : Int) (y3 : Int) (r : Ex_barbicanlaw8_RegionTags_J0) : List L1 → List Value := mrgF (mk_barbicanlaw8_RegionTags_J0 r) (vl_barbicanlaw8_RegionTags_J0 y0 y1 y2 y3 r) 0
def Hf_barbicanlaw8_RegionTags_J0 (y0 : Int) (y1 : Int) (y2 : Int) (y3 : Int) : Ex_barbicanlaw8_RegionTags_J0 → List L1 → List Obj
  | .e0 c0_0, ls => [unb]
def ex_barbicanlaw8_RegionTags_J0 : Ex_barbicanlaw8_RegionTags_J0 → Ex
  | .e0 _ => .normal
end
section
variable {M : Nat → Prop} {B0 : Nat} {S : World → Prop} (hU : Up M B0 S) (y0 : Int) (y1 : Int) (y2 : Int) (y3 : Int) (c0_0 : Bool)
include hU y0 y1 y2 y3 c0_0
theorem go_barbicanlaw8_RegionTags_J0 (e : jp_barbicanlaw8_RegionTags_J0 y0 y1 y2 y3 = c0_0) : GoesG Try.prog M B0 S bd_barbicanlaw8_RegionTags_J0 1 (fr_barbicanlaw8_RegionTags_J0 y0 y1 y2 y3) (Hs_barbicanlaw8_RegionTags_J0 y0 y1 y2 y3) (ex_barbicanlaw8_RegionTags_J0 (.e0 c0_0)) 0 (vf_barbicanlaw8_RegionTags_J0 y0 y1 y2 y3 (.e0 c0_0)) (Hf_barbicanlaw8_RegionTags_J0 y0 y1 y2 y3 (.e0 c0_0)) 1 := by
  unfold jp_barbicanlaw8_RegionTags_J0 at e
  replace e := cond_eq_or e
  rcases e with ⟨hq0, e⟩ | ⟨hq0, e⟩
  · subst e; exact goes_runM hU [.o, .b (z_lssT hq0), .o, .o, .o, .o, .o, .o, .o, .o, .o, .o] [] (fun b => rfl) (by decide) rfl rfl (fun b => by kernel_rfl)
  · replace e := cond_eq_or e
    rcases e with ⟨hq1, e⟩ | ⟨hq1, e⟩
    · subst e; exact goes_runM hU [.o, .b (z_lssF hq0), .o, .o, .b (z_gtrT hq1), .o, .o, .o, .o, .o, .o, .o, .o, .o] [] (fun b => rfl) (by decide) rfl rfl (fun b => by kernel_rfl)
    · replace e := cond_eq_or e
      rcases e with ⟨hq2, e⟩ | ⟨hq2, e⟩
      · subst e; exact goes_runM hU [.o, .b (z_lssF hq0), .o, .o, .b (z_gtrF hq1), .o, .o, .o, .b (z_lssT hq2), .o, .o, .o, .o, .o, .o, .o] [] (fun b => rfl) (by decide) rfl rfl (fun b => by kernel_rfl)
      · replace e := cond_eq_or e
        rcases e with ⟨hq3, e⟩ | ⟨hq3, e⟩
        · subst e; exact goes_runM hU [.o, .b (z_lssF hq0), .o, .o, .b (z_gtrF hq1), .o, .o, .o, .b (z_lssF hq2), .o, .o, .o, .b (z_gtrT hq3), .o, .o, .o, .o, .o] [] (fun b => rfl) (by decide) rfl rfl (fun b => by kernel_rfl)
        · replace e := cond_eq_or e
          rcases e with ⟨hq4, e⟩ | ⟨hq4, e⟩
          · subst e; exact goes_runM hU [.o, .b (z_lssF hq0), .o, .o, .b (z_gtrF hq1), .o, .o, .o, .b (z_lssF hq2), .o, .o, .o, .b (z_gtrF hq3), .o, .o, .o, .b (z_eqlT hq4), .o, .o, .o] [] (fun b => rfl) (by decide) rfl rfl (fun b => by kernel_rfl)
          · replace e := cond_eq_or e
            rcases e with ⟨hq5, e⟩ | ⟨hq5, e⟩
            · subst e; exact goes_runM hU [.o, .b (z_lssF hq0), .o, .o, .b (z_gtrF hq1), .o, .o, .o, .b (z_lssF hq2), .o, .o, .o, .b (z_gtrF hq3), .o, .o, .o, .b (z_eqlF hq4), .o, .o, .o, .b (z_neqT hq5), .o, .o, .o, .o, .o, .o, .o] [] (fun b => rfl) (by decide) rfl rfl (fun b => by kernel_rfl)
            · replace e := cond_eq_or e
              rcases e with ⟨hq6, e⟩ | ⟨hq6, e⟩
              · subst e; exact goes_runM hU [.o, .b (z_lssF hq0), .o, .o, .b (z_gtrF hq1), .o, .o, .o, .b (z_lssF hq2), .o, .o, .o, .b (z_gtrF hq3), .o, .o, .o, .b (z_eqlF hq4), .o, .o, .o, .b (z_neqF hq5), .o, .o, .b (z_neqT hq6), .o, .o, .o, .o, .o, .o] [] (fun b => rfl) (by decide) rfl rfl (fun b => by kernel_rfl)
              · replace e := cond_eq_or e
                rcases e with ⟨hq7, e⟩ | ⟨hq7, e⟩
                · subst e; exact goes_runM hU [.o, .b (z_lssF hq0), .o, .o, .b (z_gtrF hq1), .o, .o, .o, .b (z_lssF hq2), .o, .o, .o, .b (z_gtrF hq3), .o, .o, .o, .b (z_eqlF hq4), .o, .o, .o, .b (z_neqF hq5), .o, .o, .b (z_neqF hq6), .o, .o, .o, .b (z_neqT hq7), .o, .o, .o, .o] [] (fun b => rfl) (by decide) rfl rfl (fun b => by kernel_rfl)
                · replace e := cond_eq_or e
                  rcases e with ⟨hq8, e⟩ | ⟨hq8, e⟩
                  · subst e; exact goes_runM hU [.o, .b (z_lssF hq0), .o, .o, .b (z_gtrF hq1), .o, .o, .o, .b (z_lssF hq2), .o, .o, .o, .b (z_gtrF hq3), .o, .o, .o, .b (z_eqlF hq4), .o, .o, .o, .b (z_neqF hq5), .o, .o, .b (z_neqF hq6), .o, .o, .o, .b (z_neqF hq7), .o, .o, .o, .b (z_neqT hq8), .o, .o] [] (fun b => rfl) (by decide) rfl rfl (fun b => by kernel_rfl)
                  · subst e; exact goes_runM hU [.o, .b (z_lssF hq0), .o, .o, .b (z_gtrF hq1), .o, .o, .o, .b (z_lssF hq2), .o, .o, .o, .b (z_gtrF hq3), .o, .o, .o, .b (z_eqlF hq4), .o, .o, .o, .b (z_neqF hq5), .o, .o, .b (z_neqF hq6), .o, .o, .o, .b (z_neqF hq7), .o, .o, .o, .b (z_neqF hq8), .o, .o] [] (fun b => rfl) (by decide) rfl rfl (fun b => by kernel_rfl)
def pre_barbicanlaw8_RegionTags_J0 (y0 : Int) (y1 : Int) (y2 : Int) (y3 : Int) (ls : List L1) : List Obj := []
noncomputable def t0_barbicanlaw8_RegionTags_J0 (y0 : Int) (y1 : Int) (y2 : Int) (y3 : Int) (ls : List L1) : List Value := List.append [.int .i64 (y0), .int .i64 (y1), .int .i64 (y2), .int .i64 (y3)] (List.append (und 4) (List.append [.bool false] (List.append (und 8) (List.append [.bool true, .bool false] (und 126)))))
theorem sp0_barbicanlaw8_RegionTags_J0_ok (h : jp_barbicanlaw8_RegionTags_J0 y0 y1 y2 y3 = c0_0) : SpcG Try.prog M B0 S (spcJ bd_barbicanlaw8_RegionTags_J0 (t0_barbicanlaw8_RegionTags_J0 y0 y1 y2 y3) (pre_barbicanlaw8_RegionTags_J0 y0 y1 y2 y3) 0 0 .normal (vf_barbicanlaw8_RegionTags_J0 y0 y1 y2 y3 (.e0 c0_0)) (Hf_barbicanlaw8_RegionTags_J0 y0 y1 y2 y3 (.e0 c0_0))) :=
  spcJ_ok hU (go_barbicanlaw8_RegionTags_J0 hU y0 y1 y2 y3 c0_0 h) (fun _ => rfl) (fun ls h => by match ls, h with | [], _ => exact ⟨by kernel_rfl, by kernel_rfl⟩) (fun ls h => by match ls, h with | [], _ => rfl) (fun ls => rfl)
inductive Ex_barbicanlaw8_RegionTags_J1 where
  | e0 (c0_0 : Nat → BitVec 8) (c0_1 : Nat → Val) (c0_2 : Nat → Int) (c0_3 : Nat → Bool) (c0_4 : Bool)
noncomputable def jp_barbicanlaw8_RegionTags_J1 (y0 : Int) (y3 : Int) : Option (Ex_barbicanlaw8_RegionTags_J1) :=
  (m_region_Mem_Mark y3 (IntKind.i64.wrap (8 * y0)) (fun _ => 0#8) (fun _ => 0#8) (fun _ => (⟨0, 0#64, 0, 0⟩ : Val)) (fun _ => 0) (fun _ => false)).bind fun gb0 => match gb0 with
  | .e0 gb0_0 gb0_1 gb0_2 gb0_3 gb0_4 =>
  bif gb0_4 == 0 then
    ((m_region_Mem_Mark y3 (IntKind.i64.wrap (8 * y0)) (fun _ => 0#8) gb0_0 gb0_1 gb0_2 gb0_3).bind fun gb1 => match gb1 with
    | .e0 gb1_0 gb1_1 gb1_2 gb1_3 gb1_4 =>
    bif gb1_4 == 14 then
      (some (.e0 gb1_0 gb1_1 gb1_2 gb1_3 false))
    else (some (.e0 gb1_0 gb1_1 gb1_2 gb1_3 true)))
  else (some (.e0 gb0_0 gb0_1 gb0_2 gb0_3 true))
noncomputable def bd_barbicanlaw8_RegionTags_J1 : Code := codeOf Try.f6 [1, 1, 1, 1, 1, 1, 1, 0, 0]
def fl_barbicanlaw8_RegionTags_J1 (y0 : Int) (y1 : Int) (y2 : Int) (y3 : Int) (ls : List L1) : List Value := [.int .i64 (y0), .int .i64 (y1), .int .i64 (y2), .int .i64 (y3), .bool false, .pointer (some ⟨(lget ls 1).n, 0, none⟩), .pointer (some ⟨(lget ls 4).n, 0, none⟩), .pointer (some ⟨(lget ls 5).n, 0, none⟩)]
noncomputable def fr_barbicanlaw8_RegionTags_J1 (y0 : Int) (y1 : Int) (y2 : Int) (y3 : Int) : List L1 → List Value := mrgF [(4, 4), (2, 1), (2, 132)] (fl_barbicanlaw8_RegionTags_J1 y0 y1 y2 y3) 6
def Hs_barbicanlaw8_RegionTags_J1 (y0 : Int) (y1 : Int) (y2 : Int) (y3 : Int) (ls : List L1) : List Obj := [unb, .cells #[.map (some (lget ls 2).n), .int .i64 (1)] 91, .map #[⟨.int .i64 (1), .iface 93 (.pointer (some ⟨(lget ls 3).n, 0, none⟩)), 0⟩] 1, .cells ⟨segs [esG cu8 512 (fun _ => 0#8), esG cu8 64 (fun _ => 0#8), esG c_Val 64 (fun _ => (⟨0, 0#64, 0, 0⟩ : Val)), esG cZ 64 (fun _ => 0), esG cB 64 (fun _ => false)]⟩ 100, .cells #[.int .i64 (2), .int .u64 (0), .int .i64 (1), .int .i64 ((IntKind.i64.wrap (8 * y0)))] 28, .cells #[.int .i64 (2), .int .u64 (0), .int .i64 (1), .int .i64 (y1)] 28, unb]
def vl_barbicanlaw8_RegionTags_J1 (y0 : Int) (y1 : Int) (y2 : Int) (y3 : Int) : Ex_barbicanlaw8_RegionTags_J1 → List L1 → List Value
  | .e0 c0_0 c0_1 c0_2 c0_3 c0_4, ls => [.int .i64 (y0), .int .i64 (y1), .int .i64 (y2), .int .i64 (y3), .bool false, .pointer (some ⟨(lget ls 1).n, 0, none⟩), .pointer (some ⟨(lget ls 4).n, 0, none⟩), .pointer (some ⟨(lget ls 5).n, 0, none⟩), .bool (c0_4)]
def mk_barbicanlaw8_RegionTags_J1 : Ex_barbicanlaw8_RegionTags_J1 → List (Nat × Nat)
  | .e0 _ _ _ _ _ => [(4, 4), (2, 1), (2, 61), (1, 70)]
noncomputable def vf_barbicanlaw8_RegionTags_J1 (y0 : Int) (y1 : Int) (y2 : Int) (y3 : Int) (r : Ex_barbicanlaw8_RegionTags_J1) : List L1 → List Value := mrgF (mk_barbicanlaw8_RegionTags_J1 r) (vl_barbicanlaw8_RegionTags_J1 y0 y1 y2 y3 r) 6
def Hf_barbicanlaw8_RegionTags_J1 (y0 : Int) (y1 : Int) (y2 : Int) (y3 : Int) : Ex_barbicanlaw8_RegionTags_J1 → List L1 → List Obj
  | .e0 c0_0 c0_1 c0_2 c0_3 c0_4, ls => [unb, .cells #[.map (some (lget ls 2).n), .int .i64 (1)] 91, .map #[⟨.int .i64 (1), .iface 93 (.pointer (some ⟨(lget ls 3).n, 0, none⟩)), 0⟩] 1, .cells ⟨segs [esG cu8 512 (fun _ => 0#8), esG cu8 64 c0_0, esG c_Val 64 c0_1, esG cZ 64 c0_2, esG cB 64 c0_3]⟩ 100, .cells #[.int .i64 (2), .int .u64 (0), .int .i64 (1), .int .i64 ((IntKind.i64.wrap (8 * y0)))] 28, .cells #[.int .i64 (2), .int .u64 (0), .int .i64 (1), .int .i64 (y1)] 28, unb]
def ex_barbicanlaw8_RegionTags_J1 : Ex_barbicanlaw8_RegionTags_J1 → Ex
  | .e0 _ _ _ _ _ => .normal
end
section
variable {M : Nat → Prop} {B0 : Nat} {S : World → Prop} (hU : Up M B0 S) (y0 : Int) (y1 : Int) (y2 : Int) (y3 : Int)
include hU y0 y1 y2 y3
theorem go_barbicanlaw8_RegionTags_J1 (r : Ex_barbicanlaw8_RegionTags_J1) (e : jp_barbicanlaw8_RegionTags_J1 y0 y3 = some r) : GoesG Try.prog M B0 S bd_barbicanlaw8_RegionTags_J1 7 (fr_barbicanlaw8_RegionTags_J1 y0 y1 y2 y3) (Hs_barbicanlaw8_RegionTags_J1 y0 y1 y2 y3) (ex_barbicanlaw8_RegionTags_J1 r) 6 (vf_barbicanlaw8_RegionTags_J1 y0 y1 y2 y3 r) (Hf_barbicanlaw8_RegionTags_J1 y0 y1 y2 y3 r) 7 := by
  unfold jp_barbicanlaw8_RegionTags_J1 at e
  replace e := bindO_eq e
  obtain ⟨gb0, e_gb0, e⟩ := e
  obtain ⟨gb0_0, gb0_1, gb0_2, gb0_3, gb0_4⟩ := gb0
  try dsimp only at e
  replace e := cond_eq_or e
  rcases e with ⟨hq0, e⟩ | ⟨hq0, e⟩
  · replace e := bindO_eq e
    obtain ⟨gb1, e_gb1, e⟩ := e
    obtain ⟨gb1_0, gb1_1, gb1_2, gb1_3, gb1_4⟩ := gb1
    try dsimp only at e
    replace e := cond_eq_or e
    rcases e with ⟨hq1, e⟩ | ⟨hq1, e⟩
    · cases e; exact goes_runM hU [.o, .a 4, .o, .xg (ok0_region_Mem_Mark hU y3 (IntKind.i64.wrap (8 * y0)) (fun _ => 0#8) (fun _ => 0#8) (fun _ => (⟨0, 0#64, 0, 0⟩ : Val)) (fun _ => 0) (fun _ => false) gb0_0 gb0_1 gb0_2 gb0_3 gb0_4 e_gb0) [1, 2, 3], .b (z_neqT hq0), .o, .o, .a 4, .o, .xg (ok0_region_Mem_Mark hU y3 (IntKind.i64.wrap (8 * y0)) (fun _ => 0#8) gb0_0 gb0_1 gb0_2 gb0_3 gb1_0 gb1_1 gb1_2 gb1_3 gb1_4 e_gb1) [1, 2, 3], .b (z_neqT hq1), .o] [0, 1, 2, 3, 4, 5] (fun b => rfl) (by decide) rfl rfl (fun b => by kernel_rfl)
    · cases e; exact goes_runM hU [.o, .a 4, .o, .xg (ok0_region_Mem_Mark hU y3 (IntKind.i64.wrap (8 * y0)) (fun _ => 0#8) (fun _ => 0#8) (fun _ => (⟨0, 0#64, 0, 0⟩ : Val)) (fun _ => 0) (fun _ => false) gb0_0 gb0_1 gb0_2 gb0_3 gb0_4 e_gb0) [1, 2, 3], .b (z_neqT hq0), .o, .o, .a 4, .o, .xg (ok0_region_Mem_Mark hU y3 (IntKind.i64.wrap (8 * y0)) (fun _ => 0#8) gb0_0 gb0_1 gb0_2 gb0_3 gb1_0 gb1_1 gb1_2 gb1_3 gb1_4 e_gb1) [1, 2, 3], .b (z_neqF hq1), .o] [0, 1, 2, 3, 4, 5] (fun b => rfl) (by decide) rfl rfl (fun b => by kernel_rfl)
  · cases e; exact goes_runM hU [.o, .a 4, .o, .xg (ok0_region_Mem_Mark hU y3 (IntKind.i64.wrap (8 * y0)) (fun _ => 0#8) (fun _ => 0#8) (fun _ => (⟨0, 0#64, 0, 0⟩ : Val)) (fun _ => 0) (fun _ => false) gb0_0 gb0_1 gb0_2 gb0_3 gb0_4 e_gb0) [1, 2, 3], .b (z_neqF hq0), .o, .o] [0, 1, 2, 3, 4, 5] (fun b => rfl) (by decide) rfl rfl (fun b => by kernel_rfl)
def pre_barbicanlaw8_RegionTags_J1 (y0 : Int) (y1 : Int) (y2 : Int) (y3 : Int) (ls : List L1) : List Obj := [unb, .cells #[.map (some (lget ls 2).n), .int .i64 (1)] 91, .map #[⟨.int .i64 (1), .iface 93 (.pointer (some ⟨(lget ls 3).n, 0, none⟩)), 0⟩] 1, .cells ⟨segs [esG cu8 512 (fun _ => 0#8), esG cu8 64 (fun _ => 0#8), esG c_Val 64 (fun _ => (⟨0, 0#64, 0, 0⟩ : Val)), esG cZ 64 (fun _ => 0), esG cB 64 (fun _ => false)]⟩ 100, .cells #[.int .i64 (2), .int .u64 (0), .int .i64 (1), .int .i64 ((IntKind.i64.wrap (8 * y0)))] 28, .cells #[.int .i64 (2), .int .u64 (0), .int .i64 (1), .int .i64 (y1)] 28]
noncomputable def t0_barbicanlaw8_RegionTags_J1 (y0 : Int) (y1 : Int) (y2 : Int) (y3 : Int) (ls : List L1) : List Value := List.append [.int .i64 (y0), .int .i64 (y1), .int .i64 (y2), .int .i64 (y3)] (List.append (jks (lget ls 0).u 4 4) (List.append [.bool false, .pointer (some ⟨(lget ls 1).n, 0, none⟩), .int .i64 (1), .pointer (some ⟨(lget ls 4).n, 0, none⟩), .pointer (some ⟨(lget ls 5).n, 0, none⟩)] (List.append (jks (lget ls 0).u 13 39) (List.append [.bool false, .pointer (some ⟨(lget ls 1).n, 0, none⟩), .pointer (some ⟨(lget ls 1).n, 0, none⟩), .int .i64 (1), .int .i64 (1), .int .i64 (y0), .int .i64 ((IntKind.i64.wrap (8 * y0))), .agg #[.int .i64 (2), .int .u64 (0), .int .i64 (1), .int .i64 ((IntKind.i64.wrap (8 * y0)))], .int .i64 (1), .int .i64 (y1), .agg #[.int .i64 (2), .int .u64 (0), .int .i64 (1), .int .i64 (y1)]] (jks (lget ls 0).u 63 82)))))
theorem sp0_barbicanlaw8_RegionTags_J1_ok (c0_0 : Nat → BitVec 8) (c0_1 : Nat → Val) (c0_2 : Nat → Int) (c0_3 : Nat → Bool) (c0_4 : Bool) (h : jp_barbicanlaw8_RegionTags_J1 y0 y3 = some (.e0 c0_0 c0_1 c0_2 c0_3 c0_4)) : SpcG Try.prog M B0 S (spcJ bd_barbicanlaw8_RegionTags_J1 (t0_barbicanlaw8_RegionTags_J1 y0 y1 y2 y3) (pre_barbicanlaw8_RegionTags_J1 y0 y1 y2 y3) 6 0 .normal (vf_barbicanlaw8_RegionTags_J1 y0 y1 y2 y3 (.e0 c0_0 c0_1 c0_2 c0_3 c0_4)) (Hf_barbicanlaw8_RegionTags_J1 y0 y1 y2 y3 (.e0 c0_0 c0_1 c0_2 c0_3 c0_4))) :=
  spcJ_ok hU (go_barbicanlaw8_RegionTags_J1 hU y0 y1 y2 y3 _ h) (fun _ => rfl) (fun ls h => by match ls, h with | [l0, l1, l2, l3, l4, l5], _ => exact ⟨by kernel_rfl, by kernel_rfl⟩) (fun ls h => by match ls, h with | [l0, l1, l2, l3, l4, l5], _ => rfl) (fun ls => rfl)
inductive Ex_barbicanlaw8_RegionTags_J2 where
  | e0 (c0_0 : Bool)
noncomputable def jp_barbicanlaw8_RegionTags_J2 (y0 : Int) (y1 : Int) (y2 : Int) : Bool :=
  bif decide (y1 < (IntKind.i64.wrap ((IntKind.i64.wrap (8 * y0)) + 16))) then
    (bif decide ((IntKind.i64.wrap (8 * y0)) < (IntKind.i64.wrap (y1 + y2))) then
      (true)
    else (false))
  else (false)
noncomputable def bd_barbicanlaw8_RegionTags_J2 : Code := codeOf Try.f6 [1, 1, 1, 1, 1, 1, 1, 1, 1, 0]
def fl_barbicanlaw8_RegionTags_J2 (y0 : Int) (y1 : Int) (y2 : Int) (y3 : Int) (g1_0 : Nat → BitVec 8) (g1_1 : Nat → Val) (g1_2 : Nat → Int) (g1_3 : Nat → Bool) (g2_0 : Int) (g2_1 : Int) (ls : List L1) : List Value := [.int .i64 (y0), .int .i64 (y1), .int .i64 (y2), .int .i64 (y3), .bool false, .pointer (some ⟨(lget ls 1).n, 0, none⟩), .pointer (some ⟨(lget ls 4).n, 0, none⟩), .pointer (some ⟨(lget ls 5).n, 0, none⟩), .int .i64 (g2_0), .int .i64 (g2_1)]
noncomputable def fr_barbicanlaw8_RegionTags_J2 (y0 : Int) (y1 : Int) (y2 : Int) (y3 : Int) (g1_0 : Nat → BitVec 8) (g1_1 : Nat → Val) (g1_2 : Nat → Int) (g1_3 : Nat → Bool) (g2_0 : Int) (g2_1 : Int) : List L1 → List Value := mrgF [(4, 4), (2, 1), (4, 130)] (fl_barbicanlaw8_RegionTags_J2 y0 y1 y2 y3 g1_0 g1_1 g1_2 g1_3 g2_0 g2_1) 7
def Hs_barbicanlaw8_RegionTags_J2 (y0 : Int) (y1 : Int) (y2 : Int) (y3 : Int) (g1_0 : Nat → BitVec 8) (g1_1 : Nat → Val) (g1_2 : Nat → Int) (g1_3 : Nat → Bool) (g2_0 : Int) (g2_1 : Int) (ls : List L1) : List Obj := [unb, .cells #[.map (some (lget ls 2).n), .int .i64 (1)] 91, .map #[⟨.int .i64 (1), .iface 93 (.pointer (some ⟨(lget ls 3).n, 0, none⟩)), 0⟩] 1, .cells ⟨segs [esG cu8 512 (fun _ => 0#8), esG cu8 64 g1_0, esG c_Val 64 g1_1, esG cZ 64 g1_2, esG cB 64 g1_3]⟩ 100, .cells #[.int .i64 (2), .int .u64 (0), .int .i64 (1), .int .i64 ((IntKind.i64.wrap (8 * y0)))] 28, .cells #[.int .i64 (2), .int .u64 (0), .int .i64 (1), .int .i64 (y1)] 28, unb, unb]
def vl_barbicanlaw8_RegionTags_J2 (y0 : Int) (y1 : Int) (y2 : Int) (y3 : Int) (g1_0 : Nat → BitVec 8) (g1_1 : Nat → Val) (g1_2 : Nat → Int) (g1_3 : Nat → Bool) (g2_0 : Int) (g2_1 : Int) : Ex_barbicanlaw8_RegionTags_J2 → List L1 → List Value
  | .e0 c0_0, ls => [.int .i64 (y2), .int .i64 (y3), .bool false, .pointer (some ⟨(lget ls 1).n, 0, none⟩), .pointer (some ⟨(lget ls 4).n, 0, none⟩), .pointer (some ⟨(lget ls 5).n, 0, none⟩), .int .i64 (g2_0), .int .i64 (g2_1), .bool (c0_0)]
def mk_barbicanlaw8_RegionTags_J2 : Ex_barbicanlaw8_RegionTags_J2 → List (Nat × Nat)
  | .e0 _ => [(0, 2), (2, 4), (2, 1), (5, 129)]
noncomputable def vf_barbicanlaw8_RegionTags_J2 (y0 : Int) (y1 : Int) (y2 : Int) (y3 : Int) (g1_0 : Nat → BitVec 8) (g1_1 : Nat → Val) (g1_2 : Nat → Int) (g1_3 : Nat → Bool) (g2_0 : Int) (g2_1 : Int) (r : Ex_barbicanlaw8_RegionTags_J2) : List L1 → List Value := mrgF (mk_barbicanlaw8_RegionTags_J2 r) (vl_barbicanlaw8_RegionTags_J2 y0 y1 y2 y3 g1_0 g1_1 g1_2 g1_3 g2_0 g2_1 r) 7
def Hf_barbicanlaw8_RegionTags_J2 (y0 : Int) (y1 : Int) (y2 : Int) (y3 : Int) (g1_0 : Nat → BitVec 8) (g1_1 : Nat → Val) (g1_2 : Nat → Int) (g1_3 : Nat → Bool) (g2_0 : Int) (g2_1 : Int) : Ex_barbicanlaw8_RegionTags_J2 → List L1 → List Obj
  | .e0 c0_0, ls => [unb, .cells #[.map (some (lget ls 2).n), .int .i64 (1)] 91, .map #[⟨.int .i64 (1), .iface 93 (.pointer (some ⟨(lget ls 3).n, 0, none⟩)), 0⟩] 1, .cells ⟨segs [esG cu8 512 (fun _ => 0#8), esG cu8 64 g1_0, esG c_Val 64 g1_1, esG cZ 64 g1_2, esG cB 64 g1_3]⟩ 100, .cells #[.int .i64 (2), .int .u64 (0), .int .i64 (1), .int .i64 ((IntKind.i64.wrap (8 * y0)))] 28, .cells #[.int .i64 (2), .int .u64 (0), .int .i64 (1), .int .i64 (y1)] 28, unb, unb]
def ex_barbicanlaw8_RegionTags_J2 : Ex_barbicanlaw8_RegionTags_J2 → Ex
  | .e0 _ => .normal
theorem go_barbicanlaw8_RegionTags_J2 (g1_0 : Nat → BitVec 8) (g1_1 : Nat → Val) (g1_2 : Nat → Int) (g1_3 : Nat → Bool) (g2_0 : Int) (g2_1 : Int) (c0_0 : Bool) (e : jp_barbicanlaw8_RegionTags_J2 y0 y1 y2 = c0_0) : GoesG Try.prog M B0 S bd_barbicanlaw8_RegionTags_J2 8 (fr_barbicanlaw8_RegionTags_J2 y0 y1 y2 y3 g1_0 g1_1 g1_2 g1_3 g2_0 g2_1) (Hs_barbicanlaw8_RegionTags_J2 y0 y1 y2 y3 g1_0 g1_1 g1_2 g1_3 g2_0 g2_1) (ex_barbicanlaw8_RegionTags_J2 (.e0 c0_0)) 7 (vf_barbicanlaw8_RegionTags_J2 y0 y1 y2 y3 g1_0 g1_1 g1_2 g1_3 g2_0 g2_1 (.e0 c0_0)) (Hf_barbicanlaw8_RegionTags_J2 y0 y1 y2 y3 g1_0 g1_1 g1_2 g1_3 g2_0 g2_1 (.e0 c0_0)) 8 := by
  unfold jp_barbicanlaw8_RegionTags_J2 at e
  replace e := cond_eq_or e
  rcases e with ⟨hq0, e⟩ | ⟨hq0, e⟩
  · replace e := cond_eq_or e
    rcases e with ⟨hq1, e⟩ | ⟨hq1, e⟩
    · subst e; exact goes_runM hU [.o, .o, .o, .o, .b (z_lssT hq0), .o, .o, .o, .o, .o, .o, .b (z_gtrT hq1), .o, .o] [0, 1, 2, 3, 4, 5, 6] (fun b => rfl) (by decide) rfl rfl (fun b => by kernel_rfl)
    · subst e; exact goes_runM hU [.o, .o, .o, .o, .b (z_lssT hq0), .o, .o, .o, .o, .o, .o, .b (z_gtrF hq1), .o, .o] [0, 1, 2, 3, 4, 5, 6] (fun b => rfl) (by decide) rfl rfl (fun b => by kernel_rfl)
  · subst e; exact goes_runM hU [.o, .o, .o, .o, .b (z_lssF hq0), .o, .o, .o] [0, 1, 2, 3, 4, 5, 6] (fun b => rfl) (by decide) rfl rfl (fun b => by kernel_rfl)
def pre_barbicanlaw8_RegionTags_J2 (y0 : Int) (y1 : Int) (y2 : Int) (y3 : Int) (g1_0 : Nat → BitVec 8) (g1_1 : Nat → Val) (g1_2 : Nat → Int) (g1_3 : Nat → Bool) (g2_0 : Int) (g2_1 : Int) (ls : List L1) : List Obj := [unb, .cells #[.map (some (lget ls 2).n), .int .i64 (1)] 91, .map #[⟨.int .i64 (1), .iface 93 (.pointer (some ⟨(lget ls 3).n, 0, none⟩)), 0⟩] 1, .cells ⟨segs [esG cu8 512 (fun _ => 0#8), esG cu8 64 g1_0, esG c_Val 64 g1_1, esG cZ 64 g1_2, esG cB 64 g1_3]⟩ 100, .cells #[.int .i64 (2), .int .u64 (0), .int .i64 (1), .int .i64 ((IntKind.i64.wrap (8 * y0)))] 28, .cells #[.int .i64 (2), .int .u64 (0), .int .i64 (1), .int .i64 (y1)] 28, unb]
noncomputable def t0_barbicanlaw8_RegionTags_J2 (y0 : Int) (y1 : Int) (y2 : Int) (y3 : Int) (g1_0 : Nat → BitVec 8) (g1_1 : Nat → Val) (g1_2 : Nat → Int) (g1_3 : Nat → Bool) (g2_0 : Int) (g2_1 : Int) (ls : List L1) : List Value := List.append [.int .i64 (y0), .int .i64 (y1), .int .i64 (y2), .int .i64 (y3)] (List.append (jks (lget ls 6).u 4 4) (List.append [.bool false, .pointer (some ⟨(lget ls 1).n, 0, none⟩), ((lget ls 6).u 10), .pointer (some ⟨(lget ls 4).n, 0, none⟩), .pointer (some ⟨(lget ls 5).n, 0, none⟩), .int .i64 (g2_0), .int .i64 (g2_1)] (List.append (jks (lget ls 6).u 15 59) (List.append [.bool false, .tuple #[.int .i64 (g2_0), .int .i64 (g2_1)], .pointer (some ⟨(lget ls 1).n, 0, none⟩), .agg #[.int .i64 (2), .int .u64 (0), .int .i64 (1), .int .i64 ((IntKind.i64.wrap (8 * y0)))], .tuple #[.int .i64 (g2_0), .int .i64 (g2_1)], .int .i64 (g2_0), .int .i64 (g2_1)] (jks (lget ls 6).u 81 64)))))
theorem sp0_barbicanlaw8_RegionTags_J2_ok (g1_0 : Nat → BitVec 8) (g1_1 : Nat → Val) (g1_2 : Nat → Int) (g1_3 : Nat → Bool) (g2_0 : Int) (g2_1 : Int) (c0_0 : Bool) (h : jp_barbicanlaw8_RegionTags_J2 y0 y1 y2 = c0_0) : SpcG Try.prog M B0 S (spcJ bd_barbicanlaw8_RegionTags_J2 (t0_barbicanlaw8_RegionTags_J2 y0 y1 y2 y3 g1_0 g1_1 g1_2 g1_3 g2_0 g2_1) (pre_barbicanlaw8_RegionTags_J2 y0 y1 y2 y3 g1_0 g1_1 g1_2 g1_3 g2_0 g2_1) 7 0 .normal (vf_barbicanlaw8_RegionTags_J2 y0 y1 y2 y3 g1_0 g1_1 g1_2 g1_3 g2_0 g2_1 (.e0 c0_0)) (Hf_barbicanlaw8_RegionTags_J2 y0 y1 y2 y3 g1_0 g1_1 g1_2 g1_3 g2_0 g2_1 (.e0 c0_0))) :=
  spcJ_ok hU (go_barbicanlaw8_RegionTags_J2 hU y0 y1 y2 y3 g1_0 g1_1 g1_2 g1_3 g2_0 g2_1 c0_0 h) (fun _ => rfl) (fun ls h => by match ls, h with | [l0, l1, l2, l3, l4, l5, l6], _ => exact ⟨by kernel_rfl, by kernel_rfl⟩) (fun ls h => by match ls, h with | [l0, l1, l2, l3, l4, l5, l6], _ => rfl) (fun ls => rfl)
inductive Ex_barbicanlaw8_RegionTags_J3 where
  | e0 (c0_0 : Bool)
noncomputable def jp_barbicanlaw8_RegionTags_J3 (y3 : Int) (g2_0 : Int) (g2_1 : Int) (r3 : Bool) (g4_5 : Int) : Bool :=
  bif g2_1 == 0 then
    (bif g2_0 == y3 then
      (bif (g4_5 == 14) != r3 then
        (true)
      else (bif r3 then
        (false)
      else (bif g4_5 == 0 then
        (false)
      else (true))))
    else (true))
  else (true)
noncomputable def bd_barbicanlaw8_RegionTags_J3 : Code := codeOf Try.f6 [1, 1, 1, 1, 1, 1, 1, 1, 1, 1, 1, 0, 0]
def fl_barbicanlaw8_RegionTags_J3 (y0 : Int) (y1 : Int) (y3 : Int) (g2_0 : Int) (g2_1 : Int) (r3 : Bool) (g4_0 : Nat → BitVec 8) (g4_1 : Nat → BitVec 8) (g4_2 : Nat → Val) (g4_3 : Nat → Int) (g4_4 : Nat → Bool) (g4_5 : Int) (ls : List L1) : List Value := [.int .i64 (y3), .bool false, .pointer (some ⟨(lget ls 1).n, 0, none⟩), .pointer (some ⟨(lget ls 4).n, 0, none⟩), .int .i64 (g2_0), .int .i64 (g2_1), .bool (r3), .int .i64 (g4_5)]
noncomputable def fr_barbicanlaw8_RegionTags_J3 (y0 : Int) (y1 : Int) (y3 : Int) (g2_0 : Int) (g2_1 : Int) (r3 : Bool) (g4_0 : Nat → BitVec 8) (g4_1 : Nat → BitVec 8) (g4_2 : Nat → Val) (g4_3 : Nat → Int) (g4_4 : Nat → Bool) (g4_5 : Int) : List L1 → List Value := mrgF [(0, 3), (1, 4), (2, 1), (1, 1), (4, 128)] (fl_barbicanlaw8_RegionTags_J3 y0 y1 y3 g2_0 g2_1 r3 g4_0 g4_1 g4_2 g4_3 g4_4 g4_5) 8
def Hs_barbicanlaw8_RegionTags_J3 (y0 : Int) (y1 : Int) (y3 : Int) (g2_0 : Int) (g2_1 : Int) (r3 : Bool) (g4_0 : Nat → BitVec 8) (g4_1 : Nat → BitVec 8) (g4_2 : Nat → Val) (g4_3 : Nat → Int) (g4_4 : Nat → Bool) (g4_5 : Int) (ls : List L1) : List Obj := [unb, .cells #[.map (some (lget ls 2).n), .int .i64 (1)] 91, .map #[⟨.int .i64 (1), .iface 93 (.pointer (some ⟨(lget ls 3).n, 0, none⟩)), 0⟩] 1, .cells ⟨segs [esG cu8 512 g4_0, esG cu8 64 g4_1, esG c_Val 64 g4_2, esG cZ 64 g4_3, esG cB 64 g4_4]⟩ 100, .cells #[.int .i64 (2), .int .u64 (0), .int .i64 (1), .int .i64 ((IntKind.i64.wrap (8 * y0)))] 28, .cells #[.int .i64 (2), .int .u64 (0), .int .i64 (1), .int .i64 (y1)] 28, unb, unb, unb]
def vl_barbicanlaw8_RegionTags_J3 (y0 : Int) (y1 : Int) (y3 : Int) (g2_0 : Int) (g2_1 : Int) (r3 : Bool) (g4_0 : Nat → BitVec 8) (g4_1 : Nat → BitVec 8) (g4_2 : Nat → Val) (g4_3 : Nat → Int) (g4_4 : Nat → Bool) (g4_5 : Int) : Ex_barbicanlaw8_RegionTags_J3 → List L1 → List Value
  | .e0 c0_0, ls => [.int .i64 (y3), .bool false, .pointer (some ⟨(lget ls 1).n, 0, none⟩), .pointer (some ⟨(lget ls 4).n, 0, none⟩), .int .i64 (g2_1), .bool (c0_0)]
def mk_barbicanlaw8_RegionTags_J3 : Ex_barbicanlaw8_RegionTags_J3 → List (Nat × Nat)
  | .e0 _ => [(0, 3), (1, 4), (2, 1), (1, 2), (1, 104), (1, 25)]
noncomputable def vf_barbicanlaw8_RegionTags_J3 (y0 : Int) (y1 : Int) (y3 : Int) (g2_0 : Int) (g2_1 : Int) (r3 : Bool) (g4_0 : Nat → BitVec 8) (g4_1 : Nat → BitVec 8) (g4_2 : Nat → Val) (g4_3 : Nat → Int) (g4_4 : Nat → Bool) (g4_5 : Int) (r : Ex_barbicanlaw8_RegionTags_J3) : List L1 → List Value := mrgF (mk_barbicanlaw8_RegionTags_J3 r) (vl_barbicanlaw8_RegionTags_J3 y0 y1 y3 g2_0 g2_1 r3 g4_0 g4_1 g4_2 g4_3 g4_4 g4_5 r) 8
def Hf_barbicanlaw8_RegionTags_J3 (y0 : Int) (y1 : Int) (y3 : Int) (g2_0 : Int) (g2_1 : Int) (r3 : Bool) (g4_0 : Nat → BitVec 8) (g4_1 : Nat → BitVec 8) (g4_2 : Nat → Val) (g4_3 : Nat → Int) (g4_4 : Nat → Bool) (g4_5 : Int) : Ex_barbicanlaw8_RegionTags_J3 → List L1 → List Obj
  | .e0 c0_0, ls => [unb, .cells #[.map (some (lget ls 2).n), .int .i64 (1)] 91, .map #[⟨.int .i64 (1), .iface 93 (.pointer (some ⟨(lget ls 3).n, 0, none⟩)), 0⟩] 1, .cells ⟨segs [esG cu8 512 g4_0, esG cu8 64 g4_1, esG c_Val 64 g4_2, esG cZ 64 g4_3, esG cB 64 g4_4]⟩ 100, .cells #[.int .i64 (2), .int .u64 (0), .int .i64 (1), .int .i64 ((IntKind.i64.wrap (8 * y0)))] 28, .cells #[.int .i64 (2), .int .u64 (0), .int .i64 (1), .int .i64 (y1)] 28, unb, unb, unb]
def ex_barbicanlaw8_RegionTags_J3 : Ex_barbicanlaw8_RegionTags_J3 → Ex
  | .e0 _ => .normal
end
section
variable {M : Nat → Prop} {B0 : Nat} {S : World → Prop} (hU : Up M B0 S) (y0 : Int) (y1 : Int) (y3 : Int) (g2_0 : Int) (g2_1 : Int) (r3 : Bool) (g4_0 : Nat → BitVec 8) (g4_1 : Nat → BitVec 8) (g4_2 : Nat → Val) (g4_3 : Nat → Int) (g4_4 : Nat → Bool) (g4_5 : Int)
include hU y0 y1 y3 g2_0 g2_1 r3 g4_0 g4_1 g4_2 g4_3 g4_4 g4_5
theorem go_barbicanlaw8_RegionTags_J3 (c0_0 : Bool) (e : jp_barbicanlaw8_RegionTags_J3 y3 g2_0 g2_1 r3 g4_5 = c0_0) : GoesG Try.prog M B0 S bd_barbicanlaw8_RegionTags_J3 9 (fr_barbicanlaw8_RegionTags_J3 y0 y1 y3 g2_0 g2_1 r3 g4_0 g4_1 g4_2 g4_3 g4_4 g4_5) (Hs_barbicanlaw8_RegionTags_J3 y0 y1 y3 g2_0 g2_1 r3 g4_0 g4_1 g4_2 g4_3 g4_4 g4_5) (ex_barbicanlaw8_RegionTags_J3 (.e0 c0_0)) 8 (vf_barbicanlaw8_RegionTags_J3 y0 y1 y3 g2_0 g2_1 r3 g4_0 g4_1 g4_2 g4_3 g4_4 g4_5 (.e0 c0_0)) (Hf_barbicanlaw8_RegionTags_J3 y0 y1 y3 g2_0 g2_1 r3 g4_0 g4_1 g4_2 g4_3 g4_4 g4_5 (.e0 c0_0)) 9 := by
  unfold jp_barbicanlaw8_RegionTags_J3 at e
  replace e := cond_eq_or e
  rcases e with ⟨hq0, e⟩ | ⟨hq0, e⟩
  · replace e := cond_eq_or e
    rcases e with ⟨hq1, e⟩ | ⟨hq1, e⟩
    · replace e := cond_eq_or e
      rcases e with ⟨hq2, e⟩ | ⟨hq2, e⟩
      · subst e; exact goes_runM hU [.o, .b (z_neqT hq0), .o, .o, .o, .b (z_neqT hq1), .o, .o, .o, .o, .o, .b hq2, .o, .o, .o] [0, 1, 2, 3, 4, 5, 6, 7] (fun b => rfl) (by decide) rfl rfl (fun b => by kernel_rfl)
      · replace e := cond_eq_or e
        rcases e with ⟨hq3, e⟩ | ⟨hq3, e⟩
        · subst e; exact goes_runM hU [.o, .b (z_neqT hq0), .o, .o, .o, .b (z_neqT hq1), .o, .o, .o, .o, .o, .b hq2, .o, .o, .b hq3, .o, .o, .o, .o] [0, 1, 2, 3, 4, 5, 6, 7] (fun b => rfl) (by decide) rfl rfl (fun b => by kernel_rfl)
        · replace e := cond_eq_or e
          rcases e with ⟨hq4, e⟩ | ⟨hq4, e⟩
          · subst e; exact goes_runM hU [.o, .b (z_neqT hq0), .o, .o, .o, .b (z_neqT hq1), .o, .o, .o, .o, .o, .b hq2, .o, .o, .b hq3, .o, .o, .o, .b (z_neqT hq4), .o, .o] [0, 1, 2, 3, 4, 5, 6, 7] (fun b => rfl) (by decide) rfl rfl (fun b => by kernel_rfl)
          · subst e; exact goes_runM hU [.o, .b (z_neqT hq0), .o, .o, .o, .b (z_neqT hq1), .o, .o, .o, .o, .o, .b hq2, .o, .o, .b hq3, .o, .o, .o, .b (z_neqF hq4), .o, .o] [0, 1, 2, 3, 4, 5, 6, 7] (fun b => rfl) (by decide) rfl rfl (fun b => by kernel_rfl)
    · subst e; exact goes_runM hU [.o, .b (z_neqT hq0), .o, .o, .o, .b (z_neqF hq1), .o, .o, .o, .o, .o] [0, 1, 2, 3, 4, 5, 6, 7] (fun b => rfl) (by decide) rfl rfl (fun b => by kernel_rfl)
  · subst e; exact goes_runM hU [.o, .b (z_neqF hq0), .o, .o, .o, .o, .o, .o] [0, 1, 2, 3, 4, 5, 6, 7] (fun b => rfl) (by decide) rfl rfl (fun b => by kernel_rfl)
def pre_barbicanlaw8_RegionTags_J3 (y0 : Int) (y1 : Int) (y3 : Int) (g2_0 : Int) (g2_1 : Int) (r3 : Bool) (g4_0 : Nat → BitVec 8) (g4_1 : Nat → BitVec 8) (g4_2 : Nat → Val) (g4_3 : Nat → Int) (g4_4 : Nat → Bool) (g4_5 : Int) (ls : List L1) : List Obj := [unb, .cells #[.map (some (lget ls 2).n), .int .i64 (1)] 91, .map #[⟨.int .i64 (1), .iface 93 (.pointer (some ⟨(lget ls 3).n, 0, none⟩)), 0⟩] 1, .cells ⟨segs [esG cu8 512 g4_0, esG cu8 64 g4_1, esG c_Val 64 g4_2, esG cZ 64 g4_3, esG cB 64 g4_4]⟩ 100, .cells #[.int .i64 (2), .int .u64 (0), .int .i64 (1), .int .i64 ((IntKind.i64.wrap (8 * y0)))] 28, .cells #[.int .i64 (2), .int .u64 (0), .int .i64 (1), .int .i64 (y1)] 28, unb, unb]
noncomputable def t0_barbicanlaw8_RegionTags_J3 (y0 : Int) (y1 : Int) (y3 : Int) (g2_0 : Int) (g2_1 : Int) (r3 : Bool) (g4_0 : Nat → BitVec 8) (g4_1 : Nat → BitVec 8) (g4_2 : Nat → Val) (g4_3 : Nat → Int) (g4_4 : Nat → Bool) (g4_5 : Int) (y2 : Int) (ls : List L1) : List Value := List.append [((lget ls 7).u 0), ((lget ls 7).u 1), .int .i64 (y2), .int .i64 (y3)] (List.append (jks (lget ls 7).u 4 4) (List.append [.bool false, .pointer (some ⟨(lget ls 1).n, 0, none⟩), ((lget ls 7).u 10), .pointer (some ⟨(lget ls 4).n, 0, none⟩), .pointer (some ⟨(lget ls 5).n, 0, none⟩), .int .i64 (g2_0), .int .i64 (g2_1), .bool (r3), .int .i64 (g4_5)] (List.append (jks (lget ls 7).u 17 77) (List.append [.pointer (some ⟨(lget ls 1).n, 0, none⟩), .agg #[.int .i64 (2), .int .u64 (0), .int .i64 (1), .int .i64 (y1)], .int .i64 (y2), .agg #[.int .i64 (1), .int .u64 (1), .int .i64 (0), .int .i64 (0)], .int .i64 (g4_5)] (jks (lget ls 7).u 99 46)))))
theorem sp0_barbicanlaw8_RegionTags_J3_ok (y2 : Int) (c0_0 : Bool) (h : jp_barbicanlaw8_RegionTags_J3 y3 g2_0 g2_1 r3 g4_5 = c0_0) : SpcG Try.prog M B0 S (spcJ bd_barbicanlaw8_RegionTags_J3 (t0_barbicanlaw8_RegionTags_J3 y0 y1 y3 g2_0 g2_1 r3 g4_0 g4_1 g4_2 g4_3 g4_4 g4_5 y2) (pre_barbicanlaw8_RegionTags_J3 y0 y1 y3 g2_0 g2_1 r3 g4_0 g4_1 g4_2 g4_3 g4_4 g4_5) 8 0 .normal (vf_barbicanlaw8_RegionTags_J3 y0 y1 y3 g2_0 g2_1 r3 g4_0 g4_1 g4_2 g4_3 g4_4 g4_5 (.e0 c0_0)) (Hf_barbicanlaw8_RegionTags_J3 y0 y1 y3 g2_0 g2_1 r3 g4_0 g4_1 g4_2 g4_3 g4_4 g4_5 (.e0 c0_0))) :=
  spcJ_ok hU (go_barbicanlaw8_RegionTags_J3 hU y0 y1 y3 g2_0 g2_1 r3 g4_0 g4_1 g4_2 g4_3 g4_4 g4_5 c0_0 h) (fun _ => rfl) (fun ls h => by match ls, h with | [l0, l1, l2, l3, l4, l5, l6, l7], _ => exact ⟨by kernel_rfl, by kernel_rfl⟩) (fun ls h => by match ls, h with | [l0, l1, l2, l3, l4, l5, l6, l7], _ => rfl) (fun ls => rfl)
inductive Ex_barbicanlaw8_RegionTags_J4 where
  | e0 (c0_0 : Nat → BitVec 8) (c0_1 : Nat → Val) (c0_2 : Nat → Int) (c0_3 : Nat → Bool) (c0_4 : Bool)
noncomputable def jp_barbicanlaw8_RegionTags_J4 (y0 : Int) (g4_0 : Nat → BitVec 8) (g4_1 : Nat → BitVec 8) (g4_2 : Nat → Val) (g4_3 : Nat → Int) (g4_4 : Nat → Bool) : Option (Ex_barbicanlaw8_RegionTags_J4) :=
  (m_region_Mem_Clear (IntKind.i64.wrap (8 * y0)) g4_0 g4_1 g4_2 g4_3 g4_4).bind fun gb0 => match gb0 with
  | .e0 gb0_0 gb0_1 gb0_2 gb0_3 gb0_4 =>
  bif gb0_4 == 0 then
    ((m_region_Mem_Clear (IntKind.i64.wrap (8 * y0)) g4_0 gb0_0 gb0_1 gb0_2 gb0_3).bind fun gb1 => match gb1 with
    | .e0 gb1_0 gb1_1 gb1_2 gb1_3 gb1_4 =>
    bif gb1_4 == 14 then
      (some (.e0 gb1_0 gb1_1 gb1_2 gb1_3 false))
    else (some (.e0 gb1_0 gb1_1 gb1_2 gb1_3 true)))
  else (some (.e0 gb0_0 gb0_1 gb0_2 gb0_3 true))
noncomputable def bd_barbicanlaw8_RegionTags_J4 : Code := codeOf Try.f6 [1, 1, 1, 1, 1, 1, 1, 1, 1, 1, 1, 1, 0, 0]
def fl_barbicanlaw8_RegionTags_J4 (y0 : Int) (y1 : Int) (y3 : Int) (g2_1 : Int) (g4_0 : Nat → BitVec 8) (g4_1 : Nat → BitVec 8) (g4_2 : Nat → Val) (g4_3 : Nat → Int) (g4_4 : Nat → Bool) (ls : List L1) : List Value := [.int .i64 (y3), .bool false, .pointer (some ⟨(lget ls 1).n, 0, none⟩), .pointer (some ⟨(lget ls 4).n, 0, none⟩), .int .i64 (g2_1)]
noncomputable def fr_barbicanlaw8_RegionTags_J4 (y0 : Int) (y1 : Int) (y3 : Int) (g2_1 : Int) (g4_0 : Nat → BitVec 8) (g4_1 : Nat → BitVec 8) (g4_2 : Nat → Val) (g4_3 : Nat → Int) (g4_4 : Nat → Bool) : List L1 → List Value := mrgF [(0, 3), (1, 4), (2, 1), (1, 2), (1, 130)] (fl_barbicanlaw8_RegionTags_J4 y0 y1 y3 g2_1 g4_0 g4_1 g4_2 g4_3 g4_4) 9
def Hs_barbicanlaw8_RegionTags_J4 (y0 : Int) (y1 : Int) (y3 : Int) (g2_1 : Int) (g4_0 : Nat → BitVec 8) (g4_1 : Nat → BitVec 8) (g4_2 : Nat → Val) (g4_3 : Nat → Int) (g4_4 : Nat → Bool) (ls : List L1) : List Obj := [unb, .cells #[.map (some (lget ls 2).n), .int .i64 (1)] 91, .map #[⟨.int .i64 (1), .iface 93 (.pointer (some ⟨(lget ls 3).n, 0, none⟩)), 0⟩] 1, .cells ⟨segs [esG cu8 512 g4_0, esG cu8 64 g4_1, esG c_Val 64 g4_2, esG cZ 64 g4_3, esG cB 64 g4_4]⟩ 100, .cells #[.int .i64 (2), .int .u64 (0), .int .i64 (1), .int .i64 ((IntKind.i64.wrap (8 * y0)))] 28, .cells #[.int .i64 (2), .int .u64 (0), .int .i64 (1), .int .i64 (y1)] 28, unb, unb, unb, unb]
def vl_barbicanlaw8_RegionTags_J4 (y0 : Int) (y1 : Int) (y3 : Int) (g2_1 : Int) (g4_0 : Nat → BitVec 8) (g4_1 : Nat → BitVec 8) (g4_2 : Nat → Val) (g4_3 : Nat → Int) (g4_4 : Nat → Bool) : Ex_barbicanlaw8_RegionTags_J4 → List L1 → List Value
  | .e0 c0_0 c0_1 c0_2 c0_3 c0_4, ls => [.int .i64 (y3), .bool false, .pointer (some ⟨(lget ls 1).n, 0, none⟩), .pointer (some ⟨(lget ls 4).n, 0, none⟩), .int .i64 (g2_1), .bool (c0_4)]
def mk_barbicanlaw8_RegionTags_J4 : Ex_barbicanlaw8_RegionTags_J4 → List (Nat × Nat)
  | .e0 _ _ _ _ _ => [(0, 3), (1, 4), (2, 1), (1, 2), (1, 114), (1, 15)]
noncomputable def vf_barbicanlaw8_RegionTags_J4 (y0 : Int) (y1 : Int) (y3 : Int) (g2_1 : Int) (g4_0 : Nat → BitVec 8) (g4_1 : Nat → BitVec 8) (g4_2 : Nat → Val) (g4_3 : Nat → Int) (g4_4 : Nat → Bool) (r : Ex_barbicanlaw8_RegionTags_J4) : List L1 → List Value := mrgF (mk_barbicanlaw8_RegionTags_J4 r) (vl_barbicanlaw8_RegionTags_J4 y0 y1 y3 g2_1 g4_0 g4_1 g4_2 g4_3 g4_4 r) 9
def Hf_barbicanlaw8_RegionTags_J4 (y0 : Int) (y1 : Int) (y3 : Int) (g2_1 : Int) (g4_0 : Nat → BitVec 8) (g4_1 : Nat → BitVec 8) (g4_2 : Nat → Val) (g4_3 : Nat → Int) (g4_4 : Nat → Bool) : Ex_barbicanlaw8_RegionTags_J4 → List L1 → List Obj
  | .e0 c0_0 c0_1 c0_2 c0_3 c0_4, ls => [unb, .cells #[.map (some (lget ls 2).n), .int .i64 (1)] 91, .map #[⟨.int .i64 (1), .iface 93 (.pointer (some ⟨(lget ls 3).n, 0, none⟩)), 0⟩] 1, .cells ⟨segs [esG cu8 512 g4_0, esG cu8 64 c0_0, esG c_Val 64 c0_1, esG cZ 64 c0_2, esG cB 64 c0_3]⟩ 100, .cells #[.int .i64 (2), .int .u64 (0), .int .i64 (1), .int .i64 ((IntKind.i64.wrap (8 * y0)))] 28, .cells #[.int .i64 (2), .int .u64 (0), .int .i64 (1), .int .i64 (y1)] 28, unb, unb, unb, unb]
def ex_barbicanlaw8_RegionTags_J4 : Ex_barbicanlaw8_RegionTags_J4 → Ex
  | .e0 _ _ _ _ _ => .normal
end
section
variable {M : Nat → Prop} {B0 : Nat} {S : World → Prop} (hU : Up M B0 S) (y0 : Int) (y1 : Int) (y3 : Int) (g2_1 : Int) (g4_0 : Nat → BitVec 8) (g4_1 : Nat → BitVec 8) (g4_2 : Nat → Val) (g4_3 : Nat → Int) (g4_4 : Nat → Bool)
include hU y0 y1 y3 g2_1 g4_0 g4_1 g4_2 g4_3 g4_4
theorem go_barbicanlaw8_RegionTags_J4 (r : Ex_barbicanlaw8_RegionTags_J4) (e : jp_barbicanlaw8_RegionTags_J4 y0 g4_0 g4_1 g4_2 g4_3 g4_4 = some r) : GoesG Try.prog M B0 S bd_barbicanlaw8_RegionTags_J4 10 (fr_barbicanlaw8_RegionTags_J4 y0 y1 y3 g2_1 g4_0 g4_1 g4_2 g4_3 g4_4) (Hs_barbicanlaw8_RegionTags_J4 y0 y1 y3 g2_1 g4_0 g4_1 g4_2 g4_3 g4_4) (ex_barbicanlaw8_RegionTags_J4 r) 9 (vf_barbicanlaw8_RegionTags_J4 y0 y1 y3 g2_1 g4_0 g4_1 g4_2 g4_3 g4_4 r) (Hf_barbicanlaw8_RegionTags_J4 y0 y1 y3 g2_1 g4_0 g4_1 g4_2 g4_3 g4_4 r) 10 := by
  unfold jp_barbicanlaw8_RegionTags_J4 at e
  replace e := bindO_eq e
  obtain ⟨gb0, e_gb0, e⟩ := e
  obtain ⟨gb0_0, gb0_1, gb0_2, gb0_3, gb0_4⟩ := gb0
  try dsimp only at e
  replace e := cond_eq_or e
  rcases e with ⟨hq0, e⟩ | ⟨hq0, e⟩
  · replace e := bindO_eq e
    obtain ⟨gb1, e_gb1, e⟩ := e
    obtain ⟨gb1_0, gb1_1, gb1_2, gb1_3, gb1_4⟩ := gb1
    try dsimp only at e
    replace e := cond_eq_or e
    rcases e with ⟨hq1, e⟩ | ⟨hq1, e⟩
    · cases e; exact goes_runM hU [.o, .a 4, .xg (ok0_region_Mem_Clear hU (IntKind.i64.wrap (8 * y0)) g4_0 g4_1 g4_2 g4_3 g4_4 gb0_0 gb0_1 gb0_2 gb0_3 gb0_4 e_gb0) [1, 2, 3], .b (z_neqT hq0), .o, .o, .a 4, .xg (ok0_region_Mem_Clear hU (IntKind.i64.wrap (8 * y0)) g4_0 gb0_0 gb0_1 gb0_2 gb0_3 gb1_0 gb1_1 gb1_2 gb1_3 gb1_4 e_gb1) [1, 2, 3], .b (z_neqT hq1), .o] [0, 1, 2, 3, 4, 5, 6, 7, 8] (fun b => rfl) (by decide) rfl rfl (fun b => by kernel_rfl)
    · cases e; exact goes_runM hU [.o, .a 4, .xg (ok0_region_Mem_Clear hU (IntKind.i64.wrap (8 * y0)) g4_0 g4_1 g4_2 g4_3 g4_4 gb0_0 gb0_1 gb0_2 gb0_3 gb0_4 e_gb0) [1, 2, 3], .b (z_neqT hq0), .o, .o, .a 4, .xg (ok0_region_Mem_Clear hU (IntKind.i64.wrap (8 * y0)) g4_0 gb0_0 gb0_1 gb0_2 gb0_3 gb1_0 gb1_1 gb1_2 gb1_3 gb1_4 e_gb1) [1, 2, 3], .b (z_neqF hq1), .o] [0, 1, 2, 3, 4, 5, 6, 7, 8] (fun b => rfl) (by decide) rfl rfl (fun b => by kernel_rfl)
  · cases e; exact goes_runM hU [.o, .a 4, .xg (ok0_region_Mem_Clear hU (IntKind.i64.wrap (8 * y0)) g4_0 g4_1 g4_2 g4_3 g4_4 gb0_0 gb0_1 gb0_2 gb0_3 gb0_4 e_gb0) [1, 2, 3], .b (z_neqF hq0), .o, .o] [0, 1, 2, 3, 4, 5, 6, 7, 8] (fun b => rfl) (by decide) rfl rfl (fun b => by kernel_rfl)
def pre_barbicanlaw8_RegionTags_J4 (y0 : Int) (y1 : Int) (y3 : Int) (g2_1 : Int) (g4_0 : Nat → BitVec 8) (g4_1 : Nat → BitVec 8) (g4_2 : Nat → Val) (g4_3 : Nat → Int) (g4_4 : Nat → Bool) (ls : List L1) : List Obj := [unb, .cells #[.map (some (lget ls 2).n), .int .i64 (1)] 91, .map #[⟨.int .i64 (1), .iface 93 (.pointer (some ⟨(lget ls 3).n, 0, none⟩)), 0⟩] 1, .cells ⟨segs [esG cu8 512 g4_0, esG cu8 64 g4_1, esG c_Val 64 g4_2, esG cZ 64 g4_3, esG cB 64 g4_4]⟩ 100, .cells #[.int .i64 (2), .int .u64 (0), .int .i64 (1), .int .i64 ((IntKind.i64.wrap (8 * y0)))] 28, .cells #[.int .i64 (2), .int .u64 (0), .int .i64 (1), .int .i64 (y1)] 28, unb, unb, unb]
noncomputable def t0_barbicanlaw8_RegionTags_J4 (y0 : Int) (y1 : Int) (y3 : Int) (g2_1 : Int) (g4_0 : Nat → BitVec 8) (g4_1 : Nat → BitVec 8) (g4_2 : Nat → Val) (g4_3 : Nat → Int) (g4_4 : Nat → Bool) (ls : List L1) : List Value := List.append [((lget ls 8).u 0), ((lget ls 8).u 1), ((lget ls 8).u 2), .int .i64 (y3)] (List.append (jks (lget ls 8).u 4 4) (List.append [.bool false, .pointer (some ⟨(lget ls 1).n, 0, none⟩), ((lget ls 8).u 10), .pointer (some ⟨(lget ls 4).n, 0, none⟩), ((lget ls 8).u 12), ((lget ls 8).u 13), .int .i64 (g2_1)] (List.append (jks (lget ls 8).u 15 104) (List.append [.bool false] (jks (lget ls 8).u 120 25)))))
theorem sp0_barbicanlaw8_RegionTags_J4_ok (c0_0 : Nat → BitVec 8) (c0_1 : Nat → Val) (c0_2 : Nat → Int) (c0_3 : Nat → Bool) (c0_4 : Bool) (h : jp_barbicanlaw8_RegionTags_J4 y0 g4_0 g4_1 g4_2 g4_3 g4_4 = some (.e0 c0_0 c0_1 c0_2 c0_3 c0_4)) : SpcG Try.prog M B0 S (spcJ bd_barbicanlaw8_RegionTags_J4 (t0_barbicanlaw8_RegionTags_J4 y0 y1 y3 g2_1 g4_0 g4_1 g4_2 g4_3 g4_4) (pre_barbicanlaw8_RegionTags_J4 y0 y1 y3 g2_1 g4_0 g4_1 g4_2 g4_3 g4_4) 9 0 .normal (vf_barbicanlaw8_RegionTags_J4 y0 y1 y3 g2_1 g4_0 g4_1 g4_2 g4_3 g4_4 (.e0 c0_0 c0_1 c0_2 c0_3 c0_4)) (Hf_barbicanlaw8_RegionTags_J4 y0 y1 y3 g2_1 g4_0 g4_1 g4_2 g4_3 g4_4 (.e0 c0_0 c0_1 c0_2 c0_3 c0_4))) :=
  spcJ_ok hU (go_barbicanlaw8_RegionTags_J4 hU y0 y1 y3 g2_1 g4_0 g4_1 g4_2 g4_3 g4_4 _ h) (fun _ => rfl) (fun ls h => by match ls, h with | [l0, l1, l2, l3, l4, l5, l6, l7, l8], _ => exact ⟨by kernel_rfl, by kernel_rfl⟩) (fun ls h => by match ls, h with | [l0, l1, l2, l3, l4, l5, l6, l7, l8], _ => rfl) (fun ls => rfl)
noncomputable def m_barbicanlaw8_RegionTags (y0 : Int) (y1 : Int) (y2 : Int) (y3 : Int) : Option (Bool) :=
  bindT (jp_barbicanlaw8_RegionTags_J0 y0 y1 y2 y3) fun r0 =>
  bif r0 then
    (some true)
  else ((jp_barbicanlaw8_RegionTags_J1 y0 y3).bind fun g1 => match g1 with
  | .e0 g1_0 g1_1 g1_2 g1_3 g1_4 =>
  bif g1_4 then
    (some false)
  else ((m_region_Mem_Tag (IntKind.i64.wrap (8 * y0)) (fun _ => 0#8) g1_0 g1_1 g1_2 g1_3).bind fun g2 => match g2 with
  | .e0 g2_0 g2_1 =>
  bindT (jp_barbicanlaw8_RegionTags_J2 y0 y1 y2) fun r3 =>
  (m_region_Mem_Store_v2 y2 (⟨1, 1#64, 0, 0⟩ : Val) y1 (fun _ => 0#8) g1_0 g1_1 g1_2 g1_3).bind fun g4 => match g4 with
  | .e0 g4_0 g4_1 g4_2 g4_3 g4_4 g4_5 =>
  bindT (jp_barbicanlaw8_RegionTags_J3 y3 g2_0 g2_1 r3 g4_5) fun r5 =>
  bif r5 then
    (some false)
  else ((jp_barbicanlaw8_RegionTags_J4 y0 g4_0 g4_1 g4_2 g4_3 g4_4).bind fun g6 => match g6 with
  | .e0 g6_0 g6_1 g6_2 g6_3 g6_4 =>
  bif g6_4 then
    (some false)
  else ((m_region_Mem_Load_v3 8 (IntKind.i64.wrap (8 * y0)) g4_0 g6_0 g6_1 g6_2 g6_3).bind fun g7 => match g7 with
  | .e0 g7_0 g7_1 g7_2 g7_3 g7_4 =>
  bif g7_4 == 1 then
    ((m_region_Mem_Mark y3 (IntKind.i64.wrap (8 * y0)) g4_0 g6_0 g6_1 g6_2 g6_3).bind fun g8 => match g8 with
    | .e0 g8_0 g8_1 g8_2 g8_3 g8_4 =>
    some (g8_4 == 0))
  else (some false)))))
end
section
variable {M : Nat → Prop} {B0 : Nat} {S : World → Prop} (hU : Up M B0 S)
include hU
theorem ok_barbicanlaw8_RegionTags (y0 : Int) (y1 : Int) (y2 : Int) (y3 : Int) (r : Bool) (e : m_barbicanlaw8_RegionTags y0 y1 y2 y3 = some r) : ConG Try.prog S 6 #[.int .i64 (y0), .int .i64 (y1), .int .i64 (y2), .int .i64 (y3)] (.bool (r)) := by
  unfold m_barbicanlaw8_RegionTags at e
  replace e := bindT_eq e
  obtain ⟨r0, e_r0, e⟩ := e
  try dsimp only at e
  replace e := cond_eq_or e
  rcases e with ⟨hq0, e⟩ | ⟨hq0, e⟩
  · subst hq0
    injection e with e; subst e; exact fn_conG hU (P := Try.prog) Try.func6 (fun xs w => by kernel_rfl) _ _ [.o, .cg (ok_barbicanlaw8_known_v1 hU  ), .o, .cp, .cx (sp0_barbicanlaw8_RegionTags_J0_ok hU y0 y1 y2 y3 true e_r0) [], .o] [] (fun b => by kernel_rfl)
  · subst hq0
    replace e := bindO_eq e
    obtain ⟨g1, e_g1, e⟩ := e
    obtain ⟨g1_0, g1_1, g1_2, g1_3, g1_4⟩ := g1
    try dsimp only at e
    replace e := cond_eq_or e
    rcases e with ⟨hq1, e⟩ | ⟨hq1, e⟩
    · subst hq1
      injection e with e; subst e; exact fn_conG hU (P := Try.prog) Try.func6 (fun xs w => by kernel_rfl) _ _ [.o, .cg (ok_barbicanlaw8_known_v1 hU  ), .o, .cp, .cx (sp0_barbicanlaw8_RegionTags_J0_ok hU y0 y1 y2 y3 false e_r0) [], .xg (p0_region_New hU  ) [], .o, .o, .xg (p0_region_Mem_Frame_v1 hU  ) [1, 2], .o, .o, .o, .o, .o, .o, .a 4, .o, .o, .o, .o, .a 5, .cx (sp0_barbicanlaw8_RegionTags_J1_ok hU y0 y1 y2 y3 g1_0 g1_1 g1_2 g1_3 true e_g1) [0, 1, 2, 3, 4, 5], .o] [] (fun b => by kernel_rfl)
    · subst hq1
      replace e := bindO_eq e
      obtain ⟨g2, e_g2, e⟩ := e
      obtain ⟨g2_0, g2_1⟩ := g2
      try dsimp only at e
      replace e := bindT_eq e
      obtain ⟨r3, e_r3, e⟩ := e
      try dsimp only at e
      replace e := bindO_eq e
      obtain ⟨g4, e_g4, e⟩ := e
      obtain ⟨g4_0, g4_1, g4_2, g4_3, g4_4, g4_5⟩ := g4
      try dsimp only at e
      replace e := bindT_eq e
      obtain ⟨r5, e_r5, e⟩ := e
      try dsimp only at e
      replace e := cond_eq_or e
      rcases e with ⟨hq2, e⟩ | ⟨hq2, e⟩
      · subst hq2
        injection e with e; subst e; exact fn_conG hU (P := Try.prog) Try.func6 (fun xs w => by kernel_rfl) _ _ [.o, .cg (ok_barbicanlaw8_known_v1 hU  ), .o, .cp, .cx (sp0_barbicanlaw8_RegionTags_J0_ok hU y0 y1 y2 y3 false e_r0) [], .xg (p0_region_New hU  ) [], .o, .o, .xg (p0_region_Mem_Frame_v1 hU  ) [1, 2], .o, .o, .o, .o, .o, .o, .a 4, .o, .o, .o, .o, .a 5, .cx (sp0_barbicanlaw8_RegionTags_J1_ok hU y0 y1 y2 y3 g1_0 g1_1 g1_2 g1_3 false e_g1) [0, 1, 2, 3, 4, 5], .o, .a 4, .xg (ok0_region_Mem_Tag hU (IntKind.i64.wrap (8 * y0)) (fun _ => 0#8) g1_0 g1_1 g1_2 g1_3 g2_0 g2_1 e_g2) [1, 2, 3], .o, .o, .o, .o, .o, .cx (sp0_barbicanlaw8_RegionTags_J2_ok hU y0 y1 y2 y3 g1_0 g1_1 g1_2 g1_3 g2_0 g2_1 r3 e_r3) [0, 1, 2, 3, 4, 5, 6], .o, .a 5, .o, .o, .xg (ok0_region_Mem_Store_v2 hU y2 (⟨1, 1#64, 0, 0⟩ : Val) y1 (fun _ => 0#8) g1_0 g1_1 g1_2 g1_3 g4_0 g4_1 g4_2 g4_3 g4_4 g4_5 e_g4) [1, 2, 3], .o, .cx (sp0_barbicanlaw8_RegionTags_J3_ok hU y0 y1 y3 g2_0 g2_1 r3 g4_0 g4_1 g4_2 g4_3 g4_4 g4_5 y2 true e_r5) [0, 1, 2, 3, 4, 5, 6, 7], .o] [] (fun b => by kernel_rfl)
      · subst hq2
        replace e := bindO_eq e
        obtain ⟨g6, e_g6, e⟩ := e
        obtain ⟨g6_0, g6_1, g6_2, g6_3, g6_4⟩ := g6
        try dsimp only at e
        replace e := cond_eq_or e
        rcases e with ⟨hq3, e⟩ | ⟨hq3, e⟩
        · subst hq3
          injection e with e; subst e; exact fn_conG hU (P := Try.prog) Try.func6 (fun xs w => by kernel_rfl) _ _ [.o, .cg (ok_barbicanlaw8_known_v1 hU  ), .o, .cp, .cx (sp0_barbicanlaw8_RegionTags_J0_ok hU y0 y1 y2 y3 false e_r0) [], .xg (p0_region_New hU  ) [], .o, .o, .xg (p0_region_Mem_Frame_v1 hU  ) [1, 2], .o, .o, .o, .o, .o, .o, .a 4, .o, .o, .o, .o, .a 5, .cx (sp0_barbicanlaw8_RegionTags_J1_ok hU y0 y1 y2 y3 g1_0 g1_1 g1_2 g1_3 false e_g1) [0, 1, 2, 3, 4, 5], .o, .a 4, .xg (ok0_region_Mem_Tag hU (IntKind.i64.wrap (8 * y0)) (fun _ => 0#8) g1_0 g1_1 g1_2 g1_3 g2_0 g2_1 e_g2) [1, 2, 3], .o, .o, .o, .o, .o, .cx (sp0_barbicanlaw8_RegionTags_J2_ok hU y0 y1 y2 y3 g1_0 g1_1 g1_2 g1_3 g2_0 g2_1 r3 e_r3) [0, 1, 2, 3, 4, 5, 6], .o, .a 5, .o, .o, .xg (ok0_region_Mem_Store_v2 hU y2 (⟨1, 1#64, 0, 0⟩ : Val) y1 (fun _ => 0#8) g1_0 g1_1 g1_2 g1_3 g4_0 g4_1 g4_2 g4_3 g4_4 g4_5 e_g4) [1, 2, 3], .o, .cx (sp0_barbicanlaw8_RegionTags_J3_ok hU y0 y1 y3 g2_0 g2_1 r3 g4_0 g4_1 g4_2 g4_3 g4_4 g4_5 y2 false e_r5) [0, 1, 2, 3, 4, 5, 6, 7], .cp, .cx (sp0_barbicanlaw8_RegionTags_J4_ok hU y0 y1 y3 g2_1 g4_0 g4_1 g4_2 g4_3 g4_4 g6_0 g6_1 g6_2 g6_3 true e_g6) [0, 1, 2, 3, 4, 5, 6, 7, 8], .o] [] (fun b => by kernel_rfl)
        · subst hq3
          replace e := bindO_eq e
          obtain ⟨g7, e_g7, e⟩ := e
          obtain ⟨g7_0, g7_1, g7_2, g7_3, g7_4⟩ := g7
          try dsimp only at e
          replace e := cond_eq_or e
          rcases e with ⟨hq4, e⟩ | ⟨hq4, e⟩
          · replace e := bindO_eq e
            obtain ⟨g8, e_g8, e⟩ := e
            obtain ⟨g8_0, g8_1, g8_2, g8_3, g8_4⟩ := g8
            try dsimp only at e
            injection e with e; subst e; exact fn_conG hU (P := Try.prog) Try.func6 (fun xs w => by kernel_rfl) _ _ [.o, .cg (ok_barbicanlaw8_known_v1 hU  ), .o, .cp, .cx (sp0_barbicanlaw8_RegionTags_J0_ok hU y0 y1 y2 y3 false e_r0) [], .xg (p0_region_New hU  ) [], .o, .o, .xg (p0_region_Mem_Frame_v1 hU  ) [1, 2], .o, .o, .o, .o, .o, .o, .a 4, .o, .o, .o, .o, .a 5, .cx (sp0_barbicanlaw8_RegionTags_J1_ok hU y0 y1 y2 y3 g1_0 g1_1 g1_2 g1_3 false e_g1) [0, 1, 2, 3, 4, 5], .o, .a 4, .xg (ok0_region_Mem_Tag hU (IntKind.i64.wrap (8 * y0)) (fun _ => 0#8) g1_0 g1_1 g1_2 g1_3 g2_0 g2_1 e_g2) [1, 2, 3], .o, .o, .o, .o, .o, .cx (sp0_barbicanlaw8_RegionTags_J2_ok hU y0 y1 y2 y3 g1_0 g1_1 g1_2 g1_3 g2_0 g2_1 r3 e_r3) [0, 1, 2, 3, 4, 5, 6], .o, .a 5, .o, .o, .xg (ok0_region_Mem_Store_v2 hU y2 (⟨1, 1#64, 0, 0⟩ : Val) y1 (fun _ => 0#8) g1_0 g1_1 g1_2 g1_3 g4_0 g4_1 g4_2 g4_3 g4_4 g4_5 e_g4) [1, 2, 3], .o, .cx (sp0_barbicanlaw8_RegionTags_J3_ok hU y0 y1 y3 g2_0 g2_1 r3 g4_0 g4_1 g4_2 g4_3 g4_4 g4_5 y2 false e_r5) [0, 1, 2, 3, 4, 5, 6, 7], .cp, .cx (sp0_barbicanlaw8_RegionTags_J4_ok hU y0 y1 y3 g2_1 g4_0 g4_1 g4_2 g4_3 g4_4 g6_0 g6_1 g6_2 g6_3 false e_g6) [0, 1, 2, 3, 4, 5, 6, 7, 8], .o, .a 4, .xg (ok0_region_Mem_Load_v3 hU 8 (IntKind.i64.wrap (8 * y0)) g4_0 g6_0 g6_1 g6_2 g6_3 g7_0 g7_1 g7_2 g7_3 g7_4 e_g7) [1, 2, 3], .o, .o, .o, .o, .o, .b (z_eqlT hq4), .o, .o, .a 4, .o, .xg (ok0_region_Mem_Mark hU y3 (IntKind.i64.wrap (8 * y0)) g4_0 g6_0 g6_1 g6_2 g6_3 g8_0 g8_1 g8_2 g8_3 g8_4 e_g8) [1, 2, 3], .o, .o, .o] [] (fun b => by kernel_rfl)
          · injection e with e; subst e; exact fn_conG hU (P := Try.prog) Try.func6 (fun xs w => by kernel_rfl) _ _ [.o, .cg (ok_barbicanlaw8_known_v1 hU  ), .o, .cp, .cx (sp0_barbicanlaw8_RegionTags_J0_ok hU y0 y1 y2 y3 false e_r0) [], .xg (p0_region_New hU  ) [], .o, .o, .xg (p0_region_Mem_Frame_v1 hU  ) [1, 2], .o, .o, .o, .o, .o, .o, .a 4, .o, .o, .o, .o, .a 5, .cx (sp0_barbicanlaw8_RegionTags_J1_ok hU y0 y1 y2 y3 g1_0 g1_1 g1_2 g1_3 false e_g1) [0, 1, 2, 3, 4, 5], .o, .a 4, .xg (ok0_region_Mem_Tag hU (IntKind.i64.wrap (8 * y0)) (fun _ => 0#8) g1_0 g1_1 g1_2 g1_3 g2_0 g2_1 e_g2) [1, 2, 3], .o, .o, .o, .o, .o, .cx (sp0_barbicanlaw8_RegionTags_J2_ok hU y0 y1 y2 y3 g1_0 g1_1 g1_2 g1_3 g2_0 g2_1 r3 e_r3) [0, 1, 2, 3, 4, 5, 6], .o, .a 5, .o, .o, .xg (ok0_region_Mem_Store_v2 hU y2 (⟨1, 1#64, 0, 0⟩ : Val) y1 (fun _ => 0#8) g1_0 g1_1 g1_2 g1_3 g4_0 g4_1 g4_2 g4_3 g4_4 g4_5 e_g4) [1, 2, 3], .o, .cx (sp0_barbicanlaw8_RegionTags_J3_ok hU y0 y1 y3 g2_0 g2_1 r3 g4_0 g4_1 g4_2 g4_3 g4_4 g4_5 y2 false e_r5) [0, 1, 2, 3, 4, 5, 6, 7], .cp, .cx (sp0_barbicanlaw8_RegionTags_J4_ok hU y0 y1 y3 g2_1 g4_0 g4_1 g4_2 g4_3 g4_4 g6_0 g6_1 g6_2 g6_3 false e_g6) [0, 1, 2, 3, 4, 5, 6, 7, 8], .o, .a 4, .xg (ok0_region_Mem_Load_v3 hU 8 (IntKind.i64.wrap (8 * y0)) g4_0 g6_0 g6_1 g6_2 g6_3 g7_0 g7_1 g7_2 g7_3 g7_4 e_g7) [1, 2, 3], .o, .o, .o, .o, .o, .b (z_eqlF hq4), .o, .o, .o] [] (fun b => by kernel_rfl)
end

end Go.Proofs.Ytfmpmhafilllpaa
