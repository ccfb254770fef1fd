/-
  A scalar of four numbers, by the program's own text.
-/
import Derived.Test.YtmhiiahfjoijgaaGreatL7F
namespace Go.Proofs.YtmhiiahfjoijgaaGreat
open Go.RowKit
set_option linter.unusedVariables false
set_option linter.unusedSimpArgs false
set_option maxRecDepth 100000
set_option maxHeartbeats 4000000
-- barbican/barbicanlaw7.made
def sq_barbicanlaw7_made_4 (y0 : BitVec 64) (y1 : BitVec 64) (y2 : BitVec 64) (y3 : BitVec 64) (V : Value) : Spc := ⟨fun ls => .call 17 #[.slice (some ⟨(lget ls 0).n, 0, none⟩) 4 4], fun _ => [.cells #[.int .u64 (nn (y0)), .int .u64 (nn (y1)), .int .u64 (nn (y2)), .int .u64 (nn (y3))] 34], 0, .normal, fun _ => [V], fun _ => [.cells #[.int .u64 (nn (y0)), .int .u64 (nn (y1)), .int .u64 (nn (y2)), .int .u64 (nn (y3))] 34], fun _ => []⟩
def m_barbicanlaw7_made_4 (y0 : BitVec 64) (y1 : BitVec 64) (y2 : BitVec 64) (y3 : BitVec 64) : S := ((m_scalar_Join (m_scalar_Join (m_scalar_Join (m_scalar_Const y0) (m_scalar_Const y1)) (m_scalar_Const y2)) (m_scalar_Const y3)))
theorem p0_barbicanlaw7_made_4 (y0 : BitVec 64) (y1 : BitVec 64) (y2 : BitVec 64) (y3 : BitVec 64) (ra0 : S) (ea0 : m_scalar_Const y0 = ra0) (ra1 : S) (ea1 : m_scalar_Const y1 = ra1) (ra2 : S) (ea2 : m_scalar_Join ra0 ra1 = ra2) (ra3 : S) (ea3 : m_scalar_Const y2 = ra3) (ra4 : S) (ea4 : m_scalar_Join ra2 ra3 = ra4) (ra5 : S) (ea5 : m_scalar_Const y3 = ra5) (ra6 : S) (ea6 : m_scalar_Join ra4 ra5 = ra6) : SpcOk Tryz.prog (fun _ => True) (sq_barbicanlaw7_made_4 y0 y1 y2 y3 (sv (ra6))) :=
  fn_specI (P := Tryz.prog) Tryz.func17 (fun xs w => by kernel_rfl) 1 (fun ls => [.slice (some ⟨(lget ls 0).n, 0, none⟩) 4 4]) (fun _ => [.cells #[.int .u64 (nn (y0)), .int .u64 (nn (y1)), .int .u64 (nn (y2)), .int .u64 (nn (y3))] 34]) (fun _ => rfl) (fun _ => (sv (ra6))) (fun _ => [.cells #[.int .u64 (nn (y0)), .int .u64 (nn (y1)), .int .u64 (nn (y2)), .int .u64 (nn (y3))] 34]) (fun _ => []) []
    [.o, .o, .o, .a 0, .cr sv (ok_scalar_Const (y0)) ea0, .o, .a 2, .o, .o, .o, .o, .o, .r [0, 1, 2, 3, 4, 5, 6] [] [7], .a 2, .o, .o, .o, .a 0, .cr sv (ok_scalar_Const (y1)) ea1, .cr sv (ok_scalar_Join (ra0) (ra1)) ea2, .a 2, .o, .o, .o, .o, .o, .o, .o, .r [0, 1, 2, 3, 4, 5, 6] [] [7], .a 2, .o, .o, .o, .a 0, .cr sv (ok_scalar_Const (y2)) ea3, .cr sv (ok_scalar_Join (ra2) (ra3)) ea4, .a 2, .o, .o, .o, .o, .o, .o, .o, .r [0, 1, 2, 3, 4, 5, 6] [] [7], .a 2, .o, .o, .o, .a 0, .cr sv (ok_scalar_Const (y3)) ea5, .cr sv (ok_scalar_Join (ra4) (ra5)) ea6, .a 2, .o, .o, .o, .o, .o, .o, .o, .a 2, .a 1]
    [1, 1, 1, 1, 1, 1] (fun b => by kernel_rfl)
theorem ok_barbicanlaw7_made_4 (y0 : BitVec 64) (y1 : BitVec 64) (y2 : BitVec 64) (y3 : BitVec 64) : SpcOk Tryz.prog (fun _ => True) (sq_barbicanlaw7_made_4 y0 y1 y2 y3 (sv (m_barbicanlaw7_made_4 y0 y1 y2 y3))) := by
  unfold m_barbicanlaw7_made_4
  exact p0_barbicanlaw7_made_4 y0 y1 y2 y3 _ rfl _ rfl _ rfl _ rfl _ rfl _ rfl _ rfl 
end Go.Proofs.YtmhiiahfjoijgaaGreat
