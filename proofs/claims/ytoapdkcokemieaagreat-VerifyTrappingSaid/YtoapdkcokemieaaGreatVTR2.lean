import Derived.Test.YtoapdkcokemieaaGreatVTA
namespace Go.Proofs.YtoapdkcokemieaaGreat.Ev
open Go.RowKit
set_option maxRecDepth 100000000
theorem rM_m6 : runM hk_10 (-6) = some () := by kernel_rfl
theorem rM_m12 : runM hk_4 (-12) = some () := by kernel_rfl
theorem rM_m13 : runM hk_3 (-13) = some () := by kernel_rfl
theorem rM_0 : runM hk_0 (0) = some () := by kernel_rfl
theorem rL_1 : runT noHk tL_1 = some () := by kernel_rfl
theorem rJ_15 : runT hkC_15 tJ_15 = some () := by kernel_rfl
theorem rJ_4 : runT hkC_4 tJ_4 = some () := by kernel_rfl
theorem rS_3 : runT hkC_3 tS_3 = some () := by kernel_rfl
theorem rC_1 : runT noHk tC_1 = some () := by kernel_rfl
theorem rJ_5 : runT hkC_5 tJ_5 = some () := by kernel_rfl
end Go.Proofs.YtoapdkcokemieaaGreat.Ev
