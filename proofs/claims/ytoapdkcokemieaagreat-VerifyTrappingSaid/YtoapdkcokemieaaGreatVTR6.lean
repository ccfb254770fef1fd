import Derived.Test.YtoapdkcokemieaaGreatVTA
namespace Go.Proofs.YtoapdkcokemieaaGreat.Ev
open Go.RowKit
set_option maxRecDepth 100000000
theorem rV_12 : runT hkC_12 tV_12 = some () := by kernel_rfl
theorem rM_13 : runM hk_13 (13) = some () := by kernel_rfl
theorem rM_2 : runM hk_2 (2) = some () := by kernel_rfl
theorem rV_4 : runT hkC_4 tV_4 = some () := by kernel_rfl
theorem rV_1 : runT hkC_1 tV_1 = some () := by kernel_rfl
theorem rJ_8 : runT hkC_8 tJ_8 = some () := by kernel_rfl
theorem rV_5 : runT hkC_5 tV_5 = some () := by kernel_rfl
theorem rV_0 : runT hkC_0 tV_0 = some () := by kernel_rfl
theorem rJ_14 : runT hkC_14 tJ_14 = some () := by kernel_rfl
theorem rC_0 : runT noHk tC_0 = some () := by kernel_rfl
theorem rJ_17 : runT hkC_17 tJ_17 = some () := by kernel_rfl
end Go.Proofs.YtoapdkcokemieaaGreat.Ev
