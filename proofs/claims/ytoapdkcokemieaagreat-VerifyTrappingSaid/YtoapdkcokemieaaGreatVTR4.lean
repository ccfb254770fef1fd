import Derived.Test.YtoapdkcokemieaaGreatVTA
namespace Go.Proofs.YtoapdkcokemieaaGreat.Ev
open Go.RowKit
set_option maxRecDepth 100000000
theorem rM_10 : runM hk_10 (10) = some () := by kernel_rfl
theorem rM_m9 : runM hk_7 (-9) = some () := by kernel_rfl
theorem rM_m10 : runM hk_6 (-10) = some () := by kernel_rfl
theorem rV_13 : runT hkC_13 tV_13 = some () := by kernel_rfl
theorem rL_4 : runT noHk tL_4 = some () := by kernel_rfl
theorem rV_3 : runT hkC_3 tV_3 = some () := by kernel_rfl
theorem rJ_11 : runT hkC_11 tJ_11 = some () := by kernel_rfl
theorem rJ_7 : runT hkC_7 tJ_7 = some () := by kernel_rfl
theorem rC_9 : runT noHk tC_9 = some () := by kernel_rfl
theorem rS_17 : runT hkC_17 tS_17 = some () := by kernel_rfl
end Go.Proofs.YtoapdkcokemieaaGreat.Ev
