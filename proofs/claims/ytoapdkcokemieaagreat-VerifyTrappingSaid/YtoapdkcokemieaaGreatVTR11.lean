import Derived.Test.YtoapdkcokemieaaGreatVTA
namespace Go.Proofs.YtoapdkcokemieaaGreat.Ev
open Go.RowKit
set_option maxRecDepth 100000000
theorem rM_9 : runM hk_9 (9) = some () := by kernel_rfl
theorem rV_15 : runT hkC_15 tV_15 = some () := by kernel_rfl
theorem rM_m15 : runM hk_1 (-15) = some () := by kernel_rfl
theorem rS_12 : runT hkC_12 tS_12 = some () := by kernel_rfl
theorem rL_11 : runT noHk tL_11 = some () := by kernel_rfl
theorem rS_9 : runT hkC_9 tS_9 = some () := by kernel_rfl
theorem rJ_13 : runT hkC_13 tJ_13 = some () := by kernel_rfl
theorem rL_5 : runT noHk tL_5 = some () := by kernel_rfl
theorem rJ_3 : runT hkC_3 tJ_3 = some () := by kernel_rfl
theorem rC_16 : runT noHk tC_16 = some () := by kernel_rfl
end Go.Proofs.YtoapdkcokemieaaGreat.Ev
