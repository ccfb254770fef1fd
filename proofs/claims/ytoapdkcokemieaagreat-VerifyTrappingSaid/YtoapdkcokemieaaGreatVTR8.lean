import Derived.Test.YtoapdkcokemieaaGreatVTA
namespace Go.Proofs.YtoapdkcokemieaaGreat.Ev
open Go.RowKit
set_option maxRecDepth 100000000
theorem rM_8 : runM hk_8 (8) = some () := by kernel_rfl
theorem rM_11 : runM hk_11 (11) = some () := by kernel_rfl
theorem rM_m14 : runM hk_2 (-14) = some () := by kernel_rfl
theorem rM_m11 : runM hk_5 (-11) = some () := by kernel_rfl
theorem rV_2 : runT hkC_2 tV_2 = some () := by kernel_rfl
theorem rS_4 : runT hkC_4 tS_4 = some () := by kernel_rfl
theorem rJ_9 : runT hkC_9 tJ_9 = some () := by kernel_rfl
theorem rJ_1 : runT hkC_1 tJ_1 = some () := by kernel_rfl
theorem rC_13 : runT noHk tC_13 = some () := by kernel_rfl
theorem rC_5 : runT noHk tC_5 = some () := by kernel_rfl
theorem rC_17 : runT noHk tC_17 = some () := by kernel_rfl
end Go.Proofs.YtoapdkcokemieaaGreat.Ev
