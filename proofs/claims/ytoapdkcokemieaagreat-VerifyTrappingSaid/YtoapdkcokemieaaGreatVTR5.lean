import Derived.Test.YtoapdkcokemieaaGreatVTA
namespace Go.Proofs.YtoapdkcokemieaaGreat.Ev
open Go.RowKit
set_option maxRecDepth 100000000
theorem rM_15 : runM hk_15 (15) = some () := by kernel_rfl
theorem rM_7 : runM hk_7 (7) = some () := by kernel_rfl
theorem rM_6 : runM hk_6 (6) = some () := by kernel_rfl
theorem rL_9 : runT noHk tL_9 = some () := by kernel_rfl
theorem rL_13 : runT noHk tL_13 = some () := by kernel_rfl
theorem rV_14 : runT hkC_14 tV_14 = some () := by kernel_rfl
theorem rS_1 : runT hkC_1 tS_1 = some () := by kernel_rfl
theorem rL_0 : runT noHk tL_0 = some () := by kernel_rfl
theorem rC_11 : runT noHk tC_11 = some () := by kernel_rfl
theorem rL_17 : runT noHk tL_17 = some () := by kernel_rfl
end Go.Proofs.YtoapdkcokemieaaGreat.Ev
