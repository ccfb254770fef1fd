import Derived.Test.YtoapdkcokemieaaGreatVTA
namespace Go.Proofs.YtoapdkcokemieaaGreat.Ev
open Go.RowKit
set_option maxRecDepth 100000000
theorem rM_m1 : runM hk_15 (-1) = some () := by kernel_rfl
theorem rM_4 : runM hk_4 (4) = some () := by kernel_rfl
theorem rM_3 : runM hk_3 (3) = some () := by kernel_rfl
theorem rV_11 : runT hkC_11 tV_11 = some () := by kernel_rfl
theorem rS_8 : runT hkC_8 tS_8 = some () := by kernel_rfl
theorem rL_6 : runT noHk tL_6 = some () := by kernel_rfl
theorem rS_2 : runT hkC_2 tS_2 = some () := by kernel_rfl
theorem rC_8 : runT noHk tC_8 = some () := by kernel_rfl
theorem rS_0 : runT hkC_0 tS_0 = some () := by kernel_rfl
theorem rV_17 : runT hkC_17 tV_17 = some () := by kernel_rfl
end Go.Proofs.YtoapdkcokemieaaGreat.Ev
