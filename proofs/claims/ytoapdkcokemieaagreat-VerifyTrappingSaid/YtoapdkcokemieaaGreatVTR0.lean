import Derived.Test.YtoapdkcokemieaaGreatVTA
namespace Go.Proofs.YtoapdkcokemieaaGreat.Ev
open Go.RowKit
set_option maxRecDepth 100000000
theorem rM_m4 : runM hk_12 (-4) = some () := by kernel_rfl
theorem rV_8 : runT hkC_8 tV_8 = some () := by kernel_rfl
theorem rM_m2 : runM hk_14 (-2) = some () := by kernel_rfl
theorem rS_10 : runT hkC_10 tS_10 = some () := by kernel_rfl
theorem rV_6 : runT hkC_6 tV_6 = some () := by kernel_rfl
theorem rL_3 : runT noHk tL_3 = some () := by kernel_rfl
theorem rC_15 : runT noHk tC_15 = some () := by kernel_rfl
theorem rJ_6 : runT hkC_6 tJ_6 = some () := by kernel_rfl
theorem rC_4 : runT noHk tC_4 = some () := by kernel_rfl
theorem rC_3 : runT noHk tC_3 = some () := by kernel_rfl
end Go.Proofs.YtoapdkcokemieaaGreat.Ev
