import Derived.Test.YtoapdkcokemieaaGreatVTA
namespace Go.Proofs.YtoapdkcokemieaaGreat.Ev
open Go.RowKit
set_option maxRecDepth 100000000
theorem rM_m8 : runM hk_8 (-8) = some () := by kernel_rfl
theorem rM_m3 : runM hk_13 (-3) = some () := by kernel_rfl
theorem rM_1 : runM hk_1 (1) = some () := by kernel_rfl
theorem rM_5 : runM hk_5 (5) = some () := by kernel_rfl
theorem rL_7 : runT noHk tL_7 = some () := by kernel_rfl
theorem rS_13 : runT hkC_13 tS_13 = some () := by kernel_rfl
theorem rL_14 : runT noHk tL_14 = some () := by kernel_rfl
theorem rS_14 : runT hkC_14 tS_14 = some () := by kernel_rfl
theorem rS_16 : runT hkC_16 tS_16 = some () := by kernel_rfl
theorem rJ_16 : runT hkC_16 tJ_16 = some () := by kernel_rfl
end Go.Proofs.YtoapdkcokemieaaGreat.Ev
