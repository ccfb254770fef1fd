import Derived.Test.YtoapdkcokemieaaGreatVTA
namespace Go.Proofs.YtoapdkcokemieaaGreat.Ev
open Go.RowKit
set_option maxRecDepth 100000000
theorem rM_m7 : runM hk_9 (-7) = some () := by kernel_rfl
theorem rV_10 : runT hkC_10 tV_10 = some () := by kernel_rfl
theorem rK : runK = some () := by kernel_rfl
theorem rV_9 : runT hkC_9 tV_9 = some () := by kernel_rfl
theorem rV_7 : runT hkC_7 tV_7 = some () := by kernel_rfl
theorem rJ_10 : runT hkC_10 tJ_10 = some () := by kernel_rfl
theorem rS_6 : runT hkC_6 tS_6 = some () := by kernel_rfl
theorem rV_16 : runT hkC_16 tV_16 = some () := by kernel_rfl
theorem rC_7 : runT noHk tC_7 = some () := by kernel_rfl
theorem rC_6 : runT noHk tC_6 = some () := by kernel_rfl
end Go.Proofs.YtoapdkcokemieaaGreat.Ev
