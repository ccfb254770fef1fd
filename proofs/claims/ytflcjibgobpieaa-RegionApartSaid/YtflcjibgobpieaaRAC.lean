/-
  A law's run in stages: for each number of regions.
-/
import Derived.Test.YtflcjibgobpieaaRAB
import Derived.Test.YtflcjibgobpieaaRAR0
import Derived.Test.YtflcjibgobpieaaRAR1
import Derived.Test.YtflcjibgobpieaaRAR2
import Derived.Test.YtflcjibgobpieaaRAR3
import Derived.Test.YtflcjibgobpieaaRAR4
import Derived.Test.YtflcjibgobpieaaRAR5
import Derived.Test.YtflcjibgobpieaaRAR6
import Derived.Test.YtflcjibgobpieaaRAR7
namespace Go.Proofs.Ytflcjibgobpieaa.Ev
open Go.RowKit
set_option linter.unusedVariables false
set_option linter.unusedSectionVars false
theorem for_1 {w v : Int} (hv0 : 0 ≤ v) (hv1 : v ≤ 18446744073709551615) : ∃ x : Int, @Done (En4 (1 : Nat) w v x) d2 (T1 (it 1) sw sv) ⟨.lf, 118⟩ := by
  have hC : ∀ k, k < 1 → runC 1 k = some () := by
    intro k hk
    exact allN_ok rc_1_0 k (by omega) (by omega)
  have hD1 : ∀ k, k < 1 → runD1 1 k = some () := by
    intro k hk
    exact allN_ok rd1_1_0 k (by omega) (by omega)
  have hD2 : ∀ k, k < 1 → runD2 1 k = some () := by
    intro k hk
    exact allN_ok rd2_1_0 k (by omega) (by omega)
  exact forN (n := 1) (by omega) (by omega) hv0 hv1 ra_1 (fun z hz => allN_ok rb_1 z (by omega) (by omega)) hC rr_1 hD1 hD2 rx_1
theorem for_2 {w v : Int} (hv0 : 0 ≤ v) (hv1 : v ≤ 18446744073709551615) : ∃ x : Int, @Done (En4 (2 : Nat) w v x) d2 (T1 (it 2) sw sv) ⟨.lf, 118⟩ := by
  have hC : ∀ k, k < 2 → runC 2 k = some () := by
    intro k hk
    exact allN_ok rc_2_0 k (by omega) (by omega)
  have hD1 : ∀ k, k < 2 → runD1 2 k = some () := by
    intro k hk
    exact allN_ok rd1_2_0 k (by omega) (by omega)
  have hD2 : ∀ k, k < 2 → runD2 2 k = some () := by
    intro k hk
    exact allN_ok rd2_2_0 k (by omega) (by omega)
  exact forN (n := 2) (by omega) (by omega) hv0 hv1 ra_2 (fun z hz => allN_ok rb_2 z (by omega) (by omega)) hC rr_2 hD1 hD2 rx_2
theorem for_3 {w v : Int} (hv0 : 0 ≤ v) (hv1 : v ≤ 18446744073709551615) : ∃ x : Int, @Done (En4 (3 : Nat) w v x) d2 (T1 (it 3) sw sv) ⟨.lf, 118⟩ := by
  have hC : ∀ k, k < 3 → runC 3 k = some () := by
    intro k hk
    exact allN_ok rc_3_0 k (by omega) (by omega)
  have hD1 : ∀ k, k < 3 → runD1 3 k = some () := by
    intro k hk
    exact allN_ok rd1_3_0 k (by omega) (by omega)
  have hD2 : ∀ k, k < 3 → runD2 3 k = some () := by
    intro k hk
    exact allN_ok rd2_3_0 k (by omega) (by omega)
  exact forN (n := 3) (by omega) (by omega) hv0 hv1 ra_3 (fun z hz => allN_ok rb_3 z (by omega) (by omega)) hC rr_3 hD1 hD2 rx_3
theorem for_4 {w v : Int} (hv0 : 0 ≤ v) (hv1 : v ≤ 18446744073709551615) : ∃ x : Int, @Done (En4 (4 : Nat) w v x) d2 (T1 (it 4) sw sv) ⟨.lf, 118⟩ := by
  have hC : ∀ k, k < 4 → runC 4 k = some () := by
    intro k hk
    exact allN_ok rc_4_0 k (by omega) (by omega)
  have hD1 : ∀ k, k < 4 → runD1 4 k = some () := by
    intro k hk
    exact allN_ok rd1_4_0 k (by omega) (by omega)
  have hD2 : ∀ k, k < 4 → runD2 4 k = some () := by
    intro k hk
    exact allN_ok rd2_4_0 k (by omega) (by omega)
  exact forN (n := 4) (by omega) (by omega) hv0 hv1 ra_4 (fun z hz => allN_ok rb_4 z (by omega) (by omega)) hC rr_4 hD1 hD2 rx_4
theorem for_5 {w v : Int} (hv0 : 0 ≤ v) (hv1 : v ≤ 18446744073709551615) : ∃ x : Int, @Done (En4 (5 : Nat) w v x) d2 (T1 (it 5) sw sv) ⟨.lf, 118⟩ := by
  have hC : ∀ k, k < 5 → runC 5 k = some () := by
    intro k hk
    exact allN_ok rc_5_0 k (by omega) (by omega)
  have hD1 : ∀ k, k < 5 → runD1 5 k = some () := by
    intro k hk
    exact allN_ok rd1_5_0 k (by omega) (by omega)
  have hD2 : ∀ k, k < 5 → runD2 5 k = some () := by
    intro k hk
    exact allN_ok rd2_5_0 k (by omega) (by omega)
  exact forN (n := 5) (by omega) (by omega) hv0 hv1 ra_5 (fun z hz => allN_ok rb_5 z (by omega) (by omega)) hC rr_5 hD1 hD2 rx_5
theorem for_6 {w v : Int} (hv0 : 0 ≤ v) (hv1 : v ≤ 18446744073709551615) : ∃ x : Int, @Done (En4 (6 : Nat) w v x) d2 (T1 (it 6) sw sv) ⟨.lf, 118⟩ := by
  have hC : ∀ k, k < 6 → runC 6 k = some () := by
    intro k hk
    exact allN_ok rc_6_0 k (by omega) (by omega)
  have hD1 : ∀ k, k < 6 → runD1 6 k = some () := by
    intro k hk
    exact allN_ok rd1_6_0 k (by omega) (by omega)
  have hD2 : ∀ k, k < 6 → runD2 6 k = some () := by
    intro k hk
    exact allN_ok rd2_6_0 k (by omega) (by omega)
  exact forN (n := 6) (by omega) (by omega) hv0 hv1 ra_6 (fun z hz => allN_ok rb_6 z (by omega) (by omega)) hC rr_6 hD1 hD2 rx_6
theorem for_7 {w v : Int} (hv0 : 0 ≤ v) (hv1 : v ≤ 18446744073709551615) : ∃ x : Int, @Done (En4 (7 : Nat) w v x) d2 (T1 (it 7) sw sv) ⟨.lf, 118⟩ := by
  have hC : ∀ k, k < 7 → runC 7 k = some () := by
    intro k hk
    exact allN_ok rc_7_0 k (by omega) (by omega)
  have hD1 : ∀ k, k < 7 → runD1 7 k = some () := by
    intro k hk
    exact allN_ok rd1_7_0 k (by omega) (by omega)
  have hD2 : ∀ k, k < 7 → runD2 7 k = some () := by
    intro k hk
    exact allN_ok rd2_7_0 k (by omega) (by omega)
  exact forN (n := 7) (by omega) (by omega) hv0 hv1 ra_7 (fun z hz => allN_ok rb_7 z (by omega) (by omega)) hC rr_7 hD1 hD2 rx_7
theorem for_8 {w v : Int} (hv0 : 0 ≤ v) (hv1 : v ≤ 18446744073709551615) : ∃ x : Int, @Done (En4 (8 : Nat) w v x) d2 (T1 (it 8) sw sv) ⟨.lf, 118⟩ := by
  have hC : ∀ k, k < 8 → runC 8 k = some () := by
    intro k hk
    exact allN_ok rc_8_0 k (by omega) (by omega)
  have hD1 : ∀ k, k < 8 → runD1 8 k = some () := by
    intro k hk
    exact allN_ok rd1_8_0 k (by omega) (by omega)
  have hD2 : ∀ k, k < 8 → runD2 8 k = some () := by
    intro k hk
    exact allN_ok rd2_8_0 k (by omega) (by omega)
  exact forN (n := 8) (by omega) (by omega) hv0 hv1 ra_8 (fun z hz => allN_ok rb_8 z (by omega) (by omega)) hC rr_8 hD1 hD2 rx_8
theorem for_9 {w v : Int} (hv0 : 0 ≤ v) (hv1 : v ≤ 18446744073709551615) : ∃ x : Int, @Done (En4 (9 : Nat) w v x) d2 (T1 (it 9) sw sv) ⟨.lf, 118⟩ := by
  have hC : ∀ k, k < 9 → runC 9 k = some () := by
    intro k hk
    exact allN_ok rc_9_0 k (by omega) (by omega)
  have hD1 : ∀ k, k < 9 → runD1 9 k = some () := by
    intro k hk
    exact allN_ok rd1_9_0 k (by omega) (by omega)
  have hD2 : ∀ k, k < 9 → runD2 9 k = some () := by
    intro k hk
    exact allN_ok rd2_9_0 k (by omega) (by omega)
  exact forN (n := 9) (by omega) (by omega) hv0 hv1 ra_9 (fun z hz => allN_ok rb_9 z (by omega) (by omega)) hC rr_9 hD1 hD2 rx_9
theorem for_10 {w v : Int} (hv0 : 0 ≤ v) (hv1 : v ≤ 18446744073709551615) : ∃ x : Int, @Done (En4 (10 : Nat) w v x) d2 (T1 (it 10) sw sv) ⟨.lf, 118⟩ := by
  have hC : ∀ k, k < 10 → runC 10 k = some () := by
    intro k hk
    exact allN_ok rc_10_0 k (by omega) (by omega)
  have hD1 : ∀ k, k < 10 → runD1 10 k = some () := by
    intro k hk
    exact allN_ok rd1_10_0 k (by omega) (by omega)
  have hD2 : ∀ k, k < 10 → runD2 10 k = some () := by
    intro k hk
    exact allN_ok rd2_10_0 k (by omega) (by omega)
  exact forN (n := 10) (by omega) (by omega) hv0 hv1 ra_10 (fun z hz => allN_ok rb_10 z (by omega) (by omega)) hC rr_10 hD1 hD2 rx_10
theorem for_11 {w v : Int} (hv0 : 0 ≤ v) (hv1 : v ≤ 18446744073709551615) : ∃ x : Int, @Done (En4 (11 : Nat) w v x) d2 (T1 (it 11) sw sv) ⟨.lf, 118⟩ := by
  have hC : ∀ k, k < 11 → runC 11 k = some () := by
    intro k hk
    by_cases h0 : k < 10
    · exact allN_ok rc_11_0 k (by omega) (by omega)
    exact allN_ok rc_11_10 k (by omega) (by omega)
  have hD1 : ∀ k, k < 11 → runD1 11 k = some () := by
    intro k hk
    by_cases h0 : k < 10
    · exact allN_ok rd1_11_0 k (by omega) (by omega)
    exact allN_ok rd1_11_10 k (by omega) (by omega)
  have hD2 : ∀ k, k < 11 → runD2 11 k = some () := by
    intro k hk
    by_cases h0 : k < 10
    · exact allN_ok rd2_11_0 k (by omega) (by omega)
    exact allN_ok rd2_11_10 k (by omega) (by omega)
  exact forN (n := 11) (by omega) (by omega) hv0 hv1 ra_11 (fun z hz => allN_ok rb_11 z (by omega) (by omega)) hC rr_11 hD1 hD2 rx_11
theorem for_12 {w v : Int} (hv0 : 0 ≤ v) (hv1 : v ≤ 18446744073709551615) : ∃ x : Int, @Done (En4 (12 : Nat) w v x) d2 (T1 (it 12) sw sv) ⟨.lf, 118⟩ := by
  have hC : ∀ k, k < 12 → runC 12 k = some () := by
    intro k hk
    by_cases h0 : k < 10
    · exact allN_ok rc_12_0 k (by omega) (by omega)
    exact allN_ok rc_12_10 k (by omega) (by omega)
  have hD1 : ∀ k, k < 12 → runD1 12 k = some () := by
    intro k hk
    by_cases h0 : k < 10
    · exact allN_ok rd1_12_0 k (by omega) (by omega)
    exact allN_ok rd1_12_10 k (by omega) (by omega)
  have hD2 : ∀ k, k < 12 → runD2 12 k = some () := by
    intro k hk
    by_cases h0 : k < 10
    · exact allN_ok rd2_12_0 k (by omega) (by omega)
    exact allN_ok rd2_12_10 k (by omega) (by omega)
  exact forN (n := 12) (by omega) (by omega) hv0 hv1 ra_12 (fun z hz => allN_ok rb_12 z (by omega) (by omega)) hC rr_12 hD1 hD2 rx_12
theorem for_13 {w v : Int} (hv0 : 0 ≤ v) (hv1 : v ≤ 18446744073709551615) : ∃ x : Int, @Done (En4 (13 : Nat) w v x) d2 (T1 (it 13) sw sv) ⟨.lf, 118⟩ := by
  have hC : ∀ k, k < 13 → runC 13 k = some () := by
    intro k hk
    by_cases h0 : k < 10
    · exact allN_ok rc_13_0 k (by omega) (by omega)
    exact allN_ok rc_13_10 k (by omega) (by omega)
  have hD1 : ∀ k, k < 13 → runD1 13 k = some () := by
    intro k hk
    by_cases h0 : k < 10
    · exact allN_ok rd1_13_0 k (by omega) (by omega)
    exact allN_ok rd1_13_10 k (by omega) (by omega)
  have hD2 : ∀ k, k < 13 → runD2 13 k = some () := by
    intro k hk
    by_cases h0 : k < 10
    · exact allN_ok rd2_13_0 k (by omega) (by omega)
    exact allN_ok rd2_13_10 k (by omega) (by omega)
  exact forN (n := 13) (by omega) (by omega) hv0 hv1 ra_13 (fun z hz => allN_ok rb_13 z (by omega) (by omega)) hC rr_13 hD1 hD2 rx_13
theorem for_14 {w v : Int} (hv0 : 0 ≤ v) (hv1 : v ≤ 18446744073709551615) : ∃ x : Int, @Done (En4 (14 : Nat) w v x) d2 (T1 (it 14) sw sv) ⟨.lf, 118⟩ := by
  have hC : ∀ k, k < 14 → runC 14 k = some () := by
    intro k hk
    by_cases h0 : k < 10
    · exact allN_ok rc_14_0 k (by omega) (by omega)
    exact allN_ok rc_14_10 k (by omega) (by omega)
  have hD1 : ∀ k, k < 14 → runD1 14 k = some () := by
    intro k hk
    by_cases h0 : k < 10
    · exact allN_ok rd1_14_0 k (by omega) (by omega)
    exact allN_ok rd1_14_10 k (by omega) (by omega)
  have hD2 : ∀ k, k < 14 → runD2 14 k = some () := by
    intro k hk
    by_cases h0 : k < 10
    · exact allN_ok rd2_14_0 k (by omega) (by omega)
    exact allN_ok rd2_14_10 k (by omega) (by omega)
  exact forN (n := 14) (by omega) (by omega) hv0 hv1 ra_14 (fun z hz => allN_ok rb_14 z (by omega) (by omega)) hC rr_14 hD1 hD2 rx_14
theorem for_15 {w v : Int} (hv0 : 0 ≤ v) (hv1 : v ≤ 18446744073709551615) : ∃ x : Int, @Done (En4 (15 : Nat) w v x) d2 (T1 (it 15) sw sv) ⟨.lf, 118⟩ := by
  have hC : ∀ k, k < 15 → runC 15 k = some () := by
    intro k hk
    by_cases h0 : k < 10
    · exact allN_ok rc_15_0 k (by omega) (by omega)
    exact allN_ok rc_15_10 k (by omega) (by omega)
  have hD1 : ∀ k, k < 15 → runD1 15 k = some () := by
    intro k hk
    by_cases h0 : k < 10
    · exact allN_ok rd1_15_0 k (by omega) (by omega)
    exact allN_ok rd1_15_10 k (by omega) (by omega)
  have hD2 : ∀ k, k < 15 → runD2 15 k = some () := by
    intro k hk
    by_cases h0 : k < 10
    · exact allN_ok rd2_15_0 k (by omega) (by omega)
    exact allN_ok rd2_15_10 k (by omega) (by omega)
  exact forN (n := 15) (by omega) (by omega) hv0 hv1 ra_15 (fun z hz => allN_ok rb_15 z (by omega) (by omega)) hC rr_15 hD1 hD2 rx_15
theorem for_16 {w v : Int} (hv0 : 0 ≤ v) (hv1 : v ≤ 18446744073709551615) : ∃ x : Int, @Done (En4 (16 : Nat) w v x) d2 (T1 (it 16) sw sv) ⟨.lf, 118⟩ := by
  have hC : ∀ k, k < 16 → runC 16 k = some () := by
    intro k hk
    by_cases h0 : k < 10
    · exact allN_ok rc_16_0 k (by omega) (by omega)
    exact allN_ok rc_16_10 k (by omega) (by omega)
  have hD1 : ∀ k, k < 16 → runD1 16 k = some () := by
    intro k hk
    by_cases h0 : k < 10
    · exact allN_ok rd1_16_0 k (by omega) (by omega)
    exact allN_ok rd1_16_10 k (by omega) (by omega)
  have hD2 : ∀ k, k < 16 → runD2 16 k = some () := by
    intro k hk
    by_cases h0 : k < 10
    · exact allN_ok rd2_16_0 k (by omega) (by omega)
    exact allN_ok rd2_16_10 k (by omega) (by omega)
  exact forN (n := 16) (by omega) (by omega) hv0 hv1 ra_16 (fun z hz => allN_ok rb_16 z (by omega) (by omega)) hC rr_16 hD1 hD2 rx_16
theorem for_17 {w v : Int} (hv0 : 0 ≤ v) (hv1 : v ≤ 18446744073709551615) : ∃ x : Int, @Done (En4 (17 : Nat) w v x) d2 (T1 (it 17) sw sv) ⟨.lf, 118⟩ := by
  have hC : ∀ k, k < 17 → runC 17 k = some () := by
    intro k hk
    by_cases h0 : k < 10
    · exact allN_ok rc_17_0 k (by omega) (by omega)
    exact allN_ok rc_17_10 k (by omega) (by omega)
  have hD1 : ∀ k, k < 17 → runD1 17 k = some () := by
    intro k hk
    by_cases h0 : k < 10
    · exact allN_ok rd1_17_0 k (by omega) (by omega)
    exact allN_ok rd1_17_10 k (by omega) (by omega)
  have hD2 : ∀ k, k < 17 → runD2 17 k = some () := by
    intro k hk
    by_cases h0 : k < 10
    · exact allN_ok rd2_17_0 k (by omega) (by omega)
    exact allN_ok rd2_17_10 k (by omega) (by omega)
  exact forN (n := 17) (by omega) (by omega) hv0 hv1 ra_17 (fun z hz => allN_ok rb_17 z (by omega) (by omega)) hC rr_17 hD1 hD2 rx_17
theorem for_18 {w v : Int} (hv0 : 0 ≤ v) (hv1 : v ≤ 18446744073709551615) : ∃ x : Int, @Done (En4 (18 : Nat) w v x) d2 (T1 (it 18) sw sv) ⟨.lf, 118⟩ := by
  have hC : ∀ k, k < 18 → runC 18 k = some () := by
    intro k hk
    by_cases h0 : k < 10
    · exact allN_ok rc_18_0 k (by omega) (by omega)
    exact allN_ok rc_18_10 k (by omega) (by omega)
  have hD1 : ∀ k, k < 18 → runD1 18 k = some () := by
    intro k hk
    by_cases h0 : k < 10
    · exact allN_ok rd1_18_0 k (by omega) (by omega)
    exact allN_ok rd1_18_10 k (by omega) (by omega)
  have hD2 : ∀ k, k < 18 → runD2 18 k = some () := by
    intro k hk
    by_cases h0 : k < 10
    · exact allN_ok rd2_18_0 k (by omega) (by omega)
    exact allN_ok rd2_18_10 k (by omega) (by omega)
  exact forN (n := 18) (by omega) (by omega) hv0 hv1 ra_18 (fun z hz => allN_ok rb_18 z (by omega) (by omega)) hC rr_18 hD1 hD2 rx_18
theorem for_19 {w v : Int} (hv0 : 0 ≤ v) (hv1 : v ≤ 18446744073709551615) : ∃ x : Int, @Done (En4 (19 : Nat) w v x) d2 (T1 (it 19) sw sv) ⟨.lf, 118⟩ := by
  have hC : ∀ k, k < 19 → runC 19 k = some () := by
    intro k hk
    by_cases h0 : k < 10
    · exact allN_ok rc_19_0 k (by omega) (by omega)
    exact allN_ok rc_19_10 k (by omega) (by omega)
  have hD1 : ∀ k, k < 19 → runD1 19 k = some () := by
    intro k hk
    by_cases h0 : k < 10
    · exact allN_ok rd1_19_0 k (by omega) (by omega)
    exact allN_ok rd1_19_10 k (by omega) (by omega)
  have hD2 : ∀ k, k < 19 → runD2 19 k = some () := by
    intro k hk
    by_cases h0 : k < 10
    · exact allN_ok rd2_19_0 k (by omega) (by omega)
    exact allN_ok rd2_19_10 k (by omega) (by omega)
  exact forN (n := 19) (by omega) (by omega) hv0 hv1 ra_19 (fun z hz => allN_ok rb_19 z (by omega) (by omega)) hC rr_19 hD1 hD2 rx_19
theorem for_20 {w v : Int} (hv0 : 0 ≤ v) (hv1 : v ≤ 18446744073709551615) : ∃ x : Int, @Done (En4 (20 : Nat) w v x) d2 (T1 (it 20) sw sv) ⟨.lf, 118⟩ := by
  have hC : ∀ k, k < 20 → runC 20 k = some () := by
    intro k hk
    by_cases h0 : k < 10
    · exact allN_ok rc_20_0 k (by omega) (by omega)
    exact allN_ok rc_20_10 k (by omega) (by omega)
  have hD1 : ∀ k, k < 20 → runD1 20 k = some () := by
    intro k hk
    by_cases h0 : k < 10
    · exact allN_ok rd1_20_0 k (by omega) (by omega)
    exact allN_ok rd1_20_10 k (by omega) (by omega)
  have hD2 : ∀ k, k < 20 → runD2 20 k = some () := by
    intro k hk
    by_cases h0 : k < 10
    · exact allN_ok rd2_20_0 k (by omega) (by omega)
    exact allN_ok rd2_20_10 k (by omega) (by omega)
  exact forN (n := 20) (by omega) (by omega) hv0 hv1 ra_20 (fun z hz => allN_ok rb_20 z (by omega) (by omega)) hC rr_20 hD1 hD2 rx_20
theorem for_21 {w v : Int} (hv0 : 0 ≤ v) (hv1 : v ≤ 18446744073709551615) : ∃ x : Int, @Done (En4 (21 : Nat) w v x) d2 (T1 (it 21) sw sv) ⟨.lf, 118⟩ := by
  have hC : ∀ k, k < 21 → runC 21 k = some () := by
    intro k hk
    by_cases h0 : k < 10
    · exact allN_ok rc_21_0 k (by omega) (by omega)
    by_cases h10 : k < 20
    · exact allN_ok rc_21_10 k (by omega) (by omega)
    exact allN_ok rc_21_20 k (by omega) (by omega)
  have hD1 : ∀ k, k < 21 → runD1 21 k = some () := by
    intro k hk
    by_cases h0 : k < 10
    · exact allN_ok rd1_21_0 k (by omega) (by omega)
    by_cases h10 : k < 20
    · exact allN_ok rd1_21_10 k (by omega) (by omega)
    exact allN_ok rd1_21_20 k (by omega) (by omega)
  have hD2 : ∀ k, k < 21 → runD2 21 k = some () := by
    intro k hk
    by_cases h0 : k < 10
    · exact allN_ok rd2_21_0 k (by omega) (by omega)
    by_cases h10 : k < 20
    · exact allN_ok rd2_21_10 k (by omega) (by omega)
    exact allN_ok rd2_21_20 k (by omega) (by omega)
  exact forN (n := 21) (by omega) (by omega) hv0 hv1 ra_21 (fun z hz => allN_ok rb_21 z (by omega) (by omega)) hC rr_21 hD1 hD2 rx_21
theorem for_22 {w v : Int} (hv0 : 0 ≤ v) (hv1 : v ≤ 18446744073709551615) : ∃ x : Int, @Done (En4 (22 : Nat) w v x) d2 (T1 (it 22) sw sv) ⟨.lf, 118⟩ := by
  have hC : ∀ k, k < 22 → runC 22 k = some () := by
    intro k hk
    by_cases h0 : k < 10
    · exact allN_ok rc_22_0 k (by omega) (by omega)
    by_cases h10 : k < 20
    · exact allN_ok rc_22_10 k (by omega) (by omega)
    exact allN_ok rc_22_20 k (by omega) (by omega)
  have hD1 : ∀ k, k < 22 → runD1 22 k = some () := by
    intro k hk
    by_cases h0 : k < 10
    · exact allN_ok rd1_22_0 k (by omega) (by omega)
    by_cases h10 : k < 20
    · exact allN_ok rd1_22_10 k (by omega) (by omega)
    exact allN_ok rd1_22_20 k (by omega) (by omega)
  have hD2 : ∀ k, k < 22 → runD2 22 k = some () := by
    intro k hk
    by_cases h0 : k < 10
    · exact allN_ok rd2_22_0 k (by omega) (by omega)
    by_cases h10 : k < 20
    · exact allN_ok rd2_22_10 k (by omega) (by omega)
    exact allN_ok rd2_22_20 k (by omega) (by omega)
  exact forN (n := 22) (by omega) (by omega) hv0 hv1 ra_22 (fun z hz => allN_ok rb_22 z (by omega) (by omega)) hC rr_22 hD1 hD2 rx_22
theorem for_23 {w v : Int} (hv0 : 0 ≤ v) (hv1 : v ≤ 18446744073709551615) : ∃ x : Int, @Done (En4 (23 : Nat) w v x) d2 (T1 (it 23) sw sv) ⟨.lf, 118⟩ := by
  have hC : ∀ k, k < 23 → runC 23 k = some () := by
    intro k hk
    by_cases h0 : k < 10
    · exact allN_ok rc_23_0 k (by omega) (by omega)
    by_cases h10 : k < 20
    · exact allN_ok rc_23_10 k (by omega) (by omega)
    exact allN_ok rc_23_20 k (by omega) (by omega)
  have hD1 : ∀ k, k < 23 → runD1 23 k = some () := by
    intro k hk
    by_cases h0 : k < 10
    · exact allN_ok rd1_23_0 k (by omega) (by omega)
    by_cases h10 : k < 20
    · exact allN_ok rd1_23_10 k (by omega) (by omega)
    exact allN_ok rd1_23_20 k (by omega) (by omega)
  have hD2 : ∀ k, k < 23 → runD2 23 k = some () := by
    intro k hk
    by_cases h0 : k < 10
    · exact allN_ok rd2_23_0 k (by omega) (by omega)
    by_cases h10 : k < 20
    · exact allN_ok rd2_23_10 k (by omega) (by omega)
    exact allN_ok rd2_23_20 k (by omega) (by omega)
  exact forN (n := 23) (by omega) (by omega) hv0 hv1 ra_23 (fun z hz => allN_ok rb_23 z (by omega) (by omega)) hC rr_23 hD1 hD2 rx_23
theorem for_24 {w v : Int} (hv0 : 0 ≤ v) (hv1 : v ≤ 18446744073709551615) : ∃ x : Int, @Done (En4 (24 : Nat) w v x) d2 (T1 (it 24) sw sv) ⟨.lf, 118⟩ := by
  have hC : ∀ k, k < 24 → runC 24 k = some () := by
    intro k hk
    by_cases h0 : k < 10
    · exact allN_ok rc_24_0 k (by omega) (by omega)
    by_cases h10 : k < 20
    · exact allN_ok rc_24_10 k (by omega) (by omega)
    exact allN_ok rc_24_20 k (by omega) (by omega)
  have hD1 : ∀ k, k < 24 → runD1 24 k = some () := by
    intro k hk
    by_cases h0 : k < 10
    · exact allN_ok rd1_24_0 k (by omega) (by omega)
    by_cases h10 : k < 20
    · exact allN_ok rd1_24_10 k (by omega) (by omega)
    exact allN_ok rd1_24_20 k (by omega) (by omega)
  have hD2 : ∀ k, k < 24 → runD2 24 k = some () := by
    intro k hk
    by_cases h0 : k < 10
    · exact allN_ok rd2_24_0 k (by omega) (by omega)
    by_cases h10 : k < 20
    · exact allN_ok rd2_24_10 k (by omega) (by omega)
    exact allN_ok rd2_24_20 k (by omega) (by omega)
  exact forN (n := 24) (by omega) (by omega) hv0 hv1 ra_24 (fun z hz => allN_ok rb_24 z (by omega) (by omega)) hC rr_24 hD1 hD2 rx_24
theorem for_25 {w v : Int} (hv0 : 0 ≤ v) (hv1 : v ≤ 18446744073709551615) : ∃ x : Int, @Done (En4 (25 : Nat) w v x) d2 (T1 (it 25) sw sv) ⟨.lf, 118⟩ := by
  have hC : ∀ k, k < 25 → runC 25 k = some () := by
    intro k hk
    by_cases h0 : k < 10
    · exact allN_ok rc_25_0 k (by omega) (by omega)
    by_cases h10 : k < 20
    · exact allN_ok rc_25_10 k (by omega) (by omega)
    exact allN_ok rc_25_20 k (by omega) (by omega)
  have hD1 : ∀ k, k < 25 → runD1 25 k = some () := by
    intro k hk
    by_cases h0 : k < 10
    · exact allN_ok rd1_25_0 k (by omega) (by omega)
    by_cases h10 : k < 20
    · exact allN_ok rd1_25_10 k (by omega) (by omega)
    exact allN_ok rd1_25_20 k (by omega) (by omega)
  have hD2 : ∀ k, k < 25 → runD2 25 k = some () := by
    intro k hk
    by_cases h0 : k < 10
    · exact allN_ok rd2_25_0 k (by omega) (by omega)
    by_cases h10 : k < 20
    · exact allN_ok rd2_25_10 k (by omega) (by omega)
    exact allN_ok rd2_25_20 k (by omega) (by omega)
  exact forN (n := 25) (by omega) (by omega) hv0 hv1 ra_25 (fun z hz => allN_ok rb_25 z (by omega) (by omega)) hC rr_25 hD1 hD2 rx_25
theorem for_26 {w v : Int} (hv0 : 0 ≤ v) (hv1 : v ≤ 18446744073709551615) : ∃ x : Int, @Done (En4 (26 : Nat) w v x) d2 (T1 (it 26) sw sv) ⟨.lf, 118⟩ := by
  have hC : ∀ k, k < 26 → runC 26 k = some () := by
    intro k hk
    by_cases h0 : k < 10
    · exact allN_ok rc_26_0 k (by omega) (by omega)
    by_cases h10 : k < 20
    · exact allN_ok rc_26_10 k (by omega) (by omega)
    exact allN_ok rc_26_20 k (by omega) (by omega)
  have hD1 : ∀ k, k < 26 → runD1 26 k = some () := by
    intro k hk
    by_cases h0 : k < 10
    · exact allN_ok rd1_26_0 k (by omega) (by omega)
    by_cases h10 : k < 20
    · exact allN_ok rd1_26_10 k (by omega) (by omega)
    exact allN_ok rd1_26_20 k (by omega) (by omega)
  have hD2 : ∀ k, k < 26 → runD2 26 k = some () := by
    intro k hk
    by_cases h0 : k < 10
    · exact allN_ok rd2_26_0 k (by omega) (by omega)
    by_cases h10 : k < 20
    · exact allN_ok rd2_26_10 k (by omega) (by omega)
    exact allN_ok rd2_26_20 k (by omega) (by omega)
  exact forN (n := 26) (by omega) (by omega) hv0 hv1 ra_26 (fun z hz => allN_ok rb_26 z (by omega) (by omega)) hC rr_26 hD1 hD2 rx_26
theorem for_27 {w v : Int} (hv0 : 0 ≤ v) (hv1 : v ≤ 18446744073709551615) : ∃ x : Int, @Done (En4 (27 : Nat) w v x) d2 (T1 (it 27) sw sv) ⟨.lf, 118⟩ := by
  have hC : ∀ k, k < 27 → runC 27 k = some () := by
    intro k hk
    by_cases h0 : k < 10
    · exact allN_ok rc_27_0 k (by omega) (by omega)
    by_cases h10 : k < 20
    · exact allN_ok rc_27_10 k (by omega) (by omega)
    exact allN_ok rc_27_20 k (by omega) (by omega)
  have hD1 : ∀ k, k < 27 → runD1 27 k = some () := by
    intro k hk
    by_cases h0 : k < 10
    · exact allN_ok rd1_27_0 k (by omega) (by omega)
    by_cases h10 : k < 20
    · exact allN_ok rd1_27_10 k (by omega) (by omega)
    exact allN_ok rd1_27_20 k (by omega) (by omega)
  have hD2 : ∀ k, k < 27 → runD2 27 k = some () := by
    intro k hk
    by_cases h0 : k < 10
    · exact allN_ok rd2_27_0 k (by omega) (by omega)
    by_cases h10 : k < 20
    · exact allN_ok rd2_27_10 k (by omega) (by omega)
    exact allN_ok rd2_27_20 k (by omega) (by omega)
  exact forN (n := 27) (by omega) (by omega) hv0 hv1 ra_27 (fun z hz => allN_ok rb_27 z (by omega) (by omega)) hC rr_27 hD1 hD2 rx_27
theorem for_28 {w v : Int} (hv0 : 0 ≤ v) (hv1 : v ≤ 18446744073709551615) : ∃ x : Int, @Done (En4 (28 : Nat) w v x) d2 (T1 (it 28) sw sv) ⟨.lf, 118⟩ := by
  have hC : ∀ k, k < 28 → runC 28 k = some () := by
    intro k hk
    by_cases h0 : k < 10
    · exact allN_ok rc_28_0 k (by omega) (by omega)
    by_cases h10 : k < 20
    · exact allN_ok rc_28_10 k (by omega) (by omega)
    exact allN_ok rc_28_20 k (by omega) (by omega)
  have hD1 : ∀ k, k < 28 → runD1 28 k = some () := by
    intro k hk
    by_cases h0 : k < 10
    · exact allN_ok rd1_28_0 k (by omega) (by omega)
    by_cases h10 : k < 20
    · exact allN_ok rd1_28_10 k (by omega) (by omega)
    exact allN_ok rd1_28_20 k (by omega) (by omega)
  have hD2 : ∀ k, k < 28 → runD2 28 k = some () := by
    intro k hk
    by_cases h0 : k < 10
    · exact allN_ok rd2_28_0 k (by omega) (by omega)
    by_cases h10 : k < 20
    · exact allN_ok rd2_28_10 k (by omega) (by omega)
    exact allN_ok rd2_28_20 k (by omega) (by omega)
  exact forN (n := 28) (by omega) (by omega) hv0 hv1 ra_28 (fun z hz => allN_ok rb_28 z (by omega) (by omega)) hC rr_28 hD1 hD2 rx_28
theorem for_29 {w v : Int} (hv0 : 0 ≤ v) (hv1 : v ≤ 18446744073709551615) : ∃ x : Int, @Done (En4 (29 : Nat) w v x) d2 (T1 (it 29) sw sv) ⟨.lf, 118⟩ := by
  have hC : ∀ k, k < 29 → runC 29 k = some () := by
    intro k hk
    by_cases h0 : k < 10
    · exact allN_ok rc_29_0 k (by omega) (by omega)
    by_cases h10 : k < 20
    · exact allN_ok rc_29_10 k (by omega) (by omega)
    exact allN_ok rc_29_20 k (by omega) (by omega)
  have hD1 : ∀ k, k < 29 → runD1 29 k = some () := by
    intro k hk
    by_cases h0 : k < 10
    · exact allN_ok rd1_29_0 k (by omega) (by omega)
    by_cases h10 : k < 20
    · exact allN_ok rd1_29_10 k (by omega) (by omega)
    exact allN_ok rd1_29_20 k (by omega) (by omega)
  have hD2 : ∀ k, k < 29 → runD2 29 k = some () := by
    intro k hk
    by_cases h0 : k < 10
    · exact allN_ok rd2_29_0 k (by omega) (by omega)
    by_cases h10 : k < 20
    · exact allN_ok rd2_29_10 k (by omega) (by omega)
    exact allN_ok rd2_29_20 k (by omega) (by omega)
  exact forN (n := 29) (by omega) (by omega) hv0 hv1 ra_29 (fun z hz => allN_ok rb_29 z (by omega) (by omega)) hC rr_29 hD1 hD2 rx_29
theorem for_30 {w v : Int} (hv0 : 0 ≤ v) (hv1 : v ≤ 18446744073709551615) : ∃ x : Int, @Done (En4 (30 : Nat) w v x) d2 (T1 (it 30) sw sv) ⟨.lf, 118⟩ := by
  have hC : ∀ k, k < 30 → runC 30 k = some () := by
    intro k hk
    by_cases h0 : k < 10
    · exact allN_ok rc_30_0 k (by omega) (by omega)
    by_cases h10 : k < 20
    · exact allN_ok rc_30_10 k (by omega) (by omega)
    exact allN_ok rc_30_20 k (by omega) (by omega)
  have hD1 : ∀ k, k < 30 → runD1 30 k = some () := by
    intro k hk
    by_cases h0 : k < 10
    · exact allN_ok rd1_30_0 k (by omega) (by omega)
    by_cases h10 : k < 20
    · exact allN_ok rd1_30_10 k (by omega) (by omega)
    exact allN_ok rd1_30_20 k (by omega) (by omega)
  have hD2 : ∀ k, k < 30 → runD2 30 k = some () := by
    intro k hk
    by_cases h0 : k < 10
    · exact allN_ok rd2_30_0 k (by omega) (by omega)
    by_cases h10 : k < 20
    · exact allN_ok rd2_30_10 k (by omega) (by omega)
    exact allN_ok rd2_30_20 k (by omega) (by omega)
  exact forN (n := 30) (by omega) (by omega) hv0 hv1 ra_30 (fun z hz => allN_ok rb_30 z (by omega) (by omega)) hC rr_30 hD1 hD2 rx_30
theorem for_31 {w v : Int} (hv0 : 0 ≤ v) (hv1 : v ≤ 18446744073709551615) : ∃ x : Int, @Done (En4 (31 : Nat) w v x) d2 (T1 (it 31) sw sv) ⟨.lf, 118⟩ := by
  have hC : ∀ k, k < 31 → runC 31 k = some () := by
    intro k hk
    by_cases h0 : k < 10
    · exact allN_ok rc_31_0 k (by omega) (by omega)
    by_cases h10 : k < 20
    · exact allN_ok rc_31_10 k (by omega) (by omega)
    by_cases h20 : k < 30
    · exact allN_ok rc_31_20 k (by omega) (by omega)
    exact allN_ok rc_31_30 k (by omega) (by omega)
  have hD1 : ∀ k, k < 31 → runD1 31 k = some () := by
    intro k hk
    by_cases h0 : k < 10
    · exact allN_ok rd1_31_0 k (by omega) (by omega)
    by_cases h10 : k < 20
    · exact allN_ok rd1_31_10 k (by omega) (by omega)
    by_cases h20 : k < 30
    · exact allN_ok rd1_31_20 k (by omega) (by omega)
    exact allN_ok rd1_31_30 k (by omega) (by omega)
  have hD2 : ∀ k, k < 31 → runD2 31 k = some () := by
    intro k hk
    by_cases h0 : k < 10
    · exact allN_ok rd2_31_0 k (by omega) (by omega)
    by_cases h10 : k < 20
    · exact allN_ok rd2_31_10 k (by omega) (by omega)
    by_cases h20 : k < 30
    · exact allN_ok rd2_31_20 k (by omega) (by omega)
    exact allN_ok rd2_31_30 k (by omega) (by omega)
  exact forN (n := 31) (by omega) (by omega) hv0 hv1 ra_31 (fun z hz => allN_ok rb_31 z (by omega) (by omega)) hC rr_31 hD1 hD2 rx_31
theorem for_32 {w v : Int} (hv0 : 0 ≤ v) (hv1 : v ≤ 18446744073709551615) : ∃ x : Int, @Done (En4 (32 : Nat) w v x) d2 (T1 (it 32) sw sv) ⟨.lf, 118⟩ := by
  have hC : ∀ k, k < 32 → runC 32 k = some () := by
    intro k hk
    by_cases h0 : k < 10
    · exact allN_ok rc_32_0 k (by omega) (by omega)
    by_cases h10 : k < 20
    · exact allN_ok rc_32_10 k (by omega) (by omega)
    by_cases h20 : k < 30
    · exact allN_ok rc_32_20 k (by omega) (by omega)
    exact allN_ok rc_32_30 k (by omega) (by omega)
  have hD1 : ∀ k, k < 32 → runD1 32 k = some () := by
    intro k hk
    by_cases h0 : k < 10
    · exact allN_ok rd1_32_0 k (by omega) (by omega)
    by_cases h10 : k < 20
    · exact allN_ok rd1_32_10 k (by omega) (by omega)
    by_cases h20 : k < 30
    · exact allN_ok rd1_32_20 k (by omega) (by omega)
    exact allN_ok rd1_32_30 k (by omega) (by omega)
  have hD2 : ∀ k, k < 32 → runD2 32 k = some () := by
    intro k hk
    by_cases h0 : k < 10
    · exact allN_ok rd2_32_0 k (by omega) (by omega)
    by_cases h10 : k < 20
    · exact allN_ok rd2_32_10 k (by omega) (by omega)
    by_cases h20 : k < 30
    · exact allN_ok rd2_32_20 k (by omega) (by omega)
    exact allN_ok rd2_32_30 k (by omega) (by omega)
  exact forN (n := 32) (by omega) (by omega) hv0 hv1 ra_32 (fun z hz => allN_ok rb_32 z (by omega) (by omega)) hC rr_32 hD1 hD2 rx_32
theorem for_33 {w v : Int} (hv0 : 0 ≤ v) (hv1 : v ≤ 18446744073709551615) : ∃ x : Int, @Done (En4 (33 : Nat) w v x) d2 (T1 (it 33) sw sv) ⟨.lf, 118⟩ := by
  have hC : ∀ k, k < 33 → runC 33 k = some () := by
    intro k hk
    by_cases h0 : k < 10
    · exact allN_ok rc_33_0 k (by omega) (by omega)
    by_cases h10 : k < 20
    · exact allN_ok rc_33_10 k (by omega) (by omega)
    by_cases h20 : k < 30
    · exact allN_ok rc_33_20 k (by omega) (by omega)
    exact allN_ok rc_33_30 k (by omega) (by omega)
  have hD1 : ∀ k, k < 33 → runD1 33 k = some () := by
    intro k hk
    by_cases h0 : k < 10
    · exact allN_ok rd1_33_0 k (by omega) (by omega)
    by_cases h10 : k < 20
    · exact allN_ok rd1_33_10 k (by omega) (by omega)
    by_cases h20 : k < 30
    · exact allN_ok rd1_33_20 k (by omega) (by omega)
    exact allN_ok rd1_33_30 k (by omega) (by omega)
  have hD2 : ∀ k, k < 33 → runD2 33 k = some () := by
    intro k hk
    by_cases h0 : k < 10
    · exact allN_ok rd2_33_0 k (by omega) (by omega)
    by_cases h10 : k < 20
    · exact allN_ok rd2_33_10 k (by omega) (by omega)
    by_cases h20 : k < 30
    · exact allN_ok rd2_33_20 k (by omega) (by omega)
    exact allN_ok rd2_33_30 k (by omega) (by omega)
  exact forN (n := 33) (by omega) (by omega) hv0 hv1 ra_33 (fun z hz => allN_ok rb_33 z (by omega) (by omega)) hC rr_33 hD1 hD2 rx_33
theorem for_34 {w v : Int} (hv0 : 0 ≤ v) (hv1 : v ≤ 18446744073709551615) : ∃ x : Int, @Done (En4 (34 : Nat) w v x) d2 (T1 (it 34) sw sv) ⟨.lf, 118⟩ := by
  have hC : ∀ k, k < 34 → runC 34 k = some () := by
    intro k hk
    by_cases h0 : k < 10
    · exact allN_ok rc_34_0 k (by omega) (by omega)
    by_cases h10 : k < 20
    · exact allN_ok rc_34_10 k (by omega) (by omega)
    by_cases h20 : k < 30
    · exact allN_ok rc_34_20 k (by omega) (by omega)
    exact allN_ok rc_34_30 k (by omega) (by omega)
  have hD1 : ∀ k, k < 34 → runD1 34 k = some () := by
    intro k hk
    by_cases h0 : k < 10
    · exact allN_ok rd1_34_0 k (by omega) (by omega)
    by_cases h10 : k < 20
    · exact allN_ok rd1_34_10 k (by omega) (by omega)
    by_cases h20 : k < 30
    · exact allN_ok rd1_34_20 k (by omega) (by omega)
    exact allN_ok rd1_34_30 k (by omega) (by omega)
  have hD2 : ∀ k, k < 34 → runD2 34 k = some () := by
    intro k hk
    by_cases h0 : k < 10
    · exact allN_ok rd2_34_0 k (by omega) (by omega)
    by_cases h10 : k < 20
    · exact allN_ok rd2_34_10 k (by omega) (by omega)
    by_cases h20 : k < 30
    · exact allN_ok rd2_34_20 k (by omega) (by omega)
    exact allN_ok rd2_34_30 k (by omega) (by omega)
  exact forN (n := 34) (by omega) (by omega) hv0 hv1 ra_34 (fun z hz => allN_ok rb_34 z (by omega) (by omega)) hC rr_34 hD1 hD2 rx_34
theorem for_35 {w v : Int} (hv0 : 0 ≤ v) (hv1 : v ≤ 18446744073709551615) : ∃ x : Int, @Done (En4 (35 : Nat) w v x) d2 (T1 (it 35) sw sv) ⟨.lf, 118⟩ := by
  have hC : ∀ k, k < 35 → runC 35 k = some () := by
    intro k hk
    by_cases h0 : k < 10
    · exact allN_ok rc_35_0 k (by omega) (by omega)
    by_cases h10 : k < 20
    · exact allN_ok rc_35_10 k (by omega) (by omega)
    by_cases h20 : k < 30
    · exact allN_ok rc_35_20 k (by omega) (by omega)
    exact allN_ok rc_35_30 k (by omega) (by omega)
  have hD1 : ∀ k, k < 35 → runD1 35 k = some () := by
    intro k hk
    by_cases h0 : k < 10
    · exact allN_ok rd1_35_0 k (by omega) (by omega)
    by_cases h10 : k < 20
    · exact allN_ok rd1_35_10 k (by omega) (by omega)
    by_cases h20 : k < 30
    · exact allN_ok rd1_35_20 k (by omega) (by omega)
    exact allN_ok rd1_35_30 k (by omega) (by omega)
  have hD2 : ∀ k, k < 35 → runD2 35 k = some () := by
    intro k hk
    by_cases h0 : k < 10
    · exact allN_ok rd2_35_0 k (by omega) (by omega)
    by_cases h10 : k < 20
    · exact allN_ok rd2_35_10 k (by omega) (by omega)
    by_cases h20 : k < 30
    · exact allN_ok rd2_35_20 k (by omega) (by omega)
    exact allN_ok rd2_35_30 k (by omega) (by omega)
  exact forN (n := 35) (by omega) (by omega) hv0 hv1 ra_35 (fun z hz => allN_ok rb_35 z (by omega) (by omega)) hC rr_35 hD1 hD2 rx_35
theorem for_36 {w v : Int} (hv0 : 0 ≤ v) (hv1 : v ≤ 18446744073709551615) : ∃ x : Int, @Done (En4 (36 : Nat) w v x) d2 (T1 (it 36) sw sv) ⟨.lf, 118⟩ := by
  have hC : ∀ k, k < 36 → runC 36 k = some () := by
    intro k hk
    by_cases h0 : k < 10
    · exact allN_ok rc_36_0 k (by omega) (by omega)
    by_cases h10 : k < 20
    · exact allN_ok rc_36_10 k (by omega) (by omega)
    by_cases h20 : k < 30
    · exact allN_ok rc_36_20 k (by omega) (by omega)
    exact allN_ok rc_36_30 k (by omega) (by omega)
  have hD1 : ∀ k, k < 36 → runD1 36 k = some () := by
    intro k hk
    by_cases h0 : k < 10
    · exact allN_ok rd1_36_0 k (by omega) (by omega)
    by_cases h10 : k < 20
    · exact allN_ok rd1_36_10 k (by omega) (by omega)
    by_cases h20 : k < 30
    · exact allN_ok rd1_36_20 k (by omega) (by omega)
    exact allN_ok rd1_36_30 k (by omega) (by omega)
  have hD2 : ∀ k, k < 36 → runD2 36 k = some () := by
    intro k hk
    by_cases h0 : k < 10
    · exact allN_ok rd2_36_0 k (by omega) (by omega)
    by_cases h10 : k < 20
    · exact allN_ok rd2_36_10 k (by omega) (by omega)
    by_cases h20 : k < 30
    · exact allN_ok rd2_36_20 k (by omega) (by omega)
    exact allN_ok rd2_36_30 k (by omega) (by omega)
  exact forN (n := 36) (by omega) (by omega) hv0 hv1 ra_36 (fun z hz => allN_ok rb_36 z (by omega) (by omega)) hC rr_36 hD1 hD2 rx_36
theorem for_37 {w v : Int} (hv0 : 0 ≤ v) (hv1 : v ≤ 18446744073709551615) : ∃ x : Int, @Done (En4 (37 : Nat) w v x) d2 (T1 (it 37) sw sv) ⟨.lf, 118⟩ := by
  have hC : ∀ k, k < 37 → runC 37 k = some () := by
    intro k hk
    by_cases h0 : k < 10
    · exact allN_ok rc_37_0 k (by omega) (by omega)
    by_cases h10 : k < 20
    · exact allN_ok rc_37_10 k (by omega) (by omega)
    by_cases h20 : k < 30
    · exact allN_ok rc_37_20 k (by omega) (by omega)
    exact allN_ok rc_37_30 k (by omega) (by omega)
  have hD1 : ∀ k, k < 37 → runD1 37 k = some () := by
    intro k hk
    by_cases h0 : k < 10
    · exact allN_ok rd1_37_0 k (by omega) (by omega)
    by_cases h10 : k < 20
    · exact allN_ok rd1_37_10 k (by omega) (by omega)
    by_cases h20 : k < 30
    · exact allN_ok rd1_37_20 k (by omega) (by omega)
    exact allN_ok rd1_37_30 k (by omega) (by omega)
  have hD2 : ∀ k, k < 37 → runD2 37 k = some () := by
    intro k hk
    by_cases h0 : k < 10
    · exact allN_ok rd2_37_0 k (by omega) (by omega)
    by_cases h10 : k < 20
    · exact allN_ok rd2_37_10 k (by omega) (by omega)
    by_cases h20 : k < 30
    · exact allN_ok rd2_37_20 k (by omega) (by omega)
    exact allN_ok rd2_37_30 k (by omega) (by omega)
  exact forN (n := 37) (by omega) (by omega) hv0 hv1 ra_37 (fun z hz => allN_ok rb_37 z (by omega) (by omega)) hC rr_37 hD1 hD2 rx_37
theorem for_38 {w v : Int} (hv0 : 0 ≤ v) (hv1 : v ≤ 18446744073709551615) : ∃ x : Int, @Done (En4 (38 : Nat) w v x) d2 (T1 (it 38) sw sv) ⟨.lf, 118⟩ := by
  have hC : ∀ k, k < 38 → runC 38 k = some () := by
    intro k hk
    by_cases h0 : k < 10
    · exact allN_ok rc_38_0 k (by omega) (by omega)
    by_cases h10 : k < 20
    · exact allN_ok rc_38_10 k (by omega) (by omega)
    by_cases h20 : k < 30
    · exact allN_ok rc_38_20 k (by omega) (by omega)
    exact allN_ok rc_38_30 k (by omega) (by omega)
  have hD1 : ∀ k, k < 38 → runD1 38 k = some () := by
    intro k hk
    by_cases h0 : k < 10
    · exact allN_ok rd1_38_0 k (by omega) (by omega)
    by_cases h10 : k < 20
    · exact allN_ok rd1_38_10 k (by omega) (by omega)
    by_cases h20 : k < 30
    · exact allN_ok rd1_38_20 k (by omega) (by omega)
    exact allN_ok rd1_38_30 k (by omega) (by omega)
  have hD2 : ∀ k, k < 38 → runD2 38 k = some () := by
    intro k hk
    by_cases h0 : k < 10
    · exact allN_ok rd2_38_0 k (by omega) (by omega)
    by_cases h10 : k < 20
    · exact allN_ok rd2_38_10 k (by omega) (by omega)
    by_cases h20 : k < 30
    · exact allN_ok rd2_38_20 k (by omega) (by omega)
    exact allN_ok rd2_38_30 k (by omega) (by omega)
  exact forN (n := 38) (by omega) (by omega) hv0 hv1 ra_38 (fun z hz => allN_ok rb_38 z (by omega) (by omega)) hC rr_38 hD1 hD2 rx_38
theorem for_39 {w v : Int} (hv0 : 0 ≤ v) (hv1 : v ≤ 18446744073709551615) : ∃ x : Int, @Done (En4 (39 : Nat) w v x) d2 (T1 (it 39) sw sv) ⟨.lf, 118⟩ := by
  have hC : ∀ k, k < 39 → runC 39 k = some () := by
    intro k hk
    by_cases h0 : k < 10
    · exact allN_ok rc_39_0 k (by omega) (by omega)
    by_cases h10 : k < 20
    · exact allN_ok rc_39_10 k (by omega) (by omega)
    by_cases h20 : k < 30
    · exact allN_ok rc_39_20 k (by omega) (by omega)
    exact allN_ok rc_39_30 k (by omega) (by omega)
  have hD1 : ∀ k, k < 39 → runD1 39 k = some () := by
    intro k hk
    by_cases h0 : k < 10
    · exact allN_ok rd1_39_0 k (by omega) (by omega)
    by_cases h10 : k < 20
    · exact allN_ok rd1_39_10 k (by omega) (by omega)
    by_cases h20 : k < 30
    · exact allN_ok rd1_39_20 k (by omega) (by omega)
    exact allN_ok rd1_39_30 k (by omega) (by omega)
  have hD2 : ∀ k, k < 39 → runD2 39 k = some () := by
    intro k hk
    by_cases h0 : k < 10
    · exact allN_ok rd2_39_0 k (by omega) (by omega)
    by_cases h10 : k < 20
    · exact allN_ok rd2_39_10 k (by omega) (by omega)
    by_cases h20 : k < 30
    · exact allN_ok rd2_39_20 k (by omega) (by omega)
    exact allN_ok rd2_39_30 k (by omega) (by omega)
  exact forN (n := 39) (by omega) (by omega) hv0 hv1 ra_39 (fun z hz => allN_ok rb_39 z (by omega) (by omega)) hC rr_39 hD1 hD2 rx_39
theorem for_40 {w v : Int} (hv0 : 0 ≤ v) (hv1 : v ≤ 18446744073709551615) : ∃ x : Int, @Done (En4 (40 : Nat) w v x) d2 (T1 (it 40) sw sv) ⟨.lf, 118⟩ := by
  have hC : ∀ k, k < 40 → runC 40 k = some () := by
    intro k hk
    by_cases h0 : k < 10
    · exact allN_ok rc_40_0 k (by omega) (by omega)
    by_cases h10 : k < 20
    · exact allN_ok rc_40_10 k (by omega) (by omega)
    by_cases h20 : k < 30
    · exact allN_ok rc_40_20 k (by omega) (by omega)
    exact allN_ok rc_40_30 k (by omega) (by omega)
  have hD1 : ∀ k, k < 40 → runD1 40 k = some () := by
    intro k hk
    by_cases h0 : k < 10
    · exact allN_ok rd1_40_0 k (by omega) (by omega)
    by_cases h10 : k < 20
    · exact allN_ok rd1_40_10 k (by omega) (by omega)
    by_cases h20 : k < 30
    · exact allN_ok rd1_40_20 k (by omega) (by omega)
    exact allN_ok rd1_40_30 k (by omega) (by omega)
  have hD2 : ∀ k, k < 40 → runD2 40 k = some () := by
    intro k hk
    by_cases h0 : k < 10
    · exact allN_ok rd2_40_0 k (by omega) (by omega)
    by_cases h10 : k < 20
    · exact allN_ok rd2_40_10 k (by omega) (by omega)
    by_cases h20 : k < 30
    · exact allN_ok rd2_40_20 k (by omega) (by omega)
    exact allN_ok rd2_40_30 k (by omega) (by omega)
  exact forN (n := 40) (by omega) (by omega) hv0 hv1 ra_40 (fun z hz => allN_ok rb_40 z (by omega) (by omega)) hC rr_40 hD1 hD2 rx_40
end Go.Proofs.Ytflcjibgobpieaa.Ev
