/-
  A law's run in stages: the stages put together.
-/
import Derived.Test.YtfldgecpfobjmaaFDC
import Derived.Test.YtfldgecpfobjmaaFDR0
import Derived.Test.YtfldgecpfobjmaaFDR1
import Derived.Test.YtfldgecpfobjmaaFDR2
import Derived.Test.YtfldgecpfobjmaaFDR3
import Derived.Test.YtfldgecpfobjmaaFDR4
import Derived.Test.YtfldgecpfobjmaaFDR5
import Derived.Test.YtfldgecpfobjmaaFDR6
import Derived.Test.YtfldgecpfobjmaaFDR7
import Derived.Test.YtfldgecpfobjmaaFDR8
import Derived.Test.YtfldgecpfobjmaaFDR9
import Derived.Test.YtfldgecpfobjmaaFDR10
import Derived.Test.YtfldgecpfobjmaaFDR11
namespace Go.Proofs.Ytfldgecpfobjmaa.Ev
open Go.RowKit
set_option linter.unusedVariables false
set_option linter.unusedSimpArgs false
set_option linter.unusedSectionVars false
section
variable [E : En]
theorem noFs_ok : @FsOk noFs E := @FsOk.mk noFs E (fun f hf => by cases hf) (fun p hp => by cases hp)
/-- What is left to do, told. -/
def Done (c : Code) (T : Tr PV) (H : Hp) : Prop := ∃ T' H', T'.at 4 = some (.bl true) ∧ Goes Try.prog (fun Q a w => c.wp Try.prog Q a w) 81 T [] H .ret T' [] H'
theorem goS {F : Fs} (hF : @FsOk F E) {cs : List Code} {z : Code} {T : Tr PV} {H : Hp} {s : St} (h : @evL F _ Try.prog (@evDraw F _ Try.prog) 10000 81 cs T [] H (kS s) = some ()) (g : Done z s.T s.H) : Done (catC cs z) T H := by
  letI := F
  haveI := hF
  obtain ⟨T9, H9, h9, g⟩ := g
  exact ⟨T9, H9, h9, stage (draw := evDraw Try.prog) (evDraw_ok (by kernel_rfl)) h g⟩
theorem goT {n : Nat} {c : Code} {T : Tr PV} {H : Hp} (h : @evC noFs _ Try.prog (@evDraw noFs _ Try.prog) n false 81 c T [] H kT = some ()) : Done c T H := by
  letI := noFs
  haveI := noFs_ok
  exact goes_true (draw := evDraw Try.prog) (evDraw_ok (by kernel_rfl)) (n := n) (N := 81) (t := 4) h
theorem fin {p0 p1 : PV} {l : List Value} (hl : ∀ b, VL b [p0, p1] l) (g : Done d2 (T1 p0 p1) ⟨.lf, 118⟩) (w : World) : Calls Try.prog 3 ⟨l⟩ w fun e w' => e = .returned (.bool true) ∧ Below w.heap.size w w' := by
  letI := noFs
  haveI := noFs_ok
  obtain ⟨T', H', h1, g2⟩ := g
  have dr : DrawOk Try.prog (evDraw Try.prog (α := Tr PV × Nat)) := evDraw_ok (by kernel_rfl)
  have g0 := goes_bare (n := 1000) (N := 81) (c := c0) (T := T0 p0 p1) (H := ⟨.lf, 0⟩) (X := (_, 0)) dr (X0_is p0 p1)
  have g1 := goes_bare (n := 10000) (N := 81) (c := c1) (T := Ta p0 p1) (H := ⟨.lf, 0⟩) (X := (_, 118)) dr (X1_is p0 p1)
  exact calls_of_goes (P := Try.prog) Try.func3 tB_is (args := [p0, p1]) hl (Nat.le_of_ble_eq_true (by kernel_rfl)) (by kernel_rfl) h1 (Goes.chain g0 (Goes.chain g1 g2)) w
end
/-- The letters of one call. -/
@[reducible] def En2 (n k : Int) : En := ⟨fun i => match i with
  | 0 => n
  | _ => k⟩
theorem fv_ok {m k r : Int} {n : Nat} (h : k.tmod (Int.ofNat (n - 1)) = r) : @FsOk (FV n r) (En2 m k) := @FsOk.mk (FV n r) (En2 m k) (fun f hf => by cases hf) (fun p hp => by
  have hp : p ∈ ([(.o .rem .i64 (.v 1) (.c (Int.ofNat (n - 1))), r)] : List (SE × Int)) := hp
  simp only [List.mem_cons, List.not_mem_nil, or_false] at hp
  subst hp
  exact h)
theorem goC {m k r : Int} {n to : Nat} (h : k.tmod (Int.ofNat (n - 1)) = r) (h1 : runC n r to = some ()) (h2 : runD n to = some ()) : @Done (En2 m k) d7 (sB n).T (sB n).H := by
  rw [d7_is]
  exact goS (E := En2 m k) (fv_ok h) h1 (goT (E := En2 m k) h2)
theorem goAB {m k : Int} {n : Nat} (h1 : runA n = some ()) (h2 : runB n = some ()) (g : @Done (En2 m k) d7 (sB n).T (sB n).H) : @Done (En2 m k) d2 (T1 (.it .i64 (Int.ofNat n)) sx) ⟨.lf, 118⟩ := by
  rw [d2_is]
  refine goS (E := En2 m k) (noFs_ok (E := En2 m k)) h1 ?_
  rw [d4_is]
  exact goS (E := En2 m k) (noFs_ok (E := En2 m k)) h2 g
theorem goA1 {m k : Int} : @Done (En2 m k) d2 (T1 (.it .i64 (Int.ofNat 1)) sx) ⟨.lf, 118⟩ := by
  rw [d2_is]
  exact goS (E := En2 m k) (noFs_ok (E := En2 m k)) ra_1 (goT (E := En2 m k) rb_1)
theorem st_2 {m k : Int} : @Done (En2 m k) d7 (sB 2).T (sB 2).H := by
  have h1 := Int.tmod_lt_of_pos k (show (0 : Int) < 1 by decide)
  have h2 := Int.lt_tmod_of_pos k (show (0 : Int) < 1 by decide)
  have h : k.tmod 1 = 0 := by omega
  exact goC h rc_2_0 rd_2_2
theorem st_3 {m k : Int} : @Done (En2 m k) d7 (sB 3).T (sB 3).H := by
  have h1 := Int.tmod_lt_of_pos k (show (0 : Int) < 2 by decide)
  have h2 := Int.lt_tmod_of_pos k (show (0 : Int) < 2 by decide)
  have h : k.tmod 2 = -1 ∨ k.tmod 2 = 0 ∨ k.tmod 2 = 1 := by omega
  rcases h with h | h | h
  · exact goC h rc_3_m1 rd_3_4
  · exact goC h rc_3_0 rd_3_2
  · exact goC h rc_3_1 rd_3_4
theorem st_4 {m k : Int} : @Done (En2 m k) d7 (sB 4).T (sB 4).H := by
  have h1 := Int.tmod_lt_of_pos k (show (0 : Int) < 3 by decide)
  have h2 := Int.lt_tmod_of_pos k (show (0 : Int) < 3 by decide)
  have h : k.tmod 3 = -2 ∨ k.tmod 3 = -1 ∨ k.tmod 3 = 0 ∨ k.tmod 3 = 1 ∨ k.tmod 3 = 2 := by omega
  rcases h with h | h | h | h | h
  · exact goC h rc_4_m2 rd_4_4
  · exact goC h rc_4_m1 rd_4_6
  · exact goC h rc_4_0 rd_4_2
  · exact goC h rc_4_1 rd_4_4
  · exact goC h rc_4_2 rd_4_6
theorem st_5 {m k : Int} : @Done (En2 m k) d7 (sB 5).T (sB 5).H := by
  have h1 := Int.tmod_lt_of_pos k (show (0 : Int) < 4 by decide)
  have h2 := Int.lt_tmod_of_pos k (show (0 : Int) < 4 by decide)
  have h : k.tmod 4 = -3 ∨ k.tmod 4 = -2 ∨ k.tmod 4 = -1 ∨ k.tmod 4 = 0 ∨ k.tmod 4 = 1 ∨ k.tmod 4 = 2 ∨ k.tmod 4 = 3 := by omega
  rcases h with h | h | h | h | h | h | h
  · exact goC h rc_5_m3 rd_5_4
  · exact goC h rc_5_m2 rd_5_6
  · exact goC h rc_5_m1 rd_5_8
  · exact goC h rc_5_0 rd_5_2
  · exact goC h rc_5_1 rd_5_4
  · exact goC h rc_5_2 rd_5_6
  · exact goC h rc_5_3 rd_5_8
theorem st_6 {m k : Int} : @Done (En2 m k) d7 (sB 6).T (sB 6).H := by
  have h1 := Int.tmod_lt_of_pos k (show (0 : Int) < 5 by decide)
  have h2 := Int.lt_tmod_of_pos k (show (0 : Int) < 5 by decide)
  have h : k.tmod 5 = -4 ∨ k.tmod 5 = -3 ∨ k.tmod 5 = -2 ∨ k.tmod 5 = -1 ∨ k.tmod 5 = 0 ∨ k.tmod 5 = 1 ∨ k.tmod 5 = 2 ∨ k.tmod 5 = 3 ∨ k.tmod 5 = 4 := by omega
  rcases h with h | h | h | h | h | h | h | h | h
  · exact goC h rc_6_m4 rd_6_4
  · exact goC h rc_6_m3 rd_6_6
  · exact goC h rc_6_m2 rd_6_8
  · exact goC h rc_6_m1 rd_6_10
  · exact goC h rc_6_0 rd_6_2
  · exact goC h rc_6_1 rd_6_4
  · exact goC h rc_6_2 rd_6_6
  · exact goC h rc_6_3 rd_6_8
  · exact goC h rc_6_4 rd_6_10
theorem st_7 {m k : Int} : @Done (En2 m k) d7 (sB 7).T (sB 7).H := by
  have h1 := Int.tmod_lt_of_pos k (show (0 : Int) < 6 by decide)
  have h2 := Int.lt_tmod_of_pos k (show (0 : Int) < 6 by decide)
  have h : k.tmod 6 = -5 ∨ k.tmod 6 = -4 ∨ k.tmod 6 = -3 ∨ k.tmod 6 = -2 ∨ k.tmod 6 = -1 ∨ k.tmod 6 = 0 ∨ k.tmod 6 = 1 ∨ k.tmod 6 = 2 ∨ k.tmod 6 = 3 ∨ k.tmod 6 = 4 ∨ k.tmod 6 = 5 := by omega
  rcases h with h | h | h | h | h | h | h | h | h | h | h
  · exact goC h rc_7_m5 rd_7_4
  · exact goC h rc_7_m4 rd_7_6
  · exact goC h rc_7_m3 rd_7_8
  · exact goC h rc_7_m2 rd_7_10
  · exact goC h rc_7_m1 rd_7_12
  · exact goC h rc_7_0 rd_7_2
  · exact goC h rc_7_1 rd_7_4
  · exact goC h rc_7_2 rd_7_6
  · exact goC h rc_7_3 rd_7_8
  · exact goC h rc_7_4 rd_7_10
  · exact goC h rc_7_5 rd_7_12
theorem st_8 {m k : Int} : @Done (En2 m k) d7 (sB 8).T (sB 8).H := by
  have h1 := Int.tmod_lt_of_pos k (show (0 : Int) < 7 by decide)
  have h2 := Int.lt_tmod_of_pos k (show (0 : Int) < 7 by decide)
  have h : k.tmod 7 = -6 ∨ k.tmod 7 = -5 ∨ k.tmod 7 = -4 ∨ k.tmod 7 = -3 ∨ k.tmod 7 = -2 ∨ k.tmod 7 = -1 ∨ k.tmod 7 = 0 ∨ k.tmod 7 = 1 ∨ k.tmod 7 = 2 ∨ k.tmod 7 = 3 ∨ k.tmod 7 = 4 ∨ k.tmod 7 = 5 ∨ k.tmod 7 = 6 := by omega
  rcases h with h | h | h | h | h | h | h | h | h | h | h | h | h
  · exact goC h rc_8_m6 rd_8_4
  · exact goC h rc_8_m5 rd_8_6
  · exact goC h rc_8_m4 rd_8_8
  · exact goC h rc_8_m3 rd_8_10
  · exact goC h rc_8_m2 rd_8_12
  · exact goC h rc_8_m1 rd_8_14
  · exact goC h rc_8_0 rd_8_2
  · exact goC h rc_8_1 rd_8_4
  · exact goC h rc_8_2 rd_8_6
  · exact goC h rc_8_3 rd_8_8
  · exact goC h rc_8_4 rd_8_10
  · exact goC h rc_8_5 rd_8_12
  · exact goC h rc_8_6 rd_8_14
theorem st_9 {m k : Int} : @Done (En2 m k) d7 (sB 9).T (sB 9).H := by
  have h1 := Int.tmod_lt_of_pos k (show (0 : Int) < 8 by decide)
  have h2 := Int.lt_tmod_of_pos k (show (0 : Int) < 8 by decide)
  have h : k.tmod 8 = -7 ∨ k.tmod 8 = -6 ∨ k.tmod 8 = -5 ∨ k.tmod 8 = -4 ∨ k.tmod 8 = -3 ∨ k.tmod 8 = -2 ∨ k.tmod 8 = -1 ∨ k.tmod 8 = 0 ∨ k.tmod 8 = 1 ∨ k.tmod 8 = 2 ∨ k.tmod 8 = 3 ∨ k.tmod 8 = 4 ∨ k.tmod 8 = 5 ∨ k.tmod 8 = 6 ∨ k.tmod 8 = 7 := by omega
  rcases h with h | h | h | h | h | h | h | h | h | h | h | h | h | h | h
  · exact goC h rc_9_m7 rd_9_4
  · exact goC h rc_9_m6 rd_9_6
  · exact goC h rc_9_m5 rd_9_8
  · exact goC h rc_9_m4 rd_9_10
  · exact goC h rc_9_m3 rd_9_12
  · exact goC h rc_9_m2 rd_9_14
  · exact goC h rc_9_m1 rd_9_16
  · exact goC h rc_9_0 rd_9_2
  · exact goC h rc_9_1 rd_9_4
  · exact goC h rc_9_2 rd_9_6
  · exact goC h rc_9_3 rd_9_8
  · exact goC h rc_9_4 rd_9_10
  · exact goC h rc_9_5 rd_9_12
  · exact goC h rc_9_6 rd_9_14
  · exact goC h rc_9_7 rd_9_16
theorem st_10 {m k : Int} : @Done (En2 m k) d7 (sB 10).T (sB 10).H := by
  have h1 := Int.tmod_lt_of_pos k (show (0 : Int) < 9 by decide)
  have h2 := Int.lt_tmod_of_pos k (show (0 : Int) < 9 by decide)
  have h : k.tmod 9 = -8 ∨ k.tmod 9 = -7 ∨ k.tmod 9 = -6 ∨ k.tmod 9 = -5 ∨ k.tmod 9 = -4 ∨ k.tmod 9 = -3 ∨ k.tmod 9 = -2 ∨ k.tmod 9 = -1 ∨ k.tmod 9 = 0 ∨ k.tmod 9 = 1 ∨ k.tmod 9 = 2 ∨ k.tmod 9 = 3 ∨ k.tmod 9 = 4 ∨ k.tmod 9 = 5 ∨ k.tmod 9 = 6 ∨ k.tmod 9 = 7 ∨ k.tmod 9 = 8 := by omega
  rcases h with h | h | h | h | h | h | h | h | h | h | h | h | h | h | h | h | h
  · exact goC h rc_10_m8 rd_10_4
  · exact goC h rc_10_m7 rd_10_6
  · exact goC h rc_10_m6 rd_10_8
  · exact goC h rc_10_m5 rd_10_10
  · exact goC h rc_10_m4 rd_10_12
  · exact goC h rc_10_m3 rd_10_14
  · exact goC h rc_10_m2 rd_10_16
  · exact goC h rc_10_m1 rd_10_18
  · exact goC h rc_10_0 rd_10_2
  · exact goC h rc_10_1 rd_10_4
  · exact goC h rc_10_2 rd_10_6
  · exact goC h rc_10_3 rd_10_8
  · exact goC h rc_10_4 rd_10_10
  · exact goC h rc_10_5 rd_10_12
  · exact goC h rc_10_6 rd_10_14
  · exact goC h rc_10_7 rd_10_16
  · exact goC h rc_10_8 rd_10_18
theorem st_11 {m k : Int} : @Done (En2 m k) d7 (sB 11).T (sB 11).H := by
  have h1 := Int.tmod_lt_of_pos k (show (0 : Int) < 10 by decide)
  have h2 := Int.lt_tmod_of_pos k (show (0 : Int) < 10 by decide)
  have h : k.tmod 10 = -9 ∨ k.tmod 10 = -8 ∨ k.tmod 10 = -7 ∨ k.tmod 10 = -6 ∨ k.tmod 10 = -5 ∨ k.tmod 10 = -4 ∨ k.tmod 10 = -3 ∨ k.tmod 10 = -2 ∨ k.tmod 10 = -1 ∨ k.tmod 10 = 0 ∨ k.tmod 10 = 1 ∨ k.tmod 10 = 2 ∨ k.tmod 10 = 3 ∨ k.tmod 10 = 4 ∨ k.tmod 10 = 5 ∨ k.tmod 10 = 6 ∨ k.tmod 10 = 7 ∨ k.tmod 10 = 8 ∨ k.tmod 10 = 9 := by omega
  rcases h with h | h | h | h | h | h | h | h | h | h | h | h | h | h | h | h | h | h | h
  · exact goC h rc_11_m9 rd_11_4
  · exact goC h rc_11_m8 rd_11_6
  · exact goC h rc_11_m7 rd_11_8
  · exact goC h rc_11_m6 rd_11_10
  · exact goC h rc_11_m5 rd_11_12
  · exact goC h rc_11_m4 rd_11_14
  · exact goC h rc_11_m3 rd_11_16
  · exact goC h rc_11_m2 rd_11_18
  · exact goC h rc_11_m1 rd_11_20
  · exact goC h rc_11_0 rd_11_2
  · exact goC h rc_11_1 rd_11_4
  · exact goC h rc_11_2 rd_11_6
  · exact goC h rc_11_3 rd_11_8
  · exact goC h rc_11_4 rd_11_10
  · exact goC h rc_11_5 rd_11_12
  · exact goC h rc_11_6 rd_11_14
  · exact goC h rc_11_7 rd_11_16
  · exact goC h rc_11_8 rd_11_18
  · exact goC h rc_11_9 rd_11_20
theorem st_12 {m k : Int} : @Done (En2 m k) d7 (sB 12).T (sB 12).H := by
  have h1 := Int.tmod_lt_of_pos k (show (0 : Int) < 11 by decide)
  have h2 := Int.lt_tmod_of_pos k (show (0 : Int) < 11 by decide)
  have h : k.tmod 11 = -10 ∨ k.tmod 11 = -9 ∨ k.tmod 11 = -8 ∨ k.tmod 11 = -7 ∨ k.tmod 11 = -6 ∨ k.tmod 11 = -5 ∨ k.tmod 11 = -4 ∨ k.tmod 11 = -3 ∨ k.tmod 11 = -2 ∨ k.tmod 11 = -1 ∨ k.tmod 11 = 0 ∨ k.tmod 11 = 1 ∨ k.tmod 11 = 2 ∨ k.tmod 11 = 3 ∨ k.tmod 11 = 4 ∨ k.tmod 11 = 5 ∨ k.tmod 11 = 6 ∨ k.tmod 11 = 7 ∨ k.tmod 11 = 8 ∨ k.tmod 11 = 9 ∨ k.tmod 11 = 10 := by omega
  rcases h with h | h | h | h | h | h | h | h | h | h | h | h | h | h | h | h | h | h | h | h | h
  · exact goC h rc_12_m10 rd_12_4
  · exact goC h rc_12_m9 rd_12_6
  · exact goC h rc_12_m8 rd_12_8
  · exact goC h rc_12_m7 rd_12_10
  · exact goC h rc_12_m6 rd_12_12
  · exact goC h rc_12_m5 rd_12_14
  · exact goC h rc_12_m4 rd_12_16
  · exact goC h rc_12_m3 rd_12_18
  · exact goC h rc_12_m2 rd_12_20
  · exact goC h rc_12_m1 rd_12_22
  · exact goC h rc_12_0 rd_12_2
  · exact goC h rc_12_1 rd_12_4
  · exact goC h rc_12_2 rd_12_6
  · exact goC h rc_12_3 rd_12_8
  · exact goC h rc_12_4 rd_12_10
  · exact goC h rc_12_5 rd_12_12
  · exact goC h rc_12_6 rd_12_14
  · exact goC h rc_12_7 rd_12_16
  · exact goC h rc_12_8 rd_12_18
  · exact goC h rc_12_9 rd_12_20
  · exact goC h rc_12_10 rd_12_22
theorem st_13 {m k : Int} : @Done (En2 m k) d7 (sB 13).T (sB 13).H := by
  have h1 := Int.tmod_lt_of_pos k (show (0 : Int) < 12 by decide)
  have h2 := Int.lt_tmod_of_pos k (show (0 : Int) < 12 by decide)
  have h : k.tmod 12 = -11 ∨ k.tmod 12 = -10 ∨ k.tmod 12 = -9 ∨ k.tmod 12 = -8 ∨ k.tmod 12 = -7 ∨ k.tmod 12 = -6 ∨ k.tmod 12 = -5 ∨ k.tmod 12 = -4 ∨ k.tmod 12 = -3 ∨ k.tmod 12 = -2 ∨ k.tmod 12 = -1 ∨ k.tmod 12 = 0 ∨ k.tmod 12 = 1 ∨ k.tmod 12 = 2 ∨ k.tmod 12 = 3 ∨ k.tmod 12 = 4 ∨ k.tmod 12 = 5 ∨ k.tmod 12 = 6 ∨ k.tmod 12 = 7 ∨ k.tmod 12 = 8 ∨ k.tmod 12 = 9 ∨ k.tmod 12 = 10 ∨ k.tmod 12 = 11 := by omega
  rcases h with h | h | h | h | h | h | h | h | h | h | h | h | h | h | h | h | h | h | h | h | h | h | h
  · exact goC h rc_13_m11 rd_13_4
  · exact goC h rc_13_m10 rd_13_6
  · exact goC h rc_13_m9 rd_13_8
  · exact goC h rc_13_m8 rd_13_10
  · exact goC h rc_13_m7 rd_13_12
  · exact goC h rc_13_m6 rd_13_14
  · exact goC h rc_13_m5 rd_13_16
  · exact goC h rc_13_m4 rd_13_18
  · exact goC h rc_13_m3 rd_13_20
  · exact goC h rc_13_m2 rd_13_22
  · exact goC h rc_13_m1 rd_13_24
  · exact goC h rc_13_0 rd_13_2
  · exact goC h rc_13_1 rd_13_4
  · exact goC h rc_13_2 rd_13_6
  · exact goC h rc_13_3 rd_13_8
  · exact goC h rc_13_4 rd_13_10
  · exact goC h rc_13_5 rd_13_12
  · exact goC h rc_13_6 rd_13_14
  · exact goC h rc_13_7 rd_13_16
  · exact goC h rc_13_8 rd_13_18
  · exact goC h rc_13_9 rd_13_20
  · exact goC h rc_13_10 rd_13_22
  · exact goC h rc_13_11 rd_13_24
theorem st_14 {m k : Int} : @Done (En2 m k) d7 (sB 14).T (sB 14).H := by
  have h1 := Int.tmod_lt_of_pos k (show (0 : Int) < 13 by decide)
  have h2 := Int.lt_tmod_of_pos k (show (0 : Int) < 13 by decide)
  have h : k.tmod 13 = -12 ∨ k.tmod 13 = -11 ∨ k.tmod 13 = -10 ∨ k.tmod 13 = -9 ∨ k.tmod 13 = -8 ∨ k.tmod 13 = -7 ∨ k.tmod 13 = -6 ∨ k.tmod 13 = -5 ∨ k.tmod 13 = -4 ∨ k.tmod 13 = -3 ∨ k.tmod 13 = -2 ∨ k.tmod 13 = -1 ∨ k.tmod 13 = 0 ∨ k.tmod 13 = 1 ∨ k.tmod 13 = 2 ∨ k.tmod 13 = 3 ∨ k.tmod 13 = 4 ∨ k.tmod 13 = 5 ∨ k.tmod 13 = 6 ∨ k.tmod 13 = 7 ∨ k.tmod 13 = 8 ∨ k.tmod 13 = 9 ∨ k.tmod 13 = 10 ∨ k.tmod 13 = 11 ∨ k.tmod 13 = 12 := by omega
  rcases h with h | h | h | h | h | h | h | h | h | h | h | h | h | h | h | h | h | h | h | h | h | h | h | h | h
  · exact goC h rc_14_m12 rd_14_4
  · exact goC h rc_14_m11 rd_14_6
  · exact goC h rc_14_m10 rd_14_8
  · exact goC h rc_14_m9 rd_14_10
  · exact goC h rc_14_m8 rd_14_12
  · exact goC h rc_14_m7 rd_14_14
  · exact goC h rc_14_m6 rd_14_16
  · exact goC h rc_14_m5 rd_14_18
  · exact goC h rc_14_m4 rd_14_20
  · exact goC h rc_14_m3 rd_14_22
  · exact goC h rc_14_m2 rd_14_24
  · exact goC h rc_14_m1 rd_14_26
  · exact goC h rc_14_0 rd_14_2
  · exact goC h rc_14_1 rd_14_4
  · exact goC h rc_14_2 rd_14_6
  · exact goC h rc_14_3 rd_14_8
  · exact goC h rc_14_4 rd_14_10
  · exact goC h rc_14_5 rd_14_12
  · exact goC h rc_14_6 rd_14_14
  · exact goC h rc_14_7 rd_14_16
  · exact goC h rc_14_8 rd_14_18
  · exact goC h rc_14_9 rd_14_20
  · exact goC h rc_14_10 rd_14_22
  · exact goC h rc_14_11 rd_14_24
  · exact goC h rc_14_12 rd_14_26
theorem st_15 {m k : Int} : @Done (En2 m k) d7 (sB 15).T (sB 15).H := by
  have h1 := Int.tmod_lt_of_pos k (show (0 : Int) < 14 by decide)
  have h2 := Int.lt_tmod_of_pos k (show (0 : Int) < 14 by decide)
  have h : k.tmod 14 = -13 ∨ k.tmod 14 = -12 ∨ k.tmod 14 = -11 ∨ k.tmod 14 = -10 ∨ k.tmod 14 = -9 ∨ k.tmod 14 = -8 ∨ k.tmod 14 = -7 ∨ k.tmod 14 = -6 ∨ k.tmod 14 = -5 ∨ k.tmod 14 = -4 ∨ k.tmod 14 = -3 ∨ k.tmod 14 = -2 ∨ k.tmod 14 = -1 ∨ k.tmod 14 = 0 ∨ k.tmod 14 = 1 ∨ k.tmod 14 = 2 ∨ k.tmod 14 = 3 ∨ k.tmod 14 = 4 ∨ k.tmod 14 = 5 ∨ k.tmod 14 = 6 ∨ k.tmod 14 = 7 ∨ k.tmod 14 = 8 ∨ k.tmod 14 = 9 ∨ k.tmod 14 = 10 ∨ k.tmod 14 = 11 ∨ k.tmod 14 = 12 ∨ k.tmod 14 = 13 := by omega
  rcases h with h | h | h | h | h | h | h | h | h | h | h | h | h | h | h | h | h | h | h | h | h | h | h | h | h | h | h
  · exact goC h rc_15_m13 rd_15_4
  · exact goC h rc_15_m12 rd_15_6
  · exact goC h rc_15_m11 rd_15_8
  · exact goC h rc_15_m10 rd_15_10
  · exact goC h rc_15_m9 rd_15_12
  · exact goC h rc_15_m8 rd_15_14
  · exact goC h rc_15_m7 rd_15_16
  · exact goC h rc_15_m6 rd_15_18
  · exact goC h rc_15_m5 rd_15_20
  · exact goC h rc_15_m4 rd_15_22
  · exact goC h rc_15_m3 rd_15_24
  · exact goC h rc_15_m2 rd_15_26
  · exact goC h rc_15_m1 rd_15_28
  · exact goC h rc_15_0 rd_15_2
  · exact goC h rc_15_1 rd_15_4
  · exact goC h rc_15_2 rd_15_6
  · exact goC h rc_15_3 rd_15_8
  · exact goC h rc_15_4 rd_15_10
  · exact goC h rc_15_5 rd_15_12
  · exact goC h rc_15_6 rd_15_14
  · exact goC h rc_15_7 rd_15_16
  · exact goC h rc_15_8 rd_15_18
  · exact goC h rc_15_9 rd_15_20
  · exact goC h rc_15_10 rd_15_22
  · exact goC h rc_15_11 rd_15_24
  · exact goC h rc_15_12 rd_15_26
  · exact goC h rc_15_13 rd_15_28
theorem st_16 {m k : Int} : @Done (En2 m k) d7 (sB 16).T (sB 16).H := by
  have h1 := Int.tmod_lt_of_pos k (show (0 : Int) < 15 by decide)
  have h2 := Int.lt_tmod_of_pos k (show (0 : Int) < 15 by decide)
  have h : k.tmod 15 = -14 ∨ k.tmod 15 = -13 ∨ k.tmod 15 = -12 ∨ k.tmod 15 = -11 ∨ k.tmod 15 = -10 ∨ k.tmod 15 = -9 ∨ k.tmod 15 = -8 ∨ k.tmod 15 = -7 ∨ k.tmod 15 = -6 ∨ k.tmod 15 = -5 ∨ k.tmod 15 = -4 ∨ k.tmod 15 = -3 ∨ k.tmod 15 = -2 ∨ k.tmod 15 = -1 ∨ k.tmod 15 = 0 ∨ k.tmod 15 = 1 ∨ k.tmod 15 = 2 ∨ k.tmod 15 = 3 ∨ k.tmod 15 = 4 ∨ k.tmod 15 = 5 ∨ k.tmod 15 = 6 ∨ k.tmod 15 = 7 ∨ k.tmod 15 = 8 ∨ k.tmod 15 = 9 ∨ k.tmod 15 = 10 ∨ k.tmod 15 = 11 ∨ k.tmod 15 = 12 ∨ k.tmod 15 = 13 ∨ k.tmod 15 = 14 := by omega
  rcases h with h | h | h | h | h | h | h | h | h | h | h | h | h | h | h | h | h | h | h | h | h | h | h | h | h | h | h | h | h
  · exact goC h rc_16_m14 rd_16_4
  · exact goC h rc_16_m13 rd_16_6
  · exact goC h rc_16_m12 rd_16_8
  · exact goC h rc_16_m11 rd_16_10
  · exact goC h rc_16_m10 rd_16_12
  · exact goC h rc_16_m9 rd_16_14
  · exact goC h rc_16_m8 rd_16_16
  · exact goC h rc_16_m7 rd_16_18
  · exact goC h rc_16_m6 rd_16_20
  · exact goC h rc_16_m5 rd_16_22
  · exact goC h rc_16_m4 rd_16_24
  · exact goC h rc_16_m3 rd_16_26
  · exact goC h rc_16_m2 rd_16_28
  · exact goC h rc_16_m1 rd_16_30
  · exact goC h rc_16_0 rd_16_2
  · exact goC h rc_16_1 rd_16_4
  · exact goC h rc_16_2 rd_16_6
  · exact goC h rc_16_3 rd_16_8
  · exact goC h rc_16_4 rd_16_10
  · exact goC h rc_16_5 rd_16_12
  · exact goC h rc_16_6 rd_16_14
  · exact goC h rc_16_7 rd_16_16
  · exact goC h rc_16_8 rd_16_18
  · exact goC h rc_16_9 rd_16_20
  · exact goC h rc_16_10 rd_16_22
  · exact goC h rc_16_11 rd_16_24
  · exact goC h rc_16_12 rd_16_26
  · exact goC h rc_16_13 rd_16_28
  · exact goC h rc_16_14 rd_16_30
theorem st_17 {m k : Int} : @Done (En2 m k) d7 (sB 17).T (sB 17).H := by
  have h1 := Int.tmod_lt_of_pos k (show (0 : Int) < 16 by decide)
  have h2 := Int.lt_tmod_of_pos k (show (0 : Int) < 16 by decide)
  have h : k.tmod 16 = -15 ∨ k.tmod 16 = -14 ∨ k.tmod 16 = -13 ∨ k.tmod 16 = -12 ∨ k.tmod 16 = -11 ∨ k.tmod 16 = -10 ∨ k.tmod 16 = -9 ∨ k.tmod 16 = -8 ∨ k.tmod 16 = -7 ∨ k.tmod 16 = -6 ∨ k.tmod 16 = -5 ∨ k.tmod 16 = -4 ∨ k.tmod 16 = -3 ∨ k.tmod 16 = -2 ∨ k.tmod 16 = -1 ∨ k.tmod 16 = 0 ∨ k.tmod 16 = 1 ∨ k.tmod 16 = 2 ∨ k.tmod 16 = 3 ∨ k.tmod 16 = 4 ∨ k.tmod 16 = 5 ∨ k.tmod 16 = 6 ∨ k.tmod 16 = 7 ∨ k.tmod 16 = 8 ∨ k.tmod 16 = 9 ∨ k.tmod 16 = 10 ∨ k.tmod 16 = 11 ∨ k.tmod 16 = 12 ∨ k.tmod 16 = 13 ∨ k.tmod 16 = 14 ∨ k.tmod 16 = 15 := by omega
  rcases h with h | h | h | h | h | h | h | h | h | h | h | h | h | h | h | h | h | h | h | h | h | h | h | h | h | h | h | h | h | h | h
  · exact goC h rc_17_m15 rd_17_4
  · exact goC h rc_17_m14 rd_17_6
  · exact goC h rc_17_m13 rd_17_8
  · exact goC h rc_17_m12 rd_17_10
  · exact goC h rc_17_m11 rd_17_12
  · exact goC h rc_17_m10 rd_17_14
  · exact goC h rc_17_m9 rd_17_16
  · exact goC h rc_17_m8 rd_17_18
  · exact goC h rc_17_m7 rd_17_20
  · exact goC h rc_17_m6 rd_17_22
  · exact goC h rc_17_m5 rd_17_24
  · exact goC h rc_17_m4 rd_17_26
  · exact goC h rc_17_m3 rd_17_28
  · exact goC h rc_17_m2 rd_17_30
  · exact goC h rc_17_m1 rd_17_32
  · exact goC h rc_17_0 rd_17_2
  · exact goC h rc_17_1 rd_17_4
  · exact goC h rc_17_2 rd_17_6
  · exact goC h rc_17_3 rd_17_8
  · exact goC h rc_17_4 rd_17_10
  · exact goC h rc_17_5 rd_17_12
  · exact goC h rc_17_6 rd_17_14
  · exact goC h rc_17_7 rd_17_16
  · exact goC h rc_17_8 rd_17_18
  · exact goC h rc_17_9 rd_17_20
  · exact goC h rc_17_10 rd_17_22
  · exact goC h rc_17_11 rd_17_24
  · exact goC h rc_17_12 rd_17_26
  · exact goC h rc_17_13 rd_17_28
  · exact goC h rc_17_14 rd_17_30
  · exact goC h rc_17_15 rd_17_32
theorem st_18 {m k : Int} : @Done (En2 m k) d7 (sB 18).T (sB 18).H := by
  have h1 := Int.tmod_lt_of_pos k (show (0 : Int) < 17 by decide)
  have h2 := Int.lt_tmod_of_pos k (show (0 : Int) < 17 by decide)
  have h : k.tmod 17 = -16 ∨ k.tmod 17 = -15 ∨ k.tmod 17 = -14 ∨ k.tmod 17 = -13 ∨ k.tmod 17 = -12 ∨ k.tmod 17 = -11 ∨ k.tmod 17 = -10 ∨ k.tmod 17 = -9 ∨ k.tmod 17 = -8 ∨ k.tmod 17 = -7 ∨ k.tmod 17 = -6 ∨ k.tmod 17 = -5 ∨ k.tmod 17 = -4 ∨ k.tmod 17 = -3 ∨ k.tmod 17 = -2 ∨ k.tmod 17 = -1 ∨ k.tmod 17 = 0 ∨ k.tmod 17 = 1 ∨ k.tmod 17 = 2 ∨ k.tmod 17 = 3 ∨ k.tmod 17 = 4 ∨ k.tmod 17 = 5 ∨ k.tmod 17 = 6 ∨ k.tmod 17 = 7 ∨ k.tmod 17 = 8 ∨ k.tmod 17 = 9 ∨ k.tmod 17 = 10 ∨ k.tmod 17 = 11 ∨ k.tmod 17 = 12 ∨ k.tmod 17 = 13 ∨ k.tmod 17 = 14 ∨ k.tmod 17 = 15 ∨ k.tmod 17 = 16 := by omega
  rcases h with h | h | h | h | h | h | h | h | h | h | h | h | h | h | h | h | h | h | h | h | h | h | h | h | h | h | h | h | h | h | h | h | h
  · exact goC h rc_18_m16 rd_18_4
  · exact goC h rc_18_m15 rd_18_6
  · exact goC h rc_18_m14 rd_18_8
  · exact goC h rc_18_m13 rd_18_10
  · exact goC h rc_18_m12 rd_18_12
  · exact goC h rc_18_m11 rd_18_14
  · exact goC h rc_18_m10 rd_18_16
  · exact goC h rc_18_m9 rd_18_18
  · exact goC h rc_18_m8 rd_18_20
  · exact goC h rc_18_m7 rd_18_22
  · exact goC h rc_18_m6 rd_18_24
  · exact goC h rc_18_m5 rd_18_26
  · exact goC h rc_18_m4 rd_18_28
  · exact goC h rc_18_m3 rd_18_30
  · exact goC h rc_18_m2 rd_18_32
  · exact goC h rc_18_m1 rd_18_34
  · exact goC h rc_18_0 rd_18_2
  · exact goC h rc_18_1 rd_18_4
  · exact goC h rc_18_2 rd_18_6
  · exact goC h rc_18_3 rd_18_8
  · exact goC h rc_18_4 rd_18_10
  · exact goC h rc_18_5 rd_18_12
  · exact goC h rc_18_6 rd_18_14
  · exact goC h rc_18_7 rd_18_16
  · exact goC h rc_18_8 rd_18_18
  · exact goC h rc_18_9 rd_18_20
  · exact goC h rc_18_10 rd_18_22
  · exact goC h rc_18_11 rd_18_24
  · exact goC h rc_18_12 rd_18_26
  · exact goC h rc_18_13 rd_18_28
  · exact goC h rc_18_14 rd_18_30
  · exact goC h rc_18_15 rd_18_32
  · exact goC h rc_18_16 rd_18_34
theorem st_19 {m k : Int} : @Done (En2 m k) d7 (sB 19).T (sB 19).H := by
  have h1 := Int.tmod_lt_of_pos k (show (0 : Int) < 18 by decide)
  have h2 := Int.lt_tmod_of_pos k (show (0 : Int) < 18 by decide)
  have h : k.tmod 18 = -17 ∨ k.tmod 18 = -16 ∨ k.tmod 18 = -15 ∨ k.tmod 18 = -14 ∨ k.tmod 18 = -13 ∨ k.tmod 18 = -12 ∨ k.tmod 18 = -11 ∨ k.tmod 18 = -10 ∨ k.tmod 18 = -9 ∨ k.tmod 18 = -8 ∨ k.tmod 18 = -7 ∨ k.tmod 18 = -6 ∨ k.tmod 18 = -5 ∨ k.tmod 18 = -4 ∨ k.tmod 18 = -3 ∨ k.tmod 18 = -2 ∨ k.tmod 18 = -1 ∨ k.tmod 18 = 0 ∨ k.tmod 18 = 1 ∨ k.tmod 18 = 2 ∨ k.tmod 18 = 3 ∨ k.tmod 18 = 4 ∨ k.tmod 18 = 5 ∨ k.tmod 18 = 6 ∨ k.tmod 18 = 7 ∨ k.tmod 18 = 8 ∨ k.tmod 18 = 9 ∨ k.tmod 18 = 10 ∨ k.tmod 18 = 11 ∨ k.tmod 18 = 12 ∨ k.tmod 18 = 13 ∨ k.tmod 18 = 14 ∨ k.tmod 18 = 15 ∨ k.tmod 18 = 16 ∨ k.tmod 18 = 17 := by omega
  rcases h with h | h | h | h | h | h | h | h | h | h | h | h | h | h | h | h | h | h | h | h | h | h | h | h | h | h | h | h | h | h | h | h | h | h | h
  · exact goC h rc_19_m17 rd_19_4
  · exact goC h rc_19_m16 rd_19_6
  · exact goC h rc_19_m15 rd_19_8
  · exact goC h rc_19_m14 rd_19_10
  · exact goC h rc_19_m13 rd_19_12
  · exact goC h rc_19_m12 rd_19_14
  · exact goC h rc_19_m11 rd_19_16
  · exact goC h rc_19_m10 rd_19_18
  · exact goC h rc_19_m9 rd_19_20
  · exact goC h rc_19_m8 rd_19_22
  · exact goC h rc_19_m7 rd_19_24
  · exact goC h rc_19_m6 rd_19_26
  · exact goC h rc_19_m5 rd_19_28
  · exact goC h rc_19_m4 rd_19_30
  · exact goC h rc_19_m3 rd_19_32
  · exact goC h rc_19_m2 rd_19_34
  · exact goC h rc_19_m1 rd_19_36
  · exact goC h rc_19_0 rd_19_2
  · exact goC h rc_19_1 rd_19_4
  · exact goC h rc_19_2 rd_19_6
  · exact goC h rc_19_3 rd_19_8
  · exact goC h rc_19_4 rd_19_10
  · exact goC h rc_19_5 rd_19_12
  · exact goC h rc_19_6 rd_19_14
  · exact goC h rc_19_7 rd_19_16
  · exact goC h rc_19_8 rd_19_18
  · exact goC h rc_19_9 rd_19_20
  · exact goC h rc_19_10 rd_19_22
  · exact goC h rc_19_11 rd_19_24
  · exact goC h rc_19_12 rd_19_26
  · exact goC h rc_19_13 rd_19_28
  · exact goC h rc_19_14 rd_19_30
  · exact goC h rc_19_15 rd_19_32
  · exact goC h rc_19_16 rd_19_34
  · exact goC h rc_19_17 rd_19_36
theorem st_20 {m k : Int} : @Done (En2 m k) d7 (sB 20).T (sB 20).H := by
  have h1 := Int.tmod_lt_of_pos k (show (0 : Int) < 19 by decide)
  have h2 := Int.lt_tmod_of_pos k (show (0 : Int) < 19 by decide)
  have h : k.tmod 19 = -18 ∨ k.tmod 19 = -17 ∨ k.tmod 19 = -16 ∨ k.tmod 19 = -15 ∨ k.tmod 19 = -14 ∨ k.tmod 19 = -13 ∨ k.tmod 19 = -12 ∨ k.tmod 19 = -11 ∨ k.tmod 19 = -10 ∨ k.tmod 19 = -9 ∨ k.tmod 19 = -8 ∨ k.tmod 19 = -7 ∨ k.tmod 19 = -6 ∨ k.tmod 19 = -5 ∨ k.tmod 19 = -4 ∨ k.tmod 19 = -3 ∨ k.tmod 19 = -2 ∨ k.tmod 19 = -1 ∨ k.tmod 19 = 0 ∨ k.tmod 19 = 1 ∨ k.tmod 19 = 2 ∨ k.tmod 19 = 3 ∨ k.tmod 19 = 4 ∨ k.tmod 19 = 5 ∨ k.tmod 19 = 6 ∨ k.tmod 19 = 7 ∨ k.tmod 19 = 8 ∨ k.tmod 19 = 9 ∨ k.tmod 19 = 10 ∨ k.tmod 19 = 11 ∨ k.tmod 19 = 12 ∨ k.tmod 19 = 13 ∨ k.tmod 19 = 14 ∨ k.tmod 19 = 15 ∨ k.tmod 19 = 16 ∨ k.tmod 19 = 17 ∨ k.tmod 19 = 18 := by omega
  rcases h with h | h | h | h | h | h | h | h | h | h | h | h | h | h | h | h | h | h | h | h | h | h | h | h | h | h | h | h | h | h | h | h | h | h | h | h | h
  · exact goC h rc_20_m18 rd_20_4
  · exact goC h rc_20_m17 rd_20_6
  · exact goC h rc_20_m16 rd_20_8
  · exact goC h rc_20_m15 rd_20_10
  · exact goC h rc_20_m14 rd_20_12
  · exact goC h rc_20_m13 rd_20_14
  · exact goC h rc_20_m12 rd_20_16
  · exact goC h rc_20_m11 rd_20_18
  · exact goC h rc_20_m10 rd_20_20
  · exact goC h rc_20_m9 rd_20_22
  · exact goC h rc_20_m8 rd_20_24
  · exact goC h rc_20_m7 rd_20_26
  · exact goC h rc_20_m6 rd_20_28
  · exact goC h rc_20_m5 rd_20_30
  · exact goC h rc_20_m4 rd_20_32
  · exact goC h rc_20_m3 rd_20_34
  · exact goC h rc_20_m2 rd_20_36
  · exact goC h rc_20_m1 rd_20_38
  · exact goC h rc_20_0 rd_20_2
  · exact goC h rc_20_1 rd_20_4
  · exact goC h rc_20_2 rd_20_6
  · exact goC h rc_20_3 rd_20_8
  · exact goC h rc_20_4 rd_20_10
  · exact goC h rc_20_5 rd_20_12
  · exact goC h rc_20_6 rd_20_14
  · exact goC h rc_20_7 rd_20_16
  · exact goC h rc_20_8 rd_20_18
  · exact goC h rc_20_9 rd_20_20
  · exact goC h rc_20_10 rd_20_22
  · exact goC h rc_20_11 rd_20_24
  · exact goC h rc_20_12 rd_20_26
  · exact goC h rc_20_13 rd_20_28
  · exact goC h rc_20_14 rd_20_30
  · exact goC h rc_20_15 rd_20_32
  · exact goC h rc_20_16 rd_20_34
  · exact goC h rc_20_17 rd_20_36
  · exact goC h rc_20_18 rd_20_38
end Go.Proofs.Ytfldgecpfobjmaa.Ev
