/-
  A helper by its number: a contract over the program's own text.
-/
import Derived.Test.YtknmpllnclkghaaTb
import Derived.Laws.ResultCell
namespace Go.Proofs.Ytknmpllnclkghaa
open Go.ChangeShapes Go.WideShapes Go.ChangeAt Go.RowKit
set_option linter.unusedVariables false
set_option linter.unusedSimpArgs false
set_option maxRecDepth 100000 in
theorem row_ix (n : Nat) (h1 : 1 ≤ n) (h2 : n ≤ 28) : ∀ w, (Instr.index 39 (.agg tabC) (.int .i64 (n : Int))).run Try.prog w = .ok (.agg (rowC n).toArray) w := by
  match n, h1, h2 with
  | 1, _, _ => exact fun _ => by kernel_rfl
  | 2, _, _ => exact fun _ => by kernel_rfl
  | 3, _, _ => exact fun _ => by kernel_rfl
  | 4, _, _ => exact fun _ => by kernel_rfl
  | 5, _, _ => exact fun _ => by kernel_rfl
  | 6, _, _ => exact fun _ => by kernel_rfl
  | 7, _, _ => exact fun _ => by kernel_rfl
  | 8, _, _ => exact fun _ => by kernel_rfl
  | 9, _, _ => exact fun _ => by kernel_rfl
  | 10, _, _ => exact fun _ => by kernel_rfl
  | 11, _, _ => exact fun _ => by kernel_rfl
  | 12, _, _ => exact fun _ => by kernel_rfl
  | 13, _, _ => exact fun _ => by kernel_rfl
  | 14, _, _ => exact fun _ => by kernel_rfl
  | 15, _, _ => exact fun _ => by kernel_rfl
  | 16, _, _ => exact fun _ => by kernel_rfl
  | 17, _, _ => exact fun _ => by kernel_rfl
  | 18, _, _ => exact fun _ => by kernel_rfl
  | 19, _, _ => exact fun _ => by kernel_rfl
  | 20, _, _ => exact fun _ => by kernel_rfl
  | 21, _, _ => exact fun _ => by kernel_rfl
  | 22, _, _ => exact fun _ => by kernel_rfl
  | 23, _, _ => exact fun _ => by kernel_rfl
  | 24, _, _ => exact fun _ => by kernel_rfl
  | 25, _, _ => exact fun _ => by kernel_rfl
  | 26, _, _ => exact fun _ => by kernel_rfl
  | 27, _, _ => exact fun _ => by kernel_rfl
  | 28, _, _ => exact fun _ => by kernel_rfl
  | n + 29, _, h => omega
set_option maxRecDepth 100000 in
theorem row_size (n : Nat) (h : n ≤ 28) : (rowC n).toArray.size = 10 := by
  match n, h with
  | 0, _ => rfl
  | 1, _ => rfl
  | 2, _ => rfl
  | 3, _ => rfl
  | 4, _ => rfl
  | 5, _ => rfl
  | 6, _ => rfl
  | 7, _ => rfl
  | 8, _ => rfl
  | 9, _ => rfl
  | 10, _ => rfl
  | 11, _ => rfl
  | 12, _ => rfl
  | 13, _ => rfl
  | 14, _ => rfl
  | 15, _ => rfl
  | 16, _ => rfl
  | 17, _ => rfl
  | 18, _ => rfl
  | 19, _ => rfl
  | 20, _ => rfl
  | 21, _ => rfl
  | 22, _ => rfl
  | 23, _ => rfl
  | 24, _ => rfl
  | 25, _ => rfl
  | 26, _ => rfl
  | 27, _ => rfl
  | 28, _ => rfl
  | n + 29, h => omega
set_option maxRecDepth 100000 in
theorem row_one (n : Nat) (h : n ≤ 28) : ((rowC n).toArray.all fun x => x.oneCell') = true := by
  match n, h with
  | 0, _ => simp [rowC, Value.oneCell']
  | 1, _ => simp [rowC, Value.oneCell']
  | 2, _ => simp [rowC, Value.oneCell']
  | 3, _ => simp [rowC, Value.oneCell']
  | 4, _ => simp [rowC, Value.oneCell']
  | 5, _ => simp [rowC, Value.oneCell']
  | 6, _ => simp [rowC, Value.oneCell']
  | 7, _ => simp [rowC, Value.oneCell']
  | 8, _ => simp [rowC, Value.oneCell']
  | 9, _ => simp [rowC, Value.oneCell']
  | 10, _ => simp [rowC, Value.oneCell']
  | 11, _ => simp [rowC, Value.oneCell']
  | 12, _ => simp [rowC, Value.oneCell']
  | 13, _ => simp [rowC, Value.oneCell']
  | 14, _ => simp [rowC, Value.oneCell']
  | 15, _ => simp [rowC, Value.oneCell']
  | 16, _ => simp [rowC, Value.oneCell']
  | 17, _ => simp [rowC, Value.oneCell']
  | 18, _ => simp [rowC, Value.oneCell']
  | 19, _ => simp [rowC, Value.oneCell']
  | 20, _ => simp [rowC, Value.oneCell']
  | 21, _ => simp [rowC, Value.oneCell']
  | 22, _ => simp [rowC, Value.oneCell']
  | 23, _ => simp [rowC, Value.oneCell']
  | 24, _ => simp [rowC, Value.oneCell']
  | 25, _ => simp [rowC, Value.oneCell']
  | 26, _ => simp [rowC, Value.oneCell']
  | 27, _ => simp [rowC, Value.oneCell']
  | 28, _ => simp [rowC, Value.oneCell']
  | n + 29, h => omega
theorem info25 : (Try.prog.info? 25).map (·.size) = some 10 := by kernel_rfl
theorem res2 {w : World} {tmps : Array Value} {u : Value} {g : Nat} {R : Array Value} (h2 : tmps.getD 2 undef = .pointer (some ⟨g, 0, none⟩)) (h3 : tmps.getD 3 undef = u) (hg : w.heap[g]? = some (.cells R 25 (0, 0))) (hR : R.size = 10) :
    (results Try.f6 tmps).run Try.prog w = .ok (.tuple #[.agg R, u]) w := by
  rw [results_cell_tmp (show Try.f6.results = #[.cell 2 25, .tmp 3] from by kernel_rfl), h2, h3]
  simp only [asAddr]
  simp [Result.andThen, run_loadVar_row w g 25 25 R (0, 0) _ hg Try.underlying25 rfl (by rw [hR]; exact info25)]
set_option maxHeartbeats 1000000 in
set_option maxRecDepth 100000 in
theorem of_yes (n : Nat) (h1 : 1 ≤ n) (h2 : n ≤ 28) (w : World) : Calls Try.prog 6 #[.int .i64 (n : Int)] w fun e w' => e = .returned (.tuple #[.agg (rowC n).toArray, .int .i64 0]) ∧ Below w.heap.size w w' := by
  have hx := row_ix n h1 h2
  have hR := row_size n h2
  have hO := Lib.hid (row_one n h2)
  generalize (rowC n).toArray = R at *
  have HR := Lib.hid hR
  clear hR
  have t1 : decide ((n : Int) < 1) = false := by simp; omega
  have t2 : decide (28 < (n : Int)) = false := by simp; omega
  clear h1 h2
  go_enter Try.func6, Try.ntmps6
  have hB := Lib.hid (heap_alloc_new w (.cells #[.string ⟨#[]⟩, .int .i64 0, .int .i64 0, .int .i64 0, .int .i64 0, .int .i64 0, .int .i64 0, .int .i64 0, .bool false, .bool false] 25))
  go_wp2_with (first
    | ((with_reducible refine (table_any _).mono ?_); rintro e w1 ⟨rfl, g1⟩; have hb := Lib.hid ((g1.block w.heap.size (by simp)).trans hB.out); have kb := Lib.hid (Below.trans ((Below.refl _ _).alloc (Nat.le_refl _) _) (g1.mono (by simp)) : Below w.heap.size w w1); clear g1)
    | ((with_reducible refine wpList_store_row (o := ⟨none, .store 25 (.tmp 2) (.tmp 13), _, _, _, _⟩) rfl 25 (.tmp 2) (.tmp 13) rfl w.heap.size R ?h1 ?h2 25 #[.string ⟨#[]⟩, .int .i64 0, .int .i64 0, .int .i64 0, .int .i64 0, .int .i64 0, .int .i64 0, .int .i64 0, .bool false, .bool false] hb.out ?h4 ?h5 hO.out ?h7); (case h1 => rfl); (case h2 => rfl); (case h4 => (rw [HR.out]; exact info25)); (case h5 => (rw [HR.out]; rfl)); (generalize hW : World.setRow _ _ _ = W9; have hb9 := Lib.hid (show W9.heap[w.heap.size]? = some (.cells R 25 (0, 0)) by rw [← hW]; exact setRow_heap _ _ _ _ _ _ hb.out); have k9 := Lib.hid (show Below w.heap.size w W9 by rw [← hW]; exact below_setRow kb.out (Nat.le_refl _) _); clear hW hb kb)))
  refine bodyPost_ret (v := .tuple #[.agg R, .int .i64 0]) (res2 (g := w.heap.size) rfl rfl hb9.out HR.out) rfl ⟨rfl, k9.out⟩
set_option maxHeartbeats 1000000 in
set_option maxRecDepth 100000 in
theorem of_no (n : Int) (h : n < 1 ∨ 28 < n) (w : World) : Calls Try.prog 6 #[.int .i64 n] w fun e w' => e = .returned (.tuple #[.agg #[.string ⟨#[]⟩, .int .i64 0, .int .i64 0, .int .i64 0, .int .i64 0, .int .i64 0, .int .i64 0, .int .i64 0, .bool false, .bool false], .int .i64 130]) ∧ Below w.heap.size w w' := by
  rcases h with h | h
  · have t1 : decide (n < 1) = true := by simpa using h
    go_enter Try.func6, Try.ntmps6
    go_wp2
    refine bodyPost_ret (v := .tuple #[.agg #[.string ⟨#[]⟩, .int .i64 0, .int .i64 0, .int .i64 0, .int .i64 0, .int .i64 0, .int .i64 0, .int .i64 0, .bool false, .bool false], .int .i64 130]) (res2 (g := w.heap.size) rfl rfl (by first | exact heap_alloc_new w _ | (simp; done)) rfl) rfl ⟨rfl, by go_grown⟩
  · have t1 : decide (n < 1) = false := by simp; omega
    have t2 : decide (28 < n) = true := by simpa using h
    clear h
    go_enter Try.func6, Try.ntmps6
    go_wp2
    refine bodyPost_ret (v := .tuple #[.agg #[.string ⟨#[]⟩, .int .i64 0, .int .i64 0, .int .i64 0, .int .i64 0, .int .i64 0, .int .i64 0, .int .i64 0, .bool false, .bool false], .int .i64 130]) (res2 (g := w.heap.size) rfl rfl (by first | exact heap_alloc_new w _ | (simp; done)) rfl) rfl ⟨rfl, by go_grown⟩
end Go.Proofs.Ytknmpllnclkghaa
