/-
  The document's helper by its number: a walk over the program's own text.
-/
import Derived.Test.YtknmpllnclkghaaRf0
namespace Go.Proofs.Ytknmpllnclkghaa
open Go.ChangeShapes Go.WideShapes Go.ChangeAt Go.RowKit
set_option linter.unusedVariables false
set_option linter.unusedSimpArgs false
set_option maxHeartbeats 4000000 in
set_option maxRecDepth 100000 in
theorem rof_lo (n : Int) (h : n < 1) (w : World) : Calls Try.prog 7 #[.int .i64 n] w fun e w' => e = .returned (.tuple #[.agg #[.string ⟨#[]⟩, .int .i64 0, .int .i64 0, .int .i64 0, .int .i64 0, .int .i64 0, .int .i64 0, .int .i64 0, .bool false, .bool false], .int .i64 130]) ∧ Below w.heap.size w w' := by
  have H := Lib.hid h
  clear h
  go_enter Try.func7, Try.ntmps7
  go_upto_region 2 with fail
  try simp only [List.append_eq, List.cons_append, List.nil_append]
  go_upto_region 4 with (first
    | ((with_reducible refine wpList_buildTo (o := ⟨some 69, .build 41 _, _, _, _, _⟩) rfl 41 _ rfl (some 69) rfl refC ?hf ?hb); (case hf => kernel_rfl); (simp only [Act.put, List.setIfInBounds_toArray, List.set_cons_zero, List.set_cons_succ]))
    | ((with_reducible refine Great.wpList_allocTo (o := ⟨some 6, .alloc 41, _, _, _, _⟩) rfl (some 6) rfl (.pointer (some ⟨w.heap.size + 1, 0, none⟩)) (.cells zeroR 41) ?h0 ?h9); (case h0 => (rw [show w.heap.size + 1 = (w.alloc (.cells #[.string ⟨#[]⟩, .int .i64 0, .int .i64 0, .int .i64 0, .int .i64 0, .int .i64 0, .int .i64 0, .int .i64 0, .bool false, .bool false] 25)).heap.size from by simp]; kernel_rfl)); (simp only [Act.put, List.setIfInBounds_toArray, List.set_cons_zero, List.set_cons_succ]))
    | ((with_reducible refine wpList_store_row (o := ⟨none, .store 41 (.tmp 6) (.tmp 69), _, _, _, _⟩) rfl 41 (.tmp 6) (.tmp 69) rfl (w.heap.size + 1) refC ?h1 ?h2 41 zeroR (heap_at _ _ _ _) ?h4 ?h5 ref_one ?h7); (case h1 => rfl); (case h2 => rfl); (case h4 => kernel_rfl); (case h5 => kernel_rfl); (rw [alloc2_setRow]); (simp only [Act.put, List.setIfInBounds_toArray, List.set_cons_zero, List.set_cons_succ])))
  have hb := Lib.hid (((Below.refl _ _).alloc (Nat.le_refl _) (.cells refC 41) : Below _ (w.alloc (.cells #[.string ⟨#[]⟩, .int .i64 0, .int .i64 0, .int .i64 0, .int .i64 0, .int .i64 0, .int .i64 0, .int .i64 0, .bool false, .bool false] 25)) _).block w.heap.size (by simp)|>.trans (heap_alloc_new w _))
  have kb : Hid (Below w.heap.size w ((w.alloc (.cells #[.string ⟨#[]⟩, .int .i64 0, .int .i64 0, .int .i64 0, .int .i64 0, .int .i64 0, .int .i64 0, .int .i64 0, .bool false, .bool false] 25)).alloc (.cells refC 41))) := Lib.hid (((Below.refl _ _).alloc (Nat.le_refl _) _).alloc (by simp) _)
  generalize (w.alloc (.cells #[.string ⟨#[]⟩, .int .i64 0, .int .i64 0, .int .i64 0, .int .i64 0, .int .i64 0, .int .i64 0, .int .i64 0, .bool false, .bool false] 25)).alloc (.cells refC 41) = W at *
  have t1 : decide (n < 1) = true := by simpa using H.out
  go_wp2_with ((with_reducible refine wpList_store_row (o := ⟨none, .store 25 (.tmp 2) (.tmp 76), _, _, _, _⟩) rfl 25 (.tmp 2) (.tmp 76) rfl w.heap.size #[.string ⟨#[]⟩, .int .i64 0, .int .i64 0, .int .i64 0, .int .i64 0, .int .i64 0, .int .i64 0, .int .i64 0, .bool false, .bool false] ?jh1 ?jh2 25 #[.string ⟨#[]⟩, .int .i64 0, .int .i64 0, .int .i64 0, .int .i64 0, .int .i64 0, .int .i64 0, .int .i64 0, .bool false, .bool false] hb.out ?jh4 ?jh5 ?jh6 ?jh7); (case jh1 => rfl); (case jh2 => rfl); (case jh4 => exact info25); (case jh5 => rfl); (case jh6 => kernel_rfl); (generalize hW : World.setRow _ _ _ = W9; have hb9 := Lib.hid (show W9.heap[w.heap.size]? = some (.cells #[.string ⟨#[]⟩, .int .i64 0, .int .i64 0, .int .i64 0, .int .i64 0, .int .i64 0, .int .i64 0, .int .i64 0, .bool false, .bool false] 25 (0, 0)) by rw [← hW]; exact setRow_heap _ _ _ _ _ _ hb.out); have k9 := Lib.hid (show Below w.heap.size w W9 by rw [← hW]; exact below_setRow kb.out (Nat.le_refl _) _); clear hW hb kb))
  refine bodyPost_ret (v := .tuple #[.agg #[.string ⟨#[]⟩, .int .i64 0, .int .i64 0, .int .i64 0, .int .i64 0, .int .i64 0, .int .i64 0, .int .i64 0, .bool false, .bool false], .int .i64 130]) (res7 (g := w.heap.size) rfl rfl hb9.out rfl) rfl ⟨rfl, k9.out⟩
end Go.Proofs.Ytknmpllnclkghaa
