/-
  The document's helper by its number: a walk over the program's own text.
-/
import Derived.Test.YtknmpllnclkghaaRf0
namespace Go.Proofs.Ytknmpllnclkghaa
open Go.ChangeShapes Go.WideShapes Go.ChangeAt Go.RowKit
set_option linter.unusedVariables false
set_option linter.unusedSimpArgs false
set_option maxHeartbeats 4000000 in
set_option maxRecDepth 100000 in
theorem rof_yes (m : Nat) (hm : m < 28) (w : World) : Calls Try.prog 7 #[.int .i64 ((m : Int) + 1)] w fun e w' => e = .returned (.tuple #[.agg (rowC (m + 1)).toArray, .int .i64 0]) ∧ Below w.heap.size w w' := by
  obtain ⟨r0, r1, r2, r3, r4, r5, r6, r7, r8, r9, hr⟩ := row_ten m hm
  have hO := row_one (m + 1) (by omega)
  rw [hr] at hO ⊢
  have HO := Lib.hid hO
  have t1 : decide ((m : Int) + 1 < 1) = false := by simp; omega
  have t2 : decide (28 < (m : Int) + 1) = false := by simp; omega
  have q1 : IntKind.i64.wrap ((m : Int) + 1 - 1) = (m : Int) := by rw [IntWalk.i64_in _ (by omega)]; omega
  have q2 : (0 : Int) ≤ (m : Int) := by omega
  have q3 : (m : Int) < 28 := by omega
  have HC : ∀ j, j < 10 → ((w.alloc (.cells #[.string ⟨#[]⟩, .int .i64 0, .int .i64 0, .int .i64 0, .int .i64 0, .int .i64 0, .int .i64 0, .int .i64 0, .bool false, .bool false] 25)).alloc (.cells refC 41)).cell? ⟨w.heap.size + 1, m * 10 + j, none⟩ = [r0, r1, r2, r3, r4, r5, r6, r7, r8, r9][j]? := fun j hj => by
    rw [← hr, ← ref_at m j hm hj]
    simp only [World.cell?, heap_at]
    rfl
  have c0 := HC 0 (by omega)
  simp only [List.getElem?_cons_zero, List.getElem?_cons_succ, Nat.add_zero] at c0
  have c1 := HC 1 (by omega)
  simp only [List.getElem?_cons_zero, List.getElem?_cons_succ, Nat.add_zero] at c1
  have c2 := HC 2 (by omega)
  simp only [List.getElem?_cons_zero, List.getElem?_cons_succ, Nat.add_zero] at c2
  have c3 := HC 3 (by omega)
  simp only [List.getElem?_cons_zero, List.getElem?_cons_succ, Nat.add_zero] at c3
  have c4 := HC 4 (by omega)
  simp only [List.getElem?_cons_zero, List.getElem?_cons_succ, Nat.add_zero] at c4
  have c5 := HC 5 (by omega)
  simp only [List.getElem?_cons_zero, List.getElem?_cons_succ, Nat.add_zero] at c5
  have c6 := HC 6 (by omega)
  simp only [List.getElem?_cons_zero, List.getElem?_cons_succ, Nat.add_zero] at c6
  have c7 := HC 7 (by omega)
  simp only [List.getElem?_cons_zero, List.getElem?_cons_succ, Nat.add_zero] at c7
  have c8 := HC 8 (by omega)
  simp only [List.getElem?_cons_zero, List.getElem?_cons_succ, Nat.add_zero] at c8
  have c9 := HC 9 (by omega)
  simp only [List.getElem?_cons_zero, List.getElem?_cons_succ, Nat.add_zero] at c9
  clear HC hr hO hm
  go_enter Try.func7, Try.ntmps7
  go_upto_region 2 with fail
  try simp only [List.append_eq, List.cons_append, List.nil_append]
  go_upto_region 4 with (first
    | ((with_reducible refine wpList_buildTo (o := ⟨some 69, .build 41 _, _, _, _, _⟩) rfl 41 _ rfl (some 69) rfl refC ?hf ?hb); (case hf => kernel_rfl); (simp only [Act.put, List.setIfInBounds_toArray, List.set_cons_zero, List.set_cons_succ]))
    | ((with_reducible refine Great.wpList_allocTo (o := ⟨some 6, .alloc 41, _, _, _, _⟩) rfl (some 6) rfl (.pointer (some ⟨w.heap.size + 1, 0, none⟩)) (.cells zeroR 41) ?h0 ?h9); (case h0 => (rw [show w.heap.size + 1 = (w.alloc (.cells #[.string ⟨#[]⟩, .int .i64 0, .int .i64 0, .int .i64 0, .int .i64 0, .int .i64 0, .int .i64 0, .int .i64 0, .bool false, .bool false] 25)).heap.size from by simp]; kernel_rfl)); (simp only [Act.put, List.setIfInBounds_toArray, List.set_cons_zero, List.set_cons_succ]))
    | ((with_reducible refine wpList_store_row (o := ⟨none, .store 41 (.tmp 6) (.tmp 69), _, _, _, _⟩) rfl 41 (.tmp 6) (.tmp 69) rfl (w.heap.size + 1) refC ?h1 ?h2 41 zeroR (heap_at _ _ _ _) ?h4 ?h5 ref_one ?h7); (case h1 => rfl); (case h2 => rfl); (case h4 => kernel_rfl); (case h5 => kernel_rfl); (rw [alloc2_setRow]); (simp only [Act.put, List.setIfInBounds_toArray, List.set_cons_zero, List.set_cons_succ])))
  have hb := Lib.hid (((Below.refl _ _).alloc (Nat.le_refl _) (.cells refC 41) : Below _ (w.alloc (.cells #[.string ⟨#[]⟩, .int .i64 0, .int .i64 0, .int .i64 0, .int .i64 0, .int .i64 0, .int .i64 0, .int .i64 0, .bool false, .bool false] 25)) _).block w.heap.size (by simp)|>.trans (heap_alloc_new w _))
  have kb : Hid (Below w.heap.size w ((w.alloc (.cells #[.string ⟨#[]⟩, .int .i64 0, .int .i64 0, .int .i64 0, .int .i64 0, .int .i64 0, .int .i64 0, .int .i64 0, .bool false, .bool false] 25)).alloc (.cells refC 41))) := Lib.hid (((Below.refl _ _).alloc (Nat.le_refl _) _).alloc (by simp) _)
  generalize (w.alloc (.cells #[.string ⟨#[]⟩, .int .i64 0, .int .i64 0, .int .i64 0, .int .i64 0, .int .i64 0, .int .i64 0, .int .i64 0, .bool false, .bool false] 25)).alloc (.cells refC 41) = W at *
  go_wp2_with ((with_reducible refine wpList_store_row (o := ⟨none, .store 25 (.tmp 2) (.tmp 80), _, _, _, _⟩) rfl 25 (.tmp 2) (.tmp 80) rfl w.heap.size #[r0, r1, r2, r3, r4, r5, r6, r7, r8, r9] ?jh1 ?jh2 25 #[.string ⟨#[]⟩, .int .i64 0, .int .i64 0, .int .i64 0, .int .i64 0, .int .i64 0, .int .i64 0, .int .i64 0, .bool false, .bool false] hb.out ?jh4 ?jh5 HO.out ?jh7); (case jh1 => rfl); (case jh2 => rfl); (case jh4 => exact info25); (case jh5 => rfl); (generalize hW : World.setRow _ _ _ = W9; have hb9 := Lib.hid (show W9.heap[w.heap.size]? = some (.cells #[r0, r1, r2, r3, r4, r5, r6, r7, r8, r9] 25 (0, 0)) by rw [← hW]; exact setRow_heap _ _ _ _ _ _ hb.out); have k9 := Lib.hid (show Below w.heap.size w W9 by rw [← hW]; exact below_setRow kb.out (Nat.le_refl _) _); clear hW hb kb c0 c1 c2 c3 c4 c5 c6 c7 c8 c9))
  refine bodyPost_ret (v := .tuple #[.agg #[r0, r1, r2, r3, r4, r5, r6, r7, r8, r9], .int .i64 0]) (res7 (g := w.heap.size) rfl rfl hb9.out rfl) rfl ⟨rfl, k9.out⟩
end Go.Proofs.Ytknmpllnclkghaa
