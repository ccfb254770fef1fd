/-
  Helpers that take a map, that acquire or release: contracts over the program's own text.
-/
import Derived.Test.YtknmpllnclkghaaPl
import Derived.Laws.StructEq
namespace Go.Proofs.Ytknmpllnclkghaa
open Go.ChangeShapes Go.WideShapes Go.ChangeAt Go.RowKit
set_option linter.unusedVariables false
set_option linter.unusedSimpArgs false
set_option maxRecDepth 100000 in
theorem acq_any (s : ByteArray) (i1 i2 i3 i4 i5 r k : Int) (a b : Bool) (w : World) : Calls Try.prog 15 #[.agg #[.string s, .int .i64 i1, .int .i64 i2, .int .i64 i3, .int .i64 i4, .int .i64 i5, .int .i64 r, .int .i64 k, .bool a, .bool b]] w fun e w' => e = .returned (.agg #[.string s, .int .i64 i1, .int .i64 i2, .int .i64 i3, .int .i64 i4, .int .i64 i5, .int .i64 r, .int .i64 k, .bool true, .bool b]) ∧ Below w.heap.size w w' := by
  go_enter Try.func15, Try.ntmps15
  go_wp2
  refine bodyPost_ret (v := .agg #[.string s, .int .i64 i1, .int .i64 i2, .int .i64 i3, .int .i64 i4, .int .i64 i5, .int .i64 r, .int .i64 k, .bool true, .bool b]) ?_ rfl ⟨rfl, ?_⟩
  · simp [results, Try.results15, go_sem]
  · go_grown
set_option maxRecDepth 100000 in
theorem rel_any (s : ByteArray) (i1 i2 i3 i4 i5 r k : Int) (a b : Bool) (w : World) : Calls Try.prog 16 #[.agg #[.string s, .int .i64 i1, .int .i64 i2, .int .i64 i3, .int .i64 i4, .int .i64 i5, .int .i64 r, .int .i64 k, .bool a, .bool b]] w fun e w' => e = .returned (.agg #[.string s, .int .i64 i1, .int .i64 i2, .int .i64 i3, .int .i64 i4, .int .i64 i5, .int .i64 r, .int .i64 k, .bool a, .bool true]) ∧ Below w.heap.size w w' := by
  go_enter Try.func16, Try.ntmps16
  go_wp2
  refine bodyPost_ret (v := .agg #[.string s, .int .i64 i1, .int .i64 i2, .int .i64 i3, .int .i64 i4, .int .i64 i5, .int .i64 r, .int .i64 k, .bool a, .bool true]) ?_ rfl ⟨rfl, ?_⟩
  · simp [results, Try.results16, go_sem]
  · go_grown
theorem cell_one (w : World) (A : Obj) {g : Nat} (hg : g < w.heap.size) (o : Nat) : (w.alloc A).cell? ⟨g, o, none⟩ = w.cell? ⟨g, o, none⟩ :=
  ((Below.refl w.heap.size w).alloc (Nat.le_refl _) A).cell (p := ⟨g, o, none⟩) hg
theorem old_block {w1 : World} {b : Nat} {o o' : Obj} (h : b < w1.heap.size) (hb : w1.heap[b]? = some o) : (w1.alloc o').heap[b]? = some o := (Below.heap_alloc w1 o' b h).trans hb
theorem bcell {W w1 : World} (hb : Below W.heap.size W w1) : (∀ b o, b < W.heap.size → w1.cell? ⟨b, o, none⟩ = W.cell? ⟨b, o, none⟩) ∧ (∀ b o, b < W.heap.size → w1.frozen? ⟨b, o, none⟩ = W.frozen? ⟨b, o, none⟩) :=
  ⟨fun b o h => hb.cell (p := ⟨b, o, none⟩) h, fun b o h => hb.frozen (p := ⟨b, o, none⟩) h⟩
set_option maxRecDepth 100000 in
theorem mapped1 (s : ByteArray) (r k x0 : Int) (g : Nat) (w : World) (h0 : w.cell? ⟨g, 0, none⟩ = some (.int .i64 x0)) (hg : g < w.heap.size) :
    Calls Try.prog 13 #[.int .i64 k, .string s, .int .i64 r, .slice (some ⟨g, 0, none⟩) 1 1] w fun e w' => e = .returned (.agg #[.string s, .int .i64 x0, .int .i64 0, .int .i64 0, .int .i64 0, .int .i64 0, .int .i64 r, .int .i64 k, .bool false, .bool false]) ∧ Below w.heap.size w w' := by
  have h0' : (w.alloc (.cells #[.string ⟨#[]⟩, .int .i64 0, .int .i64 0, .int .i64 0, .int .i64 0, .int .i64 0, .int .i64 0, .int .i64 0, .bool false, .bool false] 25)).cell? ⟨g, 0, none⟩ = some (.int .i64 x0) := (cell_one w _ hg _).trans h0
  have C := Lib.hid (plain1 s r x0 g (w.alloc (.cells #[.string ⟨#[]⟩, .int .i64 0, .int .i64 0, .int .i64 0, .int .i64 0, .int .i64 0, .int .i64 0, .int .i64 0, .bool false, .bool false] 25)) h0' (by simp; omega))
  clear h0 h0'
  go_enter Try.func13, Try.ntmps13
  go_wp2_with (first
    | ((with_reducible refine C.out.mono ?_); rintro e w1 ⟨rfl, g1⟩; have kb : Below w.heap.size w w1 := Below.trans (by go_grown) (g1.mono (by simp)); have hz : w.heap.size < w1.heap.size := (by have := g1.size; simp at this; omega); have hb := Lib.hid ((g1.block w.heap.size (by simp)).trans (heap_alloc_new w _)); clear g1)
    | ((with_reducible refine wpList_store_row (o := ⟨none, .store 25 (.tmp 8) (.tmp 16), _, _, _, _⟩) rfl 25 (.tmp 8) (.tmp 16) rfl w.heap.size #[.string s, .int .i64 x0, .int .i64 0, .int .i64 0, .int .i64 0, .int .i64 0, .int .i64 r, .int .i64 k, .bool false, .bool false] ?h1 ?h2 25 #[.string ⟨#[]⟩, .int .i64 0, .int .i64 0, .int .i64 0, .int .i64 0, .int .i64 0, .int .i64 0, .int .i64 0, .bool false, .bool false] ?h3 ?h4 ?h5 ?h6 ?h7); (case h1 => rfl); (case h2 => rfl); (case h3 => exact (old_block hz hb.out)); (case h4 => kernel_rfl); (case h5 => rfl); (case h6 => kernel_rfl); (generalize hW : World.setRow _ _ _ = W9; have hb9 : W9.heap[w.heap.size]? = some (.cells #[.string s, .int .i64 x0, .int .i64 0, .int .i64 0, .int .i64 0, .int .i64 0, .int .i64 r, .int .i64 k, .bool false, .bool false] 25 (0, 0)) := (by rw [← hW]; exact setRow_heap _ _ _ _ _ _ (old_block hz hb.out)); have k9 : Below w.heap.size w W9 := (by rw [← hW]; exact below_setRow (kb.alloc kb.size _) (Nat.le_refl _) _); clear hW hb kb hz)))
  refine bodyPost_ret (v := .agg #[.string s, .int .i64 x0, .int .i64 0, .int .i64 0, .int .i64 0, .int .i64 0, .int .i64 r, .int .i64 k, .bool false, .bool false]) ?_ rfl ⟨rfl, k9⟩
  simp [results, Try.results13, go_sem, World.cell?, hb9]
set_option maxRecDepth 100000 in
theorem mapped2 (s : ByteArray) (r k x0 x1 : Int) (g : Nat) (w : World) (h0 : w.cell? ⟨g, 0, none⟩ = some (.int .i64 x0)) (h1 : w.cell? ⟨g, 1, none⟩ = some (.int .i64 x1)) (hg : g < w.heap.size) :
    Calls Try.prog 13 #[.int .i64 k, .string s, .int .i64 r, .slice (some ⟨g, 0, none⟩) 2 2] w fun e w' => e = .returned (.agg #[.string s, .int .i64 x0, .int .i64 x1, .int .i64 0, .int .i64 0, .int .i64 0, .int .i64 r, .int .i64 k, .bool false, .bool false]) ∧ Below w.heap.size w w' := by
  have h0' : (w.alloc (.cells #[.string ⟨#[]⟩, .int .i64 0, .int .i64 0, .int .i64 0, .int .i64 0, .int .i64 0, .int .i64 0, .int .i64 0, .bool false, .bool false] 25)).cell? ⟨g, 0, none⟩ = some (.int .i64 x0) := (cell_one w _ hg _).trans h0
  have h1' : (w.alloc (.cells #[.string ⟨#[]⟩, .int .i64 0, .int .i64 0, .int .i64 0, .int .i64 0, .int .i64 0, .int .i64 0, .int .i64 0, .bool false, .bool false] 25)).cell? ⟨g, 1, none⟩ = some (.int .i64 x1) := (cell_one w _ hg _).trans h1
  have C := Lib.hid (plain2 s r x0 x1 g (w.alloc (.cells #[.string ⟨#[]⟩, .int .i64 0, .int .i64 0, .int .i64 0, .int .i64 0, .int .i64 0, .int .i64 0, .int .i64 0, .bool false, .bool false] 25)) h0' h1' (by simp; omega))
  clear h0 h1 h0' h1'
  go_enter Try.func13, Try.ntmps13
  go_wp2_with (first
    | ((with_reducible refine C.out.mono ?_); rintro e w1 ⟨rfl, g1⟩; have kb : Below w.heap.size w w1 := Below.trans (by go_grown) (g1.mono (by simp)); have hz : w.heap.size < w1.heap.size := (by have := g1.size; simp at this; omega); have hb := Lib.hid ((g1.block w.heap.size (by simp)).trans (heap_alloc_new w _)); clear g1)
    | ((with_reducible refine wpList_store_row (o := ⟨none, .store 25 (.tmp 8) (.tmp 16), _, _, _, _⟩) rfl 25 (.tmp 8) (.tmp 16) rfl w.heap.size #[.string s, .int .i64 x0, .int .i64 x1, .int .i64 0, .int .i64 0, .int .i64 0, .int .i64 r, .int .i64 k, .bool false, .bool false] ?h1 ?h2 25 #[.string ⟨#[]⟩, .int .i64 0, .int .i64 0, .int .i64 0, .int .i64 0, .int .i64 0, .int .i64 0, .int .i64 0, .bool false, .bool false] ?h3 ?h4 ?h5 ?h6 ?h7); (case h1 => rfl); (case h2 => rfl); (case h3 => exact (old_block hz hb.out)); (case h4 => kernel_rfl); (case h5 => rfl); (case h6 => kernel_rfl); (generalize hW : World.setRow _ _ _ = W9; have hb9 : W9.heap[w.heap.size]? = some (.cells #[.string s, .int .i64 x0, .int .i64 x1, .int .i64 0, .int .i64 0, .int .i64 0, .int .i64 r, .int .i64 k, .bool false, .bool false] 25 (0, 0)) := (by rw [← hW]; exact setRow_heap _ _ _ _ _ _ (old_block hz hb.out)); have k9 : Below w.heap.size w W9 := (by rw [← hW]; exact below_setRow (kb.alloc kb.size _) (Nat.le_refl _) _); clear hW hb kb hz)))
  refine bodyPost_ret (v := .agg #[.string s, .int .i64 x0, .int .i64 x1, .int .i64 0, .int .i64 0, .int .i64 0, .int .i64 r, .int .i64 k, .bool false, .bool false]) ?_ rfl ⟨rfl, k9⟩
  simp [results, Try.results13, go_sem, World.cell?, hb9]
set_option maxRecDepth 100000 in
theorem mapped3 (s : ByteArray) (r k x0 x1 x2 : Int) (g : Nat) (w : World) (h0 : w.cell? ⟨g, 0, none⟩ = some (.int .i64 x0)) (h1 : w.cell? ⟨g, 1, none⟩ = some (.int .i64 x1)) (h2 : w.cell? ⟨g, 2, none⟩ = some (.int .i64 x2)) (hg : g < w.heap.size) :
    Calls Try.prog 13 #[.int .i64 k, .string s, .int .i64 r, .slice (some ⟨g, 0, none⟩) 3 3] w fun e w' => e = .returned (.agg #[.string s, .int .i64 x0, .int .i64 x1, .int .i64 x2, .int .i64 0, .int .i64 0, .int .i64 r, .int .i64 k, .bool false, .bool false]) ∧ Below w.heap.size w w' := by
  have h0' : (w.alloc (.cells #[.string ⟨#[]⟩, .int .i64 0, .int .i64 0, .int .i64 0, .int .i64 0, .int .i64 0, .int .i64 0, .int .i64 0, .bool false, .bool false] 25)).cell? ⟨g, 0, none⟩ = some (.int .i64 x0) := (cell_one w _ hg _).trans h0
  have h1' : (w.alloc (.cells #[.string ⟨#[]⟩, .int .i64 0, .int .i64 0, .int .i64 0, .int .i64 0, .int .i64 0, .int .i64 0, .int .i64 0, .bool false, .bool false] 25)).cell? ⟨g, 1, none⟩ = some (.int .i64 x1) := (cell_one w _ hg _).trans h1
  have h2' : (w.alloc (.cells #[.string ⟨#[]⟩, .int .i64 0, .int .i64 0, .int .i64 0, .int .i64 0, .int .i64 0, .int .i64 0, .int .i64 0, .bool false, .bool false] 25)).cell? ⟨g, 2, none⟩ = some (.int .i64 x2) := (cell_one w _ hg _).trans h2
  have C := Lib.hid (plain3 s r x0 x1 x2 g (w.alloc (.cells #[.string ⟨#[]⟩, .int .i64 0, .int .i64 0, .int .i64 0, .int .i64 0, .int .i64 0, .int .i64 0, .int .i64 0, .bool false, .bool false] 25)) h0' h1' h2' (by simp; omega))
  clear h0 h1 h2 h0' h1' h2'
  go_enter Try.func13, Try.ntmps13
  go_wp2_with (first
    | ((with_reducible refine C.out.mono ?_); rintro e w1 ⟨rfl, g1⟩; have kb : Below w.heap.size w w1 := Below.trans (by go_grown) (g1.mono (by simp)); have hz : w.heap.size < w1.heap.size := (by have := g1.size; simp at this; omega); have hb := Lib.hid ((g1.block w.heap.size (by simp)).trans (heap_alloc_new w _)); clear g1)
    | ((with_reducible refine wpList_store_row (o := ⟨none, .store 25 (.tmp 8) (.tmp 16), _, _, _, _⟩) rfl 25 (.tmp 8) (.tmp 16) rfl w.heap.size #[.string s, .int .i64 x0, .int .i64 x1, .int .i64 x2, .int .i64 0, .int .i64 0, .int .i64 r, .int .i64 k, .bool false, .bool false] ?h1 ?h2 25 #[.string ⟨#[]⟩, .int .i64 0, .int .i64 0, .int .i64 0, .int .i64 0, .int .i64 0, .int .i64 0, .int .i64 0, .bool false, .bool false] ?h3 ?h4 ?h5 ?h6 ?h7); (case h1 => rfl); (case h2 => rfl); (case h3 => exact (old_block hz hb.out)); (case h4 => kernel_rfl); (case h5 => rfl); (case h6 => kernel_rfl); (generalize hW : World.setRow _ _ _ = W9; have hb9 : W9.heap[w.heap.size]? = some (.cells #[.string s, .int .i64 x0, .int .i64 x1, .int .i64 x2, .int .i64 0, .int .i64 0, .int .i64 r, .int .i64 k, .bool false, .bool false] 25 (0, 0)) := (by rw [← hW]; exact setRow_heap _ _ _ _ _ _ (old_block hz hb.out)); have k9 : Below w.heap.size w W9 := (by rw [← hW]; exact below_setRow (kb.alloc kb.size _) (Nat.le_refl _) _); clear hW hb kb hz)))
  refine bodyPost_ret (v := .agg #[.string s, .int .i64 x0, .int .i64 x1, .int .i64 x2, .int .i64 0, .int .i64 0, .int .i64 r, .int .i64 k, .bool false, .bool false]) ?_ rfl ⟨rfl, k9⟩
  simp [results, Try.results13, go_sem, World.cell?, hb9]
set_option maxRecDepth 100000 in
theorem mapped4 (s : ByteArray) (r k x0 x1 x2 x3 : Int) (g : Nat) (w : World) (h0 : w.cell? ⟨g, 0, none⟩ = some (.int .i64 x0)) (h1 : w.cell? ⟨g, 1, none⟩ = some (.int .i64 x1)) (h2 : w.cell? ⟨g, 2, none⟩ = some (.int .i64 x2)) (h3 : w.cell? ⟨g, 3, none⟩ = some (.int .i64 x3)) (hg : g < w.heap.size) :
    Calls Try.prog 13 #[.int .i64 k, .string s, .int .i64 r, .slice (some ⟨g, 0, none⟩) 4 4] w fun e w' => e = .returned (.agg #[.string s, .int .i64 x0, .int .i64 x1, .int .i64 x2, .int .i64 x3, .int .i64 0, .int .i64 r, .int .i64 k, .bool false, .bool false]) ∧ Below w.heap.size w w' := by
  have h0' : (w.alloc (.cells #[.string ⟨#[]⟩, .int .i64 0, .int .i64 0, .int .i64 0, .int .i64 0, .int .i64 0, .int .i64 0, .int .i64 0, .bool false, .bool false] 25)).cell? ⟨g, 0, none⟩ = some (.int .i64 x0) := (cell_one w _ hg _).trans h0
  have h1' : (w.alloc (.cells #[.string ⟨#[]⟩, .int .i64 0, .int .i64 0, .int .i64 0, .int .i64 0, .int .i64 0, .int .i64 0, .int .i64 0, .bool false, .bool false] 25)).cell? ⟨g, 1, none⟩ = some (.int .i64 x1) := (cell_one w _ hg _).trans h1
  have h2' : (w.alloc (.cells #[.string ⟨#[]⟩, .int .i64 0, .int .i64 0, .int .i64 0, .int .i64 0, .int .i64 0, .int .i64 0, .int .i64 0, .bool false, .bool false] 25)).cell? ⟨g, 2, none⟩ = some (.int .i64 x2) := (cell_one w _ hg _).trans h2
  have h3' : (w.alloc (.cells #[.string ⟨#[]⟩, .int .i64 0, .int .i64 0, .int .i64 0, .int .i64 0, .int .i64 0, .int .i64 0, .int .i64 0, .bool false, .bool false] 25)).cell? ⟨g, 3, none⟩ = some (.int .i64 x3) := (cell_one w _ hg _).trans h3
  have C := Lib.hid (plain4 s r x0 x1 x2 x3 g (w.alloc (.cells #[.string ⟨#[]⟩, .int .i64 0, .int .i64 0, .int .i64 0, .int .i64 0, .int .i64 0, .int .i64 0, .int .i64 0, .bool false, .bool false] 25)) h0' h1' h2' h3' (by simp; omega))
  clear h0 h1 h2 h3 h0' h1' h2' h3'
  go_enter Try.func13, Try.ntmps13
  go_wp2_with (first
    | ((with_reducible refine C.out.mono ?_); rintro e w1 ⟨rfl, g1⟩; have kb : Below w.heap.size w w1 := Below.trans (by go_grown) (g1.mono (by simp)); have hz : w.heap.size < w1.heap.size := (by have := g1.size; simp at this; omega); have hb := Lib.hid ((g1.block w.heap.size (by simp)).trans (heap_alloc_new w _)); clear g1)
    | ((with_reducible refine wpList_store_row (o := ⟨none, .store 25 (.tmp 8) (.tmp 16), _, _, _, _⟩) rfl 25 (.tmp 8) (.tmp 16) rfl w.heap.size #[.string s, .int .i64 x0, .int .i64 x1, .int .i64 x2, .int .i64 x3, .int .i64 0, .int .i64 r, .int .i64 k, .bool false, .bool false] ?h1 ?h2 25 #[.string ⟨#[]⟩, .int .i64 0, .int .i64 0, .int .i64 0, .int .i64 0, .int .i64 0, .int .i64 0, .int .i64 0, .bool false, .bool false] ?h3 ?h4 ?h5 ?h6 ?h7); (case h1 => rfl); (case h2 => rfl); (case h3 => exact (old_block hz hb.out)); (case h4 => kernel_rfl); (case h5 => rfl); (case h6 => kernel_rfl); (generalize hW : World.setRow _ _ _ = W9; have hb9 : W9.heap[w.heap.size]? = some (.cells #[.string s, .int .i64 x0, .int .i64 x1, .int .i64 x2, .int .i64 x3, .int .i64 0, .int .i64 r, .int .i64 k, .bool false, .bool false] 25 (0, 0)) := (by rw [← hW]; exact setRow_heap _ _ _ _ _ _ (old_block hz hb.out)); have k9 : Below w.heap.size w W9 := (by rw [← hW]; exact below_setRow (kb.alloc kb.size _) (Nat.le_refl _) _); clear hW hb kb hz)))
  refine bodyPost_ret (v := .agg #[.string s, .int .i64 x0, .int .i64 x1, .int .i64 x2, .int .i64 x3, .int .i64 0, .int .i64 r, .int .i64 k, .bool false, .bool false]) ?_ rfl ⟨rfl, k9⟩
  simp [results, Try.results13, go_sem, World.cell?, hb9]
end Go.Proofs.Ytknmpllnclkghaa
