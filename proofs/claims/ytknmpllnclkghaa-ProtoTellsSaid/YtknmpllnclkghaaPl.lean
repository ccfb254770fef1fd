/-
  One helper's data: contracts over the program's own text.
-/
import Derived.Test.YtknmpllnclkghaaRows
import Derived.WalkKit
import Derived.ProofKit
import Derived.OpenShut
import Derived.Handy
import Derived.Below
import Derived.Lib.Hide
import Derived.OwnWalk
import Derived.Laws.CopyOwn
import Derived.Deep.WholeRow
namespace Go.Proofs.Ytknmpllnclkghaa
open Go.ChangeShapes Go.WideShapes Go.ChangeAt Go.RowKit
set_option linter.unusedVariables false
set_option linter.unusedSimpArgs false
theorem bl_trans {a b c : World} (h : Below a.heap.size a b) (g : Below b.heap.size b c) : Below a.heap.size a c :=
  h.trans (g.mono h.size)
theorem setRow_at (w : World) (A : Obj) (c c' : Array Value) (t : TypeId) : ((w.alloc A).alloc (.cells c t)).setRow (w.heap.size + 1) c' = (w.alloc A).alloc (.cells c' t) := by
  have e : (w.alloc A).heap.size = w.heap.size + 1 := by simp
  rw [← e, World.setRow_alloc_new]
theorem heap_at (w : World) (A : Obj) (c : Array Value) (t : TypeId) : ((w.alloc A).alloc (.cells c t)).heap[w.heap.size + 1]? = some (.cells c t (0, 0)) := by
  have e : (w.alloc A).heap.size = w.heap.size + 1 := by simp
  rw [← e]
  exact heap_alloc_new _ _
set_option maxRecDepth 100000 in
theorem plain0 (s : ByteArray) (r : Int) (w : World) :
    Calls Try.prog 14 #[.string s, .int .i64 r, .slice none 0 0] w fun e w' => e = .returned (.agg #[.string s, .int .i64 0, .int .i64 0, .int .i64 0, .int .i64 0, .int .i64 0, .int .i64 r, .int .i64 0, .bool false, .bool false]) ∧ Below w.heap.size w w' := by
  go_enter Try.func14, Try.ntmps14
  go_wp2_with (with_reducible refine wpList_copy_nothing rfl (.tmp 12) (.tmp 13) 48 48 rfl 3 Try.underlying48 (by kernel_rfl) _ none 5 5 0 0 rfl rfl rfl ?_)
  refine bodyPost_ret (v := .agg #[.string s, .int .i64 0, .int .i64 0, .int .i64 0, .int .i64 0, .int .i64 0, .int .i64 r, .int .i64 0, .bool false, .bool false]) ?_ rfl ⟨rfl, ?_⟩
  · simp [results, Try.results14, go_sem]
  · go_grown
theorem cell_two (w : World) (A B : Obj) {g : Nat} (hg : g < w.heap.size) (o : Nat) : ((w.alloc A).alloc B).cell? ⟨g, o, none⟩ = w.cell? ⟨g, o, none⟩ :=
  (((Below.refl w.heap.size w).alloc (Nat.le_refl _) A).alloc (by simp) B).cell (p := ⟨g, o, none⟩) hg
theorem src1 {w : World} {g : Nat} {x0 : Int} (h0 : w.cell? ⟨g, 0, none⟩ = some (.int .i64 x0)) : ∀ j v, [Value.int .i64 x0][j]? = some v → w.cell? ((⟨g, 0, none⟩ : Addr).add j) = some v := by
  intro j v hj
  match j, hj with
  | 0, hj => simp at hj; subst hj; simpa [Addr.add] using h0
  | j + 1, hj => simp at hj
set_option maxRecDepth 100000 in
theorem plain1 (s : ByteArray) (r x0 : Int) (g : Nat) (w : World) (h0 : w.cell? ⟨g, 0, none⟩ = some (.int .i64 x0)) (hg : g < w.heap.size) :
    Calls Try.prog 14 #[.string s, .int .i64 r, .slice (some ⟨g, 0, none⟩) 1 1] w fun e w' => e = .returned (.agg #[.string s, .int .i64 x0, .int .i64 0, .int .i64 0, .int .i64 0, .int .i64 0, .int .i64 r, .int .i64 0, .bool false, .bool false]) ∧ Below w.heap.size w w' := by
  have h0' : ((w.alloc (.cells #[.string ⟨#[]⟩, .int .i64 0, .int .i64 0, .int .i64 0, .int .i64 0, .int .i64 0, .int .i64 0, .int .i64 0, .bool false, .bool false] 25)).alloc (.cells #[.string s, .int .i64 0, .int .i64 0, .int .i64 0, .int .i64 0, .int .i64 0, .int .i64 r, .int .i64 0, .bool false, .bool false] 25)).cell? ⟨g, 0, none⟩ = some (.int .i64 x0) := (cell_two w _ _ hg _).trans h0
  go_enter Try.func14, Try.ntmps14
  go_wp2_with ((with_reducible refine wpList_copy_own rfl (.tmp 12) (.tmp 13) 48 48 rfl 3 Try.underlying48 (by kernel_rfl) (w.heap.size + 1) 1 5 5 ⟨g, 0, none⟩ 1 1 rfl rfl #[.string s, .int .i64 0, .int .i64 0, .int .i64 0, .int .i64 0, .int .i64 0, .int .i64 r, .int .i64 0, .bool false, .bool false] 25 (heap_at _ _ _ _) [.int .i64 x0] rfl (src1 h0') (by simp) (by simp [Value.oneCell']) ?_); rw [setRow_at])
  refine bodyPost_ret (v := .agg #[.string s, .int .i64 x0, .int .i64 0, .int .i64 0, .int .i64 0, .int .i64 0, .int .i64 r, .int .i64 0, .bool false, .bool false]) ?_ rfl ⟨rfl, ?_⟩
  · simp [results, Try.results14, go_sem]
  · go_grown
theorem src2 {w : World} {g : Nat} {x0 x1 : Int} (h0 : w.cell? ⟨g, 0, none⟩ = some (.int .i64 x0)) (h1 : w.cell? ⟨g, 1, none⟩ = some (.int .i64 x1)) : ∀ j v, [Value.int .i64 x0, Value.int .i64 x1][j]? = some v → w.cell? ((⟨g, 0, none⟩ : Addr).add j) = some v := by
  intro j v hj
  match j, hj with
  | 0, hj => simp at hj; subst hj; simpa [Addr.add] using h0
  | 1, hj => simp at hj; subst hj; simpa [Addr.add] using h1
  | j + 2, hj => simp at hj
set_option maxRecDepth 100000 in
theorem plain2 (s : ByteArray) (r x0 x1 : Int) (g : Nat) (w : World) (h0 : w.cell? ⟨g, 0, none⟩ = some (.int .i64 x0)) (h1 : w.cell? ⟨g, 1, none⟩ = some (.int .i64 x1)) (hg : g < w.heap.size) :
    Calls Try.prog 14 #[.string s, .int .i64 r, .slice (some ⟨g, 0, none⟩) 2 2] w fun e w' => e = .returned (.agg #[.string s, .int .i64 x0, .int .i64 x1, .int .i64 0, .int .i64 0, .int .i64 0, .int .i64 r, .int .i64 0, .bool false, .bool false]) ∧ Below w.heap.size w w' := by
  have h0' : ((w.alloc (.cells #[.string ⟨#[]⟩, .int .i64 0, .int .i64 0, .int .i64 0, .int .i64 0, .int .i64 0, .int .i64 0, .int .i64 0, .bool false, .bool false] 25)).alloc (.cells #[.string s, .int .i64 0, .int .i64 0, .int .i64 0, .int .i64 0, .int .i64 0, .int .i64 r, .int .i64 0, .bool false, .bool false] 25)).cell? ⟨g, 0, none⟩ = some (.int .i64 x0) := (cell_two w _ _ hg _).trans h0
  have h1' : ((w.alloc (.cells #[.string ⟨#[]⟩, .int .i64 0, .int .i64 0, .int .i64 0, .int .i64 0, .int .i64 0, .int .i64 0, .int .i64 0, .bool false, .bool false] 25)).alloc (.cells #[.string s, .int .i64 0, .int .i64 0, .int .i64 0, .int .i64 0, .int .i64 0, .int .i64 r, .int .i64 0, .bool false, .bool false] 25)).cell? ⟨g, 1, none⟩ = some (.int .i64 x1) := (cell_two w _ _ hg _).trans h1
  go_enter Try.func14, Try.ntmps14
  go_wp2_with ((with_reducible refine wpList_copy_own rfl (.tmp 12) (.tmp 13) 48 48 rfl 3 Try.underlying48 (by kernel_rfl) (w.heap.size + 1) 1 5 5 ⟨g, 0, none⟩ 2 2 rfl rfl #[.string s, .int .i64 0, .int .i64 0, .int .i64 0, .int .i64 0, .int .i64 0, .int .i64 r, .int .i64 0, .bool false, .bool false] 25 (heap_at _ _ _ _) [.int .i64 x0, .int .i64 x1] rfl (src2 h0' h1') (by simp) (by simp [Value.oneCell']) ?_); rw [setRow_at])
  refine bodyPost_ret (v := .agg #[.string s, .int .i64 x0, .int .i64 x1, .int .i64 0, .int .i64 0, .int .i64 0, .int .i64 r, .int .i64 0, .bool false, .bool false]) ?_ rfl ⟨rfl, ?_⟩
  · simp [results, Try.results14, go_sem]
  · go_grown
theorem src3 {w : World} {g : Nat} {x0 x1 x2 : Int} (h0 : w.cell? ⟨g, 0, none⟩ = some (.int .i64 x0)) (h1 : w.cell? ⟨g, 1, none⟩ = some (.int .i64 x1)) (h2 : w.cell? ⟨g, 2, none⟩ = some (.int .i64 x2)) : ∀ j v, [Value.int .i64 x0, Value.int .i64 x1, Value.int .i64 x2][j]? = some v → w.cell? ((⟨g, 0, none⟩ : Addr).add j) = some v := by
  intro j v hj
  match j, hj with
  | 0, hj => simp at hj; subst hj; simpa [Addr.add] using h0
  | 1, hj => simp at hj; subst hj; simpa [Addr.add] using h1
  | 2, hj => simp at hj; subst hj; simpa [Addr.add] using h2
  | j + 3, hj => simp at hj
set_option maxRecDepth 100000 in
theorem plain3 (s : ByteArray) (r x0 x1 x2 : Int) (g : Nat) (w : World) (h0 : w.cell? ⟨g, 0, none⟩ = some (.int .i64 x0)) (h1 : w.cell? ⟨g, 1, none⟩ = some (.int .i64 x1)) (h2 : w.cell? ⟨g, 2, none⟩ = some (.int .i64 x2)) (hg : g < w.heap.size) :
    Calls Try.prog 14 #[.string s, .int .i64 r, .slice (some ⟨g, 0, none⟩) 3 3] w fun e w' => e = .returned (.agg #[.string s, .int .i64 x0, .int .i64 x1, .int .i64 x2, .int .i64 0, .int .i64 0, .int .i64 r, .int .i64 0, .bool false, .bool false]) ∧ Below w.heap.size w w' := by
  have h0' : ((w.alloc (.cells #[.string ⟨#[]⟩, .int .i64 0, .int .i64 0, .int .i64 0, .int .i64 0, .int .i64 0, .int .i64 0, .int .i64 0, .bool false, .bool false] 25)).alloc (.cells #[.string s, .int .i64 0, .int .i64 0, .int .i64 0, .int .i64 0, .int .i64 0, .int .i64 r, .int .i64 0, .bool false, .bool false] 25)).cell? ⟨g, 0, none⟩ = some (.int .i64 x0) := (cell_two w _ _ hg _).trans h0
  have h1' : ((w.alloc (.cells #[.string ⟨#[]⟩, .int .i64 0, .int .i64 0, .int .i64 0, .int .i64 0, .int .i64 0, .int .i64 0, .int .i64 0, .bool false, .bool false] 25)).alloc (.cells #[.string s, .int .i64 0, .int .i64 0, .int .i64 0, .int .i64 0, .int .i64 0, .int .i64 r, .int .i64 0, .bool false, .bool false] 25)).cell? ⟨g, 1, none⟩ = some (.int .i64 x1) := (cell_two w _ _ hg _).trans h1
  have h2' : ((w.alloc (.cells #[.string ⟨#[]⟩, .int .i64 0, .int .i64 0, .int .i64 0, .int .i64 0, .int .i64 0, .int .i64 0, .int .i64 0, .bool false, .bool false] 25)).alloc (.cells #[.string s, .int .i64 0, .int .i64 0, .int .i64 0, .int .i64 0, .int .i64 0, .int .i64 r, .int .i64 0, .bool false, .bool false] 25)).cell? ⟨g, 2, none⟩ = some (.int .i64 x2) := (cell_two w _ _ hg _).trans h2
  go_enter Try.func14, Try.ntmps14
  go_wp2_with ((with_reducible refine wpList_copy_own rfl (.tmp 12) (.tmp 13) 48 48 rfl 3 Try.underlying48 (by kernel_rfl) (w.heap.size + 1) 1 5 5 ⟨g, 0, none⟩ 3 3 rfl rfl #[.string s, .int .i64 0, .int .i64 0, .int .i64 0, .int .i64 0, .int .i64 0, .int .i64 r, .int .i64 0, .bool false, .bool false] 25 (heap_at _ _ _ _) [.int .i64 x0, .int .i64 x1, .int .i64 x2] rfl (src3 h0' h1' h2') (by simp) (by simp [Value.oneCell']) ?_); rw [setRow_at])
  refine bodyPost_ret (v := .agg #[.string s, .int .i64 x0, .int .i64 x1, .int .i64 x2, .int .i64 0, .int .i64 0, .int .i64 r, .int .i64 0, .bool false, .bool false]) ?_ rfl ⟨rfl, ?_⟩
  · simp [results, Try.results14, go_sem]
  · go_grown
theorem src4 {w : World} {g : Nat} {x0 x1 x2 x3 : Int} (h0 : w.cell? ⟨g, 0, none⟩ = some (.int .i64 x0)) (h1 : w.cell? ⟨g, 1, none⟩ = some (.int .i64 x1)) (h2 : w.cell? ⟨g, 2, none⟩ = some (.int .i64 x2)) (h3 : w.cell? ⟨g, 3, none⟩ = some (.int .i64 x3)) : ∀ j v, [Value.int .i64 x0, Value.int .i64 x1, Value.int .i64 x2, Value.int .i64 x3][j]? = some v → w.cell? ((⟨g, 0, none⟩ : Addr).add j) = some v := by
  intro j v hj
  match j, hj with
  | 0, hj => simp at hj; subst hj; simpa [Addr.add] using h0
  | 1, hj => simp at hj; subst hj; simpa [Addr.add] using h1
  | 2, hj => simp at hj; subst hj; simpa [Addr.add] using h2
  | 3, hj => simp at hj; subst hj; simpa [Addr.add] using h3
  | j + 4, hj => simp at hj
set_option maxRecDepth 100000 in
theorem plain4 (s : ByteArray) (r x0 x1 x2 x3 : Int) (g : Nat) (w : World) (h0 : w.cell? ⟨g, 0, none⟩ = some (.int .i64 x0)) (h1 : w.cell? ⟨g, 1, none⟩ = some (.int .i64 x1)) (h2 : w.cell? ⟨g, 2, none⟩ = some (.int .i64 x2)) (h3 : w.cell? ⟨g, 3, none⟩ = some (.int .i64 x3)) (hg : g < w.heap.size) :
    Calls Try.prog 14 #[.string s, .int .i64 r, .slice (some ⟨g, 0, none⟩) 4 4] w fun e w' => e = .returned (.agg #[.string s, .int .i64 x0, .int .i64 x1, .int .i64 x2, .int .i64 x3, .int .i64 0, .int .i64 r, .int .i64 0, .bool false, .bool false]) ∧ Below w.heap.size w w' := by
  have h0' : ((w.alloc (.cells #[.string ⟨#[]⟩, .int .i64 0, .int .i64 0, .int .i64 0, .int .i64 0, .int .i64 0, .int .i64 0, .int .i64 0, .bool false, .bool false] 25)).alloc (.cells #[.string s, .int .i64 0, .int .i64 0, .int .i64 0, .int .i64 0, .int .i64 0, .int .i64 r, .int .i64 0, .bool false, .bool false] 25)).cell? ⟨g, 0, none⟩ = some (.int .i64 x0) := (cell_two w _ _ hg _).trans h0
  have h1' : ((w.alloc (.cells #[.string ⟨#[]⟩, .int .i64 0, .int .i64 0, .int .i64 0, .int .i64 0, .int .i64 0, .int .i64 0, .int .i64 0, .bool false, .bool false] 25)).alloc (.cells #[.string s, .int .i64 0, .int .i64 0, .int .i64 0, .int .i64 0, .int .i64 0, .int .i64 r, .int .i64 0, .bool false, .bool false] 25)).cell? ⟨g, 1, none⟩ = some (.int .i64 x1) := (cell_two w _ _ hg _).trans h1
  have h2' : ((w.alloc (.cells #[.string ⟨#[]⟩, .int .i64 0, .int .i64 0, .int .i64 0, .int .i64 0, .int .i64 0, .int .i64 0, .int .i64 0, .bool false, .bool false] 25)).alloc (.cells #[.string s, .int .i64 0, .int .i64 0, .int .i64 0, .int .i64 0, .int .i64 0, .int .i64 r, .int .i64 0, .bool false, .bool false] 25)).cell? ⟨g, 2, none⟩ = some (.int .i64 x2) := (cell_two w _ _ hg _).trans h2
  have h3' : ((w.alloc (.cells #[.string ⟨#[]⟩, .int .i64 0, .int .i64 0, .int .i64 0, .int .i64 0, .int .i64 0, .int .i64 0, .int .i64 0, .bool false, .bool false] 25)).alloc (.cells #[.string s, .int .i64 0, .int .i64 0, .int .i64 0, .int .i64 0, .int .i64 0, .int .i64 r, .int .i64 0, .bool false, .bool false] 25)).cell? ⟨g, 3, none⟩ = some (.int .i64 x3) := (cell_two w _ _ hg _).trans h3
  go_enter Try.func14, Try.ntmps14
  go_wp2_with ((with_reducible refine wpList_copy_own rfl (.tmp 12) (.tmp 13) 48 48 rfl 3 Try.underlying48 (by kernel_rfl) (w.heap.size + 1) 1 5 5 ⟨g, 0, none⟩ 4 4 rfl rfl #[.string s, .int .i64 0, .int .i64 0, .int .i64 0, .int .i64 0, .int .i64 0, .int .i64 r, .int .i64 0, .bool false, .bool false] 25 (heap_at _ _ _ _) [.int .i64 x0, .int .i64 x1, .int .i64 x2, .int .i64 x3] rfl (src4 h0' h1' h2' h3') (by simp) (by simp [Value.oneCell']) ?_); rw [setRow_at])
  refine bodyPost_ret (v := .agg #[.string s, .int .i64 x0, .int .i64 x1, .int .i64 x2, .int .i64 x3, .int .i64 0, .int .i64 r, .int .i64 0, .bool false, .bool false]) ?_ rfl ⟨rfl, ?_⟩
  · simp [results, Try.results14, go_sem]
  · go_grown
end Go.Proofs.Ytknmpllnclkghaa
