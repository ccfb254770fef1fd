/-
  All helpers: a contract over the program's own text.
-/
import Derived.Test.YtknmpllnclkghaaRf0
import Derived.Laws.AppendOwn
import Derived.Laws.OwnMore
import Derived.Outline
namespace Go.Proofs.Ytknmpllnclkghaa
open Go.ChangeShapes Go.WideShapes Go.ChangeAt Go.RowKit
set_option linter.unusedVariables false
set_option linter.unusedSimpArgs false
theorem info25w : (Try.prog.info? 25).map (fun i => (i.zero, i.size, i.bytes)) = some (some (.agg #[.string ⟨#[]⟩, .int .i64 0, .int .i64 0, .int .i64 0, .int .i64 0, .int .i64 0, .int .i64 0, .int .i64 0, .bool false, .bool false]), 10, 80) := by kernel_rfl
theorem tab_tail : tabC.toList.drop 10 = refC.toList := by kernel_rfl
set_option maxRecDepth 100000 in
theorem tab_src {w : World} {g : Nat} (hb : w.heap[g]? = some (.cells tabC 39 (0, 0))) : ∀ (j : Nat) (u : Value), refC.toList[j]? = some u → w.cell? ((⟨g, 10, none⟩ : Addr).add j) = some u := by
  intro j u h
  rw [← tab_tail, List.getElem?_drop, Array.getElem?_toList] at h
  have e : (⟨g, 10, none⟩ : Addr).add j = ⟨g, 10 + j, none⟩ := by simp [Addr.add]
  rw [e]
  simp only [World.cell?, hb]
  exact h
theorem ref_kinds : ∀ u ∈ refC.toList, u.oneCell' = true := fun u hu => (Array.all_eq_true_iff_forall_mem.1 ref_one) u (by simpa using hu)
def AllR (W : World) (e : Ending) (w' : World) : Prop :=
  ∃ g cap, e = .returned (.slice (some ⟨g, 0, none⟩) 28 cap) ∧ g < w'.heap.size ∧ W.heap.size ≤ g ∧ (∀ j, j < 280 → w'.cell? ⟨g, j, none⟩ = refC[j]?) ∧ Below W.heap.size W w'
theorem allR {W W1 w2 : World} {out : Value} (hW : Below W.heap.size W W1) (hown : w2.ownsRow W1.heap.size 25 10 out 28 refC.toList) (hb : Below W1.heap.size W1 w2) : AllR W (.returned out) w2 := by
  rcases hown.2 with ⟨_, h⟩ | ⟨g, cap, cur, rfl, hb', hgg, rest⟩
  · omega
  · exact ⟨g, cap, rfl, (hown.lt g rfl).2, Nat.le_trans hW.size (hown.lt g rfl).1, fun j hj => (hown.cellAt j (by omega)).trans (by rw [Array.getElem?_toList]), bl_trans hW hb⟩
set_option maxHeartbeats 4000000 in
set_option maxRecDepth 100000 in
theorem all_any (w : World) : Calls Try.prog 10 #[] w (AllR w) := by
  obtain ⟨i0, hi, hz0, hz1, hz2⟩ := info_parts info25w
  go_enter Try.func10, Try.ntmps10
  go_wp2_with (first
    | ((with_reducible refine (table_any _).mono ?_); rintro e w1 ⟨rfl, g1⟩; have G1 := Lib.hid g1; clear g1)
    | ((with_reducible refine Great.wpList_allocTo (o := ⟨some 2, .alloc 39, _, _, _, _⟩) rfl (some 2) rfl (.pointer (some ⟨w1.heap.size, 0, none⟩)) (.cells zeroC 39) ?h0 ?h9); (case h0 => kernel_rfl); (simp only [Act.put, List.setIfInBounds_toArray, List.set_cons_zero, List.set_cons_succ]))
    | ((with_reducible refine wpList_store_row (o := ⟨none, .store 39 (.tmp 2) (.tmp 3), _, _, _, _⟩) rfl 39 (.tmp 2) (.tmp 3) rfl w1.heap.size tabC ?h1 ?h2 39 zeroC (heap_alloc_new _ _) ?h4 ?h5 tab_one ?h7); (case h1 => rfl); (case h2 => rfl); (case h4 => kernel_rfl); (case h5 => kernel_rfl); (rw [World.setRow_alloc_new]; generalize hW : w1.alloc (.cells tabC 39) = W at *; have HB := Lib.hid (show W.heap[w1.heap.size]? = some (.cells tabC 39 (0, 0)) by rw [← hW]; exact heap_alloc_new _ _); have GW := Lib.hid (show Below w.heap.size w W by rw [← hW]; exact G1.out.alloc G1.out.size _); clear hW))
    | (at_builtin; refine wpList_append_own _ rfl _ _ 35 rfl W.heap.size 25 i0 (.agg #[.string ⟨#[]⟩, .int .i64 0, .int .i64 0, .int .i64 0, .int .i64 0, .int .i64 0, .int .i64 0, .int .i64 0, .bool false, .bool false]) 10 80 Try.underlying35 hi hz0 hz1 hz2 rfl (by decide) _ 0 [] rfl ⟨rfl, Or.inl ⟨rfl, rfl⟩⟩ ⟨w1.heap.size, 10, none⟩ 28 28 refC.toList rfl (by kernel_rfl) (tab_src HB.out) ref_kinds (by decide) (by decide) (Nat.le_refl _) ?_; intro v' w2 hown2 hgrow _; have HO2 := Lib.hid hown2; have HG2 := Lib.hid ((Below.refl W.heap.size W).grown hgrow (Nat.le_refl _) (fun q e => absurd (show (none : Option Nat) = some q from e) (by simp))); clear hown2 hgrow))
  go_ret
  exact allR GW.out HO2.out HG2.out
end Go.Proofs.Ytknmpllnclkghaa
