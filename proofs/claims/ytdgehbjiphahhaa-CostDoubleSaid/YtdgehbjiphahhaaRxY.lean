/-
  make and copy of rows of unknown length. Nothing of the program stands here.
-/
import Derived.Test.YtdgehbjiphahhaaRxX
import Derived.Laws.MakeOwn
import Derived.Laws.CopyRow
namespace Go.Proofs.Ytdgehbjiphahhaa
open Go.RowKit
set_option linter.unusedVariables false
set_option linter.unusedSimpArgs false
theorem made_esG {α : Type} {f : α → List Value} {N sz : Nat} {z : Array Value} {a0 : α} (hf : ∀ x, (f x).length = sz) (hz : z.toList = f a0) (hsz : 0 < sz) :
    (madeCells z (N * sz)).toList = esG f N (fun _ => a0) := by
  have hzs : z.size = sz := by rw [← hf a0, ← hz]; simp
  apply List.ext_getElem?
  intro m
  by_cases hm : m < N * sz
  · have h1 : m / sz < N := (Nat.div_lt_iff_lt_mul hsz).2 hm
    have h2 : m % sz < sz := Nat.mod_lt _ hsz
    have h3 := esG_get (A := fun _ => a0) hf h2 h1
    have h4 : m / sz * sz + m % sz = m := by rw [Nat.mul_comm]; exact Nat.div_add_mod m sz
    rw [h4, ← hz] at h3
    rw [h3]
    have h5 : m % sz < z.size := by omega
    have h6 : z.toList[m % sz]? = some z[m % sz] := by simp [h5]
    rw [h6]
    simp only [madeCells, Array.toList_map, Array.toList_range, List.getElem?_map, List.getElem?_range hm, Option.map_some, hzs]
    congr 1
    exact getElem!_pos z (m % sz) h5
  · rw [List.getElem?_eq_none (by simp [madeCells]; omega), List.getElem?_eq_none (by rw [esG_len hf]; omega)]
/-- make of a row of unknown length. -/
def sqMk {α : Type} (t e : TypeId) (sz : Nat) (f : α → List Value) (N : Nat) (a0 : α) : Spc :=
  ⟨fun ls => .op (.mks t (.int .i64 (N : Int)) (.int .i64 (N : Int))), fun _ => [], 1, .normal,
   fun ls => [rowV (lget ls 0) N sz], fun _ => [], fun ls => [rowO (lget ls 0) (esG f N (fun _ => a0)) e N sz]⟩
theorem sqMk_ok {P : Program} {S : World → Prop} {t e : TypeId} {i : TypeInfo} {z : Value} {sz bytes : Nat} (R : RowT P t e i z sz bytes) {α : Type} {f : α → List Value} {N : Nat} {a0 : α}
    (hf : ∀ x, (f x).length = sz) (hz : z.cells.toList = f a0) (h63 : N ≤ maxLen) (hb : N * bytes ≤ 140737488355328) : SpcOk P S (sqMk t e sz f N a0) := by
  intro ls w hlen hsat hS
  match ls, hlen with
  | [], _ =>
    have hmax : (N : Int) ≤ 9223372036854775807 := by simp only [maxLen] at h63; omega
    have hby : (i.bytes : Int) * (N : Int) ≤ 281474976710656 := by
      have : ((bytes * N : Nat) : Int) ≤ 281474976710656 := by rw [Nat.mul_comm]; omega
      rw [R.hby]; rwa [Int.natCast_mul] at this
    have hr := run_make (P := P) w t e i z R.ht R.hi R.hz .i64 .i64 N N (by omega) (Int.le_refl _) hby hmax
    simp only [Int.toNat_natCast, R.hsize] at hr
    have hpad : padL ⟨w.heap.size, padOf []⟩ N sz = [] := by
      unfold padL
      rw [padR_of]
      split <;> rfl
    have hc : (madeCells z.cells (N * sz)) = ⟨esG f N (fun _ => a0) ++ padL ⟨w.heap.size, padOf []⟩ N sz⟩ := by
      rw [hpad, List.append_nil]
      exact Array.ext' (made_esG hf hz R.hsz)
    refine ⟨.slice (some ⟨w.heap.size, 0, none⟩) N N, w.alloc (.cells (madeCells z.cells (N * sz)) e), .inl ?_, [⟨w.heap.size, padOf []⟩], rfl, ?_, ⟨?_, ?_⟩, ?_, ?_⟩
    · show (Q.sem (.mks t (.int .i64 (N : Int)) (.int .i64 (N : Int)))).run P w = _
      simp only [Q.sem, Sem.run_bind, hr, Result.andThen_ok, Sem.run_pure]
    · show _ = [rowV ⟨w.heap.size, padOf []⟩ N sz]
      unfold rowV
      rw [hpad]
      simp
    · intro j o x hj hreal hx
      match j, hj, hx with
      | 0, hj, hx =>
        obtain rfl : rowO ⟨w.heap.size, padOf []⟩ (esG f N (fun _ => a0)) e N sz = o := by simpa [sqMk, lget] using hj
        obtain rfl : (⟨w.heap.size, padOf []⟩ : L1) = x := by simpa using hx
        unfold rowO
        rw [← hc]
        exact heap_alloc_new w _
      | k + 1, hj, _ => simp [sqMk] at hj
    · intro a b o p x y ha har hb hbr hx hy hxy
      match a, b, hx, hy with
      | 0, 0, _, _ => rfl
      | k + 1, _, hx, _ => simp at hx
      | 0, k + 1, _, hy => simp at hy
    · intro j o x hj hreal hx
      match j, hx with
      | 0, hx =>
        obtain rfl : (⟨w.heap.size, padOf []⟩ : L1) = x := by simpa using hx
        exact .inl (Nat.le_refl _)
      | k + 1, hx => simp at hx
    · exact Chg.alloc (Nat.le_refl _) _
theorem esG_split {α : Type} {f : α → List Value} {A : Nat → α} (n m : Nat) : esG f (n + m) A = esG f n A ++ esG f m (fun j => A (n + j)) := by
  induction m with
  | zero => simp [esG]
  | succ m ih => rw [← Nat.add_assoc, esG_succ, ih, esG_succ, List.append_assoc]
end Go.Proofs.Ytdgehbjiphahhaa

