/-
  make and copy of rows of unknown length. Nothing of the program stands here.
-/
import Derived.Test.YtnlnldpolaodbaaDoorRxX
import Derived.Laws.MakeOwn
import Derived.Laws.CopyRow
namespace Go.Proofs.YtnlnldpolaodbaaDoor
open Go.RowKit
set_option linter.unusedVariables false
set_option linter.unusedSimpArgs false
theorem made_esG {α : Type} {f : α → List Value} {N sz : Nat} {z : Array Value} {a0 : α} (hf : ∀ x, (f x).length = sz) (hz : z.toList = f a0) (hsz : 0 < sz) :
    (madeCells z (N * sz)).toList = esG f N (fun _ => a0) := by
  have hzs : z.size = sz := by rw [← hf a0, ← hz]; simp
  apply List.ext_getElem?
  intro m
  by_cases hm : m < N * sz
  · have h1 : m / sz < N := (Nat.div_lt_iff_lt_mul hsz).2 hm
    have h2 : m % sz < sz := Nat.mod_lt _ hsz
    have h3 := esG_get (A := fun _ => a0) hf h2 h1
    have h4 : m / sz * sz + m % sz = m := by rw [Nat.mul_comm]; exact Nat.div_add_mod m sz
    rw [h4, ← hz] at h3
    rw [h3]
    have h5 : m % sz < z.size := by omega
    have h6 : z.toList[m % sz]? = some z[m % sz] := by simp [h5]
    rw [h6]
    simp only [madeCells, Array.toList_map, Array.toList_range, List.getElem?_map, List.getElem?_range hm, Option.map_some, hzs]
    congr 1
    exact getElem!_pos z (m % sz) h5
  · rw [List.getElem?_eq_none (by simp [madeCells]; omega), List.getElem?_eq_none (by rw [esG_len hf]; omega)]
/-- make of a row of unknown length. -/
def sqMk {α : Type} (t e : TypeId) (sz : Nat) (f : α → List Value) (N : Nat) (a0 : α) : Spc :=
  ⟨fun ls => .op (.mks t (.int .i64 (N : Int)) (.int .i64 (N : Int))), fun _ => [], 1, .normal,
   fun ls => [rowV (lget ls 0) N sz], fun _ => [], fun ls => [rowO (lget ls 0) (esG f N (fun _ => a0)) e N sz]⟩
theorem sqMk_ok {P : Program} {S : World → Prop} {t e : TypeId} {i : TypeInfo} {z : Value} {sz bytes : Nat} (R : RowT P t e i z sz bytes) {α : Type} {f : α → List Value} {N : Nat} {a0 : α}
    (hf : ∀ x, (f x).length = sz) (hz : z.cells.toList = f a0) (h63 : N ≤ maxLen) (hb : N * bytes ≤ 140737488355328) : SpcOk P S (sqMk t e sz f N a0) := by
  intro ls w hlen hsat hS
  match ls, hlen with
  | [], _ =>
    have hmax : (N : Int) ≤ 9223372036854775807 := by simp only [maxLen] at h63; omega
    have hby : (i.bytes : Int) * (N : Int) ≤ 281474976710656 := by
      have : ((bytes * N : Nat) : Int) ≤ 281474976710656 := by rw [Nat.mul_comm]; omega
      rw [R.hby]; rwa [Int.natCast_mul] at this
    have hr := run_make (P := P) w t e i z R.ht R.hi R.hz .i64 .i64 N N (by omega) (Int.le_refl _) hby hmax
    simp only [Int.toNat_natCast, R.hsize] at hr
    have hpad : padL ⟨w.heap.size, padOf []⟩ N sz = [] := by
      unfold padL
      rw [padR_of]
      split <;> rfl
    have hc : (madeCells z.cells (N * sz)) = ⟨esG f N (fun _ => a0) ++ padL ⟨w.heap.size, padOf []⟩ N sz⟩ := by
      rw [hpad, List.append_nil]
      exact Array.ext' (made_esG hf hz R.hsz)
    refine ⟨.slice (some ⟨w.heap.size, 0, none⟩) N N, w.alloc (.cells (madeCells z.cells (N * sz)) e), .inl ?_, [⟨w.heap.size, padOf []⟩], rfl, ?_, ⟨?_, ?_⟩, ?_, ?_⟩
    · show (Q.sem (.mks t (.int .i64 (N : Int)) (.int .i64 (N : Int)))).run P w = _
      simp only [Q.sem, Sem.run_bind, hr, Result.andThen_ok, Sem.run_pure]
    · show _ = [rowV ⟨w.heap.size, padOf []⟩ N sz]
      unfold rowV
      rw [hpad]
      simp
    · intro j o x hj hreal hx
      match j, hj, hx with
      | 0, hj, hx =>
        obtain rfl : rowO ⟨w.heap.size, padOf []⟩ (esG f N (fun _ => a0)) e N sz = o := by simpa [sqMk, lget] using hj
        obtain rfl : (⟨w.heap.size, padOf []⟩ : L1) = x := by simpa using hx
        unfold rowO
        rw [← hc]
        exact heap_alloc_new w _
      | k + 1, hj, _ => simp [sqMk] at hj
    · intro a b o p x y ha har hb hbr hx hy hxy
      match a, b, hx, hy with
      | 0, 0, _, _ => rfl
      | k + 1, _, hx, _ => simp at hx
      | 0, k + 1, _, hy => simp at hy
    · intro j o x hj hreal hx
      match j, hx with
      | 0, hx =>
        obtain rfl : (⟨w.heap.size, padOf []⟩ : L1) = x := by simpa using hx
        exact .inl (Nat.le_refl _)
      | k + 1, hx => simp at hx
    · exact Chg.alloc (Nat.le_refl _) _
/-- copy of a row into another one of its length. -/
def sqCp {α : Type} (t ty e : TypeId) (consts : Array Bool) (sz : Nat) (f : α → List Value) (N : Nat) (B A : Nat → α) (T' : TypeId) : Spc :=
  ⟨fun ls => .op (.blt .copy #[t, t] ty consts #[rowV (lget ls 0) N sz, rowV (lget ls 1) N sz]),
   fun ls => [rowO (lget ls 0) (esG f N B) e N sz, rowO (lget ls 1) (esG f N A) T' N sz], 0, .normal,
   fun ls => [.int .i64 (N : Int)], fun ls => [rowO (lget ls 0) (esG f N A) e N sz, rowO (lget ls 1) (esG f N A) T' N sz], fun _ => []⟩
theorem sqCp_ok {P : Program} {S : World → Prop} {t ty e : TypeId} {i : TypeInfo} {z : Value} {sz bytes : Nat} (R : RowT P t e i z sz bytes) (consts : Array Bool) {α : Type} {f : α → List Value} {N : Nat} {A B : Nat → α} {T' : TypeId}
    (hf : ∀ x, (f x).length = sz) (h1 : ∀ x, ((f x).all fun u => u.oneCell') = true) : SpcOk P S (sqCp t ty e consts sz f N B A T') := by
  intro ls w hlen hsat hS
  match ls, hlen with
  | [r, l], _ =>
    have hgr : w.heap[r.n]? = some (.cells ⟨esG f N B ++ padL r N sz⟩ e (0, 0)) := hsat.holds 0 _ r rfl rfl rfl
    have hg : w.heap[l.n]? = some (rowO l (esG f N A) T' N sz) := hsat.holds 1 _ l rfl rfl rfl
    have hrl : r.n ≠ l.n := fun k => absurd (hsat.inj 0 1 _ _ r l rfl rfl rfl rfl rfl rfl k) (by decide)
    have hfc := run_firstCells_some (P := P) w sz N ⟨l.n, 0, none⟩ N (N + (padL l N sz).length / sz) (esG f N A) (esG_len hf) (row_cellG hg)
    have hst := run_storeCells_at P r.n 0 e (esG f N A) 0 ⟨esG f N B ++ padL r N sz⟩ w hgr (by
      show _ ≤ (esG f N B ++ padL r N sz).length
      rw [List.length_append, esG_len hf, esG_len hf]; omega) (esG_one h1)
    have hcs : (List.take (0 + 0) (⟨esG f N B ++ padL r N sz⟩ : Array Value).toList ++ esG f N A ++ List.drop (0 + 0 + (esG f N A).length) (⟨esG f N B ++ padL r N sz⟩ : Array Value).toList).toArray = ⟨esG f N A ++ padL r N sz⟩ := by
      have hl : (esG f N A).length = (esG f N B).length := by rw [esG_len hf, esG_len hf]
      simp [hl]
    rw [hcs] at hst
    have hr : (Builtin.copy_ #[t, t] ty #[rowV r N sz, rowV l N sz]).run P w = .ok (goInt N) (w.setRow r.n ⟨esG f N A ++ padL r N sz⟩) := by
      simp only [rowV]
      simp [Builtin.copy_, run_underlying R.ht, Builtin.lenOf, sizeOf, typeInfo, R.hi, R.hsize, hfc, hst]
    refine ⟨.int .i64 (N : Int), w.setRow r.n ⟨esG f N A ++ padL r N sz⟩, .inl ?_, [], rfl, rfl, ⟨?_, ?_⟩, ?_, ?_⟩
    · show (Q.sem (.blt .copy #[t, t] ty consts #[rowV r N sz, rowV l N sz])).run P w = _
      simp only [Q.sem, builtin, Sem.run_bind, hr, Result.andThen_ok, Sem.run_pure]
      rfl
    · intro j o x hj hreal hx
      match j, hj, hx with
      | 0, hj, hx =>
        obtain rfl : rowO r (esG f N A) e N sz = o := by simpa [sqCp, lget] using hj
        obtain rfl : r = x := by simpa using hx
        exact setRow_heap w r.n _ _ e (0, 0) hgr
      | 1, hj, hx =>
        obtain rfl : rowO l (esG f N A) T' N sz = o := by simpa [sqCp, lget] using hj
        obtain rfl : l = x := by simpa using hx
        rw [setRow_other _ _ _ _ hrl.symm]; exact hg
      | k + 2, hj, _ => simp [sqCp] at hj
    · intro a b o p x y ha har hb hbr hx hy hxy
      match a, b, hx, hy with
      | 0, 0, _, _ => rfl
      | 1, 1, _, _ => rfl
      | 0, 1, hx, hy =>
        obtain rfl : r = x := by simpa using hx
        obtain rfl : l = y := by simpa using hy
        exact absurd hxy hrl
      | 1, 0, hx, hy =>
        obtain rfl : l = x := by simpa using hx
        obtain rfl : r = y := by simpa using hy
        exact absurd hxy.symm hrl
      | k + 2, _, hx, _ => simp at hx
      | _, k + 2, _, hy => simp at hy
    · intro j o x hj hreal hx
      simp [sqCp] at hj
    · refine ⟨rfl, rfl, rfl, by simp, fun k hk ht => setRow_other _ _ _ _ fun q => ht ⟨0, _, r, rfl, rfl, rfl, q.symm⟩⟩
/-- The cells of element k of an argument's row, from its cell j on. -/
theorem accArg {S : World → Prop} {i : Nat} {α : Type} {f : α → List Value} {N sz m0 : Nat} {c0 : Array Value} {A : Nat → α} {k : Nat} (j : Nat) (vs : List Value)
    (hc : ∀ k, k < N → ∀ j, j < sz → c0[m0 + k * sz + j]? = (f (A k))[j]?) (hf : ∀ x, (f x).length = sz) (hk : k < N) (hv : ((f (A k)).drop j).take vs.length = vs) :
    AccOk S (saidG i (fun _ => c0) (m0 + k * sz + j) vs) := by
  refine saidG_ok fun l n hn => ?_
  have hlen : vs.length ≤ (f (A k)).length - j := by
    have := congrArg List.length hv
    rw [List.length_take, List.length_drop] at this
    omega
  rw [hf] at hlen
  show c0[m0 + k * sz + j + n]? = _
  rw [show m0 + k * sz + j + n = m0 + k * sz + (j + n) by omega, hc k hk (j + n) (by omega)]
  conv => rhs; rw [← hv]
  rw [List.getElem?_take_of_lt hn, List.getElem?_drop]
/-- A row without its element number k. -/
def cutF {α : Type} (A : Nat → α) (k : Nat) : Nat → α := fun j => if j < k then A j else A (j + 1)
theorem esG_split {α : Type} {f : α → List Value} {A : Nat → α} (n m : Nat) : esG f (n + m) A = esG f n A ++ esG f m (fun j => A (n + j)) := by
  induction m with
  | zero => simp [esG]
  | succ m ih => rw [← Nat.add_assoc, esG_succ, ih, esG_succ, List.append_assoc]
theorem esG_cut {α : Type} {f : α → List Value} {A : Nat → α} {N k : Nat} (h : k < N) : esG f (N - 1) (cutF A k) = esG f k A ++ esG f (N - 1 - k) (fun j => A (k + 1 + j)) := by
  have e : N - 1 = k + (N - 1 - k) := by omega
  conv => lhs; rw [e, esG_split]
  congr 1
  · exact esG_congr fun j hj => by simp [cutF, hj]
  · exact esG_congr fun j hj => by
      have : ¬ k + j < k := by omega
      simp only [cutF, this, if_false]
      congr 1; omega
end Go.Proofs.YtnlnldpolaodbaaDoor
