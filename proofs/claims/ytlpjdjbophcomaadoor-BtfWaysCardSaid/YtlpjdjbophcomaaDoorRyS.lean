/-
  A map that only grows, its keys and values unknown: number k has the key kf (A k) and the value vf (A k), in the order in which they were put in. Functions that the model stands in for (math/bits.Add64). Nothing of the program stands here.
-/
import Derived.Test.YtlpjdjbophcomaaDoorRyR
import Derived.Laws.Externs
namespace Go.Proofs.YtlpjdjbophcomaaDoor
open Go.RowKit Go.MapKept
set_option linter.unusedVariables false
set_option linter.unusedSimpArgs false
/-- The first of N that e takes; N if there is none. -/
def fdx (e : Nat → Bool) (N : Nat) : Nat := ((List.range N).find? e).getD N
theorem fdx_some {e : Nat → Bool} {N : Nat} (h : fdx e N < N) : (List.range N).find? e = some (fdx e N) := by
  unfold fdx at h ⊢
  cases hf : (List.range N).find? e with
  | none => rw [hf] at h; simp at h
  | some j => rfl
theorem fdx_none {e : Nat → Bool} {N : Nat} (h : ¬ fdx e N < N) : (List.range N).find? e = none := by
  unfold fdx at h
  cases hf : (List.range N).find? e with
  | none => rfl
  | some j =>
    rw [hf] at h
    exact absurd (List.mem_range.1 (List.mem_of_find?_eq_some hf)) h
theorem fdx_is {e : Nat → Bool} {N : Nat} (h : fdx e N < N) : e (fdx e N) = true := by
  have := List.find?_some (fdx_some h)
  exact this
theorem fdx_not {e : Nat → Bool} {N : Nat} (h : ¬ fdx e N < N) {j : Nat} (hj : j < N) : e j = false := by
  have := List.find?_eq_none.1 (fdx_none h) j (List.mem_range.2 hj)
  simpa using this
def entG (K V : Nat → Value) (k : Nat) : MapEntry := ⟨K k, V k, k⟩
def mapG {α : Type} (kf vf : α → Value) (N : Nat) (A : Nat → α) : Obj := .map ⟨(List.range N).map (entG (fun k => kf (A k)) fun k => vf (A k))⟩ N
theorem findG {K V : Nat → Value} {d : TypeDesc} {x : Value} {e : Nat → Bool} : ∀ (n s : Nat), (∀ j, s ≤ j → j < s + n → Instr.sameNow d x (K j) = some (e j)) →
    Instr.findNow d x ((List.range' s n).map (entG K V)) s = some (((List.range' s n).find? e).map fun j => (j, V j)) := by
  intro n
  induction n with
  | zero => intro s _; rfl
  | succ n ih =>
    intro s h
    have h0 := h s (Nat.le_refl _) (by omega)
    have h1 := ih (s + 1) fun j a b => h j (by omega) (by omega)
    rw [List.range'_succ, List.map_cons, List.find?_cons]
    show (match Instr.sameNow d x (K s) with | some true => some (some (s, V s)) | some false => Instr.findNow d x ((List.range' (s + 1) n).map (entG K V)) (s + 1) | none => none) = _
    rw [h0]
    cases he : e s with
    | true => rfl
    | false => exact h1
section
variable {α : Type} {kf vf : α → Value} {P : Program} {M : Nat → Prop} {B0 : Nat} {S : World → Prop} {T kt el : TypeId} {d : TypeDesc} {N : Nat} {A : Nat → α} {x : Value} {e : Nat → Bool}
theorem findG_has (hs : ∀ j, Instr.sameNow d x (kf (A j)) = some (e j)) (h : fdx e N < N) :
    Instr.findNow d x ((List.range N).map (entG (fun k => kf (A k)) fun k => vf (A k))) 0 = some (some (fdx e N, vf (A (fdx e N)))) := by
  rw [List.range_eq_range', findG (e := e) N 0 fun j _ _ => hs j, ← List.range_eq_range', fdx_some h]
  rfl
theorem findG_none (hs : ∀ j, Instr.sameNow d x (kf (A j)) = some (e j)) (h : ¬ fdx e N < N) :
    Instr.findNow d x ((List.range N).map (entG (fun k => kf (A k)) fun k => vf (A k))) 0 = some none := by
  rw [List.range_eq_range', findG (e := e) N 0 fun j _ _ => hs j, ← List.range_eq_range', fdx_none h]
  rfl
def lkV (ok : Bool) (v : Value) (b : Bool) : Value := if ok then .tuple #[v, .bool b] else v
/-- What changes a map alone. -/
theorem upG_any {v : Value} {m m' : Obj} (hm : ∃ es c, m = .map es c) (hm' : isPend m' = false) (hr : ∀ (l : L1) (w : World), w.heap[l.n]? = some m → (Instr.mapUpdate T (.map (some l.n)) x v).run P w = .ok () { w with heap := w.heap.setIfInBounds l.n m' }) :
    SpcG P M B0 S ⟨fun ls => .op (.mup T (.map (some (lget ls 0).n)) x v), fun ls => [m], 0, .normal, fun ls => [undef], fun ls => [m'], fun _ => []⟩ := by
  intro ls w hlen hsat htb hS
  match ls, hlen with
  | [l], _ =>
    obtain ⟨es, c, rfl⟩ := hm
    have hg : w.heap[l.n]? = some (.map es c) := hsat.hold 0 0 _ l _ _ rfl rfl rfl
    have hr := hr l w hg
    have hb := heap_set (o' := m') hg
    have t0 : touchF [l] [.map es c] l.n := ⟨0, 0, _, l, _, rfl, rfl, rfl⟩
    have at_ : ∀ (j k : Nat) (o : Obj) (y : L1) (q : Nat) (p : Obj), ([m'] ++ ([] : List Obj))[j]? = some o → ([l] ++ ([] : List L1))[j]? = some y → own o y k = some (q, p) → j = 0 ∧ k = 0 ∧ q = l.n ∧ p = m' := fun j k o y q p hj hy hw => by
      match j, hj, hy with
      | 0, hj, hy =>
        obtain rfl : m' = o := by simpa using hj
        obtain rfl : l = y := by simpa using hy
        obtain ⟨q1, q2, q3, _⟩ := own_plain hm' hw
        exact ⟨rfl, q1, q2, q3⟩
      | j + 1, hj, _ => simp at hj
    refine ⟨undef, { w with heap := w.heap.setIfInBounds l.n m' }, .inr ⟨?_, rfl⟩, [], rfl, rfl, ⟨rfl, rfl, rfl, by simp, fun k _ ht => hb.2 k fun q => ht (by rw [q]; exact t0)⟩, fun _ => ⟨⟨fun j k o y q p hj hy hw => ?_, fun i j k k' o o' y y' q p p' hi hy hw hj hy' hw' => ?_⟩, fun j k o y q p hj hy hw => ?_⟩⟩
    · show (Q.mup T (.map (some l.n)) x v).sem.run P w = _
      simp only [Q.sem, Sem.run_bind, hr, Result.andThen_ok, Sem.run_pure]
    · obtain ⟨_, _, rfl, rfl⟩ := at_ j k o y q p hj hy hw
      exact hb.1
    · obtain ⟨e1, e2, _⟩ := at_ i k o y q p hi hy hw
      obtain ⟨e3, e4, _⟩ := at_ j k' o' y' q p' hj hy' hw'
      exact ⟨by omega, by omega⟩
    · obtain ⟨_, _, rfl, _⟩ := at_ j k o y q p hj hy hw
      exact .inr ⟨0, 0, _, l, _, rfl, rfl, rfl⟩
theorem entG_push (y : α) : (⟨(List.range N).map (entG (fun k => kf (A k)) fun k => vf (A k))⟩ : Array MapEntry).push ⟨kf y, vf y, N⟩ = ⟨(List.range (N + 1)).map (entG (fun k => kf (updF A N y k)) fun k => vf (updF A N y k))⟩ := by
  have h : (List.range N).map (entG (fun k => kf (updF A N y k)) fun k => vf (updF A N y k)) = (List.range N).map (entG (fun k => kf (A k)) fun k => vf (A k)) := List.map_congr_left fun k hk => by
    have := List.mem_range.1 hk
    unfold entG
    simp only [updF_ne _ _ (show k ≠ N by omega)]
  have h2 : entG (fun k => kf (updF A N y k)) (fun k => vf (updF A N y k)) N = ⟨kf y, vf y, N⟩ := by unfold entG; simp only [updF_at]
  rw [List.range_succ, List.map_append, h, List.map_singleton, h2]
  simp
theorem entG_modify (y : α) (i : Nat) : ((⟨(List.range N).map (entG (fun k => kf (A k)) fun k => vf (A k))⟩ : Array MapEntry).modify i fun e => { e with key := kf y, val := vf y }) = ⟨(List.range N).map (entG (fun k => kf (updF A i y k)) fun k => vf (updF A i y k))⟩ := by
  apply Array.ext_getElem?
  intro j
  rw [Array.getElem?_modify]
  simp only [List.getElem?_toArray, List.getElem?_map]
  by_cases hij : i = j
  · subst hij
    simp only [if_pos rfl, Option.map_map]
    by_cases hi : i < N
    · rw [List.getElem?_range hi]; simp [entG, updF_at]
    · rw [List.getElem?_eq_none (by simpa using hi)]; rfl
  · simp only [if_neg hij]
    by_cases hj : j < N
    · rw [List.getElem?_range hj]; simp [entG, updF_ne _ _ (show j ≠ i from fun q => hij q.symm)]
    · rw [List.getElem?_eq_none (by simpa using hj)]; rfl
/-- A key that isn't there is put in. -/
theorem upG_new (y : α) (hT : P.underlying T = some (.map kt el)) (hk : P.underlying kt = some d) (hx : IsKey d (kf y)) (hs : ∀ j, Instr.sameNow d (kf y) (kf (A j)) = some (e j)) (h : ¬ fdx e N < N) :
    SpcG P M B0 S ⟨fun ls => .op (.mup T (.map (some (lget ls 0).n)) (kf y) (vf y)), fun ls => [mapG kf vf N A], 0, .normal, fun ls => [undef], fun ls => [mapG kf vf (N + 1) (updF A N y)], fun _ => []⟩ := by
  refine upG_any ⟨_, _, rfl⟩ rfl fun l w hg => ?_
  have hg : w.heap[l.n]? = some (.map ⟨(List.range N).map (entG (fun k => kf (A k)) fun k => vf (A k))⟩ N) := hg
  have hf := run_findKey (P := P) (w := w) hk (findG_none (vf := vf) hs h)
  have hc : ∀ e, (Instr.checkKey e (9999 + 1) kt (kf y)).run P w = .ok () w := fun e => run_checkKey hk hx e 9999
  have hg' : (getObj l.n).run P w = .ok (.map ⟨(List.range N).map (entG (fun k => kf (A k)) fun k => vf (A k))⟩ N) w := by simp [getObj, Sem.run, hg]
  have hs := run_setObj_map (P := P) (mapG kf vf (N + 1) (updF A N y)) hg
  have e := entG_push (kf := kf) (vf := vf) (A := A) (N := N) y
  simp only [Instr.mapUpdate, Sem.run_bind, run_underlying hT, Result.andThen_ok, hg', hc, hf, Sem.run_pure]
  rw [e]
  exact hs
/-- The value of a key that is there is another one. -/
theorem upG_has (y : α) (hT : P.underlying T = some (.map kt el)) (hk : P.underlying kt = some d) (hK : ∀ z, IsKey d (kf z)) (hs : ∀ j, Instr.sameNow d (kf y) (kf (A j)) = some (e j)) (h : fdx e N < N) :
    SpcG P M B0 S ⟨fun ls => .op (.mup T (.map (some (lget ls 0).n)) (kf y) (vf y)), fun ls => [mapG kf vf N A], 0, .normal, fun ls => [undef], fun ls => [mapG kf vf N (updF A (fdx e N) y)], fun _ => []⟩ := by
  refine upG_any ⟨_, _, rfl⟩ rfl fun l w hg => ?_
  have hg : w.heap[l.n]? = some (.map ⟨(List.range N).map (entG (fun k => kf (A k)) fun k => vf (A k))⟩ N) := hg
  have hf := run_findKey (P := P) (w := w) hk (findG_has (vf := vf) hs h)
  have hc : ∀ e, (Instr.checkKey e (9999 + 1) kt (kf y)).run P w = .ok () w := fun e => run_checkKey hk (hK y) e 9999
  have hg' : (getObj l.n).run P w = .ok (.map ⟨(List.range N).map (entG (fun k => kf (A k)) fun k => vf (A k))⟩ N) w := by simp [getObj, Sem.run, hg]
  have hs' := run_setObj_map (P := P) (mapG kf vf N (updF A (fdx e N) y)) hg
  have heq : kf y = kf (A (fdx e N)) := by
    obtain ⟨r, h1, h2⟩ := sameNow_of_keys (hK y) (hK (A (fdx e N)))
    rw [hs] at h1
    simp at h1
    exact h2.1 (by rw [← h1]; exact fdx_is h)
  have hold : ((((⟨(List.range N).map (entG (fun k => kf (A k)) fun k => vf (A k))⟩ : Array MapEntry)[fdx e N]?).map (·.key)).getD (kf y)) = kf y := by
    simp [List.getElem?_range h, entG, heq]
  have hst := run_keyThatStays (P := P) (w := w) (hK y)
  have e2 := entG_modify (kf := kf) (vf := vf) (A := A) (N := N) y (fdx e N)
  simp only [Instr.mapUpdate, Sem.run_bind, run_underlying hT, Result.andThen_ok, hg', hc, hf, Sem.run_pure, hold, hst]
  rw [e2]
  exact hs'
end
/-! ### math/bits.Add64 -/
end Go.Proofs.YtlpjdjbophcomaaDoor

