/-
  Maps of unknown keys that grow, entry by entry: m[k]++; keys that are structs. Nothing of the program stands here.
-/
import Derived.Test.YtlpjdjbophcomaaDoorRyS
namespace Go.Proofs.YtlpjdjbophcomaaDoor
open Go.RowKit Go.MapKept
set_option linter.unusedVariables false
set_option linter.unusedSimpArgs false
theorem bytes_beq : ∀ a : ByteArray, (a == a) = true
  | ⟨a⟩ => by show (a == a) = true; simp
section
variable {α : Type} {kf vf : α → Value} {P : Program} {M : Nat → Prop} {B0 : Nat} {S : World → Prop} {T kt el : TypeId} {d : TypeDesc} {N : Nat} {A : Nat → α} {x : Value} {e : Nat → Bool}
/-- Where a key is found. -/
def FG (P : Program) (kt : TypeId) (x : Value) (kf vf : α → Value) (N : Nat) (A : Nat → α) (e : Nat → Bool) : Prop :=
  (∀ w, (Instr.findKey kt x ((List.range N).map (entG (fun k => kf (A k)) fun k => vf (A k)))).run P w = .ok (if fdx e N < N then some (fdx e N, vf (A (fdx e N))) else none) w) ∧ (∀ b w, (Instr.checkKey b (9999 + 1) kt x).run P w = .ok () w) ∧ ∀ w, (Instr.keyThatStays x x).run P w = .ok x w
theorem FG.plain (hk : P.underlying kt = some d) (hx : IsKey d x) (hs : ∀ j, Instr.sameNow d x (kf (A j)) = some (e j)) : FG P kt x kf vf N A e := by
  refine ⟨fun w => ?_, fun b w => run_checkKey hk hx b 9999, fun w => run_keyThatStays hx⟩
  by_cases h : fdx e N < N
  · rw [if_pos h]; exact run_findKey hk (findG_has (vf := vf) hs h)
  · rw [if_neg h]; exact run_findKey hk (findG_none (vf := vf) hs h)
theorem find_ask {K V : Nat → Value} {w : World} : ∀ (n s : Nat), (∀ j, s ≤ j → j < s + n → (Op.equal kt x (K j)).run P w = .ok (e j) w) →
    (Instr.findAsking kt x ((List.range' s n).map (entG K V)) s).run P w = .ok (((List.range' s n).find? e).map fun j => (j, V j)) w := by
  intro n
  induction n with
  | zero => intro s _; rfl
  | succ n ih =>
    intro s h
    have h0 := h s (Nat.le_refl _) (by omega)
    have h1 := ih (s + 1) fun j a b => h j (by omega) (by omega)
    rw [List.range'_succ, List.map_cons, List.find?_cons]
    simp only [Instr.findAsking, Sem.run_bind, entG, h0, Result.andThen_ok]
    cases he : e s with
    | true => simp [Sem.run_pure]
    | false =>
      simp only [Bool.false_eq_true, if_false]
      exact h1
theorem FG.struct {fs : Array Field} (hk : P.underlying kt = some (.struct fs)) (hc : ∀ b w, (Instr.checkKey b (9999 + 1) kt x).run P w = .ok () w) (hs : Instr.sameBits 10000 x x = true) (he : ∀ j w, (Op.equal kt x (kf (A j))).run P w = .ok (e j) w) : FG P kt x kf vf N A e := by
  refine ⟨fun w => ?_, hc, fun w => by simp [Instr.keyThatStays, hs]⟩
  have hask := find_ask (P := P) (w := w) (kt := kt) (x := x) (e := e) (K := fun k => kf (A k)) (V := fun k => vf (A k)) N 0 fun j _ _ => he j w
  rw [← List.range_eq_range'] at hask
  have hres : ((List.range N).find? e).map (fun j => (j, vf (A j))) = if fdx e N < N then some (fdx e N, vf (A (fdx e N))) else none := by
    by_cases h : fdx e N < N
    · rw [if_pos h, fdx_some h]; rfl
    · rw [if_neg h, fdx_none h]; rfl
  rw [hres] at hask
  simp only [Instr.findKey, Sem.run_bind, run_underlying hk, Result.andThen_ok]
  cases hn : Instr.findNow (.struct fs) x ((List.range N).map (entG (fun k => kf (A k)) fun k => vf (A k))) 0 with
  | none => exact hask
  | some r =>
    -- only of nothing
    cases N with
    | zero =>
      simp only [List.range_zero, List.map_nil, Instr.findNow, Option.some.injEq] at hn
      subst hn
      rw [if_neg (Nat.not_lt_zero _)]
      rfl
    | succ N =>
      rw [List.range_succ_eq_map, List.map_cons] at hn
      simp only [Instr.findNow, Instr.sameNow] at hn
      cases hn
/-- A key that is there. -/
theorem lkE_has (ok : Bool) (hT : P.underlying T = some (.map kt el)) (hF : FG P kt x kf vf N A e) (h : fdx e N < N) :
    SpcG P M B0 S ⟨fun ls => .op (.lkp T (.map (some (lget ls 0).n)) x ok), fun ls => [mapG kf vf N A], 0, .normal, fun ls => [lkV ok (vf (A (fdx e N))) true], fun ls => [mapG kf vf N A], fun _ => []⟩ := by
  refine spc_read fun ls w hl hsat hS => ?_
  match ls, hl with
  | [l], _ =>
    have hg : w.heap[l.n]? = some (mapG kf vf N A) := hsat.hold 0 0 _ l _ _ rfl rfl rfl
    have hf := hF.1 w
    rw [if_pos h] at hf
    have hc := fun b => hF.2.1 b w
    have hg' : (getObj l.n).run P w = .ok (mapG kf vf N A) w := by
      have hg2 : w.heap[l.n]? = some (.map ⟨(List.range N).map (entG (fun k => kf (A k)) fun k => vf (A k))⟩ N) := hg
      simp [getObj, Sem.run, hg2, mapG]
    show (Q.lkp T (.map (some l.n)) x ok).sem.run P w = _
    simp only [Q.sem, Instr.lookup, Sem.run_bind, run_underlying hT, Result.andThen_ok, hg', mapG, Sem.run_pure, hc, hf]
    cases ok <;> simp [lkV]
/-- A key that isn't there. -/
theorem lkE_none (ok : Bool) (z : Value) (hT : P.underlying T = some (.map kt el)) (hF : FG P kt x kf vf N A e) (hz : ∀ w, (zeroValue el).run P w = .ok z w) (h : ¬ fdx e N < N) :
    SpcG P M B0 S ⟨fun ls => .op (.lkp T (.map (some (lget ls 0).n)) x ok), fun ls => [mapG kf vf N A], 0, .normal, fun ls => [lkV ok z false], fun ls => [mapG kf vf N A], fun _ => []⟩ := by
  refine spc_read fun ls w hl hsat hS => ?_
  match ls, hl with
  | [l], _ =>
    have hg : w.heap[l.n]? = some (mapG kf vf N A) := hsat.hold 0 0 _ l _ _ rfl rfl rfl
    have hf := hF.1 w
    rw [if_neg h] at hf
    have hc := fun b => hF.2.1 b w
    have hg' : (getObj l.n).run P w = .ok (mapG kf vf N A) w := by
      have hg2 : w.heap[l.n]? = some (.map ⟨(List.range N).map (entG (fun k => kf (A k)) fun k => vf (A k))⟩ N) := hg
      simp [getObj, Sem.run, hg2, mapG]
    show (Q.lkp T (.map (some l.n)) x ok).sem.run P w = _
    simp only [Q.sem, Instr.lookup, Sem.run_bind, run_underlying hT, Result.andThen_ok, hg', mapG, Sem.run_pure, hc, hf, hz]
    cases ok <;> simp [lkV]
/-- A key that has just been put. -/
theorem lkE_new {ef : α → Bool} {y : α} (ok : Bool) (hT : P.underlying T = some (.map kt el)) (hF : FG P kt (kf y) kf vf (N + 1) (updF A N y) (fun j => ef (updF A N y j))) (h : ¬ fdx (fun j => ef (A j)) N < N) (hy : ef y = true) :
    SpcG P M B0 S ⟨fun ls => .op (.lkp T (.map (some (lget ls 0).n)) (kf y) ok), fun ls => [mapG kf vf (N + 1) (updF A N y)], 0, .normal, fun ls => [lkV ok (vf y) true], fun ls => [mapG kf vf (N + 1) (updF A N y)], fun _ => []⟩ := by
  have e1 : fdx (fun j => ef (updF A N y j)) (N + 1) = N := by
    have h1 : (List.range N).find? (fun j => ef (updF A N y j)) = none := List.find?_eq_none.2 fun j hj => by
      have hj := List.mem_range.1 hj
      have h2 := fdx_not h hj
      show ¬ (ef (updF A N y j) = true)
      rw [updF_ne _ _ (show j ≠ N by omega), h2]
      simp
    unfold fdx
    rw [List.range_succ, List.find?_append, h1]
    simp [updF_at, hy]
  have := lkE_has (M := M) (B0 := B0) (S := S) ok hT hF (by rw [e1]; omega)
  rw [e1, updF_at] at this
  exact this
/-- What changes a map alone: any operation. -/
theorem chG_any {q : L1 → Q} {v : Value} {m m' : Obj} (hm : ∃ es c, m = .map es c) (hm' : isPend m' = false) (hr : ∀ (l : L1) (w : World), w.heap[l.n]? = some m → (q l).sem.run P w = .ok (.value v) { w with heap := w.heap.setIfInBounds l.n m' } ∨ ((q l).sem.run P w = .ok .skip { w with heap := w.heap.setIfInBounds l.n m' } ∧ v = undef)) :
    SpcG P M B0 S ⟨fun ls => .op (q (lget ls 0)), fun ls => [m], 0, .normal, fun ls => [v], fun ls => [m'], fun _ => []⟩ := by
  intro ls w hlen hsat htb hS
  match ls, hlen with
  | [l], _ =>
    obtain ⟨es, c, rfl⟩ := hm
    have hg : w.heap[l.n]? = some (.map es c) := hsat.hold 0 0 _ l _ _ rfl rfl rfl
    have hr := hr l w hg
    have hb := heap_set (o' := m') hg
    have t0 : touchF [l] [.map es c] l.n := ⟨0, 0, _, l, _, rfl, rfl, rfl⟩
    have at_ : ∀ (j k : Nat) (o : Obj) (y : L1) (q : Nat) (p : Obj), ([m'] ++ ([] : List Obj))[j]? = some o → ([l] ++ ([] : List L1))[j]? = some y → own o y k = some (q, p) → j = 0 ∧ k = 0 ∧ q = l.n ∧ p = m' := fun j k o y q p hj hy hw => by
      match j, hj, hy with
      | 0, hj, hy =>
        obtain rfl : m' = o := by simpa using hj
        obtain rfl : l = y := by simpa using hy
        obtain ⟨q1, q2, q3, _⟩ := own_plain hm' hw
        exact ⟨rfl, q1, q2, q3⟩
      | j + 1, hj, _ => simp at hj
    refine ⟨v, { w with heap := w.heap.setIfInBounds l.n m' }, ?_, [], rfl, rfl, ⟨rfl, rfl, rfl, by simp, fun k _ ht => hb.2 k fun q => ht (by rw [q]; exact t0)⟩, fun _ => ⟨⟨fun j k o y q p hj hy hw => ?_, fun i j k k' o o' y y' q p p' hi hy hw hj hy' hw' => ?_⟩, fun j k o y q p hj hy hw => ?_⟩⟩
    · exact hr
    · obtain ⟨_, _, rfl, rfl⟩ := at_ j k o y q p hj hy hw
      exact hb.1
    · obtain ⟨e1, e2, _⟩ := at_ i k o y q p hi hy hw
      obtain ⟨e3, e4, _⟩ := at_ j k' o' y' q p' hj hy' hw'
      exact ⟨by omega, by omega⟩
    · obtain ⟨_, _, rfl, _⟩ := at_ j k o y q p hj hy hw
      exact .inr ⟨0, 0, _, l, _, rfl, rfl, rfl⟩
/-- m[k] is about to be turned: it is there. -/
theorem enE_has (hT : P.underlying T = some (.map kt el)) (hF : FG P kt x kf vf N A e) (h : fdx e N < N) (hq : x = kf (A (fdx e N))) :
    SpcG P M B0 S ⟨fun ls => .op (.men T (.map (some (lget ls 0).n)) x), fun ls => [mapG kf vf N A], 0, .normal, fun ls => [.tuple #[vf (A (fdx e N)), .int .i64 ((fdx e N : Nat) : Int)]], fun ls => [mapG kf vf N A], fun _ => []⟩ := by
  refine chG_any (q := fun l => .men T (.map (some l.n)) x) (v := .tuple #[vf (A (fdx e N)), .int .i64 ((fdx e N : Nat) : Int)]) ⟨_, _, rfl⟩ rfl fun l w hg => .inl ?_
  have hg : w.heap[l.n]? = some (.map ⟨(List.range N).map (entG (fun k => kf (A k)) fun k => vf (A k))⟩ N) := hg
  have hf := hF.1 w
  rw [if_pos h] at hf
  have hc := fun b => hF.2.1 b w
  have hg' : (getObj l.n).run P w = .ok (.map ⟨(List.range N).map (entG (fun k => kf (A k)) fun k => vf (A k))⟩ N) w := by simp [getObj, Sem.run, hg]
  have hold : ((((⟨(List.range N).map (entG (fun k => kf (A k)) fun k => vf (A k))⟩ : Array MapEntry)[fdx e N]?).map (·.key)).getD x) = x := by
    simp [List.getElem?_range h, entG, hq.symm]
  have hborn : ((((⟨(List.range N).map (entG (fun k => kf (A k)) fun k => vf (A k))⟩ : Array MapEntry)[fdx e N]?).map (·.born)).getD 0) = fdx e N := by
    simp [List.getElem?_range h, entG]
  have hborn2 : ((((⟨(List.range N).map (entG (fun k => kf (A k)) fun k => vf (A k))⟩ : Array MapEntry)[fdx e N]?).map (fun x => (x.born : Int))).getD 0) = ((fdx e N : Nat) : Int) := by
    simp [List.getElem?_range h, entG]
  have hst := hF.2.2 w
  have hmod : ((⟨(List.range N).map (entG (fun k => kf (A k)) fun k => vf (A k))⟩ : Array MapEntry).modify (fdx e N) fun e => { e with key := x }) = ⟨(List.range N).map (entG (fun k => kf (A k)) fun k => vf (A k))⟩ := by
    apply Array.ext_getElem?
    intro j
    rw [Array.getElem?_modify]
    simp only [List.getElem?_toArray, List.getElem?_map]
    split
    · rename_i hij
      subst hij
      rw [List.getElem?_range h]
      simp [entG, hq.symm]
    · rfl
  have hs' := run_setObj_map (P := P) (mapG kf vf N A) hg
  simp only [Q.sem, Instr.mapEntry, Sem.run_bind, run_underlying hT, Result.andThen_ok, hg', hc, hf, hold, hst]
  rw [hmod]
  have hs2 : (setObj l.n (.map ⟨(List.range N).map (entG (fun k => kf (A k)) fun k => vf (A k))⟩ N)).run P w = _ := hs'
  rw [hs2]
  simp only [Result.andThen_ok, Sem.run_pure]
  simp only [hborn2]
  rfl
/-- It isn't there: it begins as nothing. -/
theorem enE_new (y : α) (hT : P.underlying T = some (.map kt el)) (hF : FG P kt (kf y) kf vf N A e) (hz : ∀ w, (zeroValue el).run P w = .ok (vf y) w) (h : ¬ fdx e N < N) :
    SpcG P M B0 S ⟨fun ls => .op (.men T (.map (some (lget ls 0).n)) (kf y)), fun ls => [mapG kf vf N A], 0, .normal, fun ls => [.tuple #[vf y, .int .i64 ((N : Nat) : Int)]], fun ls => [mapG kf vf (N + 1) (updF A N y)], fun _ => []⟩ := by
  refine chG_any (q := fun l => .men T (.map (some l.n)) (kf y)) (v := .tuple #[vf y, .int .i64 ((N : Nat) : Int)]) ⟨_, _, rfl⟩ rfl fun l w hg => .inl ?_
  have hg : w.heap[l.n]? = some (.map ⟨(List.range N).map (entG (fun k => kf (A k)) fun k => vf (A k))⟩ N) := hg
  have hf := hF.1 w
  rw [if_neg h] at hf
  have hc := fun b => hF.2.1 b w
  have hg' : (getObj l.n).run P w = .ok (.map ⟨(List.range N).map (entG (fun k => kf (A k)) fun k => vf (A k))⟩ N) w := by simp [getObj, Sem.run, hg]
  have hs := run_setObj_map (P := P) (mapG kf vf (N + 1) (updF A N y)) hg
  have e := entG_push (kf := kf) (vf := vf) (A := A) (N := N) y
  simp only [Q.sem, Instr.mapEntry, Sem.run_bind, run_underlying hT, Result.andThen_ok, hg', hc, hf, hz]
  rw [e]
  have hs2 : (setObj l.n (.map ⟨(List.range (N + 1)).map (entG (fun k => kf (updF A N y k)) fun k => vf (updF A N y k))⟩ (N + 1))).run P w = _ := hs
  rw [hs2]
  simp only [Result.andThen_ok, Sem.run_pure]
  rfl
/-- It is turned. -/
theorem esE_ok {k : Nat} (y : α) (hk : k < N) (hq : kf y = kf (A k)) :
    SpcG P M B0 S ⟨fun ls => .op (.est T (.map (some (lget ls 0).n)) (.int .i64 ((k : Nat) : Int)) (vf y)), fun ls => [mapG kf vf N A], 0, .normal, fun ls => [undef], fun ls => [mapG kf vf N (updF A k y)], fun _ => []⟩ := by
  refine chG_any (q := fun l => .est T (.map (some l.n)) (.int .i64 ((k : Nat) : Int)) (vf y)) (v := undef) ⟨_, _, rfl⟩ rfl fun l w hg => .inr ⟨?_, rfl⟩
  have hg : w.heap[l.n]? = some (.map ⟨(List.range N).map (entG (fun k => kf (A k)) fun k => vf (A k))⟩ N) := hg
  have hg' : (getObj l.n).run P w = .ok (.map ⟨(List.range N).map (entG (fun k => kf (A k)) fun k => vf (A k))⟩ N) w := by simp [getObj, Sem.run, hg]
  have hs := run_setObj_map (P := P) (mapG kf vf N (updF A k y)) hg
  have hi : (⟨(List.range N).map (entG (fun k => kf (A k)) fun k => vf (A k))⟩ : Array MapEntry).findIdx? (fun e => (e.born : Int) == ((k : Nat) : Int)) = some k := by
    rw [Array.findIdx?_eq_some_iff_getElem]
    refine ⟨by simpa using hk, by simp [entG], fun j hj => ?_⟩
    simp only [List.getElem_toArray, List.getElem_map, List.getElem_range, entG]
    simp
    omega
  have hmod : ((⟨(List.range N).map (entG (fun k => kf (A k)) fun k => vf (A k))⟩ : Array MapEntry).modify k fun e => { e with val := vf y }) = ⟨(List.range N).map (entG (fun i => kf (updF A k y i)) fun i => vf (updF A k y i))⟩ := by
    rw [← entG_modify (kf := kf) (vf := vf) (A := A) (N := N) y k]
    apply Array.ext_getElem?
    intro j
    rw [Array.getElem?_modify, Array.getElem?_modify]
    split
    · rename_i hij
      subst hij
      simp [List.getElem?_range hk, entG, hq]
    · rfl
  simp only [Q.sem, Instr.entryStore, Sem.run_bind, Result.andThen_ok, hg', asInt, asIntOf, Sem.run_pure, hi]
  rw [hmod]
  have hs2 : (setObj l.n (.map ⟨(List.range N).map (entG (fun i => kf (updF A k y i)) fun i => vf (updF A k y i))⟩ N)).run P w = _ := hs
  rw [hs2]
  rfl
end
end Go.Proofs.YtlpjdjbophcomaaDoor

