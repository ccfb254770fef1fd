/-
  A map of strings that only grows, each with the value 1: its keys are a row. Nothing of the program stands here.
-/
import Derived.Test.YtnlnldpolaodbaaDoorRyP
import Derived.MapKept
namespace Go.Proofs.YtnlnldpolaodbaaDoor
open Go.RowKit Go.MapKept
set_option linter.unusedVariables false
set_option linter.unusedSimpArgs false
def entK (K : Nat → ByteArray) (k : Nat) : MapEntry := ⟨.string (K k), .int .i64 1, k⟩
def mapK (N : Nat) (K : Nat → ByteArray) : Obj := .map ⟨(List.range N).map (entK K)⟩ N
theorem find_absent {K : Nat → ByteArray} {x : ByteArray} : ∀ (l : List Nat) (i : Nat), (∀ j ∈ l, (x == K j) = false) → Instr.findNow .string (.string x) (l.map (entK K)) i = some none
  | [], _, _ => rfl
  | j :: l, i, h => by
    have e : Instr.sameNow .string (.string x) (.string (K j)) = some false := by
      show some (x == K j) = _
      rw [h j (List.mem_cons_self ..)]
    show (match Instr.sameNow .string (.string x) (.string (K j)) with | some true => _ | some false => _ | none => _) = _
    rw [e]
    exact find_absent l (i + 1) fun q hq => h q (List.mem_cons_of_mem _ hq)
theorem entK_push (N : Nat) (K : Nat → ByteArray) (x : ByteArray) : (⟨(List.range N).map (entK K)⟩ : Array MapEntry).push ⟨.string x, .int .i64 1, N⟩ = ⟨(List.range (N + 1)).map (entK (updF K N x))⟩ := by
  have h : (List.range N).map (entK (updF K N x)) = (List.range N).map (entK K) := List.map_congr_left fun k hk => by
    have := List.mem_range.1 hk
    unfold entK
    rw [updF_ne _ _ (by omega)]
  have h2 : entK (updF K N x) N = ⟨.string x, .int .i64 1, N⟩ := by unfold entK; rw [updF_at]
  rw [List.range_succ, List.map_append, h, List.map_singleton, h2]
  simp
section
variable {P : Program} {M : Nat → Prop} {B0 : Nat} {S : World → Prop} {T kt el : TypeId} {N : Nat} {K : Nat → ByteArray} {x : ByteArray}
/-- A key that isn't there. -/
theorem lkK_ok (hT : P.underlying T = some (.map kt el)) (hk : P.underlying kt = some .string) (hz : ∀ w, (zeroValue el).run P w = .ok (.int .i64 0) w) (h : ∀ j, j < N → (x == K j) = false) :
    SpcG P M B0 S ⟨fun ls => .op (.lkp T (.map (some (lget ls 0).n)) (.string x) false), fun ls => [mapK N K], 0, .normal, fun ls => [.int .i64 0], fun ls => [mapK N K], fun _ => []⟩ := by
  refine spc_read fun ls w hl hsat hS => ?_
  match ls, hl with
  | [l], _ =>
    have hg : w.heap[l.n]? = some (mapK N K) := hsat.hold 0 0 _ l _ _ rfl rfl rfl
    have hf := run_findKey (P := P) (w := w) hk (find_absent (List.range N) 0 fun j hj => h j (List.mem_range.1 hj))
    have hc : ∀ e, (Instr.checkKey e (9999 + 1) kt (.string x)).run P w = .ok () w := fun e => run_checkKey hk (by simp [IsKey]) e 9999
    have hg' : (getObj l.n).run P w = .ok (mapK N K) w := by
      have hg2 : w.heap[l.n]? = some (.map ⟨(List.range N).map (entK K)⟩ N) := hg
      simp [getObj, Sem.run, hg2, mapK]
    show (Q.lkp T (.map (some l.n)) (.string x) false).sem.run P w = _
    simp only [Q.sem, Instr.lookup, Sem.run_bind, run_underlying hT, Result.andThen_ok, hg', mapK, Sem.run_pure, hc, hf, hz]
    simp
/-- A key that isn't there is put in. -/
theorem upK_ok (hT : P.underlying T = some (.map kt el)) (hk : P.underlying kt = some .string) (h : ∀ j, j < N → (x == K j) = false) :
    SpcG P M B0 S ⟨fun ls => .op (.mup T (.map (some (lget ls 0).n)) (.string x) (.int .i64 1)), fun ls => [mapK N K], 0, .normal, fun ls => [undef], fun ls => [mapK (N + 1) (updF K N x)], fun _ => []⟩ := by
  intro ls w hlen hsat htb hS
  match ls, hlen with
  | [l], _ =>
    have hg : w.heap[l.n]? = some (.map ⟨(List.range N).map (entK K)⟩ N) := hsat.hold 0 0 _ l _ _ rfl rfl rfl
    have hf := run_findKey (P := P) (w := w) hk (find_absent (List.range N) 0 fun j hj => h j (List.mem_range.1 hj))
    have hc : ∀ e, (Instr.checkKey e (9999 + 1) kt (.string x)).run P w = .ok () w := fun e => run_checkKey hk (by simp [IsKey]) e 9999
    have hg' : (getObj l.n).run P w = .ok (.map ⟨(List.range N).map (entK K)⟩ N) w := by simp [getObj, Sem.run, hg]
    have hs := run_setObj_map (P := P) (mapK (N + 1) (updF K N x)) hg
    have hb := heap_set (o' := mapK (N + 1) (updF K N x)) hg
    have hr : (Instr.mapUpdate T (.map (some l.n)) (.string x) (.int .i64 1)).run P w = .ok () { w with heap := w.heap.setIfInBounds l.n (mapK (N + 1) (updF K N x)) } := by
      have e := entK_push N K x
      simp only [Instr.mapUpdate, Sem.run_bind, run_underlying hT, Result.andThen_ok, hg', hc, hf, Sem.run_pure]
      rw [e]
      exact hs
    have t0 : touchF [l] [mapK N K] l.n := ⟨0, 0, _, l, _, rfl, rfl, rfl⟩
    have hm : (mapK (N + 1) (updF K N x)) = .map ⟨(List.range (N + 1)).map (entK (updF K N x))⟩ (N + 1) := rfl
    have at_ : ∀ (j k : Nat) (o : Obj) (y : L1) (q : Nat) (p : Obj), ([mapK (N + 1) (updF K N x)] ++ ([] : List Obj))[j]? = some o → ([l] ++ ([] : List L1))[j]? = some y → own o y k = some (q, p) → j = 0 ∧ k = 0 ∧ q = l.n ∧ p = mapK (N + 1) (updF K N x) := fun j k o y q p hj hy hw => by
      match j, hj, hy with
      | 0, hj, hy =>
        obtain rfl : mapK (N + 1) (updF K N x) = o := by simpa using hj
        obtain rfl : l = y := by simpa using hy
        obtain ⟨q1, q2, q3, _⟩ := own_plain (rfl : isPend (mapK (N + 1) (updF K N x)) = false) hw
        exact ⟨rfl, q1, q2, q3⟩
      | j + 1, hj, _ => simp at hj
    refine ⟨undef, { w with heap := w.heap.setIfInBounds l.n (mapK (N + 1) (updF K N x)) }, .inr ⟨?_, rfl⟩, [], rfl, rfl, ⟨rfl, rfl, rfl, by simp, fun k _ ht => hb.2 k fun q => ht (by rw [q]; exact t0)⟩, fun _ => ⟨⟨fun j k o y q p hj hy hw => ?_, fun i j k k' o o' y y' q p p' hi hy hw hj hy' hw' => ?_⟩, fun j k o y q p hj hy hw => ?_⟩⟩
    · show (Q.mup T (.map (some l.n)) (.string x) (.int .i64 1)).sem.run P w = _
      simp only [Q.sem, Sem.run_bind, hr, Result.andThen_ok, Sem.run_pure]
    · obtain ⟨_, _, rfl, rfl⟩ := at_ j k o y q p hj hy hw
      exact hb.1
    · obtain ⟨e1, e2, _⟩ := at_ i k o y q p hi hy hw
      obtain ⟨e3, e4, _⟩ := at_ j k' o' y' q p' hj hy' hw'
      exact ⟨by omega, by omega⟩
    · obtain ⟨_, _, rfl, _⟩ := at_ j k o y q p hj hy hw
      exact .inr ⟨0, 0, _, l, _, rfl, rfl, rfl⟩
end
end Go.Proofs.YtnlnldpolaodbaaDoor
