/-
  Rows of unknown length: N elements, number k is f (A k). Nothing of the program stands here.
-/
import Derived.Test.YtlpjdjbophcomaaDoorRxV
namespace Go.Proofs.YtlpjdjbophcomaaDoor
open Go.RowKit
set_option linter.unusedVariables false
set_option linter.unusedSimpArgs false
section
variable {α : Type}
def updF (A : Nat → α) (k : Nat) (v : α) : Nat → α := fun j => if j = k then v else A j
theorem updF_at (A : Nat → α) (k : Nat) (v : α) : updF A k v k = v := if_pos rfl
theorem updF_ne (A : Nat → α) {k j : Nat} (v : α) (h : j ≠ k) : updF A k v j = A j := if_neg h
variable {f : α → Value} {N : Nat} {A B : Nat → α}
end
/-- What the slice's place of an unknown number is. -/
def ixS (T : TypeId) (iv : Value) (N k sz : Nat) : Q → Option (Value × Obl)
  | .idxA T' (.slice (some ⟨b, m, none⟩) n c) i => some (.pointer (some ⟨b, m + k * sz, none⟩), [(.n T', .n T), (.v i, .v iv), (.n n, .n N)])
  | _ => none
theorem ixS_ok {P : Program} {T : TypeId} {kd : IntKind} {x : Int} {N k sz : Nat} (hT : P.underlying T = some (.slice (P.elem T))) (hs : ∀ w, (sizeOf (P.elem T)).run P w = .ok sz w) (h0 : 0 ≤ x) (hN : x < N) (hk : x.toNat = k) :
    ∀ q v ob, ixS T (.int kd x) N k sz q = some (v, ob) → okL ob → ∀ w, q.sem.run P w = .ok (.value v) w := by
  intro q v ob hq ho w
  unfold ixS at hq
  split at hq
  · rename_i T' b m n c i
    simp at hq
    obtain ⟨rfl, rfl⟩ := hq
    obtain ⟨h1, h2⟩ := okL_cons.1 ho
    obtain ⟨h3, h4⟩ := okL_cons.1 h2
    have h5 := (okL_cons.1 h4).1
    simp at h1 h3 h5
    subst h1 h3 h5
    have := run_indexAt_slice (P := P) w T' ⟨b, m, none⟩ n c kd x hT
    rw [if_pos ⟨h0, hN⟩, hs] at this
    simp only [Result.andThen_ok, add_zero', hk] at this
    simp [Q.sem, this]
  · cases hq
/-! ### Rows whose elements have several cells -/
section
variable {α : Type}
def esG (f : α → List Value) (N : Nat) (A : Nat → α) : List Value := ((List.range N).map fun k => f (A k)).flatten
variable {f : α → List Value} {N sz : Nat} {A B : Nat → α}
theorem esG_zero : esG f 0 A = [] := rfl
theorem esG_congr (h : ∀ k, k < N → A k = B k) : esG f N A = esG f N B := by
  unfold esG
  congr 1
  apply List.map_congr_left
  intro k hk
  rw [h k (List.mem_range.1 hk)]
theorem esG_app (v : α) : esG f N A ++ f v = esG f (N + 1) (updF A N v) := by
  have h : esG f N A = esG f N (updF A N v) := esG_congr fun k hk => (updF_ne A v (by omega)).symm
  rw [h]
  unfold esG
  rw [List.range_succ, List.map_append, List.flatten_append]
  simp [updF]
theorem esG_succ : esG f (N + 1) A = esG f N A ++ f (A N) := by
  unfold esG
  rw [List.range_succ, List.map_append, List.flatten_append]
  simp
theorem esG_len (hf : ∀ x, (f x).length = sz) : ∀ {N : Nat}, (esG f N A).length = N * sz
  | 0 => by simp [esG]
  | N + 1 => by rw [esG_succ, List.length_append, esG_len hf, hf, Nat.succ_mul]
theorem esG_get (hf : ∀ x, (f x).length = sz) {k j : Nat} (hj : j < sz) : ∀ {N : Nat}, k < N → (esG f N A)[k * sz + j]? = (f (A k))[j]?
  | 0, h => absurd h (Nat.not_lt_zero _)
  | N + 1, h => by
    rw [esG_succ]
    by_cases hk : k = N
    · subst hk
      rw [List.getElem?_append_right (by rw [esG_len hf]; omega), esG_len hf]
      congr 1
      omega
    · have hk' : k < N := by omega
      have : k * sz + j < N * sz := by
        have := Nat.mul_le_mul_right sz (show k + 1 ≤ N by omega)
        rw [Nat.succ_mul] at this
        omega
      rw [List.getElem?_append_left (by rw [esG_len hf]; exact this)]
      exact esG_get hf hj hk'
end
/-- So many cells of a row, from a place on. -/
def saidG (i : Nat) (c : L1 → Array Value) : Nat → List Value → List Acc
  | _, [] => []
  | m, v :: r => .saidF i c m v :: saidG i c (m + 1) r
theorem saidG_ok {S : World → Prop} {i : Nat} {c : L1 → Array Value} : ∀ {vs : List Value} {m : Nat}, (∀ l j, j < vs.length → (c l)[m + j]? = vs[j]?) → AccOk S (saidG i c m vs)
  | [], _, _ => AccOk.nil
  | v :: r, m, h => fun x hx => by
    rcases List.mem_cons.1 hx with rfl | hx
    · intro l
      have := h l 0 (by simp)
      simpa using this
    · refine saidG_ok (vs := r) (m := m + 1) (fun l j hj => ?_) x hx
      have := h l (j + 1) (by simp; omega)
      rw [show m + 1 + j = m + (j + 1) by omega, this]
      simp
/-- The cells of element k, from its cell j on. -/
theorem accG {S : World → Prop} {i : Nat} {α : Type} {f : α → List Value} {N sz : Nat} {A : Nat → α} {k : Nat} (j : Nat) (vs : List Value) (hf : ∀ x, (f x).length = sz) (hk : k < N) (hv : ((f (A k)).drop j).take vs.length = vs) :
    AccOk S (saidG i (fun l => ⟨esG f N A ++ padL l N sz⟩) (0 + k * sz + j) vs) := by
  refine saidG_ok fun l n hn => ?_
  have hlen : vs.length ≤ (f (A k)).length - j := by
    have := congrArg List.length hv
    rw [List.length_take, List.length_drop] at this
    omega
  rw [hf] at hlen
  have hjn : j + n < sz := by omega
  have hlt : k * sz + (j + n) < N * sz := by
    have := Nat.mul_le_mul_right sz (show k + 1 ≤ N by omega)
    rw [Nat.succ_mul] at this
    omega
  show (⟨esG f N A ++ padL l N sz⟩ : Array Value)[0 + k * sz + j + n]? = _
  rw [List.getElem?_toArray, show 0 + k * sz + j + n = k * sz + (j + n) by omega, List.getElem?_append_left (by rw [esG_len hf]; exact hlt), esG_get hf hjn hk]
  conv => rhs; rw [← hv]
  rw [List.getElem?_take_of_lt hn, List.getElem?_drop]
/-- append of the first element to nothing. -/
def sqAppG0 {α : Type} (t ty e : TypeId) (consts : Array Bool) (sz : Nat) (f : α → List Value) (A : Nat → α) (c : Nat) (v : α) (T' : TypeId) : Spc :=
  ⟨fun ls => .op (.blt .append #[t, t] ty consts #[.slice none 0 0, .slice (some ⟨(ls.getD 0 ⟨0, fun _ => undef⟩).n, 0, none⟩) 1 c]),
   fun ls => [.cells ⟨f v⟩ T'], 1, .normal,
   fun ls => [rowV (ls.getD 1 ⟨0, fun _ => undef⟩) 1 sz],
   fun ls => [.cells ⟨f v⟩ T'], fun ls => [rowO (ls.getD 1 ⟨0, fun _ => undef⟩) (esG f 1 (updF A 0 v)) e 1 sz]⟩
theorem sqAppG0_ok {P : Program} {S : World → Prop} {t ty e : TypeId} {i : TypeInfo} {z : Value} {sz bytes : Nat} (R : RowT P t e i z sz bytes) (consts : Array Bool) {α : Type} {f : α → List Value} {A : Nat → α} {c : Nat} {v : α} {T' : TypeId}
    (hf : ∀ x, (f x).length = sz) (h1 : ∀ x, ((f x).all fun u => u.oneCell') = true) (hb : bytes ≤ 140737488355328) : SpcOk P S (sqAppG0 t ty e consts sz f A c v T') := by
  have h := sqApp0_ok (S := S) (ty := ty) R consts 1 c (f v) T' (by rw [hf, Nat.one_mul]) (h1 v) (by decide) (by decide) (by simpa using hb)
  have e1 : f v = esG f 1 (updF A 0 v) := by rw [← esG_app, esG_zero, List.nil_append]
  unfold sqApp0 at h
  unfold sqAppG0
  rw [← e1]
  exact h
/-! ### Functions -/
end Go.Proofs.YtlpjdjbophcomaaDoor

