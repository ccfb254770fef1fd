/-
  Rows of unknown length: N elements, number k is f (A k). Nothing of the program stands here.
-/
import Derived.Test.YtnlnldpolaodbaaDoorRxV
namespace Go.Proofs.YtnlnldpolaodbaaDoor
open Go.RowKit
set_option linter.unusedVariables false
set_option linter.unusedSimpArgs false
section
variable {α : Type}
def updF (A : Nat → α) (k : Nat) (v : α) : Nat → α := fun j => if j = k then v else A j
theorem updF_at (A : Nat → α) (k : Nat) (v : α) : updF A k v k = v := if_pos rfl
theorem updF_ne (A : Nat → α) {k j : Nat} (v : α) (h : j ≠ k) : updF A k v j = A j := if_neg h
def esM (f : α → Value) (N : Nat) (A : Nat → α) : List Value := (List.range N).map fun k => f (A k)
variable {f : α → Value} {N : Nat} {A B : Nat → α}
theorem esM_len : (esM f N A).length = N := by simp [esM]
theorem esM_len1 : (esM f N A).length = N * 1 := by simp [esM]
theorem esM_get {k : Nat} (h : k < N) : (esM f N A)[k]? = some (f (A k)) := by simp [esM, h]
theorem esM_congr (h : ∀ k, k < N → A k = B k) : esM f N A = esM f N B := by
  apply List.map_congr_left
  intro k hk
  rw [h k (List.mem_range.1 hk)]
theorem esM_set {k : Nat} (v : α) : (esM f N A).set k (f v) = esM f N (updF A k v) := by
  apply List.ext_getElem?
  intro j
  rw [List.getElem?_set]
  by_cases hj : k = j
  · subst hj
    by_cases hk : k < N
    · simp [esM, updF, hk]
    · simp [esM, hk]
  · by_cases hk : j < N
    · rw [if_neg hj, esM_get hk, esM_get hk, updF_ne _ _ (fun e => hj e.symm)]
    · rw [if_neg hj, List.getElem?_eq_none (by simp [esM]; omega), List.getElem?_eq_none (by simp [esM]; omega)]
theorem esM_app (v : α) : esM f N A ++ [f v] = esM f (N + 1) (updF A N v) := by
  unfold esM
  rw [List.range_succ, List.map_append]
  congr 1
  · exact esM_congr fun k hk => (updF_ne A v (by omega)).symm
  · simp [updF]
end
/-- What the slice's place of an unknown number is. -/
def ixS (T : TypeId) (iv : Value) (N k sz : Nat) : Q → Option (Value × Obl)
  | .idxA T' (.slice (some ⟨b, m, none⟩) n c) i => some (.pointer (some ⟨b, m + k * sz, none⟩), [(.n T', .n T), (.v i, .v iv), (.n n, .n N)])
  | _ => none
theorem ixS_ok {P : Program} {T : TypeId} {kd : IntKind} {x : Int} {N k sz : Nat} (hT : P.underlying T = some (.slice (P.elem T))) (hs : ∀ w, (sizeOf (P.elem T)).run P w = .ok sz w) (h0 : 0 ≤ x) (hN : x < N) (hk : x.toNat = k) :
    ∀ q v ob, ixS T (.int kd x) N k sz q = some (v, ob) → okL ob → ∀ w, q.sem.run P w = .ok (.value v) w := by
  intro q v ob hq ho w
  unfold ixS at hq
  split at hq
  · rename_i T' b m n c i
    simp at hq
    obtain ⟨rfl, rfl⟩ := hq
    obtain ⟨h1, h2⟩ := okL_cons.1 ho
    obtain ⟨h3, h4⟩ := okL_cons.1 h2
    have h5 := (okL_cons.1 h4).1
    simp at h1 h3 h5
    subst h1 h3 h5
    have := run_indexAt_slice (P := P) w T' ⟨b, m, none⟩ n c kd x hT
    rw [if_pos ⟨h0, hN⟩, hs] at this
    simp only [Result.andThen_ok, add_zero', hk] at this
    simp [Q.sem, this]
  · cases hq
theorem accRow {S : World → Prop} {i : Nat} {α : Type} {f : α → Value} {N : Nat} {A : Nat → α} {k : Nat} (hk : k < N) : AccOk S [.saidF i (fun l => ⟨esM f N A ++ padL l N 1⟩) (0 + k * 1) (f (A k))] := fun x hx => by
  obtain rfl : x = .saidF i (fun l => ⟨esM f N A ++ padL l N 1⟩) (0 + k * 1) (f (A k)) := by simpa using hx
  intro l
  show (⟨esM f N A ++ padL l N 1⟩ : Array Value)[0 + k * 1]? = _
  rw [List.getElem?_toArray, Nat.zero_add, Nat.mul_one, List.getElem?_append_left (by rw [esM_len]; exact hk), esM_get hk]
/-- A store at an unknown number. -/
def sqSet {α : Type} (T e : TypeId) (f : α → Value) (N k : Nat) (A : Nat → α) (v : α) : Spc :=
  ⟨fun ls => .op (.st T (.pointer (some ⟨(lget ls 0).n, 0 + k * 1, none⟩)) (f v)), fun ls => [rowO (lget ls 0) (esM f N A) e N 1], 0, .normal,
   fun ls => [undef], fun ls => [rowO (lget ls 0) (esM f N (updF A k v)) e N 1], fun _ => []⟩
theorem sqSet_ok {P : Program} {S : World → Prop} {α : Type} {T e : TypeId} {f : α → Value} {N k : Nat} {A : Nat → α} {v : α}
    (hst : ∀ a u w, w.cell? a = some u → w.frozen? a = false → (Instr.storeAt T (.pointer (some a)) (f v)).run P w = .ok () (w.setCell a (f v))) (hk : k < N) :
    SpcOk P S (sqSet T e f N k A v) := by
  intro ls w hlen hsat hS
  match ls, hlen with
  | [l], _ =>
    have hg : w.heap[l.n]? = some (rowO l (esM f N A) e N 1) := hsat.holds 0 _ l rfl rfl rfl
    have ho : 0 + k * 1 = k := by omega
    have hc : w.cell? ⟨l.n, 0 + k * 1, none⟩ = some (f (A k)) := by
      rw [cell_of_cells (show w.heap[l.n]? = some (.cells ⟨esM f N A ++ padL l N 1⟩ e) from hg)]
      show (⟨esM f N A ++ padL l N 1⟩ : Array Value)[0 + k * 1]? = _
      rw [List.getElem?_toArray, ho, List.getElem?_append_left (by rw [esM_len]; exact hk), esM_get hk]
    have hf : w.frozen? ⟨l.n, 0 + k * 1, none⟩ = false := by
      have hg' : w.heap[l.n]? = some (.cells ⟨esM f N A ++ padL l N 1⟩ e (0, 0)) := hg
      simp [World.frozen?, hg']
    have hr := hst _ _ w hc hf
    refine ⟨undef, w.setCell ⟨l.n, 0 + k * 1, none⟩ (f v), .inr ⟨?_, rfl⟩, [], rfl, rfl, ⟨?_, ?_⟩, ?_, ?_⟩
    · show (Q.sem (.st T (.pointer (some ⟨l.n, 0 + k * 1, none⟩)) (f v))).run P w = _
      simp only [Q.sem, Sem.run_bind, hr, Result.andThen_ok, Sem.run_pure]
    · intro j o x hj hreal hx
      match j, hj, hx with
      | 0, hj, hx =>
        obtain rfl : rowO l (esM f N (updF A k v)) e N 1 = o := by simpa [sqSet, lget] using hj
        obtain rfl : l = x := by simpa using hx
        have hg' : w.heap[l.n]? = some (.cells ⟨esM f N A ++ padL l N 1⟩ e (0, 0)) := hg
        rw [ho]
        simp [World.setCell, Array.getElem?_modify, hg', rowO]
        rw [List.set_append_left _ _ (by rw [esM_len]; exact hk), esM_set]
      | k + 1, hj, _ => simp [sqSet] at hj
    · intro a b o p x y ha har hb hbr hx hy hxy
      match a, b, hx, hy with
      | 0, 0, _, _ => rfl
      | k + 1, _, hx, _ => simp at hx
      | 0, k + 1, _, hy => simp at hy
    · intro j o x hj hreal hx
      simp [sqSet] at hj
    · exact Chg.setCell (.inl ⟨0, _, l, rfl, rfl, rfl, rfl⟩) _
theorem st_int {P : Program} {T : TypeId} {kd : IntKind} {n : Int} (hs : ∀ w, (sizeOf T).run P w = .ok 1 w) : ∀ a u w, w.cell? a = some u → w.frozen? a = false → (Instr.storeAt T (.pointer (some a)) (.int kd n)).run P w = .ok () (w.setCell a (.int kd n)) := by
  intro a u w hc hf
  have ha : a.add 0 = a := by simp [Addr.add]
  have hr := run_store_plain P .plain a (.int kd n) (.pure ()) w u (by simp) (by simp) hc hf
  simp [Instr.storeAt, Instr.sureAddr, storeVar, hs, Value.cells, storeCells, store, ha, hr]
abbrev fI (x : BitVec 64) : Value := .int .i64 (ii x)
theorem ix_lo {x : BitVec 64} (h : BitVec.slt x 0#64 = false) : 0 ≤ ii x := by
  unfold ii
  simp only [BitVec.slt, decide_eq_false_iff_not] at h
  have : (0#64 : BitVec 64).toInt = 0 := by decide
  omega
theorem ix_hi {x : BitVec 64} {N : Nat} (h : decide ((N : Int) ≤ ii x) = false) : ii x < N := by simpa using h
theorem ix_nat {x : BitVec 64} {N : Nat} (h0 : BitVec.slt x 0#64 = false) (h : decide ((N : Int) ≤ ii x) = false) : (ii x).toNat < N := by
  have := ix_lo h0
  have := ix_hi h
  omega
/-! ### Rows whose elements have several cells -/
section
variable {α : Type}
def esG (f : α → List Value) (N : Nat) (A : Nat → α) : List Value := ((List.range N).map fun k => f (A k)).flatten
variable {f : α → List Value} {N sz : Nat} {A B : Nat → α}
theorem esG_zero : esG f 0 A = [] := rfl
theorem esG_congr (h : ∀ k, k < N → A k = B k) : esG f N A = esG f N B := by
  unfold esG
  congr 1
  apply List.map_congr_left
  intro k hk
  rw [h k (List.mem_range.1 hk)]
theorem esG_app (v : α) : esG f N A ++ f v = esG f (N + 1) (updF A N v) := by
  have h : esG f N A = esG f N (updF A N v) := esG_congr fun k hk => (updF_ne A v (by omega)).symm
  rw [h]
  unfold esG
  rw [List.range_succ, List.map_append, List.flatten_append]
  simp [updF]
theorem esG_succ : esG f (N + 1) A = esG f N A ++ f (A N) := by
  unfold esG
  rw [List.range_succ, List.map_append, List.flatten_append]
  simp
theorem esG_len (hf : ∀ x, (f x).length = sz) : ∀ {N : Nat}, (esG f N A).length = N * sz
  | 0 => by simp [esG]
  | N + 1 => by rw [esG_succ, List.length_append, esG_len hf, hf, Nat.succ_mul]
theorem esG_get (hf : ∀ x, (f x).length = sz) {k j : Nat} (hj : j < sz) : ∀ {N : Nat}, k < N → (esG f N A)[k * sz + j]? = (f (A k))[j]?
  | 0, h => absurd h (Nat.not_lt_zero _)
  | N + 1, h => by
    rw [esG_succ]
    by_cases hk : k = N
    · subst hk
      rw [List.getElem?_append_right (by rw [esG_len hf]; omega), esG_len hf]
      congr 1
      omega
    · have hk' : k < N := by omega
      have : k * sz + j < N * sz := by
        have := Nat.mul_le_mul_right sz (show k + 1 ≤ N by omega)
        rw [Nat.succ_mul] at this
        omega
      rw [List.getElem?_append_left (by rw [esG_len hf]; exact this)]
      exact esG_get hf hj hk'
theorem esG_one (h1 : ∀ x, ((f x).all fun u => u.oneCell') = true) : ∀ u ∈ esG f N A, u.oneCell' = true := fun u hu => by
  obtain ⟨l, hl, hu⟩ := List.mem_flatten.1 hu
  obtain ⟨k, _, rfl⟩ := List.mem_map.1 hl
  exact List.all_eq_true.1 (h1 _) u hu
theorem esM_esG (g : α → Value) : esM g N A = esG (fun x => [g x]) N A := by
  unfold esM esG
  induction N with
  | zero => rfl
  | succ N ih => rw [List.range_succ, List.map_append, List.map_append, List.flatten_append, ih]; simp
end
/-- So many cells of a row, from a place on. -/
def saidG (i : Nat) (c : L1 → Array Value) : Nat → List Value → List Acc
  | _, [] => []
  | m, v :: r => .saidF i c m v :: saidG i c (m + 1) r
theorem saidG_ok {S : World → Prop} {i : Nat} {c : L1 → Array Value} : ∀ {vs : List Value} {m : Nat}, (∀ l j, j < vs.length → (c l)[m + j]? = vs[j]?) → AccOk S (saidG i c m vs)
  | [], _, _ => AccOk.nil
  | v :: r, m, h => fun x hx => by
    rcases List.mem_cons.1 hx with rfl | hx
    · intro l
      have := h l 0 (by simp)
      simpa using this
    · refine saidG_ok (vs := r) (m := m + 1) (fun l j hj => ?_) x hx
      have := h l (j + 1) (by simp; omega)
      rw [show m + 1 + j = m + (j + 1) by omega, this]
      simp
/-- The cells of element k, from its cell j on. -/
theorem accG {S : World → Prop} {i : Nat} {α : Type} {f : α → List Value} {N sz : Nat} {A : Nat → α} {k : Nat} (j : Nat) (vs : List Value) (hf : ∀ x, (f x).length = sz) (hk : k < N) (hv : ((f (A k)).drop j).take vs.length = vs) :
    AccOk S (saidG i (fun l => ⟨esG f N A ++ padL l N sz⟩) (0 + k * sz + j) vs) := by
  refine saidG_ok fun l n hn => ?_
  have hlen : vs.length ≤ (f (A k)).length - j := by
    have := congrArg List.length hv
    rw [List.length_take, List.length_drop] at this
    omega
  rw [hf] at hlen
  have hjn : j + n < sz := by omega
  have hlt : k * sz + (j + n) < N * sz := by
    have := Nat.mul_le_mul_right sz (show k + 1 ≤ N by omega)
    rw [Nat.succ_mul] at this
    omega
  show (⟨esG f N A ++ padL l N sz⟩ : Array Value)[0 + k * sz + j + n]? = _
  rw [List.getElem?_toArray, show 0 + k * sz + j + n = k * sz + (j + n) by omega, List.getElem?_append_left (by rw [esG_len hf]; exact hlt), esG_get hf hjn hk]
  conv => rhs; rw [← hv]
  rw [List.getElem?_take_of_lt hn, List.getElem?_drop]
/-- append of one element to a row of unknown length. -/
def sqAppG {α : Type} (t ty e : TypeId) (consts : Array Bool) (sz : Nat) (f : α → List Value) (N : Nat) (A : Nat → α) (c : Nat) (v : α) (T' : TypeId) : Spc :=
  ⟨fun ls => .op (.blt .append #[t, t] ty consts #[rowV (ls.getD 0 ⟨0, fun _ => undef⟩) N sz, .slice (some ⟨(ls.getD 1 ⟨0, fun _ => undef⟩).n, 0, none⟩) 1 c]),
   fun ls => [rowO (ls.getD 0 ⟨0, fun _ => undef⟩) (esG f N A) e N sz, .cells ⟨f v⟩ T'], 1, .normal,
   fun ls => [rowV (ls.getD 2 ⟨0, fun _ => undef⟩) (N + 1) sz],
   fun ls => [unb, .cells ⟨f v⟩ T'], fun ls => [rowO (ls.getD 2 ⟨0, fun _ => undef⟩) (esG f (N + 1) (updF A N v)) e (N + 1) sz]⟩
theorem sqAppG_ok {P : Program} {S : World → Prop} {t ty e : TypeId} {i : TypeInfo} {z : Value} {sz bytes : Nat} (R : RowT P t e i z sz bytes) (consts : Array Bool) {α : Type} {f : α → List Value} {N : Nat} {A : Nat → α} {c : Nat} {v : α} {T' : TypeId}
    (hf : ∀ x, (f x).length = sz) (h1 : ∀ x, ((f x).all fun u => u.oneCell') = true) (h63 : N + 1 ≤ maxLen) (hb : (N + 1) * bytes ≤ 140737488355328) : SpcOk P S (sqAppG t ty e consts sz f N A c v T') := by
  have h := sqApp_ok (S := S) (ty := ty) R consts N (esG f N A) 1 c (f v) T' (esG_len hf) (by rw [hf, Nat.one_mul]) (h1 v) h63 hb
  unfold sqApp at h
  rw [esG_app] at h
  exact h
/-- append of the first element to nothing. -/
def sqAppG0 {α : Type} (t ty e : TypeId) (consts : Array Bool) (sz : Nat) (f : α → List Value) (A : Nat → α) (c : Nat) (v : α) (T' : TypeId) : Spc :=
  ⟨fun ls => .op (.blt .append #[t, t] ty consts #[.slice none 0 0, .slice (some ⟨(ls.getD 0 ⟨0, fun _ => undef⟩).n, 0, none⟩) 1 c]),
   fun ls => [.cells ⟨f v⟩ T'], 1, .normal,
   fun ls => [rowV (ls.getD 1 ⟨0, fun _ => undef⟩) 1 sz],
   fun ls => [.cells ⟨f v⟩ T'], fun ls => [rowO (ls.getD 1 ⟨0, fun _ => undef⟩) (esG f 1 (updF A 0 v)) e 1 sz]⟩
theorem sqAppG0_ok {P : Program} {S : World → Prop} {t ty e : TypeId} {i : TypeInfo} {z : Value} {sz bytes : Nat} (R : RowT P t e i z sz bytes) (consts : Array Bool) {α : Type} {f : α → List Value} {A : Nat → α} {c : Nat} {v : α} {T' : TypeId}
    (hf : ∀ x, (f x).length = sz) (h1 : ∀ x, ((f x).all fun u => u.oneCell') = true) (hb : bytes ≤ 140737488355328) : SpcOk P S (sqAppG0 t ty e consts sz f A c v T') := by
  have h := sqApp0_ok (S := S) (ty := ty) R consts 1 c (f v) T' (by rw [hf, Nat.one_mul]) (h1 v) (by decide) (by decide) (by simpa using hb)
  have e1 : f v = esG f 1 (updF A 0 v) := by rw [← esG_app, esG_zero, List.nil_append]
  unfold sqApp0 at h
  unfold sqAppG0
  rw [← e1]
  exact h
/-- append of a row of unknown length to an empty slice that isn't nil. -/
def sqClG {α : Type} (t ty e : TypeId) (consts : Array Bool) (sz : Nat) (f : α → List Value) (N : Nat) (A : Nat → α) (T' : TypeId) : Spc :=
  ⟨fun ls => .op (.blt .append #[t, t] ty consts #[.slice (some ⟨(lget ls 0).n, 0, none⟩) 0 0, rowV (lget ls 1) N sz]),
   fun ls => [.cells #[] e, rowO (lget ls 1) (esG f N A) T' N sz], 1, .normal,
   fun ls => [rowV (lget ls 2) N sz],
   fun ls => [unb, rowO (lget ls 1) (esG f N A) T' N sz], fun ls => [rowO (lget ls 2) (esG f N A) e N sz]⟩
theorem row_cellG {w : World} {l : L1} {α : Type} {f : α → List Value} {sz : Nat} {N : Nat} {A : Nat → α} {T : TypeId} (hg : w.heap[l.n]? = some (rowO l (esG f N A) T N sz)) (j : Nat) (u : Value) (hj : (esG f N A)[j]? = some u) : w.cell? ((⟨l.n, 0, none⟩ : Addr).add j) = some u := by
  have hj' := (List.getElem?_eq_some_iff.1 hj).1
  rw [add_off, cell_of_cells hg, List.getElem?_toArray, List.getElem?_append_left hj']
  exact hj
theorem sqClG_ok {P : Program} {S : World → Prop} {t ty e : TypeId} {sz : Nat} {i : TypeInfo} {z : Value} {bytes : Nat} (R : RowT P t e i z sz bytes) (consts : Array Bool) {α : Type} {f : α → List Value} {N : Nat} {A : Nat → α} {T' : TypeId}
    (hf : ∀ x, (f x).length = sz) (h1 : ∀ x, ((f x).all fun u => u.oneCell') = true) (h0 : 0 < N) (h63 : N ≤ maxLen) (hb : N * bytes ≤ 140737488355328) : SpcOk P S (sqClG t ty e consts sz f N A T') := by
  intro ls w hlen hsat hS
  match ls, hlen with
  | [r, l], _ =>
    have hgr : w.heap[r.n]? = some (.cells #[] e (0, 0)) := hsat.holds 0 _ r rfl rfl rfl
    have hg : w.heap[l.n]? = some (rowO l (esG f N A) T' N sz) := hsat.holds 1 _ l rfl rfl rfl
    have hrl : r.n ≠ l.n := fun k => absurd (hsat.inj 0 1 _ _ r l rfl rfl rfl rfl rfl rfl k) (by decide)
    have hrlt := (Array.getElem?_eq_some_iff.1 hgr).1
    have hllt := (Array.getElem?_eq_some_iff.1 hg).1
    have hone : ∀ u ∈ esG f N A, u.oneCell' = true := esG_one h1
    have howns : w.ownsRow 0 e sz (.slice (some ⟨r.n, 0, none⟩) 0 0) 0 [] := ⟨by simp, .inr ⟨r.n, 0, #[], rfl, Nat.zero_le _, hgr, Nat.le_refl _, Nat.zero_le _, by simp, by simp⟩⟩
    obtain ⟨v', w', hr, hown, hgrow, hnil⟩ := run_append_own (P := P) w 0 t ty e i z sz bytes R.ht R.hi R.hz R.hsize R.hby R.hzs R.hsz (.slice (some ⟨r.n, 0, none⟩) 0 0) 0 [] howns ⟨l.n, 0, none⟩ N (N + (padL l N sz).length / sz) (esG f N A) (esG_len hf)
      (row_cellG hg) hone (by omega) (by simpa using hb) (Nat.zero_le _)
    rw [Nat.zero_add, List.nil_append] at hown
    obtain ⟨l', hv, hh, hob, _⟩ := owned_row R.hsz hown (fun k => by have := (hnil.1 k).1; simp at this)
    have hown2 : (Value.slice (some ⟨r.n, 0, none⟩) 0 0).ownBlock = some r.n := rfl
    have hkept : w'.heap[l.n]? = some (rowO l (esG f N A) T' N sz) := by
      rw [hgrow.block _ hllt (by rw [hown2]; intro k; exact hrl (by injection k with k; exact k.symm))]; exact hg
    have hwhere : w.heap.size ≤ l'.n := by
      have h2 := run_append_grow (P := P) w t ty e i z R.ht R.hi R.hz ⟨r.n, 0, none⟩ 0 0 [] (by simp) (fun j u hj => by simp at hj) ⟨l.n, 0, none⟩ N (N + (padL l N sz).length / sz) (esG f N A) (by rw [R.hsize]; exact (esG_len hf)) (row_cellG hg) (by omega) (by simp only [maxLen] at h63; omega) (growslice_fits (by simp only [maxLen] at h63; omega) (by rw [R.hby]; simpa using hb))
      rw [h2] at hr
      injection hr with hv2 _
      rw [← hv2] at hob
      simp only [Value.ownBlock, Option.some.injEq] at hob
      omega
    have hne : l.n ≠ l'.n := by omega
    refine ⟨v', w', .inl (run_blt_append hr), [l'], rfl, by rw [hv]; rfl, ⟨?_, ?_⟩, ?_, ?_⟩
    · intro j o x hj hreal hx
      match j, hj, hx with
      | 0, hj, hx =>
        obtain rfl : unb = o := by simpa [sqClG] using hj
        exact absurd hreal (by decide)
      | 1, hj, hx =>
        obtain rfl : rowO l (esG f N A) T' N sz = o := by simpa [sqClG, lget] using hj
        obtain rfl : l = x := by simpa using hx
        exact hkept
      | 2, hj, hx =>
        obtain rfl : rowO l' (esG f N A) e N sz = o := by simpa [sqClG, lget] using hj
        obtain rfl : l' = x := by simpa using hx
        exact hh
      | k + 3, hj, _ => simp [sqClG] at hj
    · intro a b o p x y ha har hb hbr hx hy hxy
      match a, b, ha, hb, hx, hy with
      | 0, _, ha, _, _, _ =>
        obtain rfl : unb = o := by simpa [sqClG] using ha
        exact absurd har (by decide)
      | _, 0, _, hb, _, _ =>
        obtain rfl : unb = p := by simpa [sqClG] using hb
        exact absurd hbr (by decide)
      | 1, 1, _, _, _, _ => rfl
      | 1, 2, _, _, hx, hy =>
        obtain rfl : l = x := by simpa using hx
        obtain rfl : l' = y := by simpa using hy
        exact absurd hxy hne
      | 2, 1, _, _, hx, hy =>
        obtain rfl : l' = x := by simpa using hx
        obtain rfl : l = y := by simpa using hy
        exact absurd hxy.symm hne
      | 2, 2, _, _, _, _ => rfl
      | k + 3, _, _, _, hx, _ => simp at hx
      | _, k + 3, _, _, _, hy => simp at hy
    · intro j o x hj hreal hx
      match j, hx with
      | 0, hx =>
        obtain rfl : l' = x := by simpa using hx
        exact .inl hwhere
      | k + 1, hx => simp at hx
    · refine ⟨hgrow.os, hgrow.tape, hgrow.output, hgrow.size, fun k hk ht => hgrow.block k hk fun q => ht ?_⟩
      rw [hown2] at q
      injection q with q
      exact ⟨0, _, r, rfl, rfl, rfl, q.symm⟩
/-- A store at an unknown number, into a row of numbers. -/
def sqSetG {α : Type} (T e : TypeId) (f : α → Value) (N k : Nat) (A : Nat → α) (v : α) : Spc :=
  ⟨fun ls => .op (.st T (.pointer (some ⟨(lget ls 0).n, 0 + k * 1, none⟩)) (f v)), fun ls => [rowO (lget ls 0) (esG (fun x => [f x]) N A) e N 1], 0, .normal,
   fun ls => [undef], fun ls => [rowO (lget ls 0) (esG (fun x => [f x]) N (updF A k v)) e N 1], fun _ => []⟩
theorem sqSetG_ok {P : Program} {S : World → Prop} {α : Type} {T e : TypeId} {f : α → Value} {N k : Nat} {A : Nat → α} {v : α}
    (hst : ∀ a u w, w.cell? a = some u → w.frozen? a = false → (Instr.storeAt T (.pointer (some a)) (f v)).run P w = .ok () (w.setCell a (f v))) (hk : k < N) :
    SpcOk P S (sqSetG T e f N k A v) := by
  have h := sqSet_ok (S := S) (e := e) (A := A) hst hk
  unfold sqSet at h
  simp only [esM_esG] at h
  exact h
abbrev fI1 (x : BitVec 64) : List Value := [fI x]
theorem fI1_len (x : BitVec 64) : (fI1 x).length = 1 := rfl
theorem fI1_one (x : BitVec 64) : ((fI1 x).all fun u => u.oneCell') = true := rfl
theorem room_len {N : Nat} (h : decide (N ≤ 1000000) = true) : N + 1 ≤ maxLen := by
  have := of_decide_eq_true h
  simp only [maxLen]
  omega
theorem room_bytes {N bytes : Nat} (h : decide (N ≤ 1000000) = true) (hb : bytes ≤ 1000000) : (N + 1) * bytes ≤ 140737488355328 := by
  have := of_decide_eq_true h
  exact Nat.le_trans (Nat.mul_le_mul (show N + 1 ≤ 1000001 by omega) hb) (by decide)
theorem room_len0 {N : Nat} (h : decide (N ≤ 1000000) = true) : N ≤ maxLen := Nat.le_trans (Nat.le_succ _) (room_len h)
theorem room_bytes0 {N bytes : Nat} (h : decide (N ≤ 1000000) = true) (hb : bytes ≤ 1000000) : N * bytes ≤ 140737488355328 := Nat.le_trans (Nat.mul_le_mul_right _ (Nat.le_succ _)) (room_bytes h hb)
theorem zlen_ii {N : Nat} (h : N ≤ 1000001) : (N : Int) = ii (BitVec.ofNat 64 N) := by
  unfold ii
  rw [BitVec.toInt_eq_toNat_of_lt (by simp only [BitVec.toNat_ofNat]; omega), BitVec.toNat_ofNat]
  omega
theorem zlen_le {N : Nat} (h : decide (N ≤ 1000000) = true) : N ≤ 1000001 := Nat.le_trans (of_decide_eq_true h) (by decide)
theorem zlen1_le {N : Nat} (h : decide (N ≤ 1000000) = true) : N + 1 ≤ 1000001 := Nat.succ_le_succ (of_decide_eq_true h)
theorem zlen_sub {N : Nat} (h : N ≤ 1000001) (c : BitVec 64) : IntKind.i64.wrap ((N : Int) - ii c) = ii (BitVec.ofNat 64 N - c) := by
  rw [zlen_ii h]; exact i64_sub _ _
theorem zlen_add {N : Nat} (h : N ≤ 1000001) (c : BitVec 64) : IntKind.i64.wrap ((N : Int) + ii c) = ii (BitVec.ofNat 64 N + c) := by
  rw [zlen_ii h]; exact i64_add _ _
theorem le_of_dec {a b : Nat} (h : decide (a ≤ b) = true) : a ≤ b := of_decide_eq_true h
theorem ii_succ {s : BitVec 64} {N : Nat} (h : ii s < (N : Int)) (hN : N ≤ 1000000) : ii (s + 1#64) = ii s + 1 := by
  unfold ii at h ⊢
  have h1 : (1#64 : BitVec 64).toInt = 1 := by decide
  have h2 := BitVec.le_toInt s
  rw [BitVec.toInt_add, h1]
  simp only [Int.bmod]
  split <;> omega
/-! ### Functions -/
theorem held_room {y s : Nat} {a : Int} (h : y ≤ 1000000 ∧ (s : Int) ≤ a ∧ a ≤ (y : Int)) : decide (s ≤ 1000000) = true := decide_eq_true (by omega)
end Go.Proofs.YtnlnldpolaodbaaDoor
