/-
  Operations that change memory (1): what is made, stored, put into maps. Nothing of the program stands here.
-/
import Derived.Test.YtoapdkcokemieaaGreatEuI
namespace Go.Proofs.YtoapdkcokemieaaGreat.Ev
open Go.RowKit
noncomputable section
set_option linter.unusedVariables false
set_option linter.unusedSimpArgs false
set_option linter.unusedSectionVars false
variable [Fs] [En] [FsOk]
section
variable {P : Program} {F : Fr} {b : Bm} {H : Hp} {w : World}
/-- What an operation does to memory: nothing; a new block; cells that are written; a block told anew; a row that goes on under a new number. -/
inductive Ef where
  | no
  | row (l : List PV) (T sz : Nat) (g : Bool)
  | obj (o : AObj)
  | wr (i off : Nat) (l : List PV)
  | st (i : Nat) (o : AObj)
  | mv (i : Nat) (l : List PV) (T sz : Nat)
  /-- a row of cells that are all the same -/
  | rp (v : PV) (c : Nat) (T : Nat)
/-- A tree of one value n times. -/
def copyF {α : Type} (v : α) : Nat → Nat → Tr α
  | 0, _ => .lf
  | f + 1, n => match n with
    | 0 => .lf
    | m + 1 => .nd (copyF v f (Nat.div (Nat.succ m) 2)) (some v) (copyF v f (Nat.div m 2))
theorem copyF_get {α : Type} (v : α) : ∀ (p : Pth) (f n : Nat), n ≤ f → Tr.get p (copyF v f n) = if p.num < n then some v else none
  | p, 0, n, h => by
    have : n = 0 := by omega
    subst this
    simp [copyF, Tr.get_lf]
  | p, f + 1, 0, h => by simp [copyF, Tr.get_lf]
  | .e, f + 1, m + 1, h => by simp [copyF, Tr.get_e, Pth.num]
  | .o p, f + 1, m + 1, h => by
    have e : Nat.div (Nat.succ m) 2 = (m + 1) / 2 := rfl
    have := copyF_get v p f ((m + 1) / 2) (by omega)
    simp only [copyF, Tr.get_o, e, this]
    have e2 : p.o.num = 2 * p.num + 1 := rfl
    by_cases h1 : p.num < (m + 1) / 2
    · rw [if_pos h1, if_pos (by omega)]
    · rw [if_neg h1, if_neg (by omega)]
  | .i p, f + 1, m + 1, h => by
    have e : Nat.div m 2 = m / 2 := rfl
    have := copyF_get v p f (m / 2) (by omega)
    simp only [copyF, Tr.get_i, e, this]
    have e2 : p.i.num = 2 * p.num + 2 := rfl
    by_cases h1 : p.num < m / 2
    · rw [if_pos h1, if_pos (by omega)]
    · rw [if_neg h1, if_neg (by omega)]
def copyT {α : Type} (v : α) (n : Nat) : Tr α := copyF v n n
theorem copyT_at {α : Type} (v : α) (n k : Nat) : (copyT v n).at k = if k < n then some v else none := by
  unfold copyT Tr.at
  rw [copyF_get v _ n n (Nat.le_refl _), pth_num]
def Ef.ap (e : Ef) (m n : Nat) (H : Hp) : Hp := match e with
  | .no => ⟨H.t, n⟩
  | .row l T sz g => ⟨H.t.put m (some (.row (Tr.fill .lf 0 l) l.length T sz g)), n⟩
  | .obj o => ⟨H.t.put m (some o), n⟩
  | .wr i off l => match H.t.at i with
    | some (.row c k T sz g) => ⟨H.t.put i (some (.row (c.fill off l) k T sz g)), n⟩
    | _ => ⟨H.t, n⟩
  | .st i o => ⟨H.t.put i (some o), n⟩
  | .rp v c T => ⟨H.t.put m (some (.row (copyT v c) c T 0 false)), n⟩
  | .mv i l T sz => ⟨(H.t.put i none).put m (some (.row (Tr.fill .lf 0 l) l.length T sz true)), n⟩
theorem HR.more (hr : HR F b H w) {n : Nat} (hn : H.n ≤ n) : HR F b ⟨H.t, n⟩ w := ⟨hr.fo, fun i hi => hr.nx i (Nat.le_trans hn hi), Nat.le_trans hr.low hn, hr.ag, hr.live, hr.inj⟩
/-- What it means that an operation has been done. -/
def Did (P : Program) (F : Fr) (b : Bm) (H : Hp) (w : World) (m n : Nat) (s : Sem Next) (v : PV) (e : Ef) : Prop :=
  ∃ x v' b' w', s.run P w = .ok x w' ∧ (x = .value v' ∨ x = .skip ∧ v' = undef) ∧ V b' v v' ∧ b.le b' ∧ (∀ j, j ≠ m → b' j = b j) ∧ HR F b' (e.ap m n H) w' ∧ Keep F w w'
theorem repl_nil : ∀ (n : Nat), (List.replicate n ([] : List PV)).flatten = [] := by intro n; induction n <;> simp_all [List.replicate_succ]
/-- So many times the same cells. -/
def repL {α : Type} (z : List α) : Nat → List α
  | 0 => []
  | n + 1 => z ++ repL z n
theorem repL_length {α : Type} (z : List α) : ∀ n, (repL z n).length = n * z.length
  | 0 => by simp [repL]
  | n + 1 => by simp [repL, repL_length z n, Nat.succ_mul, Nat.add_comm]
theorem repL_get {α : Type} (z : List α) : ∀ n j, j < n * z.length → (repL z n)[j]? = z[j % z.length]?
  | 0, j, h => by simp at h
  | n + 1, j, h => by
    rw [repL]
    by_cases hj : j < z.length
    · rw [List.getElem?_append_left hj, Nat.mod_eq_of_lt hj]
    · have : j - z.length < n * z.length := by rw [Nat.succ_mul] at h; omega
      rw [List.getElem?_append_right (by omega), repL_get z n _ this, ← Nat.mod_eq_sub_mod (by omega)]
theorem repL_VL {z : List PV} {z' : List Value} (h : VL b z z') : ∀ n, VL b (repL z n) (repL z' n)
  | 0 => .nil
  | n + 1 => h.app (repL_VL h n)
theorem zeros_eq {z : Array Value} (hz : 0 < z.size) (n : Nat) : (Array.range (n * z.size)).map (z[· % z.size]!) = ⟨repL z.toList n⟩ := by
  apply Array.ext_getElem?
  intro j
  by_cases hj : j < n * z.size
  · have h1 := repL_get z.toList n j (by simpa using hj)
    have h2 : j % z.size < z.size := Nat.mod_lt _ hz
    simp [hj] at h1 ⊢
    rw [h1]
    simp [h2]
  · have : (repL z.toList n).length ≤ j := by rw [repL_length]; simpa using hj
    simp [hj, List.getElem?_eq_none this]
/-! ### What is made -/
def evMk (P : Program) (elem : TypeId) : Option (List PV × Nat) := match zeroT P elem with
  | some z => match szT P elem with
    | some n => match Nat.beq (pcells z).length n && Nat.ble 1 n with
      | true => some (pcells z, n)
      | false => none
    | none => none
  | none => none
theorem zeroT_all {ty : TypeId} {q : PV} (h : zeroT P ty = some q) : ∃ v, (∀ w, (zeroValue ty).run P w = .ok v w) ∧ V b q v := by
  unfold zeroT at h
  split at h
  · rename_i i hi
    split at h
    · rename_i v hz
      exact ⟨v, fun w => by simp [zeroValue, typeInfo, hi, hz], unq_V b 10 v q h⟩
    · cases h
  · cases h
theorem evMk_ok {elem : TypeId} {z : List PV} {n : Nat} (h : evMk P elem = some (z, n)) : ∃ v, (∀ w, (zeroValue elem).run P w = .ok v w) ∧ VL b z v.cells.toList ∧ (∀ w, (sizeOf elem).run P w = .ok n w) ∧ z.length = n ∧ 0 < n := by
  unfold evMk at h
  split at h
  · rename_i p hp
    split at h
    · rename_i m hm
      split at h
      · rename_i hb
        simp only [Bool.and_eq_true, Nat.ble_eq] at hb
        simp at h
        obtain ⟨rfl, rfl⟩ := h
        obtain ⟨v, h1, h2⟩ := zeroT_all (P := P) (b := b) hp
        exact ⟨v, h1, pcells_VL h2, fun w => run_szT hm, Nat.eq_of_beq_eq_true hb.1, hb.2⟩
      · cases h
    · cases h
  · cases h
def infoB (P : Program) (t : TypeId) : Option Nat := match P.info? t with
  | some i => some i.bytes
  | none => none
theorem add_row (hr : HR F b H w) {m n : Nat} (hlo : F.n0 ≤ m) (hm : b m = none) (hmn : m < n) (hn : H.n ≤ n) {l : List PV} {l' : List Value} (hl : VL b l l') (T : Nat) :
    HR F (b.upd m ⟨w.heap.size, 0, 0⟩) ((Ef.row l T 0 false).ap m n H) (w.alloc (.cells ⟨l'⟩ T)) ∧ Keep F w (w.alloc (.cells ⟨l'⟩ T)) := by
  refine hr.add hlo hm hmn hn ?_
  have := OR.fresh (b := b.upd m ⟨w.heap.size, 0, 0⟩) (x := ⟨w.heap.size, 0, 0⟩) rfl (T := T) (sz := 0) (g := false) (hl.mono (Bm.le_upd hm _)) (rest := []) (by simp)
  simpa using this
def ev_alloc0 (P : Program) (m : Nat) (elem : TypeId) : Option (PV × Ef) := match zeroT P elem with
  | some z => some (.pt m 0, .row (pcells z) elem 0 false)
  | none => none
theorem ev_alloc0_ok (hr : HR F b H w) {m n : Nat} (hlo : F.n0 ≤ m) (hm : b m = none) (hmn : m < n) (hn : H.n ≤ n) {elem : TypeId} {v : PV} {e : Ef} (h : ev_alloc0 P m elem = some (v, e)) :
    Did P F b H w m n (do pure (.value (← Instr.alloc elem true (.tuple #[])))) v e := by
  unfold ev_alloc0 at h
  split at h
  · rename_i z hz
    simp at h
    obtain ⟨rfl, rfl⟩ := h
    obtain ⟨z', h1, h2⟩ := zeroT_ok (P := P) (w := w) (b := b) hz
    obtain ⟨h3, h4⟩ := add_row hr hlo hm hmn hn (pcells_VL h2) elem
    refine ⟨_, .pointer (some ⟨w.heap.size, 0, none⟩), _, _, ?_, .inl rfl, .pt m 0 _ (Bm.upd_at ..), Bm.le_upd hm _, fun j hj => Bm.upd_ne (Ne.symm hj) _, h3, h4⟩
    simp [Instr.alloc, h1, newVar, newRow]
  · cases h
/-- A row told by another tree that holds the same. -/
theorem HR.tree (h : HR F b H w) {H2 : Hp} (hn : H2.n = H.n) {m : Nat} {c c2 : Tr PV} {k T sz : Nat} {g : Bool} (h1 : H.t.at m = some (.row c k T sz g)) (h2 : ∀ i, H2.t.at i = if m = i then some (.row c2 k T sz g) else H.t.at i) (hc : ∀ i, c2.at i = c.at i) : HR F b H2 w := by
  refine ⟨h.fo, fun i hi => h.nx i (by omega), by rw [hn]; exact h.low, h.ag, ?_, ?_⟩
  · intro i o hi
    rw [h2] at hi
    split at hi
    · rename_i e
      subst e
      simp only [Option.some.injEq] at hi; subst hi
      obtain ⟨x, ob, h3, h4, h5, h6⟩ := h.live m _ h1
      obtain ⟨a, fz, h7, h8, h9, h10, h11⟩ := h5
      exact ⟨x, ob, h3, h4, ⟨a, fz, h7, h8, fun j hj => by rw [hc]; exact h9 j hj, fun j v hj => h10 j v (by rw [← hc]; exact hj), h11⟩, h6⟩
    · exact h.live i o hi
  · intro i j o p x y hi hj
    have aux : ∀ i o, H2.t.at i = some o → ∃ o', H.t.at i = some o' := by
      intro i o hi
      rw [h2] at hi
      split at hi
      · rename_i e; subst e; exact ⟨_, h1⟩
      · exact ⟨o, hi⟩
    obtain ⟨o', ho⟩ := aux i o hi
    obtain ⟨p', hp⟩ := aux j p hj
    exact h.inj i j o' p' x y ho hp
theorem did_rp {m n : Nat} {s : Sem Next} {v x : PV} {c T : Nat} {l : List PV} (hl : l = List.replicate c x) (h : Did P F b H w m n s v (.row l T 0 false)) : Did P F b H w m n s v (.rp x c T) := by
  subst hl
  obtain ⟨y, v', b', w', h1, h2, h3, h4, h5, h6, h7⟩ := h
  refine ⟨y, v', b', w', h1, h2, h3, h4, h5, ?_, h7⟩
  refine h6.tree (m := m) (c := Tr.fill .lf 0 (List.replicate c x)) (c2 := copyT x c) (k := c) (T := T) (sz := 0) (g := false) rfl ?_ ?_ ?_
  · simp [Ef.ap, Tr.at_put]
  · intro i
    simp only [Ef.ap, Tr.at_put]
    split <;> rfl
  · intro i
    rw [copyT_at, Tr.at_fill]
    by_cases hi : i < c
    · simp [hi]
    · simp [hi, Tr.at_lf]
def plEq : PV → PV → Bool
  | .bl x, .bl y => x == y
  | .it k m, .it l n => decide (k = l) && (leI m n && leI n m)
  | .st [], .st [] => true
  | .np, .np => true
  | .ns, .ns => true
  | .nm, .nm => true
  | .nf, .nf => true
  | .ni, .ni => true
  | _, _ => false
theorem plEq_ok {p q : PV} (h : plEq p q = true) : p = q := by
  unfold plEq at h
  split at h
  · simp at h; rw [h]
  · rename_i k m l n
    simp only [Bool.and_eq_true, decide_eq_true_eq, leI_iff] at h
    obtain ⟨rfl, h1, h2⟩ := h
    have : m = n := by omega
    rw [this]
  · rfl
  · rfl
  · rfl
  · rfl
  · rfl
  · rfl
  · cases h
def allPl (v : PV) : List PV → Bool
  | [] => true
  | x :: l => match plEq v x with
    | true => allPl v l
    | false => false
theorem allPl_ok {v : PV} : ∀ {l : List PV}, allPl v l = true → l = List.replicate l.length v
  | [], _ => rfl
  | x :: l, h => by
    unfold allPl at h
    split at h
    · rename_i hx
      rw [← plEq_ok hx, List.length_cons, List.replicate_succ, ← allPl_ok h]
    · cases h
/-- Types whose variables are many cells, all the same at first. -/
def uniT (P : Program) (ty : TypeId) : Option (PV × Nat) := match zeroT P ty with
  | some (.ag (v :: l)) => match Nat.ble 31 l.length && allPl v l with
    | true => some (v, l.length + 1)
    | false => none
  | _ => none
theorem uniT_ok {ty : TypeId} {v : PV} {n : Nat} (h : uniT P ty = some (v, n)) : ∃ z, zeroT P ty = some z ∧ pcells z = List.replicate n v := by
  unfold uniT at h
  split at h
  · rename_i v2 l hz
    split at h
    · rename_i hb
      simp only [Bool.and_eq_true] at hb
      simp at h
      obtain ⟨rfl, rfl⟩ := h
      refine ⟨_, hz, ?_⟩
      show v2 :: l = _
      rw [List.replicate_succ, ← allPl_ok hb.2]
    · cases h
  · cases h
def ev_alloc (P : Program) (m : Nat) (elem : TypeId) : Option (PV × Ef) := match uniT P elem with
  | some (v, n) => some (.pt m 0, .rp v n elem)
  | none => ev_alloc0 P m elem
theorem ev_alloc_ok (hr : HR F b H w) {m n : Nat} (hlo : F.n0 ≤ m) (hm : b m = none) (hmn : m < n) (hn : H.n ≤ n) {elem : TypeId} {v : PV} {e : Ef} (h : ev_alloc P m elem = some (v, e)) :
    Did P F b H w m n (do pure (.value (← Instr.alloc elem true (.tuple #[])))) v e := by
  unfold ev_alloc at h
  split at h
  · rename_i x k hu
    simp at h
    obtain ⟨rfl, rfl⟩ := h
    obtain ⟨z, h1, h2⟩ := uniT_ok hu
    exact did_rp h2 (ev_alloc0_ok hr hlo hm hmn hn (by unfold ev_alloc0; rw [h1]))
  · exact ev_alloc0_ok hr hlo hm hmn hn h
theorem ev_box_ok (hr : HR F b H w) {m n : Nat} (hlo : F.n0 ≤ m) (hm : b m = none) (hmn : m < n) (hn : H.n ≤ n) (elem : TypeId) {p : PV} {u : Value} (hu : V b p u) :
    Did P F b H w m n (do pure (.value (← Instr.box elem u))) (.pt m 0) (.row (pcells p) elem 0 false) := by
  obtain ⟨h3, h4⟩ := add_row hr hlo hm hmn hn (pcells_VL hu) elem
  refine ⟨_, .pointer (some ⟨w.heap.size, 0, none⟩), _, _, ?_, .inl rfl, .pt m 0 _ (Bm.upd_at ..), Bm.le_upd hm _, fun j hj => Bm.upd_ne (Ne.symm hj) _, h3, h4⟩
  simp [Instr.box, newVar, newRow]
def ev_buildSlice (P : Program) (m : Nat) (ty : TypeId) (len : Nat) (ps : List (Nat × PV)) : Option (PV × Ef) := match P.underlying ty with
  | some (.slice elem) => match evMk P elem with
    | some (z, sz) => match Nat.ble (len * sz) 16777216 with
      | true => match evFill (fun i => some (i * sz, sz)) (repL z len) ps with
        | some l => some (.sl m 0 len len false, .row l elem 0 false)
        | none => none
      | false => none
    | none => none
  | _ => none
theorem ev_buildSlice_ok (hr : HR F b H w) {m n : Nat} (hlo : F.n0 ≤ m) (hm : b m = none) (hmn : m < n) (hn : H.n ≤ n) {ty : TypeId} {len : Nat} {ps : List (Nat × PV)} {ps' : Array (Nat × Value)} (hp : PL b ps ps'.toList)
    {v : PV} {e : Ef} (h : ev_buildSlice P m ty len ps = some (v, e)) : Did P F b H w m n (do pure (.value (← Instr.buildSlice ty len ps'))) v e := by
  unfold ev_buildSlice at h
  split at h
  · rename_i elem hu
    split at h
    · rename_i z sz hz
      split at h
      · rename_i hb
        simp only [Nat.ble_eq] at hb
        split at h
        · rename_i l hl
          simp at h
          obtain ⟨rfl, rfl⟩ := h
          obtain ⟨z', h1, h2, h3, h4, h5⟩ := evMk_ok (P := P) (b := b) hz
          have hzs : z'.cells.size = sz := by rw [← h4, h2.length]; simp
          obtain ⟨r', h6, h7⟩ := evFill_ok ps ps'.toList _ _ _ hp (repL_VL h2 len) hl
          obtain ⟨h8, h9⟩ := add_row hr hlo hm hmn hn h7 elem
          refine ⟨_, .slice (some ⟨w.heap.size, 0, none⟩) len len, _, _, ?_, .inl rfl, ?_, Bm.le_upd hm _, fun j hj => Bm.upd_ne (Ne.symm hj) _, h8, h9⟩
          · have e1 : ¬ (16777216 < len * sz) := by omega
            by_cases hl0 : len = 0
            · subst hl0
              have h6' : Instr.fill (fun i => some (i * sz, sz)) #[] ps'.toList = some ⟨r'⟩ := h6
              simp [Instr.buildSlice, run_underlying hu, h3, h1, h6', newRow, Array.range_zero']
            have e2 : len * sz ≠ 0 := Nat.mul_ne_zero (by omega) (by omega)
            have e3 := zeros_eq (z := z'.cells) (by omega) len
            rw [hzs] at e3
            have e4 : ¬ (len = 0 ∨ sz = 0) := by omega
            simp [Instr.buildSlice, run_underlying hu, h3, h1, e1, e2, e4, hzs, e3, h6, newRow]
          · have := V.sl (b := b.upd m ⟨w.heap.size, 0, 0⟩) m 0 len len false ⟨w.heap.size, 0, 0⟩ (Bm.upd_at ..)
            simpa using this
        · cases h
      · cases h
    · cases h
  · cases h
end
end
end Go.Proofs.YtoapdkcokemieaaGreat.Ev
