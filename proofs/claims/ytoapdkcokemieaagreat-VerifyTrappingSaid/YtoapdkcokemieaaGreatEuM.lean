/-
  Operations that change memory (4): copy, clear, ways through maps; all of them together. Nothing of the program stands here.
-/
import Derived.Test.YtoapdkcokemieaaGreatEuL
namespace Go.Proofs.YtoapdkcokemieaaGreat.Ev
open Go.RowKit
noncomputable section
set_option linter.unusedVariables false
set_option linter.unusedSimpArgs false
set_option linter.unusedSectionVars false
variable [Fs] [En] [FsOk]
section
variable {P : Program} {F : Fr} {b : Bm} {H : Hp} {w : World}
/-! ### copy, clear -/
def lenP : PV → Option Nat
  | .ns => some 0
  | .sl _ _ n _ _ => some n
  | .st s => some s.length
  | .ss s => some s.length
  | _ => none
def evFirst (H : Hp) (size n : Nat) : PV → Option (List PV)
  | .ns => some []
  | .sl i off len _ _ => match H.t.at i with
    | some (.row c _ _ _ _) => c.run off (n * size)
    | _ => none
  | .st s => match Nat.beq size 1 with
    | true => some ((s.take n).map fun c => .it .u8 ((c % 256 : Nat) : Int))
    | false => none
  | .ss s => match Nat.beq size 1 with
    | true => some (s.take n)
    | false => none
  | _ => none
theorem evFirst_ok (hr : HR F b H w) {size n : Nat} {p : PV} {u : Value} (hp : V b p u) {l : List PV} (h : evFirst H size n p = some l) : ∃ l', (Builtin.firstCells size n u).run P w = .ok ⟨l'⟩ w ∧ VL b l l' := by
  cases hp with
  | ns => simp [evFirst] at h; subst h; exact ⟨[], by simp [Builtin.firstCells], .nil⟩
  | sl i off len c g x hx =>
    simp only [evFirst] at h
    split at h
    · rename_i t k T sz g2 hi
      obtain ⟨l', h1, h2, h3⟩ := hr.row (P := P) hi hx h
      exact ⟨l', by simp [Builtin.firstCells, h1], h2⟩
    · cases h
  | st s =>
    simp only [evFirst] at h
    split at h
    · simp at h; subst h
      refine ⟨((bys (s.take n)).data.map fun c => Value.int .u8 c.toNat).toList, ?_, by have := str_VL (b := b) (s.take n); simpa using this⟩
      have : (bys s).extract 0 n = bys (s.take n) := by rw [bys_extract]; simp
      simp only [Builtin.firstCells, this, Sem.run_pure]
    · cases h
  | ss s s' m h1 h2 h3 =>
    simp only [evFirst] at h
    split at h
    · simp at h; subst h
      refine ⟨((bys (m.take n)).data.map fun c => Value.int .u8 c.toNat).toList, ?_, ?_⟩
      · have : (bys m).extract 0 n = bys (m.take n) := by rw [bys_extract]; simp
        simp only [Builtin.firstCells, this, Sem.run_pure]
      · rw [str_cells (fun k hk => h3 k (List.mem_of_mem_take hk)), List.map_take, ← h2]
        exact h1.take n
    · cases h
  | _ => simp [evFirst] at h
theorem lenP_ok {p : PV} {u : Value} (hp : V b p u) {n : Nat} (h : lenP p = some n) : (Builtin.lenOf u).run P w = .ok n w := by
  cases hp
  case ss l l' m h1 h2 h3 =>
    simp [lenP] at h; subst h
    have e : l.length = m.length := by have := h1.length; rw [h2] at this; simpa using this
    simp [Builtin.lenOf, bys_size, e]
  all_goals simp [lenP] at h <;> subst h <;> simp [Builtin.lenOf, bys_size]
def ev_copy (P : Program) (H : Hp) (t : TypeId) (d s : PV) : Option (PV × Ef) := match P.underlying t with
  | some (.slice e) => match szT P e, lenP s with
    | some size, some n => match d with
      | .sl i off dl _ _ => match evFirst H size (Nat.min n dl) s with
        | some l => match evWr H i off l with
          | some ef => some (.it .i64 (Nat.min n dl), ef)
          | none => none
        | none => none
      | .ns => match evFirst H size (Nat.min n 0) s with
        | some _ => some (.it .i64 (Nat.min n 0), .no)
        | none => none
      | _ => none
    | _, _ => none
  | _ => none
theorem ev_copy_ok (hr : HR F b H w) {m n : Nat} (hn : H.n ≤ n) {t ty : TypeId} {ats : Array TypeId} (h0 : ats[0]? = some t) {pd ps : PV} {ud us : Value} (hd : V b pd ud) (hs : V b ps us) {v : PV} {e : Ef}
    (h : ev_copy P H t pd ps = some (v, e)) : Did P F b H w m n (do pure (.value (← Builtin.copy_ ats ty #[ud, us]))) v e := by
  unfold ev_copy at h
  split at h
  · rename_i el hu
    split at h
    · rename_i size q hsz hq
      have h1 := lenP_ok (P := P) (w := w) hs hq
      split at h
      · rename_i i off dl c g
        split at h
        · rename_i l hl
          split at h
          · rename_i ef hef
            simp at h
            obtain ⟨rfl, rfl⟩ := h
            cases hd with
            | sl _ _ _ _ _ x hx =>
              obtain ⟨l', h2, h3⟩ := evFirst_ok (P := P) hr hs hl
              obtain ⟨w', h4, h5, h6⟩ := evWr_ok (P := P) (m := m) hr hn hef hx h3
              refine ⟨.value (goInt (Nat.min q dl)), _, b, w', ?_, .inl rfl, .it _ _, b.le_rfl, fun _ _ => rfl, h5, h6⟩
              simp [Builtin.copy_, h0, run_underlying hu, h1, run_szT hsz, h2, h4]
          · cases h
        · cases h
      · split at h
        · rename_i l hl
          simp at h
          obtain ⟨rfl, rfl⟩ := h
          cases hd
          obtain ⟨l', h2, h3⟩ := evFirst_ok (P := P) hr hs hl
          refine Did.still hr hn (v' := goInt 0) (x := .value (goInt 0)) ?_ (.inl rfl) (.it _ _)
          simp [Builtin.copy_, h0, run_underlying hu, h1, run_szT hsz] at h2 ⊢
          simp [h2]
        · cases h
      · cases h
    · cases h
  · cases h
def ev_clear (P : Program) (H : Hp) (t : TypeId) (p : PV) : Option (PV × Ef) := match P.underlying t with
  | some (.slice e) => match p with
    | .ns => some (.tp [], .no)
    | .sl i off len _ _ => match len with
      | 0 => some (.tp [], .no)
      | len + 1 => match evMk P e with
        | some (z, size) => match evWr H i off (repL z (len + 1)) with
          | some ef => some (.tp [], ef)
          | none => none
        | none => none
    | _ => none
  | _ => none
theorem ev_clear_ok (hr : HR F b H w) {m n : Nat} (hn : H.n ≤ n) {t ty : TypeId} {ats : Array TypeId} (h0 : ats[0]? = some t) {p : PV} {u : Value} (hp : V b p u) {v : PV} {e : Ef}
    (h : ev_clear P H t p = some (v, e)) : Did P F b H w m n (do pure (.value (← Builtin.clear_ ats ty #[u]))) v e := by
  unfold ev_clear at h
  split at h
  · rename_i el hu
    split at h
    · cases hp
      simp at h
      obtain ⟨rfl, rfl⟩ := h
      refine Did.still hr hn (v' := undef) (x := .value undef) ?_ (.inl rfl) (undef_V b)
      simp [Builtin.clear_, h0, run_underlying hu]
      rfl
    · rename_i i off len c g
      cases hp with
      | sl _ _ _ _ _ x hx =>
        split at h
        · simp at h
          obtain ⟨rfl, rfl⟩ := h
          refine Did.still hr hn (v' := undef) (x := .value undef) ?_ (.inl rfl) (undef_V b)
          simp [Builtin.clear_, h0, run_underlying hu]
          rfl
        · rename_i len
          split at h
          · rename_i z size hz
            split at h
            · rename_i ef hef
              simp at h
              obtain ⟨rfl, rfl⟩ := h
              obtain ⟨z', h1, h2, h3, h4, h5⟩ := evMk_ok (P := P) (b := b) hz
              have hzs : z'.cells.size = size := by rw [← h4, h2.length]; simp
              obtain ⟨w', h6, h7, h8⟩ := evWr_ok (P := P) (m := m) hr hn hef hx (repL_VL h2 (len + 1))
              have h9 : Builtin.zeroCells z'.cells (len + 1) = ⟨repL z'.cells.toList (len + 1)⟩ := zeros_eq (by omega) (len + 1)
              refine ⟨.value undef, undef, b, w', ?_, .inl rfl, undef_V b, b.le_rfl, fun _ _ => rfl, h7, h8⟩
              simp [Builtin.clear_, h0, run_underlying hu, h1, h9, h6]
              rfl
            · cases h
          · cases h
    · cases h
  · cases h
/-! ### Ways through maps -/
def ev_range (P : Program) (H : Hp) (m : Nat) (t : TypeId) (p : PV) : Option (PV × Ef) := match P.underlying t with
  | some (.map _ _) => match p with
    | .nm => some (.pt m 0, .obj .mn)
    | .mp i => match H.t.at i with
      | some (.mp _ clk) => some (.pt m 0, .obj (.mi i clk [] clk))
      | _ => none
    | _ => none
  | _ => none
theorem ev_range_ok (hr : HR F b H w) {m n : Nat} (hlo : F.n0 ≤ m) (hm : b m = none) (hmn : m < n) (hn : H.n ≤ n) {t : TypeId} {p : PV} {u : Value} (hp : V b p u) {v : PV} {e : Ef}
    (h : ev_range P H m t p = some (v, e)) : Did P F b H w m n (do pure (.value (← Instr.range t u))) v e := by
  unfold ev_range at h
  split at h
  · rename_i k el hu
    split at h
    · cases hp
      simp at h
      obtain ⟨rfl, rfl⟩ := h
      obtain ⟨h3, h4⟩ := hr.add (o := .mn) (ob := .mapIter none 0 #[] 0) (room := 0) hlo hm hmn hn ⟨rfl, rfl⟩
      refine ⟨.value (.pointer (some ⟨w.heap.size, 0, none⟩)), _, _, _, ?_, .inl rfl, .pt m 0 _ (Bm.upd_at ..), Bm.le_upd hm _, fun j hj => Bm.upd_ne (Ne.symm hj) _, h3, h4⟩
      simp [Instr.range, run_underlying hu]
    · rename_i i
      split at h
      · rename_i es clk hi
        simp at h
        obtain ⟨rfl, rfl⟩ := h
        cases hp with
        | mp _ x hx =>
          obtain ⟨es', h1, h2, h5⟩ := hr.map hi hx
          have hne : m ≠ i := fun e => by rw [e, hx] at hm; cases hm
          obtain ⟨h3, h4⟩ := hr.add (o := .mi i clk [] clk) (ob := .mapIter (some x.n) clk #[] clk) (room := 0) hlo hm hmn hn ⟨rfl, x, by rw [Bm.upd_ne hne]; exact hx, rfl⟩
          refine ⟨.value (.pointer (some ⟨w.heap.size, 0, none⟩)), _, _, _, ?_, .inl rfl, .pt m 0 _ (Bm.upd_at ..), Bm.le_upd hm _, fun j hj => Bm.upd_ne (Ne.symm hj) _, h3, h4⟩
          simp [Instr.range, run_underlying hu, run_getMap h1]
      · cases h
    · cases h
  · cases h
def leftL (seen : List Nat) (es : List (PV × PV × Nat)) : List (PV × PV × Nat) := es.filter fun e => !seen.contains e.2.2
theorem EL.left {l : List (PV × PV × Nat)} {l' : List MapEntry} (h : EL b l l') (seen : List Nat) : EL b (leftL seen l) (l'.filter fun e => !seen.contains e.born) := by
  induction h with
  | nil => exact .nil
  | cons k v n k' v' l l' h1 h2 h3 ih =>
    unfold leftL at ih ⊢
    simp only [List.filter_cons]
    split
    · exact .cons _ _ _ _ _ _ _ h1 h2 ih
    · exact ih
def allGe (last : Nat) : List (PV × PV × Nat) → Bool
  | [] => true
  | e :: l => Nat.ble last e.2.2 && allGe last l
theorem EL.allGe {l : List (PV × PV × Nat)} {l' : List MapEntry} (h : EL b l l') (last : Nat) : (l'.all fun e => decide (e.born ≥ last)) = Ev.allGe last l := by
  induction h with
  | nil => rfl
  | cons k v n k' v' l l' h1 h2 h3 ih =>
    simp only [List.all_cons, Ev.allGe, ih]
    congr 1
    by_cases hn : last ≤ n
    · simp [hn, show Nat.ble last n = true from by rw [Nat.ble_eq]; exact hn]
    · have : Nat.ble last n = false := by
        cases hb : Nat.ble last n with
        | true => rw [Nat.ble_eq] at hb; exact absurd hb hn
        | false => rfl
      simp [hn, this]
def ev_next (H : Hp) (p : PV) (isS : Bool) : Option (PV × Ef) := match p, isS with
  | .pt i 0, false => match H.t.at i with
    | some .mn => some (.tp [.bl false], .no)
    | some (.mi m since seen last) => match H.t.at m with
      | some (.mp es clk) => match !seen.isEmpty && !es.isEmpty && allGe last es with
        | true => none
        | false => match leftL seen es with
          | [] => some (.tp [.bl false], .no)
          | [e] => match Nat.ble (e.2.2 + 1) since with
            | true => some (.tp [.bl true, e.1, e.2.1], .st i (.mi m since (seen ++ [e.2.2]) clk))
            | false => none
          | _ => none
      | _ => none
    | _ => none
  | _, _ => none
theorem run_getObj {r : Nat} {ob : Obj} (h : w.heap[r]? = some ob) (hc : ∀ a T fz, ob ≠ .cells a T fz) : (getObj r).run P w = .ok ob w := by
  cases ob <;> first
    | exact absurd rfl (hc _ _ _)
    | simp [getObj, Sem.run, h]
theorem run_setObj' {r : Nat} {ob : Obj} (h : w.heap[r]? = some ob) (hc : ∀ a T fz, ob ≠ .cells a T fz) (ob' : Obj) : (setObj r ob').run P w = .ok () (World.seto w r ob') := by
  cases ob <;> first
    | exact absurd rfl (hc _ _ _)
    | simp [setObj, Sem.run, h, World.seto]
theorem ev_next_ok (hr : HR F b H w) {m n : Nat} (hn : H.n ≤ n) {p : PV} {isS : Bool} {ty : TypeId} {u : Value} (hp : V b p u) {v : PV} {e : Ef}
    (h : ev_next H p isS = some (v, e)) : Did P F b H w m n (do pure (.value (← Instr.next u isS ty))) v e := by
  unfold ev_next at h
  split at h
  · rename_i i
    cases hp with
    | pt _ _ x hx =>
      split at h
      · rename_i hi
        simp at h
        obtain ⟨rfl, rfl⟩ := h
        obtain ⟨y, ob, h1, h2, h3, h4⟩ := hr.live i _ hi
        rw [hx] at h1; simp at h1; subst h1
        obtain ⟨h0, rfl⟩ := h3
        refine Did.still hr hn (v' := .tuple #[.bool false]) (x := .value (.tuple #[.bool false])) ?_ (.inl rfl) (.tp _ [.bool false] (.cons _ _ _ _ (.bl _) .nil))
        simp [Instr.next, h0, run_getObj h2 (by simp)]
      · rename_i mm since seen last hi
        obtain ⟨y, ob, h1, h2, h3, h4⟩ := hr.live i _ hi
        rw [hx] at h1; simp at h1; subst h1
        obtain ⟨h0, ym, hym, rfl⟩ := h3
        split at h
        · rename_i es clk hmm
          obtain ⟨es', h5, h6, h7⟩ := hr.map hmm hym
          split at h
          · cases h
          · rename_i hcond
            have hemp : es'.isEmpty = es.isEmpty := by cases h6 <;> rfl
            have hc : (!seen.isEmpty && !es'.isEmpty && es'.all fun e => decide (e.born ≥ last)) = false := by
              rw [h6.allGe, hemp]; exact hcond
            have hcA : (!(⟨seen⟩ : Array Nat).isEmpty && !(⟨es'⟩ : Array MapEntry).isEmpty && (⟨es'⟩ : Array MapEntry).all (fun e => decide (e.born ≥ last))) = false := by simpa using hc
            have hleft := h6.left seen
            have hg1 := run_getObj (P := P) h2 (by simp)
            have hg2 := run_getObj (P := P) h5 (by simp)
            split at h
            · rename_i hl
              simp at h
              obtain ⟨rfl, rfl⟩ := h
              rw [hl] at hleft
              refine Did.still hr hn (v' := .tuple #[.bool false]) (x := .value (.tuple #[.bool false])) ?_ (.inl rfl) (.tp _ [.bool false] (.cons _ _ _ _ (.bl _) .nil))
              generalize hf : (es'.filter fun e => !seen.contains e.born) = lf at hleft
              cases hleft
              have hfA : Array.filter (fun e : MapEntry => !(⟨seen⟩ : Array Nat).contains e.born) (⟨es'⟩ : Array MapEntry) = ⟨[]⟩ := by
                apply Array.ext'; simpa using hf
              simp only [Instr.next, h0, Nat.add_zero, Sem.run_bind, hg1, Result.andThen_ok, hg2, hcA, hfA]
              simp [Question.forced]
            · rename_i e1 hl
              split at h
              · rename_i hs
                simp only [Nat.ble_eq] at hs
                simp at h
                obtain ⟨rfl, rfl⟩ := h
                rw [hl] at hleft
                generalize hf : (es'.filter fun e => !seen.contains e.born) = lf at hleft
                cases hleft with
                | cons k1 v1 n1 k1' v1' _ _ hk1 hv1 hnil =>
                  cases hnil
                  have hfA : Array.filter (fun e : MapEntry => !(⟨seen⟩ : Array Nat).contains e.born) (⟨es'⟩ : Array MapEntry) = ⟨[⟨k1', v1', n1⟩]⟩ := by
                    apply Array.ext'; simpa using hf
                  obtain ⟨h8, h9⟩ := hr.set hi hx (o' := .mi mm since (seen ++ [n1]) clk) (ob' := .mapIter (some ym.n) since ⟨seen ++ [n1]⟩ clk) ⟨h0, ym, hym, rfl⟩
                  refine ⟨.value (.tuple #[.bool true, k1', v1']), _, b, _, ?_, .inl rfl, .tp _ [.bool true, k1', v1'] (.cons _ _ _ _ (.bl _) (.cons _ _ _ _ hk1 (.cons _ _ _ _ hv1 .nil))), b.le_rfl, fun _ _ => rfl, h8.more hn, h9⟩
                  have hs' : n1 < since := hs
                  simp only [Instr.next, h0, Nat.add_zero, Sem.run_bind, hg1, Result.andThen_ok, hg2, hcA, hfA]
                  simp [Question.forced, hs', run_setObj' h2 (by simp)]
              · cases h
            · cases h
        · cases h
      · cases h
  · cases h
def findB (n : Nat) : List (PV × PV × Nat) → Option (PV × PV)
  | [] => none
  | e :: l => match Nat.beq e.2.2 n with
    | true => some (e.1, e.2.1)
    | false => findB n l
theorem findB_ok {n : Nat} {l : List (PV × PV × Nat)} {l' : List MapEntry} (h : EL b l l') {k v : PV} (hf : findB n l = some (k, v)) : ∃ e, l'.find? (fun e => e.born == n) = some e ∧ V b k e.key ∧ V b v e.val := by
  induction h with
  | nil => simp [findB] at hf
  | cons k1 v1 n1 k1' v1' l l' h1 h2 h3 ih =>
    simp only [findB] at hf
    split at hf
    · rename_i hb
      have := Nat.eq_of_beq_eq_true hb
      subst this
      simp at hf
      obtain ⟨rfl, rfl⟩ := hf
      exact ⟨⟨k1', v1', n1⟩, by simp, h1, h2⟩
    · rename_i hb
      have := Nat.ne_of_beq_eq_false hb
      obtain ⟨e, h4, h5⟩ := ih hf
      exact ⟨e, by simp [this, h4], h5⟩
def ev_entry (H : Hp) (p : PV) : Option (PV × Ef) := match p with
  | .pt i 0 => match H.t.at i with
    | some (.mi m since seen last) => match seen.getLast? with
      | some n => match H.t.at m with
        | some (.mp es clk) => match Nat.beq clk last with
          | true => match findB n es with
            | some (k, v) => some (.tp [k, v], .no)
            | none => none
          | false => none
        | _ => none
      | none => none
    | _ => none
  | _ => none
theorem ev_entry_ok (hr : HR F b H w) {m n : Nat} (hn : H.n ≤ n) {p : PV} {u : Value} (hp : V b p u) {v : PV} {e : Ef} (h : ev_entry H p = some (v, e)) :
    Did P F b H w m n (do pure (.value (← Instr.entry u))) v e := by
  unfold ev_entry at h
  split at h
  · rename_i i
    cases hp with
    | pt _ _ x hx =>
      split at h
      · rename_i mm since seen last hi
        obtain ⟨y, ob, h1, h2, h3, h4⟩ := hr.live i _ hi
        rw [hx] at h1; simp at h1; subst h1
        obtain ⟨h0, ym, hym, rfl⟩ := h3
        split at h
        · rename_i q hq
          split at h
          · rename_i es clk hmm
            obtain ⟨es', h5, h6, h7⟩ := hr.map hmm hym
            split at h
            · rename_i hc
              have hc := Nat.eq_of_beq_eq_true hc
              split at h
              · rename_i k v' hf
                simp at h
                obtain ⟨rfl, rfl⟩ := h
                obtain ⟨e1, h8, h9, h10⟩ := findB_ok h6 hf
                refine Did.still hr hn (v' := .tuple #[e1.key, e1.val]) (x := .value (.tuple #[e1.key, e1.val])) ?_ (.inl rfl) (.tp _ [e1.key, e1.val] (.cons _ _ _ _ h9 (.cons _ _ _ _ h10 .nil)))
                have hg1 := run_getObj (P := P) h2 (by simp)
                have hg2 := run_getObj (P := P) h5 (by simp)
                have hb : (⟨seen⟩ : Array Nat).back? = some q := by simpa using hq
                have hfd : (⟨es'⟩ : Array MapEntry).find? (fun e => e.born == q) = some e1 := by simpa using h8
                subst hc
                simp only [Instr.entry, h0, Nat.add_zero, Sem.run_bind, hg1, Result.andThen_ok, hb, hg2, hfd]
                simp
              · cases h
            · cases h
          · cases h
        · cases h
      · cases h
  · cases h
/-! ### All of them -/
def evBi2 (P : Program) (H : Hp) (m : Nat) (bi : Builtin) (ats : Array TypeId) (x y : PV) : Option (PV × Ef) := match bi with
  | .append => match ats[0]? with
    | some t1 => match ats[1]? with
      | some t2 => ev_append P H m t1 t2 x y
      | none => none
    | none => none
  | .copy => match ats[0]? with
    | some t1 => ev_copy P H t1 x y
    | none => none
  | .delete => match ats[0]? with
    | some t1 => ev_delete P H t1 x y
    | none => none
  | _ => none
def evBi1 (P : Program) (H : Hp) (bi : Builtin) (ats : Array TypeId) (x : PV) : Option (PV × Ef) := match bi with
  | .clear => match ats[0]? with
    | some t1 => ev_clear P H t1 x
    | none => none
  | _ => none
theorem evBi2_ok (hr : HR F b H w) {m n : Nat} (hlo : F.n0 ≤ m) (hm : b m = none) (hmn : m < n) (hn : H.n ≤ n) {bi : Builtin} {ats : Array TypeId} {ty : TypeId} {cs : Array Bool} {x y : PV} {u u2 : Value} (hu : V b x u) (hu2 : V b y u2) {v : PV} {e : Ef}
    (h : evBi2 P H m bi ats x y = some (v, e)) : Did P F b H w m n (builtin bi ats ty cs #[u, u2]) v e := by
  cases bi <;> simp only [evBi2, reduceCtorEq] at h
  case append =>
    split at h
    · rename_i t1 h1
      split at h
      · rename_i t2 h2
        exact ev_append_ok (P := P) (ty := ty) hr hlo hm hmn hn h1 h2 hu hu2 h
      · cases h
    · cases h
  case copy =>
    split at h
    · rename_i t1 h1
      exact ev_copy_ok (P := P) (ty := ty) (m := m) hr hn h1 hu hu2 h
    · cases h
  case delete =>
    split at h
    · rename_i t1 h1
      exact ev_delete_ok (P := P) (ty2 := ty) (m := m) hr hn h1 hu hu2 h
    · cases h
theorem evBi1_ok (hr : HR F b H w) {m n : Nat} (hn : H.n ≤ n) {bi : Builtin} {ats : Array TypeId} {ty : TypeId} {cs : Array Bool} {x : PV} {u : Value} (hu : V b x u) {v : PV} {e : Ef}
    (h : evBi1 P H bi ats x = some (v, e)) : Did P F b H w m n (builtin bi ats ty cs #[u]) v e := by
  cases bi <;> simp only [evBi1, reduceCtorEq] at h
  case clear =>
    split at h
    · rename_i t1 h1
      exact ev_clear_ok (P := P) (ty := ty) (m := m) hr hn h1 hu h
    · cases h
def evBi (P : Program) (H : Hp) (m : Nat) (bi : Builtin) (ats : Array TypeId) : List PV → Option (PV × Ef)
  | [x, y] => evBi2 P H m bi ats x y
  | [x] => evBi1 P H bi ats x
  | _ => none
theorem evBi_ok (hr : HR F b H w) {m n : Nat} (hlo : F.n0 ≤ m) (hm : b m = none) (hmn : m < n) (hn : H.n ≤ n) {bi : Builtin} {ats : Array TypeId} {ty : TypeId} {cs : Array Bool} {l : List PV} {l' : List Value} (hl : VL b l l') {v : PV} {e : Ef}
    (h : evBi P H m bi ats l = some (v, e)) : Did P F b H w m n (builtin bi ats ty cs ⟨l'⟩) v e := by
  unfold evBi at h
  split at h
  · cases hl with
    | cons _ u _ l2 hu hl =>
      cases hl with
      | cons _ u2 _ l3 hu2 hl =>
        cases hl
        exact evBi2_ok hr hlo hm hmn hn hu hu2 h
  · cases hl with
    | cons _ u _ l2 hu hl =>
      cases hl
      exact evBi1_ok hr hn hu h
  · cases h
/-- What an operation makes of memory; a new block, if there is one, is number m. -/
def evA (P : Program) (H : Hp) (m : Nat) (t : Tr PV) (op : Op) : Option (PV × Ef) := match op with
  | .alloc elem => ev_alloc P m elem
  | .box elem x => match evO t x with
    | some p => some (.pt m 0, .row (pcells p) elem 0 false)
    | none => none
  | .buildSlice ty len ps => match evParts t ps.toList with
    | some ps => ev_buildSlice P m ty len ps
    | none => none
  | .store ty a x => match evO t a with
    | some a => match evO t x with
      | some x => ev_store P H ty a x
      | none => none
    | none => none
  | .makeSlice ty l c => match evO t l with
    | some l => match evO t c with
      | some c => ev_makeSlice P m ty l c
      | none => none
    | none => none
  | .makeMap ty r => match evOO t r with
    | some r => ev_makeMap P m ty r
    | none => none
  | .mapUpdate ty mp k x | .insert ty mp k x => match evO t mp with
    | some mp => match evO t k with
      | some k => match evO t x with
        | some x => ev_mapUpdate P H ty mp k x
        | none => none
      | none => none
    | none => none
  | .mapEntry ty mp k => match evO t mp with
    | some mp => match evO t k with
      | some k => ev_mapEntry P H ty mp k
      | none => none
    | none => none
  | .entryStore ty mp k x => match evO t mp with
    | some mp => match evO t k with
      | some k => match evO t x with
        | some x => ev_entryStore H mp k x
        | none => none
      | none => none
    | none => none
  | .range ty x => match evO t x with
    | some x => ev_range P H m ty x
    | none => none
  | .next x s => match evO t x with
    | some x => ev_next H x s
    | none => none
  | .entry x => match evO t x with
    | some x => ev_entry H x
    | none => none
  | .call c => match c.callee with
    | .builtin bi => match evArgs t c.args.toList with
      | some l => evBi P H m bi c.argTypes l
      | none => none
    | _ => none
  | _ => none
theorem evA_ok (hr : HR F b H w) {m n : Nat} (hlo : F.n0 ≤ m) (hm : b m = none) (hmn : m < n) (hn : H.n ≤ n) {t : Tr PV} {a : Act} (ht : TR b t a.tmps) {o : Oper} {v : PV} {e : Ef} (h : evA P H m t o.op = some (v, e)) : Did P F b H w m n (execOp a.eval o) v e := by
  obtain ⟨dst, op, ty0, pos, after, gd⟩ := o
  cases op <;> simp only [evA, reduceCtorEq] at h
  case alloc elem => exact ev_alloc_ok hr hlo hm hmn hn h
  case box elem x =>
    split at h
    · rename_i p hp
      simp at h
      obtain ⟨rfl, rfl⟩ := h
      exact ev_box_ok hr hlo hm hmn hn elem (evO_V (a := a) ht hp)
    · cases h
  case buildSlice ty len ps =>
    split at h
    · rename_i ps' hps
      have h3 := evParts_PL (a := a) ht hps
      have h4 : PL b ps' (ps.map fun x => (x.1, a.eval x.2)).toList := by simpa using h3
      have key := ev_buildSlice_ok hr hlo hm hmn hn h4 h
      have e1 : (ps.map fun x => match x with | (i, x) => (i, a.eval x)) = ps.map (fun x => (x.1, a.eval x.2)) := rfl
      simp only [execOp]
      rw [e1]
      exact key
    · cases h
  case store ty ad x =>
    split at h
    · rename_i pa hpa
      split at h
      · rename_i px hpx
        exact ev_store_ok hr hn (evO_V (a := a) ht hpa) (evO_V (a := a) ht hpx) h
      · cases h
    · cases h
  case makeSlice ty l c =>
    split at h
    · rename_i pa hpa
      split at h
      · rename_i px hpx
        exact ev_makeSlice_ok hr hlo hm hmn hn (evO_V (a := a) ht hpa) (evO_V (a := a) ht hpx) h
      · cases h
    · cases h
  case makeMap ty r =>
    split at h
    · rename_i r' hr'
      exact ev_makeMap_ok hr hlo hm hmn hn (evOO_VO (a := a) ht hr') h
    · cases h
  case mapUpdate ty mp k x =>
    split at h
    · rename_i p1 h1
      split at h
      · rename_i p2 h2
        split at h
        · rename_i p3 h3
          exact ev_mapUpdate_ok hr hn (evO_V (a := a) ht h1) (evO_V (a := a) ht h2) (evO_V (a := a) ht h3) h
        · cases h
      · cases h
    · cases h
  case insert ty mp k x =>
    split at h
    · rename_i p1 h1
      split at h
      · rename_i p2 h2
        split at h
        · rename_i p3 h3
          exact ev_mapUpdate_ok hr hn (evO_V (a := a) ht h1) (evO_V (a := a) ht h2) (evO_V (a := a) ht h3) h
        · cases h
      · cases h
    · cases h
  case mapEntry ty mp k =>
    split at h
    · rename_i p1 h1
      split at h
      · rename_i p2 h2
        exact ev_mapEntry_ok hr hn (evO_V (a := a) ht h1) (evO_V (a := a) ht h2) h
      · cases h
    · cases h
  case entryStore ty mp k x =>
    split at h
    · rename_i p1 h1
      split at h
      · rename_i p2 h2
        split at h
        · rename_i p3 h3
          exact ev_entryStore_ok hr hn (evO_V (a := a) ht h1) (evO_V (a := a) ht h2) (evO_V (a := a) ht h3) h
        · cases h
      · cases h
    · cases h
  case range ty x =>
    split at h
    · rename_i p hp
      exact ev_range_ok hr hlo hm hmn hn (evO_V (a := a) ht hp) h
    · cases h
  case next x s =>
    split at h
    · rename_i p hp
      exact ev_next_ok hr hn (evO_V (a := a) ht hp) h
    · cases h
  case entry x =>
    split at h
    · rename_i p hp
      exact ev_entry_ok hr hn (evO_V (a := a) ht hp) h
    · cases h
  case call c =>
    obtain ⟨cl, args, ats⟩ := c
    cases cl with
    | builtin bi =>
      simp only at h
      split at h
      · rename_i l hl
        have hv := evArgs_VL (a := a) ht hl
        have e1 : args.map a.eval = ⟨args.toList.map a.eval⟩ := by apply Array.ext'; simp
        simp only [execOp, resolve, e1, invoke, pure_bind]
        exact evBi_ok (P := P) hr hlo hm hmn hn hv h
      · cases h
    | value f => simp at h
    | invoke r m => simp at h
end
end
end Go.Proofs.YtoapdkcokemieaaGreat.Ev
