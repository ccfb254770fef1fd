/-
  Operations that change memory (2): stores, slices and maps that are made, maps that are changed and gone through, copies. Nothing of the program stands here.
-/
import Derived.Test.YtoapdkcokemieaaGreatEuJ
namespace Go.Proofs.YtoapdkcokemieaaGreat.Ev
open Go.RowKit
noncomputable section
set_option linter.unusedVariables false
set_option linter.unusedSimpArgs false
set_option linter.unusedSectionVars false
variable [Fs] [En] [FsOk]
section
variable {P : Program} {F : Fr} {b : Bm} {H : Hp} {w : World}
theorem Did.still (hr : HR F b H w) {m n : Nat} (hn : H.n ≤ n) {s : Sem Next} {v : PV} {v' : Value} {x : Next} (h : s.run P w = .ok x w) (hx : x = .value v' ∨ x = .skip ∧ v' = undef) (hv : V b v v') : Did P F b H w m n s v .no :=
  ⟨x, v', b, w, h, hx, hv, b.le_rfl, fun _ _ => rfl, hr.more hn, .rfl' F w⟩
/-- The world after cells of a known row were written. -/
theorem wr_ok (hr : HR F b H w) {m n : Nat} (hn : H.n ≤ n) {i : Nat} {c : Tr PV} {k T sz : Nat} {g : Bool} (hi : H.t.at i = some (.row c k T sz g)) {x : Blk} (hx : b i = some x) {off : Nat} {l : List PV} {l' : List Value}
    (hl : VL b l l') (h1 : l.all oneP = true) (hk : off + l.length ≤ k) :
    ∃ w', (storeCells ⟨x.n, x.o + off, none⟩ l').run P w = .ok () w' ∧ HR F b ((Ef.wr i off l).ap m n H) w' ∧ Keep F w w' := by
  obtain ⟨w', h2, h3, h4⟩ := hr.write (P := P) hi hx hl h1 hk
  refine ⟨w', h2, ?_, h4⟩
  simp only [Ef.ap, hi]
  exact h3.more hn
def evWr (H : Hp) (i off : Nat) (l : List PV) : Option Ef := match H.t.at i with
  | some (.row _ k _ _ _) => match l.all oneP && Nat.ble (off + l.length) k with
    | true => some (.wr i off l)
    | false => none
  | _ => none
theorem evWr_ok (hr : HR F b H w) {m n : Nat} (hn : H.n ≤ n) {i off : Nat} {l : List PV} {e : Ef} (h : evWr H i off l = some e) {x : Blk} (hx : b i = some x) {l' : List Value} (hl : VL b l l') :
    ∃ w', (storeCells ⟨x.n, x.o + off, none⟩ l').run P w = .ok () w' ∧ HR F b (e.ap m n H) w' ∧ Keep F w w' := by
  unfold evWr at h
  split at h
  · rename_i c k T sz g hi
    split at h
    · rename_i hb
      simp only [Bool.and_eq_true, Nat.ble_eq] at hb
      simp at h; subst h
      exact wr_ok hr hn hi hx hl hb.1 hb.2
    · cases h
  · cases h
def ev_store (P : Program) (H : Hp) (ty : TypeId) (a p : PV) : Option (PV × Ef) := match a with
  | .pt i off => match szT P ty with
    | some k => match Nat.beq (pcells p).length k with
      | true => match evWr H i off (pcells p) with
        | some e => some (.tp [], e)
        | none => none
      | false => none
    | none => none
  | _ => none
theorem ev_store_ok (hr : HR F b H w) {m n : Nat} (hn : H.n ≤ n) {ty : TypeId} {a p : PV} {u u2 : Value} (ha : V b a u) (hp : V b p u2) {v : PV} {e : Ef} (h : ev_store P H ty a p = some (v, e)) :
    Did P F b H w m n (do Instr.storeAt ty u u2; pure .skip) v e := by
  cases ha with
  | pt i off x hx =>
    simp only [ev_store] at h
    split at h
    · rename_i k hk
      split at h
      · rename_i hb
        split at h
        · rename_i e' he
          simp at h
          obtain ⟨rfl, rfl⟩ := h
          obtain ⟨w', h1, h2, h3⟩ := evWr_ok (P := P) (m := m) hr hn he hx (pcells_VL hp)
          refine ⟨.skip, undef, b, w', ?_, .inr ⟨rfl, rfl⟩, undef_V b, b.le_rfl, fun _ _ => rfl, h2, h3⟩
          have hl := (pcells_VL hp).length
          have hb := Nat.eq_of_beq_eq_true hb
          have : u2.cells.size = k := by rw [← hb, hl]; simp
          simp [Instr.storeAt, Instr.sureAddr, storeVar, run_szT hk, this, h1]
        · cases h
      · cases h
    · cases h
  | _ => simp [ev_store] at h
def natOf : PV → Option Nat
  | .it _ (.ofNat n) => some n
  | _ => none
theorem natOf_ok {p : PV} {v : Value} (hp : V b p v) {n : Nat} (h : natOf p = some n) : ∃ k, v = .int k (n : Int) := by
  cases hp with
  | it k x =>
    cases x with
    | ofNat x => simp [natOf] at h; subst h; exact ⟨k, rfl⟩
    | negSucc x => simp [natOf] at h
  | _ => simp [natOf] at h
def ev_makeSlice0 (P : Program) (m : Nat) (ty : TypeId) (l c : PV) : Option (PV × Ef) := match P.underlying ty with
  | some (.slice elem) => match natOf l, natOf c, evMk P elem, infoB P elem with
    | some l, some c, some (z, sz), some bt => match Nat.ble l c && Nat.ble c 1000000000 && Nat.ble (bt * c) 100000000000 with
      | true => some (.sl m 0 l c false, .row (repL z c) elem 0 false)
      | false => none
    | _, _, _, _ => none
  | _ => none
theorem wrap_small {n : Nat} (h : n ≤ 1000000000) : IntKind.i64.wrap (n : Int) = n := by
  have : ((n : Int) % (2 ^ IntKind.i64.bits : Int)) = n := by
    show ((n : Int) % (18446744073709551616 : Int)) = n
    omega
  unfold IntKind.wrap
  rw [this]
  have : ¬ ((n : Int) ≥ (2 ^ (IntKind.i64.bits - 1) : Int)) := by
    show ¬ ((n : Int) ≥ (9223372036854775808 : Int))
    omega
  simp [this]
theorem ev_makeSlice0_ok (hr : HR F b H w) {m n : Nat} (hlo : F.n0 ≤ m) (hm : b m = none) (hmn : m < n) (hn : H.n ≤ n) {ty : TypeId} {p q : PV} {u u2 : Value} (hp : V b p u) (hq : V b q u2) {v : PV} {e : Ef}
    (h : ev_makeSlice0 P m ty p q = some (v, e)) : Did P F b H w m n (do pure (.value (← Instr.makeSlice ty u u2))) v e := by
  unfold ev_makeSlice0 at h
  split at h
  · rename_i elem hu
    split at h
    · rename_i l c z sz bt hl hc hz hbt
      split at h
      · rename_i hb
        simp only [Bool.and_eq_true, Nat.ble_eq] at hb
        obtain ⟨⟨hb1, hb2⟩, hb3⟩ := hb
        simp at h
        obtain ⟨rfl, rfl⟩ := h
        obtain ⟨k1, rfl⟩ := natOf_ok hp hl
        obtain ⟨k2, rfl⟩ := natOf_ok hq hc
        obtain ⟨z', h1, h2, h3, h4, h5⟩ := evMk_ok (P := P) (b := b) hz
        have hzs : z'.cells.size = sz := by rw [← h4, h2.length]; simp
        obtain ⟨h8, h9⟩ := add_row hr hlo hm hmn hn (repL_VL h2 c) elem
        refine ⟨_, .slice (some ⟨w.heap.size, 0, none⟩) l c, _, _, ?_, .inl rfl, ?_, Bm.le_upd hm _, fun j hj => Bm.upd_ne (Ne.symm hj) _, h8, h9⟩
        · unfold infoB at hbt
          split at hbt
          · rename_i i hi
            simp at hbt; subst hbt
            have e1 := wrap_small (show l ≤ 1000000000 by omega)
            have e2 := wrap_small hb2
            have e3 : ¬ ((c : Int) < 0) := by omega
            have e4 : ¬ ((281474976710656 : Int) < (i.bytes : Int) * (c : Int)) := by
              have : (i.bytes : Int) * (c : Int) = ((i.bytes * c : Nat) : Int) := by simp
              rw [this]; omega
            have e5 : ¬ ((l : Int) < 0) := by omega
            have e6 : ¬ ((c : Int) < (l : Int)) := by omega
            have e7 := zeros_eq (z := z'.cells) (by omega) c
            rw [hzs] at e7
            have hti : (typeInfo elem).run P w = .ok i w := by simp [typeInfo, hi]
            by_cases hc0 : c = 0
            · subst hc0
              have : l = 0 := by omega
              subst this
              have w0 : IntKind.i64.wrap 0 = 0 := by decide
              simp [Instr.makeSlice, run_underlying hu, asInt, asIntOf, hti, w0, h3, h1, newRow, repL, Array.range_zero']
            · have e8 : c * sz ≠ 0 := Nat.mul_ne_zero hc0 (by omega)
              have e9 : ¬ (c = 0 ∨ sz = 0) := by omega
              simp [Instr.makeSlice, run_underlying hu, asInt, asIntOf, hti, e1, e2, e3, e4, e5, e6, h3, h1, newRow, hzs, e7, e9]
              exact fun hz => absurd hz e8
          · cases hbt
        · have := V.sl (b := b.upd m ⟨w.heap.size, 0, 0⟩) m 0 l c false ⟨w.heap.size, 0, 0⟩ (Bm.upd_at ..)
          simpa using this
      · cases h
    · cases h
  · cases h
def ev_makeSliceU (P : Program) (m : Nat) (ty : TypeId) (l c : PV) : Option (PV × Ef) := match P.underlying ty with
  | some (.slice elem) => match natOf l, natOf c, evMk P elem, infoB P elem with
    | some l, some c, some ([x], _), some bt => match Nat.ble l c && Nat.ble c 1000000000 && Nat.ble (bt * c) 100000000000 with
      | true => some (.sl m 0 l c false, .rp x c elem)
      | false => none
    | _, _, _, _ => none
  | _ => none
theorem repL_one (x : PV) : ∀ c : Nat, repL [x] c = List.replicate c x
  | 0 => rfl
  | c + 1 => by
    have := repL_one x c
    simp [repL, this, List.replicate_succ]
theorem ev_makeSliceU_ok {m : Nat} {ty : TypeId} {p q : PV} {v : PV} {e : Ef} (h : ev_makeSliceU P m ty p q = some (v, e)) : ∃ x c elem, e = .rp x c elem ∧ ev_makeSlice0 P m ty p q = some (v, .row (List.replicate c x) elem 0 false) := by
  unfold ev_makeSliceU at h
  split at h
  · rename_i elem hu
    split at h
    · rename_i l c x sz bt hl hc hz hbt
      split at h
      · rename_i hb
        simp at h
        obtain ⟨rfl, rfl⟩ := h
        refine ⟨x, c, elem, rfl, ?_⟩
        simp only [ev_makeSlice0, hu, hl, hc, hz, hbt, hb, repL_one]
      · cases h
    · cases h
  · cases h
def ev_makeSlice (P : Program) (m : Nat) (ty : TypeId) (l c : PV) : Option (PV × Ef) := match ev_makeSliceU P m ty l c with
  | some r => some r
  | none => ev_makeSlice0 P m ty l c
theorem ev_makeSlice_ok (hr : HR F b H w) {m n : Nat} (hlo : F.n0 ≤ m) (hm : b m = none) (hmn : m < n) (hn : H.n ≤ n) {ty : TypeId} {p q : PV} {u u2 : Value} (hp : V b p u) (hq : V b q u2) {v : PV} {e : Ef}
    (h : ev_makeSlice P m ty p q = some (v, e)) : Did P F b H w m n (do pure (.value (← Instr.makeSlice ty u u2))) v e := by
  unfold ev_makeSlice at h
  split at h
  · rename_i r hU
    simp only [Option.some.injEq] at h; subst h
    obtain ⟨x, c, elem, rfl, h1⟩ := ev_makeSliceU_ok hU
    exact did_rp rfl (ev_makeSlice0_ok hr hlo hm hmn hn hp hq h1)
  · exact ev_makeSlice0_ok hr hlo hm hmn hn hp hq h
def ev_makeMap (P : Program) (m : Nat) (ty : TypeId) (r : Option PV) : Option (PV × Ef) := match r with
  | none => some (.mp m, .obj (.mp [] 0))
  | some (.it _ _) => match P.underlying ty with
    | some (.map _ _) => some (.mp m, .obj (.mp [] 0))
    | _ => none
  | _ => none
theorem ev_makeMap_ok (hr : HR F b H w) {m n : Nat} (hlo : F.n0 ≤ m) (hm : b m = none) (hmn : m < n) (hn : H.n ≤ n) {ty : TypeId} {r : Option PV} {r' : Option Value} (hrr : VO b r r') {v : PV} {e : Ef}
    (h : ev_makeMap P m ty r = some (v, e)) : Did P F b H w m n (do pure (.value (← Instr.makeMap ty r'))) v e := by
  obtain ⟨h3, h4⟩ := hr.add (o := .mp [] 0) (ob := .map #[] 0) (room := 0) hlo hm hmn hn ⟨[], rfl, .nil⟩
  have key : (Instr.makeMap ty r').run P w = .ok (.map (some w.heap.size)) (w.alloc (.map #[] 0)) ∧ v = .mp m ∧ e = .obj (.mp [] 0) := by
    cases hrr with
    | none => simp [ev_makeMap] at h; obtain ⟨rfl, rfl⟩ := h; exact ⟨by simp [Instr.makeMap], rfl, rfl⟩
    | some p u hp =>
      cases hp <;> simp only [ev_makeMap, reduceCtorEq] at h
      split at h
      · rename_i hu
        simp at h; obtain ⟨rfl, rfl⟩ := h
        exact ⟨by simp [Instr.makeMap, run_underlying hu, asInt, asIntOf], rfl, rfl⟩
      · cases h
  obtain ⟨h1, rfl, rfl⟩ := key
  refine ⟨_, .map (some w.heap.size), _, _, ?_, .inl rfl, .mp m _ (Bm.upd_at ..), Bm.le_upd hm _, fun j hj => Bm.upd_ne (Ne.symm hj) _, h3, h4⟩
  simp [h1]
/-! ### Maps -/
theorem EL.get {l : List (PV × PV × Nat)} {l' : List MapEntry} (h : EL b l l') : ∀ {j : Nat} {e : PV × PV × Nat}, l[j]? = some e → ∃ k' v', l'[j]? = some ⟨k', v', e.2.2⟩ ∧ V b e.1 k' ∧ V b e.2.1 v' := by
  induction h with
  | nil => intro j e h; simp at h
  | cons k v n k' v' l l' h1 h2 h3 ih =>
    intro j e h
    cases j with
    | zero => simp at h; subst h; exact ⟨k', v', by simp, h1, h2⟩
    | succ j => simp at h; obtain ⟨k2, v2, h4, h5⟩ := ih h; exact ⟨k2, v2, by simpa using h4, h5⟩
theorem EL.set {l : List (PV × PV × Nat)} {l' : List MapEntry} (h : EL b l l') {k v : PV} {k' v' : Value} {n : Nat} (hk : V b k k') (hv : V b v v') : ∀ (j : Nat), EL b (l.set j (k, v, n)) (l'.set j ⟨k', v', n⟩) := by
  induction h with
  | nil => intro j; simp; exact .nil
  | cons k2 v2 n2 k2' v2' l l' h1 h2 h3 ih =>
    intro j
    cases j with
    | zero => simp; exact .cons _ _ _ _ _ _ _ hk hv h3
    | succ j => simp; exact .cons _ _ _ _ _ _ _ h1 h2 (ih j)
theorem EL.app {l m : List (PV × PV × Nat)} {l' m' : List MapEntry} (h : EL b l l') (k : EL b m m') : EL b (l ++ m) (l' ++ m') := by
  induction h with
  | nil => exact k
  | cons k2 v2 n2 k2' v2' l l' h1 h2 h3 ih => exact .cons _ _ _ _ _ _ _ h1 h2 ih
theorem EL.erase {l : List (PV × PV × Nat)} {l' : List MapEntry} (h : EL b l l') : ∀ (j : Nat), EL b (l.eraseIdx j) (l'.eraseIdx j) := by
  induction h with
  | nil => intro j; simp; exact .nil
  | cons k2 v2 n2 k2' v2' l l' h1 h2 h3 ih =>
    intro j
    cases j with
    | zero => simp; exact h3
    | succ j => simp; exact .cons _ _ _ _ _ _ _ h1 h2 (ih j)
/-- Are two keys the same to the last bit? -/
def bitsK (D : TypeDesc) (k old : PV) : Bool := match keyD D with
  | true => match sameP D k old with
    | some true => true
    | _ => false
  | false => match cv 10 k with
    | some u => match cv 10 old with
      | some v => Instr.sameBits 10000 v u
      | none => false
    | none => false
def ev_mapUpdate (P : Program) (H : Hp) (ty : TypeId) (m k v : PV) : Option (PV × Ef) := match P.underlying ty with
  | some (.map key _) => match P.underlying key with
    | some D => match chkK P key D k, m with
      | true, .mp i => match H.t.at i with
        | some (.mp es clk) => match evFind P key D k es 0 with
          | some none => some (.tp [], .st i (.mp (es ++ [(k, v, clk)]) (clk + 1)))
          | some (some (j, _)) => match es[j]? with
            | some e => match bitsK D k e.1 with
              | true => some (.tp [], .st i (.mp (es.set j (k, v, e.2.2)) clk))
              | false => none
            | none => none
          | none => none
        | _ => none
      | _, _ => none
    | none => none
  | _ => none
theorem sameP_bits {D : TypeDesc} {p q : PV} {u v : Value} (hp : V b p u) (hq : V b q v) (h : sameP D p q = some true) : Instr.sameBits 10000 v u = true := by
  show Instr.sameBits (9999 + 1) v u = true
  generalize 9999 = d
  unfold sameP at h
  split at h
  · cases hp; cases hq
    split at h
    · split at h
      · rename_i hk
        simp at h hk; subst h; subst hk
        simp [Instr.sameBits]
      · cases h
    · cases h
  · cases hp; cases hq
    split at h
    · simp at h
      have := eqS_beq
      rename_i s t _
      have h2 : eqS t s = true := by rw [eqS_spec] at h ⊢; exact h.symm
      simp [Instr.sameBits, eqS_beq, h2]
    · cases h
  · cases hp; cases hq
    split at h
    · simp at h; subst h
      simp [Instr.sameBits]
    · cases h
  · cases h
theorem bitsK_ok {D : TypeDesc} {p q : PV} {u v : Value} (hp : V b p u) (hq : V b q v) (h : bitsK D p q = true) : Instr.sameBits 10000 v u = true := by
  unfold bitsK at h
  split at h
  · split at h
    · rename_i hs; exact sameP_bits hp hq hs
    · cases h
  · split at h
    · rename_i x hx
      split at h
      · rename_i y hy
        rw [cv_eq 10 _ _ _ hx hp, cv_eq 10 _ _ _ hy hq]; exact h
      · cases h
    · cases h
theorem setObj_run {r : Nat} {es : Array MapEntry} {clk : Nat} (h : w.heap[r]? = some (.map es clk)) (ob : Obj) : (setObj r ob).run P w = .ok () (World.seto w r ob) := by
  simp [setObj, Sem.run, h, World.seto]
theorem ev_mapUpdate_ok (hr : HR F b H w) {m n : Nat} (hn : H.n ≤ n) {ty : TypeId} {pm pk pv : PV} {um uk uv : Value} (hm : V b pm um) (hk : V b pk uk) (hv : V b pv uv) {v : PV} {e : Ef}
    (h : ev_mapUpdate P H ty pm pk pv = some (v, e)) : Did P F b H w m n (do Instr.mapUpdate ty um uk uv; pure .skip) v e := by
  unfold ev_mapUpdate at h
  split at h
  · rename_i key el hu
    split at h
    · rename_i D hD
      split at h
      · rename_i i hkD
        split at h
        · rename_i es clk hi
          cases hm with
          | mp _ x hx =>
            obtain ⟨es', h1, h2, h3⟩ := hr.map hi hx
            have h4 := run_checkKey (P := P) (w := w) hD hk hkD false
            split at h
            · rename_i hf
              obtain ⟨r', h5, h6⟩ := run_findKey (P := P) (w := w) hD hk h2 hf
              cases h6
              simp at h
              obtain ⟨rfl, rfl⟩ := h
              obtain ⟨h7, h8⟩ := hr.set hi hx (o' := .mp (es ++ [(pk, pv, clk)]) (clk + 1)) (ob' := .map ⟨es' ++ [⟨uk, uv, clk⟩]⟩ (clk + 1)) ⟨_, rfl, h2.app (.cons _ _ _ _ _ _ _ hk hv .nil)⟩
              refine ⟨.skip, undef, b, _, ?_, .inr ⟨rfl, rfl⟩, undef_V b, b.le_rfl, fun _ _ => rfl, h7.more hn, h8⟩
              simp [Instr.mapUpdate, run_underlying hu, run_getMap h1, h4, h5, setObj_run h1]
            · rename_i j pj hf
              obtain ⟨r', h5, h6⟩ := run_findKey (P := P) (w := w) hD hk h2 hf
              cases h6 with
              | some _ _ vj hvj =>
                split at h
                · rename_i e1 he1
                  split at h
                  · rename_i hs
                    simp at h
                    obtain ⟨rfl, rfl⟩ := h
                    obtain ⟨k2, v2, h9, h10, h11⟩ := h2.get he1
                    obtain ⟨h7, h8⟩ := hr.set hi hx (o' := .mp (es.set j (pk, pv, e1.2.2)) clk) (ob' := .map ⟨es'.set j ⟨uk, uv, e1.2.2⟩⟩ clk) ⟨_, rfl, h2.set hk hv j⟩
                    refine ⟨.skip, undef, b, _, ?_, .inr ⟨rfl, rfl⟩, undef_V b, b.le_rfl, fun _ _ => rfl, h7.more hn, h8⟩
                    have hsb := bitsK_ok hk h10 hs
                    obtain ⟨hlt, heq⟩ := List.getElem?_eq_some_iff.1 h9
                    have hmod : es'.modify j (fun e => { key := uk, val := uv, born := e.born }) = es'.set j ⟨uk, uv, e1.2.2⟩ := by
                      apply List.ext_getElem?
                      intro q
                      simp only [List.getElem?_modify, List.getElem?_set]
                      by_cases hq : j = q
                      · subst hq
                        simp [hlt, heq]
                      · simp [hq]
                    simp [Instr.mapUpdate, run_underlying hu, run_getMap h1, h4, h5, setObj_run h1, Instr.keyThatStays, h9, hsb, hmod]
                  · cases h
                · cases h
            · cases h
        · cases h
      · cases h
    · cases h
  · cases h
def ev_delete (P : Program) (H : Hp) (ty : TypeId) (m k : PV) : Option (PV × Ef) := match P.underlying ty with
  | some (.map key _) => match P.underlying key with
    | some D => match chkK P key D k with
      | true => match m with
        | .nm => some (.tp [], .no)
        | .mp i => match H.t.at i with
          | some (.mp es clk) => match evFind P key D k es 0 with
            | some none => some (.tp [], .st i (.mp es clk))
            | some (some (j, _)) => some (.tp [], .st i (.mp (es.eraseIdx j) clk))
            | none => none
          | _ => none
        | _ => none
      | false => none
    | none => none
  | _ => none
theorem ev_delete_ok (hr : HR F b H w) {m n : Nat} (hn : H.n ≤ n) {ty ty2 : TypeId} {ats : Array TypeId} (hat : ats[0]? = some ty) {pm pk : PV} {um uk : Value} (hm : V b pm um) (hk : V b pk uk) {v : PV} {e : Ef}
    (h : ev_delete P H ty pm pk = some (v, e)) : Did P F b H w m n (do pure (.value (← Builtin.delete_ ats ty2 #[um, uk]))) v e := by
  unfold ev_delete at h
  split at h
  · rename_i key el hu
    split at h
    · rename_i D hD
      split at h
      · rename_i hkD
        split at h
        · cases hm
          simp at h
          obtain ⟨rfl, rfl⟩ := h
          have h4 := run_checkKey (P := P) (w := w) hD hk hkD true
          refine Did.still hr hn (v' := undef) (x := .value undef) ?_ (.inl rfl) (undef_V b)
          simp [Builtin.delete_, hat, run_underlying hu, h4]
          rfl
        · rename_i i
          split at h
          · rename_i es clk hi
            cases hm with
            | mp _ x hx =>
              obtain ⟨es', h1, h2, h3⟩ := hr.map hi hx
              have h4 := fun e => run_checkKey (P := P) (w := w) hD hk hkD e
              split at h
              · rename_i hf
                obtain ⟨r', h5, h6⟩ := run_findKey (P := P) (w := w) hD hk h2 hf
                cases h6
                simp at h
                obtain ⟨rfl, rfl⟩ := h
                obtain ⟨h7, h8⟩ := hr.set hi hx (o' := .mp es clk) (ob' := .map ⟨es'⟩ clk) ⟨_, rfl, h2⟩
                refine ⟨.value undef, undef, b, _, ?_, .inl rfl, undef_V b, b.le_rfl, fun _ _ => rfl, h7.more hn, h8⟩
                simp [Builtin.delete_, hat, run_underlying hu, run_getMap h1, h4, h5, setObj_run h1]
                rfl
              · rename_i j pj hf
                obtain ⟨r', h5, h6⟩ := run_findKey (P := P) (w := w) hD hk h2 hf
                cases h6 with
                | some _ _ vj hvj =>
                  simp at h
                  obtain ⟨rfl, rfl⟩ := h
                  obtain ⟨h7, h8⟩ := hr.set hi hx (o' := .mp (es.eraseIdx j) clk) (ob' := .map ⟨es'.eraseIdx j⟩ clk) ⟨_, rfl, h2.erase j⟩
                  refine ⟨.value undef, undef, b, _, ?_, .inl rfl, undef_V b, b.le_rfl, fun _ _ => rfl, h7.more hn, h8⟩
                  have he : (⟨es'⟩ : Array MapEntry).eraseIdxIfInBounds j = ⟨es'.eraseIdx j⟩ := by
                    apply Array.ext'; simp
                  simp [Builtin.delete_, hat, run_underlying hu, run_getMap h1, h4, h5, setObj_run h1, he]
                  rfl
              · cases h
          · cases h
        · cases h
      · cases h
    · cases h
  · cases h
def ev_mapEntry (P : Program) (H : Hp) (ty : TypeId) (m k : PV) : Option (PV × Ef) := match P.underlying ty with
  | some (.map key elem) => match P.underlying key with
    | some D => match chkK P key D k, m with
      | true, .mp i => match H.t.at i with
        | some (.mp es clk) => match evFind P key D k es 0 with
          | some none => match zeroT P elem with
            | some z => some (.tp [z, .it .i64 clk], .st i (.mp (es ++ [(k, z, clk)]) (clk + 1)))
            | none => none
          | some (some (j, v)) => match es[j]? with
            | some e => match bitsK D k e.1 with
              | true => some (.tp [v, .it .i64 e.2.2], .st i (.mp (es.set j (k, e.2.1, e.2.2)) clk))
              | false => none
            | none => none
          | none => none
        | _ => none
      | _, _ => none
    | none => none
  | _ => none
theorem ev_mapEntry_ok (hr : HR F b H w) {m n : Nat} (hn : H.n ≤ n) {ty : TypeId} {pm pk : PV} {um uk : Value} (hm : V b pm um) (hk : V b pk uk) {v : PV} {e : Ef}
    (h : ev_mapEntry P H ty pm pk = some (v, e)) : Did P F b H w m n (do pure (.value (← Instr.mapEntry ty um uk))) v e := by
  unfold ev_mapEntry at h
  split at h
  · rename_i key el hu
    split at h
    · rename_i D hD
      split at h
      · rename_i i hkD
        split at h
        · rename_i es clk hi
          cases hm with
          | mp _ x hx =>
            obtain ⟨es', h1, h2, h3⟩ := hr.map hi hx
            have h4 := run_checkKey (P := P) (w := w) hD hk hkD false
            split at h
            · rename_i hf
              obtain ⟨r', h5, h6⟩ := run_findKey (P := P) (w := w) hD hk h2 hf
              cases h6
              split at h
              · rename_i z hz
                obtain ⟨z', hz1, hz2⟩ := zeroT_all (P := P) (b := b) hz
                simp at h
                obtain ⟨rfl, rfl⟩ := h
                obtain ⟨h7, h8⟩ := hr.set hi hx (o' := .mp (es ++ [(pk, z, clk)]) (clk + 1)) (ob' := .map ⟨es' ++ [⟨uk, z', clk⟩]⟩ (clk + 1)) ⟨_, rfl, h2.app (.cons _ _ _ _ _ _ _ hk hz2 .nil)⟩
                refine ⟨.value (.tuple #[z', goInt clk]), _, b, _, ?_, .inl rfl, .tp _ [z', goInt clk] (.cons _ _ _ _ hz2 (.cons _ _ _ _ (.it _ _) .nil)), b.le_rfl, fun _ _ => rfl, h7.more hn, h8⟩
                simp [Instr.mapEntry, run_underlying hu, run_getMap h1, h4, h5, hz1, setObj_run h1]
              · cases h
            · rename_i j pj hf
              obtain ⟨r', h5, h6⟩ := run_findKey (P := P) (w := w) hD hk h2 hf
              cases h6 with
              | some _ _ vj hvj =>
                split at h
                · rename_i e1 he1
                  split at h
                  · rename_i hs
                    simp at h
                    obtain ⟨rfl, rfl⟩ := h
                    obtain ⟨k2, v2, h9, h10, h11⟩ := h2.get he1
                    obtain ⟨h7, h8⟩ := hr.set hi hx (o' := .mp (es.set j (pk, e1.2.1, e1.2.2)) clk) (ob' := .map ⟨es'.set j ⟨uk, v2, e1.2.2⟩⟩ clk) ⟨_, rfl, h2.set hk h11 j⟩
                    refine ⟨.value (.tuple #[vj, goInt e1.2.2]), _, b, _, ?_, .inl rfl, .tp _ [vj, goInt e1.2.2] (.cons _ _ _ _ hvj (.cons _ _ _ _ (.it _ _) .nil)), b.le_rfl, fun _ _ => rfl, h7.more hn, h8⟩
                    have hsb := bitsK_ok hk h10 hs
                    obtain ⟨hlt, heq⟩ := List.getElem?_eq_some_iff.1 h9
                    have hmod : es'.modify j (fun e => { key := uk, val := e.val, born := e.born }) = es'.set j ⟨uk, v2, e1.2.2⟩ := by
                      apply List.ext_getElem?
                      intro q
                      simp only [List.getElem?_modify, List.getElem?_set]
                      by_cases hq : j = q
                      · subst hq
                        simp [hlt, heq]
                      · simp [hq]
                    simp [Instr.mapEntry, run_underlying hu, run_getMap h1, h4, h5, setObj_run h1, Instr.keyThatStays, h9, hsb, hmod]
                  · cases h
                · cases h
            · cases h
        · cases h
      · cases h
    · cases h
  · cases h
def bornIdx (n : Nat) : List (PV × PV × Nat) → Nat → Option (Nat × (PV × PV × Nat))
  | [], _ => none
  | e :: l, i => match Nat.beq e.2.2 n with
    | true => some (i, e)
    | false => bornIdx n l (i + 1)
theorem bornIdx_ok {n : Nat} {l : List (PV × PV × Nat)} {l' : List MapEntry} (h : EL b l l') : ∀ {i j : Nat} {e : PV × PV × Nat}, bornIdx n l i = some (j, e) → ∃ k, j = i + k ∧ l'.findIdx? (fun e => (e.born : Int) == (n : Int)) = some k ∧ l[k]? = some e := by
  induction h with
  | nil => intro i j e h; simp [bornIdx] at h
  | cons k1 v1 n1 k1' v1' l l' h1 h2 h3 ih =>
    intro i j e h
    simp only [bornIdx] at h
    split at h
    · rename_i hb
      have := Nat.eq_of_beq_eq_true hb
      subst this
      simp at h
      obtain ⟨rfl, rfl⟩ := h
      exact ⟨0, rfl, by simp [List.findIdx?_cons], rfl⟩
    · rename_i hb
      have hne := Nat.ne_of_beq_eq_false hb
      obtain ⟨k, h4, h5, h6⟩ := ih h
      refine ⟨k + 1, by omega, ?_, by simpa using h6⟩
      have : ¬ ((n1 : Int) = (n : Int)) := by omega
      simp [List.findIdx?_cons, this, h5]
def ev_entryStore (H : Hp) (m s v : PV) : Option (PV × Ef) := match m with
  | .mp i => match H.t.at i with
    | some (.mp es clk) => match natOf s with
      | some n => match bornIdx n es 0 with
        | some (j, e) => some (.tp [], .st i (.mp (es.set j (e.1, v, e.2.2)) clk))
        | none => none
      | none => none
    | _ => none
  | _ => none
theorem ev_entryStore_ok (hr : HR F b H w) {m n : Nat} (hn : H.n ≤ n) {ty : TypeId} {pm ps pv : PV} {um us uv : Value} (hm : V b pm um) (hs : V b ps us) (hv : V b pv uv) {v : PV} {e : Ef}
    (h : ev_entryStore H pm ps pv = some (v, e)) : Did P F b H w m n (do Instr.entryStore ty um us uv; pure .skip) v e := by
  unfold ev_entryStore at h
  split at h
  · rename_i i
    split at h
    · rename_i es clk hi
      cases hm with
      | mp _ x hx =>
        obtain ⟨es', h1, h2, h3⟩ := hr.map hi hx
        split at h
        · rename_i q hq
          obtain ⟨kd, rfl⟩ := natOf_ok hs hq
          split at h
          · rename_i j e1 hb
            simp at h
            obtain ⟨rfl, rfl⟩ := h
            obtain ⟨k, hk1, hk2, hk3⟩ := bornIdx_ok h2 hb
            have hjk : j = k := by omega
            subst hjk
            obtain ⟨k2, v2, h9, h10, h11⟩ := h2.get hk3
            obtain ⟨h7, h8⟩ := hr.set hi hx (o' := .mp (es.set j (e1.1, pv, e1.2.2)) clk) (ob' := .map ⟨es'.set j ⟨k2, uv, e1.2.2⟩⟩ clk) ⟨_, rfl, h2.set h10 hv j⟩
            refine ⟨.skip, undef, b, _, ?_, .inr ⟨rfl, rfl⟩, undef_V b, b.le_rfl, fun _ _ => rfl, h7.more hn, h8⟩
            obtain ⟨hlt, heq⟩ := List.getElem?_eq_some_iff.1 h9
            have hmod : es'.modify j (fun e => { key := e.key, val := uv, born := e.born }) = es'.set j ⟨k2, uv, e1.2.2⟩ := by
              apply List.ext_getElem?
              intro q
              simp only [List.getElem?_modify, List.getElem?_set]
              by_cases hq : j = q
              · subst hq
                simp [hlt, heq]
              · simp [hq]
            simp [Instr.entryStore, run_getMap h1, asInt, asIntOf, hk2, setObj_run h1, hmod]
          · cases h
        · cases h
    · cases h
  · cases h
end
end
end Go.Proofs.YtoapdkcokemieaaGreat.Ev
