/-
  Operations that only read (5): maps, structs that are built, builtin functions; whatever names no block; all of them together. Nothing of the program stands here.
-/
import Derived.Test.YtoapdkcokemieaaGreatEuF
namespace Go.Proofs.YtoapdkcokemieaaGreat.Ev
open Go.RowKit
noncomputable section
set_option linter.unusedVariables false
set_option linter.unusedSimpArgs false
set_option linter.unusedSectionVars false
variable [Fs] [En] [FsOk]
section
variable {P : Program} {F : Fr} {b : Bm} {H : Hp} {w : World}
/-! ### Maps -/
def keyD : TypeDesc → Bool
  | .int _ => true
  | .string => true
  | .bool => true
  | _ => false
/-- Are two keys one? -/
def sameP (D : TypeDesc) : PV → PV → Option Bool
  | .it k m, .it k' n => match D with
    | .int _ => match decide (k = k') with
      | true => some (decide (m = n))
      | false => none
    | _ => none
  | .st s, .st t => match D with
    | .string => some (eqS s t)
    | _ => none
  | .bl x, .bl y => match D with
    | .bool => some (x == y)
    | _ => none
  | _, _ => none
theorem sameP_ok {D : TypeDesc} {p q : PV} {u v : Value} (hp : V b p u) (hq : V b q v) {c : Bool} (h : sameP D p q = some c) : Instr.sameNow D u v = some c := by
  unfold sameP at h
  split at h
  · cases hp; cases hq
    split at h
    · split at h
      · rename_i hk
        simp at h hk; subst h; subst hk
        simp [Instr.sameNow]; rfl
      · cases h
    · cases h
  · cases hp; cases hq
    split at h
    · simp at h; subst h
      simp [Instr.sameNow, eqS_beq]
    · cases h
  · cases hp; cases hq
    split at h
    · simp at h; subst h
      simp [Instr.sameNow]
    · cases h
  · cases h
/-- The same of keys that are structs: the model's own comparison. -/
def sameK (P : Program) (kt : TypeId) (D : TypeDesc) (p q : PV) : Option Bool := match keyD D with
  | true => sameP D p q
  | false => match D with
    | .struct _ => match cv 10 p with
      | some u => match cv 10 q with
        | some v => pureRun P (Op.equal kt u v)
        | none => none
      | none => none
    | _ => none
def chkK (P : Program) (kt : TypeId) (D : TypeDesc) (p : PV) : Bool := match keyD D with
  | true => true
  | false => match cv 10 p with
    | some u => match pureRun P (Instr.checkKey false 10000 kt u) with
      | some _ => match pureRun P (Instr.checkKey true 10000 kt u) with
        | some _ => true
        | none => false
      | none => false
    | none => false
/-- Where a key stands in a map. -/
def evFind (P : Program) (kt : TypeId) (D : TypeDesc) (k : PV) : List (PV × PV × Nat) → Nat → Option (Option (Nat × PV))
  | [], _ => some none
  | e :: es, i => match sameK P kt D k e.1 with
    | some true => some (some (i, e.2.1))
    | some false => evFind P kt D k es (i + 1)
    | none => none
inductive FR (b : Bm) : Option (Nat × PV) → Option (Nat × Value) → Prop where
  | none : FR b none none
  | some (i : Nat) (p : PV) (v : Value) : V b p v → FR b (some (i, p)) (some (i, v))
theorem evFind_now {kt : TypeId} {D : TypeDesc} (hD : keyD D = true) {k : PV} {k' : Value} (hk : V b k k') : ∀ (es : List (PV × PV × Nat)) (es' : List MapEntry) (i : Nat) (r : Option (Nat × PV)), EL b es es' → evFind P kt D k es i = some r →
    ∃ r', Instr.findNow D k' es' i = some r' ∧ FR b r r'
  | [], es', i, r, he, h => by cases he; simp [evFind] at h; subst h; exact ⟨none, rfl, .none⟩
  | e :: es, es', i, r, he, h => by
    cases he with
    | cons k2 v2 n k2' v2' _ l' h1 h2 h3 =>
      simp only [evFind] at h
      split at h
      · rename_i hs
        simp [sameK, hD] at hs
        simp at h; subst h
        refine ⟨some (i, v2'), ?_, .some _ _ _ h2⟩
        simp [Instr.findNow, sameP_ok hk h1 hs]
      · rename_i hs
        simp [sameK, hD] at hs
        obtain ⟨r', h4, h5⟩ := evFind_now hD hk es l' (i + 1) r h3 h
        refine ⟨r', ?_, h5⟩
        simp [Instr.findNow, sameP_ok hk h1 hs, h4]
      · cases h
theorem evFind_ask {kt : TypeId} {D : TypeDesc} (hD : keyD D = false) {k : PV} {k' : Value} (hk : V b k k') : ∀ (es : List (PV × PV × Nat)) (es' : List MapEntry) (i : Nat) (r : Option (Nat × PV)), EL b es es' → evFind P kt D k es i = some r →
    ∃ r', (Instr.findAsking kt k' es' i).run P w = .ok r' w ∧ FR b r r'
  | [], es', i, r, he, h => by cases he; simp [evFind] at h; subst h; exact ⟨none, by simp [Instr.findAsking], .none⟩
  | e :: es, es', i, r, he, h => by
    cases he with
    | cons k2 v2 n k2' v2' _ l' h1 h2 h3 =>
      have aux : ∀ c, sameK P kt D k k2 = some c → (Op.equal kt k' k2').run P w = .ok c w := by
        intro c hs
        simp only [sameK, hD] at hs
        split at hs
        · split at hs
          · rename_i u hu
            split at hs
            · rename_i v hv
              rw [cv_eq 10 _ _ _ hu hk, cv_eq 10 _ _ _ hv h1]
              exact pureRun_ok hs w
            · cases hs
          · cases hs
        · cases hs
      simp only [evFind] at h
      split at h
      · rename_i hs
        simp at h; subst h
        refine ⟨some (i, v2'), ?_, .some _ _ _ h2⟩
        simp [Instr.findAsking, aux _ hs]
      · rename_i hs
        obtain ⟨r', h4, h5⟩ := evFind_ask hD hk es l' (i + 1) r h3 h
        refine ⟨r', ?_, h5⟩
        simp [Instr.findAsking, aux _ hs, h4]
      · cases h
theorem run_checkKey {ty : TypeId} {D : TypeDesc} (hu : P.underlying ty = some D) {k : PV} {v : Value} (hk : V b k v) (hD : chkK P ty D k = true) (e : Bool) : (Instr.checkKey e 10000 ty v).run P w = .ok () w := by
  unfold chkK at hD
  split at hD
  · rename_i hkD
    show (Instr.checkKey e (9999 + 1) ty v).run P w = .ok () w
    generalize 9999 = d
    cases D <;> first | (simp [keyD] at hkD; done) | simp [Instr.checkKey, run_underlying hu]
  · split at hD
    · rename_i u hu2
      split at hD
      · rename_i h1
        split at hD
        · rename_i h2
          rw [cv_eq 10 _ _ _ hu2 hk]
          cases e with
          | false => exact pureRun_ok h1 w
          | true => exact pureRun_ok h2 w
        · cases hD
      · cases hD
    · cases hD
theorem run_findKey {ty : TypeId} {D : TypeDesc} (hu : P.underlying ty = some D) {k : PV} {k' : Value} (hk : V b k k') {es : List (PV × PV × Nat)} {es' : List MapEntry} {r : Option (Nat × PV)} (he : EL b es es')
    (h : evFind P ty D k es 0 = some r) : ∃ r', (Instr.findKey ty k' es').run P w = .ok r' w ∧ FR b r r' := by
  cases hkD : keyD D with
  | true =>
    obtain ⟨r', h1, h2⟩ := evFind_now hkD hk es es' 0 r he h
    exact ⟨r', by simp [Instr.findKey, run_underlying hu, h1], h2⟩
  | false =>
    obtain ⟨r', h1, h2⟩ := evFind_ask (w := w) hkD hk es es' 0 r he h
    refine ⟨r', ?_, h2⟩
    cases he with
    | nil => simp [Instr.findAsking] at h1; subst h1; simp [Instr.findKey, run_underlying hu, Instr.findNow]
    | cons k2 v2 n k2' v2' l l' h3 h4 h5 =>
      have : Instr.findNow D k' (⟨k2', v2', n⟩ :: l') 0 = none := by
        cases D <;> first | (simp [keyD] at hkD; done) | simp [Instr.findNow, Instr.sameNow]
      simp [Instr.findKey, run_underlying hu, this, h1]
/-- The entries of a map. -/
def evEs (H : Hp) : PV → Option (List (PV × PV × Nat))
  | .nm => some []
  | .mp i => match H.t.at i with
    | some (.mp es _) => some es
    | _ => none
  | _ => none
def evLk (P : Program) (H : Hp) (ty : TypeId) (ok : Bool) (m k : PV) : Option PV :=
  match P.underlying ty with
  | some (.map key elem) => match P.underlying key with
    | some D => match chkK P key D k with
      | true => match evEs H m with
        | some es => match evFind P key D k es 0 with
          | some (some (_, v)) => some (match ok with
            | true => .tp [v, .bl true]
            | false => v)
          | some none => match zeroT P elem with
            | some z => some (match ok with
              | true => .tp [z, .bl false]
              | false => z)
            | none => none
          | none => none
        | none => none
      | false => none
    | none => none
  | _ => none
theorem HR.map (hr : HR F b H w) {i : Nat} {es : List (PV × PV × Nat)} {clk : Nat} (hi : H.t.at i = some (.mp es clk)) {x : Blk} (hx : b i = some x) :
    ∃ es', w.heap[x.n]? = some (.map ⟨es'⟩ clk) ∧ EL b es es' ∧ ¬ F.f x.n := by
  obtain ⟨y, ob, h1, h2, h3, h4⟩ := hr.live i _ hi
  rw [hx] at h1; simp at h1; subst h1
  obtain ⟨es', rfl, h5⟩ := h3
  exact ⟨es', h2, h5, h4⟩
theorem run_getMap {r : Nat} {es : Array MapEntry} {clk : Nat} (h : w.heap[r]? = some (.map es clk)) : (getObj r).run P w = .ok (.map es clk) w := by
  simp [getObj, Sem.run, h]
theorem evEs_ok (hr : HR F b H w) {m : PV} {v : Value} (hv : V b m v) {es : List (PV × PV × Nat)} (h : evEs H m = some es) :
    ∃ es', (v = .map none ∧ es' = [] ∨ ∃ r clk, v = .map (some r) ∧ w.heap[r]? = some (.map ⟨es'⟩ clk)) ∧ EL b es es' := by
  cases hv with
  | nm => simp [evEs] at h; subst h; exact ⟨[], .inl ⟨rfl, rfl⟩, .nil⟩
  | mp i x hx =>
    simp only [evEs] at h
    split at h
    · rename_i es2 clk hi
      simp at h; subst h
      obtain ⟨es', h1, h2, h3⟩ := hr.map hi hx
      exact ⟨es', .inr ⟨_, _, rfl, h1⟩, h2⟩
    · cases h
  | _ => simp [evEs] at h
theorem evLk_ok (hr : HR F b H w) {ty : TypeId} {ok : Bool} {m k q : PV} {v u : Value} (hm : V b m v) (hk : V b k u) (h : evLk P H ty ok m k = some q) :
    ∃ v', (Instr.lookup ty v u ok).run P w = .ok v' w ∧ V b q v' := by
  unfold evLk at h
  split at h
  · rename_i key elem hu
    split at h
    · rename_i D hD
      split at h
      · rename_i hkD
        split at h
        · rename_i es hes
          obtain ⟨es', h1, h2⟩ := evEs_ok hr hm hes
          have h3 := fun e => run_checkKey (P := P) (w := w) hD hk hkD e
          split at h
          · rename_i i p hf
            obtain ⟨r', h4, h5⟩ := run_findKey (P := P) (w := w) hD hk h2 hf
            cases h5 with
            | some _ _ v' hv' =>
              simp at h; subst h
              refine ⟨if ok then .tuple #[v', .bool true] else v', ?_, ?_⟩
              · rcases h1 with ⟨rfl, rfl⟩ | ⟨r, clk, rfl, h1⟩
                · simp [Instr.lookup, run_underlying hu, h3, h4]
                · simp [Instr.lookup, run_underlying hu, run_getMap h1, h3, h4]
              · cases ok with
                | true => exact .tp _ [v', .bool true] (.cons _ _ _ _ hv' (.cons _ _ _ _ (.bl _) .nil))
                | false => exact hv'
          · rename_i hf
            obtain ⟨r', h4, h5⟩ := run_findKey (P := P) (w := w) hD hk h2 hf
            cases h5
            split at h
            · rename_i z hz
              obtain ⟨z', h6, h7⟩ := zeroT_ok (P := P) (w := w) (b := b) hz
              simp at h; subst h
              refine ⟨if ok then .tuple #[z', .bool false] else z', ?_, ?_⟩
              · rcases h1 with ⟨rfl, rfl⟩ | ⟨r, clk, rfl, h1⟩
                · simp [Instr.lookup, run_underlying hu, h3, h4, h6]
                · simp [Instr.lookup, run_underlying hu, run_getMap h1, h3, h4, h6]
              · cases ok with
                | true => exact .tp _ [z', .bool false] (.cons _ _ _ _ h7 (.cons _ _ _ _ (.bl _) .nil))
                | false => exact h7
            · cases h
          · cases h
        · cases h
      · cases h
    · cases h
  · cases h
/-! ### Structs and arrays that are built -/
def pcells : PV → List PV
  | .ag l => l
  | p => [p]
theorem pcells_VL {p : PV} {v : Value} (hv : V b p v) : VL b (pcells p) v.cells.toList := by
  cases hv with
  | ag l l' hl => exact hl
  | _ => exact .cons _ _ _ _ (by constructor <;> assumption) .nil
def overL {α : Type} (l : List α) (off : Nat) (vs : List α) : List α := l.take off ++ vs ++ l.drop (off + vs.length)
def evFill (place : Nat → Option (Nat × Nat)) : List PV → List (Nat × PV) → Option (List PV)
  | cells, [] => some cells
  | cells, (i, p) :: rest => match place i with
    | some (off, size) => match Nat.beq (pcells p).length size && Nat.ble (off + (pcells p).length) cells.length with
      | true => evFill place (overL cells off (pcells p)) rest
      | false => none
    | none => none
theorem foldl_over (vs : List Value) (off : Nat) : ∀ (n : Nat) (cs : Array Value), off + n + vs.length ≤ cs.size →
    ((vs.zipIdx n).foldl (fun cs (c, j) => cs.setIfInBounds (off + j) c) cs).toList = overL cs.toList (off + n) vs := by
  induction vs with
  | nil => intro n cs h; simp [overL]
  | cons v vs ih =>
    intro n cs h
    simp only [List.zipIdx_cons, List.foldl_cons]
    rw [ih (n + 1) _ (by simp at h ⊢; omega)]
    simp only [overL, Array.toList_setIfInBounds]
    simp at h
    have e : off + (n + 1) = (off + n) + 1 := by omega
    rw [e]
    apply List.ext_getElem?
    intro j
    simp only [List.getElem?_append, List.length_append, List.length_take, List.length_set, List.length_cons, Array.length_toList, List.getElem?_take, List.getElem?_drop, List.getElem?_set]
    by_cases h1 : j < off + n
    · have a1 : j < min (off + n + 1) cs.size + vs.length := by omega
      have a2 : j < min (off + n + 1) cs.size := by omega
      have a3 : j < min (off + n) cs.size + (vs.length + 1) := by omega
      have a4 : j < min (off + n) cs.size := by omega
      have a5 : off + n ≠ j := by omega
      have a6 : j < off + n + 1 := by omega
      simp [a1, a2, a3, a4, a5, a6, h1]
    · by_cases h2 : j = off + n
      · subst h2
        have a1 : off + n < min (off + n + 1) cs.size + vs.length := by omega
        have a2 : off + n < min (off + n + 1) cs.size := by omega
        have a3 : off + n < min (off + n) cs.size + (vs.length + 1) := by omega
        have a4 : ¬ off + n < min (off + n) cs.size := by omega
        have a5 : off + n - min (off + n) cs.size = 0 := by omega
        have a6 : off + n < cs.size := by omega
        simp [a1, a2, a3, a4, a5, a6]
      · by_cases h3 : j < off + n + 1 + vs.length
        · have a1 : j < min (off + n + 1) cs.size + vs.length := by omega
          have a2 : ¬ j < min (off + n + 1) cs.size := by omega
          have a3 : j < min (off + n) cs.size + (vs.length + 1) := by omega
          have a4 : ¬ j < min (off + n) cs.size := by omega
          have a5 : j - min (off + n) cs.size = (j - min (off + n + 1) cs.size) + 1 := by omega
          simp [a1, a2, a3, a4, a5]
        · have a1 : ¬ j < min (off + n + 1) cs.size + vs.length := by omega
          have a3 : ¬ j < min (off + n) cs.size + (vs.length + 1) := by omega
          have a5 : off + n ≠ off + n + 1 + vs.length + (j - (min (off + n + 1) cs.size + vs.length)) := by omega
          have a6 : off + n + 1 + vs.length + (j - (min (off + n + 1) cs.size + vs.length)) = off + n + (vs.length + 1) + (j - (min (off + n) cs.size + (vs.length + 1))) := by omega
          simp [a1, a3, a6]
          intro e; exfalso; omega
def skipN : Nat → List PV → Option (List PV)
  | 0, l => some l
  | n + 1, _ :: l => skipN n l
  | _ + 1, [] => none
theorem skipN_ok : ∀ {n : Nat} {l r : List PV}, skipN n l = some r → ∃ a, l = a ++ r ∧ a.length = n
  | 0, l, r, h => by simp [skipN] at h; exact ⟨[], by simp [h], rfl⟩
  | n + 1, x :: l, r, h => by
    obtain ⟨a, h1, h2⟩ := skipN_ok (n := n) h
    exact ⟨x :: a, by simp [h1], by simp [h2]⟩
  | n + 1, [], r, h => by cases h
/-- Parts that stand one right behind the other. -/
def fillF (place : Nat → Option (Nat × Nat)) : Nat → List PV → List (Nat × PV) → Option (List PV)
  | _, rest, [] => some rest
  | o, rest, (i, p) :: ps => match place i with
    | some (off, size) => match Nat.beq o off && Nat.beq (pcells p).length size with
      | true => match skipN (pcells p).length rest with
        | some rest => match fillF place (o + (pcells p).length) rest ps with
          | some out => some (pcells p ++ out)
          | none => none
        | none => none
      | false => none
    | none => none
theorem fillF_ok {place : Nat → Option (Nat × Nat)} : ∀ {ps : List (Nat × PV)} {o : Nat} {pre rest out : List PV}, pre.length = o → fillF place o rest ps = some out → evFill place (pre ++ rest) ps = some (pre ++ out)
  | [], o, pre, rest, out, hp, h => by simp [fillF] at h; subst h; rfl
  | (i, p) :: ps, o, pre, rest, out, hp, h => by
    simp only [fillF] at h
    split at h
    · rename_i off size hpl
      split at h
      · rename_i hb
        simp only [Bool.and_eq_true] at hb
        have h1 := Nat.eq_of_beq_eq_true hb.1
        have h2 := Nat.eq_of_beq_eq_true hb.2
        split at h
        · rename_i r2 hs
          obtain ⟨a, rfl, ha⟩ := skipN_ok hs
          split at h
          · rename_i out2 ho
            simp at h; subst h
            have hov : overL (pre ++ (a ++ r2)) off (pcells p) = (pre ++ pcells p) ++ r2 := by
              subst h1
              rw [← hp]
              unfold overL
              rw [List.take_left, show pre.length + (pcells p).length = (pre ++ a).length from by simp [ha], ← List.append_assoc pre a r2, List.drop_left]
            have hbl : (Nat.beq (pcells p).length size && Nat.ble (off + (pcells p).length) (pre ++ (a ++ r2)).length) = true := by
              simp only [Bool.and_eq_true, Nat.ble_eq]
              exact ⟨by rw [h2]; exact Nat.beq_refl _, by simp [ha]; omega⟩
            simp only [evFill, hpl, hbl, hov]
            have := fillF_ok (pre := pre ++ pcells p) (o := o + (pcells p).length) (by simp [hp]) ho
            rw [this]; simp
          · cases h
        · cases h
      · cases h
    · cases h
def evFillQ (place : Nat → Option (Nat × Nat)) (cells : List PV) (ps : List (Nat × PV)) : Option (List PV) := match fillF place 0 cells ps with
  | some out => some out
  | none => evFill place cells ps
theorem evFillQ_eq (place : Nat → Option (Nat × Nat)) (cells : List PV) (ps : List (Nat × PV)) : evFillQ place cells ps = evFill place cells ps := by
  unfold evFillQ
  split
  · rename_i out h
    have := fillF_ok (pre := []) (o := 0) rfl h
    simpa using this.symm
  · rfl
inductive PL (b : Bm) : List (Nat × PV) → List (Nat × Value) → Prop where
  | nil : PL b [] []
  | cons (i : Nat) (p : PV) (v : Value) (l : List (Nat × PV)) (l' : List (Nat × Value)) : V b p v → PL b l l' → PL b ((i, p) :: l) ((i, v) :: l')
theorem evFill_ok {place : Nat → Option (Nat × Nat)} : ∀ (ps : List (Nat × PV)) (ps' : List (Nat × Value)) (cells : List PV) (cells' : List Value) (r : List PV), PL b ps ps' → VL b cells cells' →
    evFill place cells ps = some r → ∃ r', Instr.fill place ⟨cells'⟩ ps' = some ⟨r'⟩ ∧ VL b r r'
  | [], ps', cells, cells', r, hp, hc, h => by cases hp; simp [evFill] at h; subst h; exact ⟨cells', rfl, hc⟩
  | (i, p) :: ps, ps', cells, cells', r, hp, hc, h => by
    cases hp with
    | cons _ _ v _ l' h1 h2 =>
      simp only [evFill] at h
      split at h
      · rename_i off size hpl
        split at h
        · rename_i hb
          simp only [Bool.and_eq_true, Nat.ble_eq] at hb
          obtain ⟨hb1, hb2⟩ := hb
          have hb1 := Nat.eq_of_beq_eq_true hb1
          have hpv := pcells_VL h1
          have e1 := hpv.length
          have e2 := hc.length
          have hsz : v.cells.size = size := by rw [← hb1, e1]; simp
          have hno : ¬ (v.cells.size ≠ size ∨ cells'.length < off + v.cells.size) := by
            simp at e1
            omega
          have hov := foldl_over v.cells.toList off 0 ⟨cells'⟩ (by simp at e1 ⊢; omega)
          obtain ⟨r', h3, h4⟩ := evFill_ok ps l' (overL cells off (pcells p)) (overL cells' off v.cells.toList) r h2 (by
            unfold overL
            rw [← e1]
            exact ((hc.take off).app hpv).app (hc.drop _)) h
          refine ⟨r', ?_, h4⟩
          have hfold : (v.cells.zipIdx.foldl (fun cs (c, j) => cs.setIfInBounds (off + j) c) (⟨cells'⟩ : Array Value)) = ⟨overL cells' off v.cells.toList⟩ := by
            apply Array.ext'
            rw [← Array.foldl_toList]
            simpa using hov
          simp only [Instr.fill, hpl]
          rw [if_neg (by simpa using hno), hfold, h3]
        · cases h
      · cases h
def evPlaces (P : Program) : List Field → Option (List (Nat × Nat))
  | [] => some []
  | f :: fs => match szT P f.type with
    | some n => match evPlaces P fs with
      | some l => some ((f.offset, n) :: l)
      | none => none
    | none => none
theorem evPlaces_ok : ∀ (fs : List Field) (l : List (Nat × Nat)), evPlaces P fs = some l → (fs.mapM fun f => Functor.map (Prod.mk f.offset) (sizeOf f.type)).run P w = .ok l w
  | [], l, h => by simp [evPlaces] at h; subst h; simp
  | f :: fs, l, h => by
    simp only [evPlaces] at h
    split at h
    · rename_i n hn
      split at h
      · rename_i m hm
        simp at h; subst h
        simp [List.mapM_cons, run_szT hn, evPlaces_ok fs m hm]
      · cases h
    · cases h
def evBuild (P : Program) (ty : TypeId) (parts : List (Nat × PV)) : Option PV :=
  match zeroT P ty with
  | some (.ag z) => match P.underlying ty with
    | some (.struct fields) => match evPlaces P fields.toList with
      | some places => match evFillQ (places[·]?) z parts with
        | some l => some (.ag l)
        | none => none
      | none => none
    | some (.array _ e) => match szT P e with
      | some n => match evFillQ (fun i => some (i * n, n)) z parts with
        | some l => some (.ag l)
        | none => none
      | none => none
    | _ => none
  | _ => none
theorem evBuild_ok {ty : TypeId} {ps : List (Nat × PV)} {ps' : Array (Nat × Value)} (hp : PL b ps ps'.toList) {q : PV} (h : evBuild P ty ps = some q) :
    ∃ v', (Instr.build ty ps').run P w = .ok v' w ∧ V b q v' := by
  unfold evBuild at h
  simp only [evFillQ_eq] at h
  split at h
  · rename_i z hz
    obtain ⟨z', h1, h2⟩ := zeroT_ok (P := P) (w := w) (b := b) hz
    cases h2 with
    | ag _ zl hzl =>
      split at h
      · rename_i fields hu
        split at h
        · rename_i places hpl
          split at h
          · rename_i l hl
            simp at h; subst h
            obtain ⟨r', h3, h4⟩ := evFill_ok _ _ _ zl _ hp hzl hl
            refine ⟨.agg ⟨r'⟩, ?_, .ag _ _ h4⟩
            have h5 := evPlaces_ok (P := P) (w := w) _ _ hpl
            have h6 : Instr.fill (fun x => (places.toArray)[x]?) (⟨zl⟩ : Array Value) ps'.toList = some ⟨r'⟩ := by
              rw [← h3]; congr 1; funext x; simp
            simp [Instr.build, run_underlying hu, h1, Value.cells, Array.mapM_eq_mapM_toList, h5]
            simp at h6
            simp [h6]
          · cases h
        · cases h
      · rename_i n e hu
        split at h
        · rename_i m hm
          split at h
          · rename_i l hl
            simp at h; subst h
            obtain ⟨r', h3, h4⟩ := evFill_ok _ _ _ zl _ hp hzl hl
            refine ⟨.agg ⟨r'⟩, ?_, .ag _ _ h4⟩
            simp [Instr.build, run_underlying hu, h1, Value.cells, run_szT hm, h3]
          · cases h
        · cases h
      · cases h
  · cases h
/-! ### len -/
def evLen (P : Program) (H : Hp) (ty : TypeId) (p : PV) : Option PV := match P.underlying ty with
  | some .string => match p with
    | .st s => some (.it .i64 s.length)
    | .ss s => some (.it .i64 s.length)
    | _ => none
  | some (.slice _) => match p with
    | .sl _ _ n _ _ => some (.it .i64 n)
    | .ns => some (.it .i64 0)
    | _ => none
  | some (.array n _) => some (.it .i64 n)
  | some (.map _ _) => match p with
    | .nm => some (.it .i64 0)
    | .mp i => match H.t.at i with
      | some (.mp es _) => some (.it .i64 es.length)
      | _ => none
    | _ => none
  | _ => none
theorem EL.length {l : List (PV × PV × Nat)} {l' : List MapEntry} (h : EL b l l') : l.length = l'.length := by
  induction h with
  | nil => rfl
  | cons _ _ _ _ _ _ _ _ _ _ ih => simp [ih]
theorem evLen_ok (hr : HR F b H w) {ty ty2 : TypeId} {ats : Array TypeId} (ha : ats[0]? = some ty) {p q : PV} {v : Value} (hv : V b p v) (h : evLen P H ty p = some q) :
    ∃ v', (Builtin.len_ ats ty2 #[v]).run P w = .ok v' w ∧ V b q v' := by
  unfold evLen at h
  split at h
  · rename_i hu
    split at h
    · rename_i s
      cases hv
      simp at h; subst h
      exact ⟨goInt s.length, by simp [Builtin.len_, ha, run_underlying hu, bys_size], .it _ _⟩
    · rename_i s
      cases hv with
      | ss _ l' m h1 h2 h3 =>
        simp at h; subst h
        have e : s.length = m.length := by have := h1.length; rw [h2] at this; simpa using this
        rw [e]
        exact ⟨goInt m.length, by simp [Builtin.len_, ha, run_underlying hu, bys_size], .it _ _⟩
    · cases h
  · rename_i e hu
    split at h
    · rename_i i off n c g
      cases hv
      simp at h; subst h
      exact ⟨goInt n, by simp [Builtin.len_, ha, run_underlying hu], .it _ _⟩
    · cases hv
      simp at h; subst h
      exact ⟨goInt 0, by simp [Builtin.len_, ha, run_underlying hu], .it _ _⟩
    · cases h
  · rename_i n e hu
    simp at h; subst h
    exact ⟨goInt n, by simp [Builtin.len_, ha, run_underlying hu], .it _ _⟩
  · rename_i k e hu
    split at h
    · cases hv
      simp at h; subst h
      exact ⟨goInt 0, by simp [Builtin.len_, ha, run_underlying hu], .it _ _⟩
    · rename_i i
      split at h
      · rename_i es clk hi
        simp at h; subst h
        cases hv with
        | mp _ x hx =>
          obtain ⟨es', h1, h2, h3⟩ := hr.map hi hx
          refine ⟨goInt es'.length, ?_, by rw [h2.length]; exact .it _ _⟩
          simp [Builtin.len_, ha, run_underlying hu, run_getMap h1]
      · cases h
    · cases h
  · cases h
end
end
end Go.Proofs.YtoapdkcokemieaaGreat.Ev
