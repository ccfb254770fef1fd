/-
  Operations that only read, reckoned by a program. Nothing of the program stands here.
-/
import Derived.Test.YtoapdkcokemieaaGreatEuA
import Derived.Laws.Cells
import Derived.Orders
namespace Go.Proofs.YtoapdkcokemieaaGreat.Ev
open Go.RowKit
noncomputable section
set_option linter.unusedVariables false
set_option linter.unusedSimpArgs false
set_option linter.unusedSectionVars false
variable [Fs] [En] [FsOk]
/-! ### Values without blocks -/
def mapO {α β : Type} (f : α → Option β) : List α → Option (List β)
  | [] => some []
  | x :: l => match f x with
    | some y => match mapO f l with
      | some m => some (y :: m)
      | none => none
    | none => none
theorem mapO_spec {α β : Type} {f : α → Option β} : ∀ {l : List α} {m : List β}, mapO f l = some m → m.length = l.length ∧ ∀ (j : Nat) (x : α), l[j]? = some x → ∃ y, m[j]? = some y ∧ f x = some y
  | [], m, h => by simp [mapO] at h; subst h; simp
  | x :: l, m, h => by
    simp only [mapO] at h
    split at h
    · rename_i y hy
      split at h
      · rename_i m' hm
        simp at h; subst h
        obtain ⟨h1, h2⟩ := mapO_spec hm
        refine ⟨by simp [h1], fun j z hz => ?_⟩
        cases j with
        | zero => simp at hz; subst hz; exact ⟨y, by simp, hy⟩
        | succ j => simp at hz; obtain ⟨u, h3, h4⟩ := h2 j z hz; exact ⟨u, by simpa using h3, h4⟩
      · cases h
    · cases h
/-- A value of the program's text. -/
def unq : Nat → Value → Option PV
  | _, .bool b => some (.bl b)
  | _, .int k n => some (.it k n)
  | _, .string s => some (.st (s.data.toList.map UInt8.toNat))
  | _, .pointer none => some .np
  | _, .slice none l c => match l, c with
    | 0, 0 => some .ns
    | _, _ => none
  | _, .map none => some .nm
  | _, .nilFunc => some .nf
  | _, .nilIface => some .ni
  | n + 1, .func f a c => match mapO (unq n) a.toList with
    | some a => match mapO (unq n) c.toList with
      | some c => some (.fn f a c)
      | none => none
    | none => none
  | n + 1, .agg cs => match mapO (unq n) cs.toList with
    | some l => some (.ag l)
    | none => none
  | n + 1, .tuple cs => match mapO (unq n) cs.toList with
    | some l => some (.tp l)
    | none => none
  | n + 1, .iface t v => match unq n v with
    | some p => some (.ic t p)
    | none => none
  | _, _ => none
theorem bys_toList (s : ByteArray) : bys (s.data.toList.map UInt8.toNat) = s := by
  unfold bys
  rw [List.map_map]
  have : (UInt8.ofNat ∘ UInt8.toNat) = id := by funext x; simp
  rw [this]
  simp
theorem mapO_VL {b : Bm} {f : Value → Option PV} (hf : ∀ v p, f v = some p → V b p v) : ∀ {l : List Value} {m : List PV}, mapO f l = some m → VL b m l
  | [], m, h => by simp [mapO] at h; subst h; exact .nil
  | x :: l, m, h => by
    simp only [mapO] at h
    split at h
    · rename_i y hy
      split at h
      · rename_i m' hm
        simp at h; subst h
        exact .cons _ _ _ _ (hf _ _ hy) (mapO_VL hf hm)
      · cases h
    · cases h
theorem unq_V (b : Bm) : ∀ (n : Nat) (v : Value) (p : PV), unq n v = some p → V b p v
  | n, .bool x, p, h => by cases n <;> (simp [unq] at h; subst h; exact .bl x)
  | n, .int k x, p, h => by cases n <;> (simp [unq] at h; subst h; exact .it k x)
  | n, .string s, p, h => by
    have : V b (.st (s.data.toList.map UInt8.toNat)) (.string s) := by
      have := V.st (b := b) (s.data.toList.map UInt8.toNat)
      rwa [bys_toList] at this
    cases n <;> (simp [unq] at h; subst h; simpa using this)
  | n, .pointer none, p, h => by cases n <;> (simp [unq] at h; subst h; exact .np)
  | n, .pointer (some a), p, h => by cases n <;> simp [unq] at h
  | n, .slice none 0 0, p, h => by cases n <;> (simp [unq] at h; subst h; exact .ns)
  | n, .slice none 0 (c + 1), p, h => by cases n <;> simp [unq] at h
  | n, .slice none (l + 1) c, p, h => by cases n <;> simp [unq] at h
  | n, .slice (some a) l c, p, h => by cases n <;> simp [unq] at h
  | n, .map none, p, h => by cases n <;> (simp [unq] at h; subst h; exact .nm)
  | n, .map (some a), p, h => by cases n <;> simp [unq] at h
  | n, .nilFunc, p, h => by cases n <;> (simp [unq] at h; subst h; exact .nf)
  | n, .nilIface, p, h => by cases n <;> (simp [unq] at h; subst h; exact .ni)
  | 0, .func f a c, p, h => by simp [unq] at h
  | n + 1, .func f a c, p, h => by
    simp only [unq] at h
    split at h
    · rename_i a' ha
      split at h
      · rename_i c' hc
        simp at h; subst h
        exact .fn f a' c' _ _ (mapO_VL (unq_V b n) ha) (mapO_VL (unq_V b n) hc)
      · cases h
    · cases h
  | 0, .agg cs, p, h => by simp [unq] at h
  | n + 1, .agg cs, p, h => by
    simp only [unq] at h
    split at h
    · rename_i l hl
      simp at h; subst h
      exact .ag l _ (mapO_VL (unq_V b n) hl)
    · cases h
  | 0, .tuple cs, p, h => by simp [unq] at h
  | n + 1, .tuple cs, p, h => by
    simp only [unq] at h
    split at h
    · rename_i l hl
      simp at h; subst h
      exact .tp l _ (mapO_VL (unq_V b n) hl)
    · cases h
  | 0, .iface t v, p, h => by simp [unq] at h
  | n + 1, .iface t v, p, h => by
    simp only [unq] at h
    split at h
    · rename_i q hq
      simp at h; subst h
      exact .ic t q v (unq_V b n v q hq)
    · cases h
  | n, .float k x, p, h => by cases n <;> simp [unq] at h
  | n, .complex k x y, p, h => by cases n <;> simp [unq] at h
  | n, .chan r, p, h => by cases n <;> simp [unq] at h
/-- A value that names no block. -/
def cv : Nat → PV → Option Value
  | _, .bl b => some (.bool b)
  | _, .it k n => some (.int k n)
  | _, .st s => some (.string (bys s))
  | _, .np => some (.pointer none)
  | _, .ns => some (.slice none 0 0)
  | _, .nm => some (.map none)
  | _, .nf => some .nilFunc
  | _, .ni => some .nilIface
  | n + 1, .ag l => match mapO (cv n) l with
    | some l => some (.agg ⟨l⟩)
    | none => none
  | n + 1, .tp l => match mapO (cv n) l with
    | some l => some (.tuple ⟨l⟩)
    | none => none
  | n + 1, .ic t v => match cv n v with
    | some v => some (.iface t v)
    | none => none
  | _, _ => none
theorem mapO_eq {b : Bm} {f : PV → Option Value} (hf : ∀ p u v, f p = some u → V b p v → v = u) : ∀ (l : List PV) (m m' : List Value), mapO f l = some m → VL b l m' → m' = m
  | [], m, m', h, hv => by cases hv; simp [mapO] at h; exact h.symm ▸ rfl
  | p :: l, m, m', h, hv => by
    cases hv with
    | cons _ v _ l' h1 h2 =>
      simp only [mapO] at h
      split at h
      · rename_i y hy
        split at h
        · rename_i m1 hm
          simp at h; subst h
          rw [hf _ _ _ hy h1, mapO_eq hf _ _ _ hm h2]
        · cases h
      · cases h
theorem cv_eq {b : Bm} : ∀ (n : Nat) (p : PV) (u v : Value), cv n p = some u → V b p v → v = u := by
  intro n
  induction n with
  | zero =>
    intro p u v h hv
    cases hv <;> simp [cv] at h <;> exact h
  | succ n ih =>
    intro p u v h hv
    cases hv with
    | ic t p v hv =>
      simp only [cv] at h
      split at h
      · rename_i q hq
        simp at h; subst h
        rw [ih _ _ _ hq hv]
      · cases h
    | ag l m hl =>
      simp only [cv] at h
      split at h
      · rename_i q hq
        simp at h; subst h
        rw [mapO_eq ih _ _ _ hq hl]
      · cases h
    | tp l m hl =>
      simp only [cv] at h
      split at h
      · rename_i q hq
        simp at h; subst h
        rw [mapO_eq ih _ _ _ hq hl]
      · cases h
    | _ => simp [cv] at h <;> exact h
/-- A run that only looks at the program. -/
def pureRun {α : Type} (P : Program) : Sem α → Option α
  | .pure a => some a
  | .program k => pureRun P (k P)
  | _ => none
theorem pureRun_ok {α : Type} {P : Program} : ∀ {s : Sem α} {a : α}, pureRun P s = some a → ∀ w, s.run P w = .ok a w
  | .pure a, x, h, w => by simp [pureRun] at h; subst h; rfl
  | .program k, x, h, w => by simp only [pureRun] at h; simp only [Sem.run]; exact pureRun_ok h w
  | .load .., x, h, w => by simp [pureRun] at h
  | .store .., x, h, w => by simp [pureRun] at h
  | .new .., x, h, w => by simp [pureRun] at h
  | .shape .., x, h, w => by simp [pureRun] at h
  | .freeze .., x, h, w => by simp [pureRun] at h
  | .frozen .., x, h, w => by simp [pureRun] at h
  | .getObj .., x, h, w => by simp [pureRun] at h
  | .setObj .., x, h, w => by simp [pureRun] at h
  | .choose .., x, h, w => by simp [pureRun] at h
  | .sys .., x, h, w => by simp [pureRun] at h
  | .mark .., x, h, w => by simp [pureRun] at h
  | .halt .., x, h, w => by simp [pureRun] at h
/-! ### Operands -/
def evO (t : Tr PV) : Operand → Option PV
  | .tmp d => t.at d
  | .const v => unq 10 v
  | .func f => some (.fn (.func f) [] [])
  | .global _ => none
theorem TR.getD {b : Bm} {t : Tr PV} {a : Array Value} (h : TR b t a) {d : Nat} {v : PV} (hd : t.at d = some v) : V b v (a.getD d undef) := by
  obtain ⟨v', h1, h2⟩ := h d v hd
  rw [Array.getD_eq_getD_getElem?, h1]; exact h2
theorem evO_V {b : Bm} {t : Tr PV} {a : Act} (h : TR b t a.tmps) {x : Operand} {p : PV} (hx : evO t x = some p) : V b p (a.eval x) := by
  cases x with
  | tmp d => exact h.getD hx
  | const v => exact unq_V b 10 v p hx
  | func f => simp [evO] at hx; subst hx; exact .fn _ _ _ [] [] .nil .nil
  | global g => simp [evO] at hx
end
end Go.Proofs.YtoapdkcokemieaaGreat.Ev
