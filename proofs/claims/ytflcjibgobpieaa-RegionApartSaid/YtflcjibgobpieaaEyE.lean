/-
  Operations that only read (3): comparisons, types, maps, structs that are built; all of them together. Nothing of the program stands here.
-/
import Derived.Test.YtflcjibgobpieaaEyDa
namespace Go.Proofs.Ytflcjibgobpieaa.Ev
open Go.RowKit
noncomputable section
set_option linter.unusedVariables false
set_option linter.unusedSimpArgs false
set_option linter.unusedSectionVars false
variable [Fs] [En] [FsOk]
section
variable {P : Program} {F : Fr} {b : Bm} {H : Hp} {w : World}
/-! ### Arithmetic and comparisons -/
/-- An operation on two integers: the model's own. -/
def evInt (op : BinOp) (k : IntKind) (x : Int) (k' : IntKind) (y : Int) : Option PV :=
  match binOp op 0 (.int k x) (.int k' y) with
  | .pure (.int k n) => some (.it k n)
  | .pure (.bool c) => some (.bl c)
  | _ => none
theorem evInt_ok {op : BinOp} {ty : TypeId} {x y : Operand} {k k' : IntKind} {m n : Int} {q : PV} (h : evInt op k m k' n = some q) :
    ∃ v', (do eqGuard op ty x y (.int k m) (.int k' n); binOp op ty (.int k m) (.int k' n) : Sem Value).run P w = .ok v' w ∧ V b q v' := by
  have e : binOp op ty (.int k m) (.int k' n) = binOp op 0 (.int k m) (.int k' n) := by
    cases op <;> rfl
  rw [eqGuard_at_int, e]
  unfold evInt at h
  split at h
  · rename_i k2 n2 he
    simp at h; subst h
    refine ⟨.int k2 n2, ?_, .it _ _⟩
    simp only [Sem.run_bind, Sem.run_pure, Result.andThen_ok]
    rw [he]; rfl
  · rename_i c he
    simp at h; subst h
    refine ⟨.bool c, ?_, .bl _⟩
    simp only [Sem.run_bind, Sem.run_pure, Result.andThen_ok]
    rw [he]; rfl
  · cases h
def evStr (op : BinOp) (s t : List Nat) : Option PV := match op with
  | .add => match Nat.ble (s.length + t.length) 9223372036854775807 with
    | true => some (.st (s ++ t))
    | false => none
  | .eql => some (.bl (eqS s t))
  | .neq => some (.bl (!(eqS s t)))
  | _ => none
theorem evStr_ok {op : BinOp} {ty : TypeId} {x y : Operand} {s t : List Nat} {q : PV} (h : evStr op s t = some q) :
    ∃ v', (do eqGuard op ty x y (.string (bys s)) (.string (bys t)); binOp op ty (.string (bys s)) (.string (bys t)) : Sem Value).run P w = .ok v' w ∧ V b q v' := by
  rw [eqGuard_at_string]
  cases op <;> simp only [evStr, Option.some.injEq, reduceCtorEq] at h
  · split at h
    · rename_i hl
      simp only [Nat.ble_eq] at hl
      simp at h; subst h
      refine ⟨.string (bys (s ++ t)), ?_, .st _⟩
      have : ¬ (IntKind.i64.max < ((s.length + t.length : Nat) : Int)) := by rw [IntKind.max_i64]; omega
      have h2 : ¬ (((bys s).size + (bys t).size : Nat) : Int) > IntKind.i64.max := by rw [bys_size, bys_size]; exact this
      simp only [binOp, Op.stringOp, Sem.run_bind, Sem.run_pure, Result.andThen_ok, if_neg h2, bys_append]
    · cases h
  · subst h
    exact ⟨.bool (eqS s t), by simp [binOp, Op.stringOp, eqS_lists], .bl _⟩
  · subst h
    exact ⟨.bool (!(eqS s t)), by simp [binOp, Op.stringOp, eqS_lists], .bl _⟩
/-- Comparisons in which nil stands, or two places of one block. -/
def evNil (D : TypeDesc) (x y : Operand) : PV → PV → Option Bool
  | .np, .np => match D with
    | .pointer _ => some true
    | _ => none
  | .np, .pt _ _ => match D with
    | .pointer _ => some false
    | _ => none
  | .pt _ _, .np => match D with
    | .pointer _ => some false
    | _ => none
  | .ns, .ns => match D with
    | .slice _ => some true
    | _ => none
  | .ns, .sl .. => match D with
    | .slice _ => some false
    | _ => none
  | .sl .., .ns => match D with
    | .slice _ => some false
    | _ => none
  | .nm, .nm => match D with
    | .map _ _ => some true
    | _ => none
  | .mp _, .nm => match D with
    | .map _ _ => some false
    | _ => none
  | .nm, .mp _ => match D with
    | .map _ _ => some false
    | _ => none
  | .nf, .nf => match D with
    | .func .. => some true
    | _ => none
  | .fn .., .nf => match D with
    | .func .. => some false
    | _ => none
  | .nf, .fn .. => match D with
    | .func .. => some false
    | _ => none
  | .ni, .ni => match D, x, y with
    | .interface _, .const _, _ => some true
    | .interface _, _, .const _ => some true
    | _, _, _ => none
  | .ic .., .ni => match D with
    | .interface _ => some false
    | _ => none
  | .ni, .ic .. => match D with
    | .interface _ => some false
    | _ => none
  | _, _ => none
theorem evNil_ok {D : TypeDesc} {ty : TypeId} (hu : P.underlying ty = some D) {x y : Operand} {p q : PV} {u v : Value} (hp : V b p u) (hq : V b q v) {c : Bool} (h : evNil D x y p q = some c) :
    (eqGuard .eql ty x y u v).run P w = .ok () w ∧ (eqGuard .neq ty x y u v).run P w = .ok () w ∧ (Op.equal ty u v).run P w = .ok c w ∧
      binOp .eql ty u v = (do pure (.bool (← Op.equal ty u v))) ∧ binOp .neq ty u v = (do pure (.bool (!(← Op.equal ty u v)))) := by
  obtain ⟨d, hE⟩ : ∃ d, Op.equal ty u v = Op.equalIn (d + 1) ty u v := ⟨9999, rfl⟩
  rw [hE]
  cases hp <;> cases hq <;> simp only [evNil, reduceCtorEq] at h <;> (split at h <;> simp at h) <;>
    (subst h; refine ⟨by simp [eqGuard], by simp [eqGuard], by simp [Op.equalIn, run_underlying hu], by rw [← hE]; rfl, by rw [← hE]; rfl⟩)
/-- Are two places one? -/
def evPtr (P : Program) (H : Hp) (D : TypeDesc) : PV → PV → Option Bool
  | .pt i x, .pt j y => match D with
    | .pointer e => match szT P e with
      | some (_ + 1) => match Nat.beq i j with
        | true => some (Nat.beq x y)
        | false => match H.t.at i with
          | some (.row ..) => match H.t.at j with
            | some (.row ..) => some false
            | _ => none
          | _ => none
      | _ => none
    | _ => none
  | _, _ => none
theorem run_same {a : Addr} : (sameAddr a a).run P w = .ok true w := by simp [sameAddr]
theorem run_other {a c : Addr} {ca cb : Array Value} {ta tb : TypeId} (hne : a ≠ c) (ha : w.heap[a.block]? = some (.cells ca ta (0, 0))) (hb : w.heap[c.block]? = some (.cells cb tb (0, 0))) :
    (sameAddr a c).run P w = .ok false w := by
  by_cases hbl : a.block = c.block
  · simp [sameAddr, hbl, hne]
  · simp [sameAddr, hbl, World.frozen?, ha, hb, noView, viewAt, World.shape?, mayBeOne, stringish]
theorem evPtr_ok (hr : HR F b H w) {D : TypeDesc} {ty : TypeId} (hu : P.underlying ty = some D) {x y : Operand} {p q : PV} {u v : Value} (hp : V b p u) (hq : V b q v) {c : Bool} (h : evPtr P H D p q = some c) :
    (eqGuard .eql ty x y u v).run P w = .ok () w ∧ (eqGuard .neq ty x y u v).run P w = .ok () w ∧ (Op.equal ty u v).run P w = .ok c w ∧
      binOp .eql ty u v = (do pure (.bool (← Op.equal ty u v))) ∧ binOp .neq ty u v = (do pure (.bool (!(← Op.equal ty u v)))) := by
  obtain ⟨d, hE⟩ : ∃ d, Op.equal ty u v = Op.equalIn (d + 1) ty u v := ⟨9999, rfl⟩
  unfold evPtr at h
  split at h
  · rename_i i xo j yo
    cases hp with
    | pt _ _ bx hx =>
      cases hq with
      | pt _ _ by_ hy =>
        split at h
        · rename_i e
          split at h
          · rename_i n hn
            have key : ∀ c, (sameAddr ⟨bx.n, bx.o + xo, none⟩ ⟨by_.n, by_.o + yo, none⟩).run P w = .ok c w → (Op.equal ty (.pointer (some ⟨bx.n, bx.o + xo, none⟩)) (.pointer (some ⟨by_.n, by_.o + yo, none⟩))).run P w = .ok c w := by
              intro c hc
              rw [hE]
              simp [Op.equalIn, run_underlying hu, run_szT hn, hc]
            refine ⟨by simp [eqGuard], by simp [eqGuard], ?_, rfl, rfl⟩
            split at h
            · rename_i hij
              have hij := Nat.eq_of_beq_eq_true hij
              subst hij
              rw [hx] at hy; simp at hy; subst hy
              simp at h; subst h
              refine key _ ?_
              simp [sameAddr]
              cases hxy : Nat.beq xo yo with
              | true => have := Nat.eq_of_beq_eq_true hxy; subst this; simp
              | false => have := Nat.ne_of_beq_eq_false hxy; simp [this]
            · rename_i hij
              have hij := Nat.ne_of_beq_eq_false hij
              split at h
              · rename_i hi
                split at h
                · rename_i hj
                  simp at h; subst h
                  obtain ⟨a1, f1, h1, _, _, _, hf1, _⟩ := hr.cells hi hx
                  obtain ⟨a2, f2, h2, _, _, _, hf2, _⟩ := hr.cells hj hy
                  subst hf1; subst hf2
                  refine key _ (run_other ?_ h1 h2)
                  intro e
                  apply hij
                  simp at e
                  exact hr.inj i j _ _ _ _ hi hj hx hy e.1
                · cases h
              · cases h
          · cases h
        · cases h
  · cases h
def evCmp (P : Program) (H : Hp) (op : BinOp) (ty : TypeId) (x y : Operand) (p q : PV) : Option PV := match P.underlying ty with
  | some D => match (match evNil D x y p q with
      | some c => some c
      | none => evPtr P H D p q) with
    | some c => match op with
      | .eql => some (.bl c)
      | .neq => some (.bl (!c))
      | _ => none
    | none => none
  | none => none
def evBin (P : Program) (H : Hp) (op : BinOp) (ty : TypeId) (x y : Operand) : PV → PV → Option PV
  | .it k m, .it k' n => evInt op k m k' n
  | .st s, .st t => evStr op s t
  | p, q => match evSyV op p q with
    | some r => some r
    | none => match evAgEq P op ty p q with
      | some r => some r
      | none => evCmp P H op ty x y p q
theorem evCmp_ok (hr : HR F b H w) {op : BinOp} {ty : TypeId} {x y : Operand} {p q r : PV} {u v : Value} (hp : V b p u) (hq : V b q v) (h : evCmp P H op ty x y p q = some r) :
    ∃ v', (do eqGuard op ty x y u v; binOp op ty u v : Sem Value).run P w = .ok v' w ∧ V b r v' := by
  unfold evCmp at h
  split at h
  · rename_i D hu
    split at h
    · rename_i c hc
      have hall : (eqGuard .eql ty x y u v).run P w = .ok () w ∧ (eqGuard .neq ty x y u v).run P w = .ok () w ∧ (Op.equal ty u v).run P w = .ok c w ∧
          binOp .eql ty u v = (do pure (.bool (← Op.equal ty u v))) ∧ binOp .neq ty u v = (do pure (.bool (!(← Op.equal ty u v)))) := by
        split at hc
        · rename_i c2 hc2
          simp at hc; subst hc
          exact evNil_ok (P := P) (w := w) hu hp hq hc2
        · exact evPtr_ok hr hu hp hq hc
      obtain ⟨h1, h2, h3, h4, h5⟩ := hall
      split at h
      · simp at h; subst h
        exact ⟨.bool c, by simp [h1, h4, h3], .bl _⟩
      · simp at h; subst h
        exact ⟨.bool (!c), by simp [h2, h5, h3], .bl _⟩
      · cases h
    · cases h
  · cases h
theorem evBin_ok (hr : HR F b H w) {op : BinOp} {ty : TypeId} {x y : Operand} {p q r : PV} {u v : Value} (hp : V b p u) (hq : V b q v) (h : evBin P H op ty x y p q = some r) :
    ∃ v', (do eqGuard op ty x y u v; binOp op ty u v : Sem Value).run P w = .ok v' w ∧ V b r v' := by
  unfold evBin at h
  split at h
  · cases hp; cases hq; exact evInt_ok h
  · cases hp; cases hq; exact evStr_ok h
  · split at h
    · rename_i r' hs
      simp only [Option.some.injEq] at h; subst h
      obtain ⟨k, m, k', n, v', rfl, rfl, h1, h2⟩ := evSyV_ok hp hq hs
      refine ⟨v', ?_, h2⟩
      have e : binOp op ty (.int k m) (.int k' n) = binOp op 0 (.int k m) (.int k' n) := by cases op <;> rfl
      rw [eqGuard_at_int, e]
      simp only [Sem.run_bind, Sem.run_pure, Result.andThen_ok]
      rw [h1]; rfl
    · split at h
      · rename_i r' hs
        simp only [Option.some.injEq] at h; subst h
        exact evAgEq_ok hp hq hs
      · exact evCmp_ok hr hp hq h
/-! ### nil checks -/
def evNc : PV → Option PV
  | .np => none
  | .ni => none
  | .nf => none
  | .fn f a c => match f with
    | .func _ => some (.fn f a c)
    | _ => none
  | p => some p
theorem evNc_ok {dst : Option Tmp} {ty : TypeId} {pos : String} {after : Array Edge} {gd : Option (Nat × Bool)} {ρ : Operand → Value} {x : Operand} {p q : PV} (hp : V b p (ρ x)) (h : evNc p = some q) :
    ∃ v', (execOp ρ ⟨dst, .nilCheck x, ty, pos, after, gd⟩).run P w = .ok (.value v') w ∧ V b q v' := by
  simp only [execOp]
  generalize ρ x = u at hp ⊢
  cases hp <;> simp only [evNc, Option.some.injEq, reduceCtorEq] at h
  case fn f a c a' c' h1 h2 =>
    split at h
    · simp at h; subst h
      exact ⟨_, rfl, .fn _ _ _ _ _ h1 h2⟩
    · cases h
  all_goals (subst h; exact ⟨_, rfl, by constructor <;> assumption⟩)
end
end
end Go.Proofs.Ytflcjibgobpieaa.Ev
