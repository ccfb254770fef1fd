/-
  Operations that only read (3): comparisons, types, maps, structs that are built; all of them together. Nothing of the program stands here.
-/
import Derived.Test.YtoapdkcokemieaaGreatEuDa
namespace Go.Proofs.YtoapdkcokemieaaGreat.Ev
open Go.RowKit
noncomputable section
set_option linter.unusedVariables false
set_option linter.unusedSimpArgs false
set_option linter.unusedSectionVars false
variable [Fs] [En] [FsOk]
section
variable {P : Program} {F : Fr} {b : Bm} {H : Hp} {w : World}
/-! ### Arithmetic and comparisons -/
/-- An operation on two integers: the model's own. -/
def evInt (op : BinOp) (k : IntKind) (x : Int) (k' : IntKind) (y : Int) : Option PV :=
  match binOp op 0 (.int k x) (.int k' y) with
  | .pure (.int k n) => some (.it k n)
  | .pure (.bool c) => some (.bl c)
  | _ => none
theorem evInt_ok {op : BinOp} {ty : TypeId} {x y : Operand} {k k' : IntKind} {m n : Int} {q : PV} (h : evInt op k m k' n = some q) :
    ∃ v', (do eqGuard op ty x y (.int k m) (.int k' n); binOp op ty (.int k m) (.int k' n) : Sem Value).run P w = .ok v' w ∧ V b q v' := by
  have e : binOp op ty (.int k m) (.int k' n) = binOp op 0 (.int k m) (.int k' n) := by
    cases op <;> rfl
  rw [eqGuard_at_int, e]
  unfold evInt at h
  split at h
  · rename_i k2 n2 he
    simp at h; subst h
    refine ⟨.int k2 n2, ?_, .it _ _⟩
    simp only [Sem.run_bind, Sem.run_pure, Result.andThen_ok]
    rw [he]; rfl
  · rename_i c he
    simp at h; subst h
    refine ⟨.bool c, ?_, .bl _⟩
    simp only [Sem.run_bind, Sem.run_pure, Result.andThen_ok]
    rw [he]; rfl
  · cases h
def evStr (op : BinOp) (s t : List Nat) : Option PV := match op with
  | .add => match Nat.ble (s.length + t.length) 9223372036854775807 with
    | true => some (.st (s ++ t))
    | false => none
  | .eql => some (.bl (eqS s t))
  | .neq => some (.bl (!(eqS s t)))
  | _ => none
theorem evStr_ok {op : BinOp} {ty : TypeId} {x y : Operand} {s t : List Nat} {q : PV} (h : evStr op s t = some q) :
    ∃ v', (do eqGuard op ty x y (.string (bys s)) (.string (bys t)); binOp op ty (.string (bys s)) (.string (bys t)) : Sem Value).run P w = .ok v' w ∧ V b q v' := by
  rw [eqGuard_at_string]
  cases op <;> simp only [evStr, Option.some.injEq, reduceCtorEq] at h
  · split at h
    · rename_i hl
      simp only [Nat.ble_eq] at hl
      simp at h; subst h
      refine ⟨.string (bys (s ++ t)), ?_, .st _⟩
      have : ¬ (IntKind.i64.max < ((s.length + t.length : Nat) : Int)) := by rw [IntKind.max_i64]; omega
      have h2 : ¬ (((bys s).size + (bys t).size : Nat) : Int) > IntKind.i64.max := by rw [bys_size, bys_size]; exact this
      simp only [binOp, Op.stringOp, Sem.run_bind, Sem.run_pure, Result.andThen_ok, if_neg h2, bys_append]
    · cases h
  · subst h
    exact ⟨.bool (eqS s t), by simp [binOp, Op.stringOp, eqS_lists], .bl _⟩
  · subst h
    exact ⟨.bool (!(eqS s t)), by simp [binOp, Op.stringOp, eqS_lists], .bl _⟩
/-- Comparisons in which nil stands, or two places of one block. -/
def evNil (D : TypeDesc) (x y : Operand) : PV → PV → Option Bool
  | .np, .np => match D with
    | .pointer _ => some true
    | _ => none
  | .np, .pt _ _ => match D with
    | .pointer _ => some false
    | _ => none
  | .pt _ _, .np => match D with
    | .pointer _ => some false
    | _ => none
  | .ns, .ns => match D with
    | .slice _ => some true
    | _ => none
  | .ns, .sl .. => match D with
    | .slice _ => some false
    | _ => none
  | .sl .., .ns => match D with
    | .slice _ => some false
    | _ => none
  | .nm, .nm => match D with
    | .map _ _ => some true
    | _ => none
  | .mp _, .nm => match D with
    | .map _ _ => some false
    | _ => none
  | .nm, .mp _ => match D with
    | .map _ _ => some false
    | _ => none
  | .nf, .nf => match D with
    | .func .. => some true
    | _ => none
  | .fn .., .nf => match D with
    | .func .. => some false
    | _ => none
  | .nf, .fn .. => match D with
    | .func .. => some false
    | _ => none
  | .ni, .ni => match D, x, y with
    | .interface _, .const _, _ => some true
    | .interface _, _, .const _ => some true
    | _, _, _ => none
  | .ic .., .ni => match D with
    | .interface _ => some false
    | _ => none
  | .ni, .ic .. => match D with
    | .interface _ => some false
    | _ => none
  | _, _ => none
theorem evNil_ok {D : TypeDesc} {ty : TypeId} (hu : P.underlying ty = some D) {x y : Operand} {p q : PV} {u v : Value} (hp : V b p u) (hq : V b q v) {c : Bool} (h : evNil D x y p q = some c) :
    (eqGuard .eql ty x y u v).run P w = .ok () w ∧ (eqGuard .neq ty x y u v).run P w = .ok () w ∧ (Op.equal ty u v).run P w = .ok c w ∧
      binOp .eql ty u v = (do pure (.bool (← Op.equal ty u v))) ∧ binOp .neq ty u v = (do pure (.bool (!(← Op.equal ty u v)))) := by
  obtain ⟨d, hE⟩ : ∃ d, Op.equal ty u v = Op.equalIn (d + 1) ty u v := ⟨9999, rfl⟩
  rw [hE]
  cases hp <;> cases hq <;> simp only [evNil, reduceCtorEq] at h <;> (split at h <;> simp at h) <;>
    (subst h; refine ⟨by simp [eqGuard], by simp [eqGuard], by simp [Op.equalIn, run_underlying hu], by rw [← hE]; rfl, by rw [← hE]; rfl⟩)
/-- Are two places one? -/
def evPtr (P : Program) (H : Hp) (D : TypeDesc) : PV → PV → Option Bool
  | .pt i x, .pt j y => match D with
    | .pointer e => match szT P e with
      | some (_ + 1) => match Nat.beq i j with
        | true => some (Nat.beq x y)
        | false => match H.t.at i with
          | some (.row ..) => match H.t.at j with
            | some (.row ..) => some false
            | _ => none
          | _ => none
      | _ => none
    | _ => none
  | _, _ => none
theorem run_same {a : Addr} : (sameAddr a a).run P w = .ok true w := by simp [sameAddr]
theorem run_other {a c : Addr} {ca cb : Array Value} {ta tb : TypeId} (hne : a ≠ c) (ha : w.heap[a.block]? = some (.cells ca ta (0, 0))) (hb : w.heap[c.block]? = some (.cells cb tb (0, 0))) :
    (sameAddr a c).run P w = .ok false w := by
  by_cases hbl : a.block = c.block
  · simp [sameAddr, hbl, hne]
  · simp [sameAddr, hbl, World.frozen?, ha, hb, noView, viewAt, World.shape?, mayBeOne, stringish]
theorem evPtr_ok (hr : HR F b H w) {D : TypeDesc} {ty : TypeId} (hu : P.underlying ty = some D) {x y : Operand} {p q : PV} {u v : Value} (hp : V b p u) (hq : V b q v) {c : Bool} (h : evPtr P H D p q = some c) :
    (eqGuard .eql ty x y u v).run P w = .ok () w ∧ (eqGuard .neq ty x y u v).run P w = .ok () w ∧ (Op.equal ty u v).run P w = .ok c w ∧
      binOp .eql ty u v = (do pure (.bool (← Op.equal ty u v))) ∧ binOp .neq ty u v = (do pure (.bool (!(← Op.equal ty u v)))) := by
  obtain ⟨d, hE⟩ : ∃ d, Op.equal ty u v = Op.equalIn (d + 1) ty u v := ⟨9999, rfl⟩
  unfold evPtr at h
  split at h
  · rename_i i xo j yo
    cases hp with
    | pt _ _ bx hx =>
      cases hq with
      | pt _ _ by_ hy =>
        split at h
        · rename_i e
          split at h
          · rename_i n hn
            have key : ∀ c, (sameAddr ⟨bx.n, bx.o + xo, none⟩ ⟨by_.n, by_.o + yo, none⟩).run P w = .ok c w → (Op.equal ty (.pointer (some ⟨bx.n, bx.o + xo, none⟩)) (.pointer (some ⟨by_.n, by_.o + yo, none⟩))).run P w = .ok c w := by
              intro c hc
              rw [hE]
              simp [Op.equalIn, run_underlying hu, run_szT hn, hc]
            refine ⟨by simp [eqGuard], by simp [eqGuard], ?_, rfl, rfl⟩
            split at h
            · rename_i hij
              have hij := Nat.eq_of_beq_eq_true hij
              subst hij
              rw [hx] at hy; simp at hy; subst hy
              simp at h; subst h
              refine key _ ?_
              simp [sameAddr]
              cases hxy : Nat.beq xo yo with
              | true => have := Nat.eq_of_beq_eq_true hxy; subst this; simp
              | false => have := Nat.ne_of_beq_eq_false hxy; simp [this]
            · rename_i hij
              have hij := Nat.ne_of_beq_eq_false hij
              split at h
              · rename_i hi
                split at h
                · rename_i hj
                  simp at h; subst h
                  obtain ⟨a1, f1, h1, _, _, _, hf1, _⟩ := hr.cells hi hx
                  obtain ⟨a2, f2, h2, _, _, _, hf2, _⟩ := hr.cells hj hy
                  subst hf1; subst hf2
                  refine key _ (run_other ?_ h1 h2)
                  intro e
                  apply hij
                  simp at e
                  exact hr.inj i j _ _ _ _ hi hj hx hy e.1
                · cases h
              · cases h
          · cases h
        · cases h
  · cases h
def evCmp (P : Program) (H : Hp) (op : BinOp) (ty : TypeId) (x y : Operand) (p q : PV) : Option PV := match P.underlying ty with
  | some D => match (match evNil D x y p q with
      | some c => some c
      | none => evPtr P H D p q) with
    | some c => match op with
      | .eql => some (.bl c)
      | .neq => some (.bl (!c))
      | _ => none
    | none => none
  | none => none
/-- Are two bytes the same? -/
def eqB (x y : PV) : Option Bool := match x, y with
  | .it _ a, .it _ c => some (decide (a = c))
  | p, q => match evSyV .eql p q with
    | some (.bl c) => some c
    | _ => none
def eqSs : List PV → List PV → Option Bool
  | [], [] => some true
  | x :: l, y :: m => match eqB x y with
    | some false => some false
    | some true => eqSs l m
    | none => match eqSs l m with
      | some false => some false
      | _ => none
  | _, _ => some false
def evSs (op : BinOp) (p q : PV) : Option PV := match ssL p with
  | some l => match ssL q with
    | some m => match op with
      | .add => match Nat.ble (l.length + m.length) 9223372036854775807 with
        | true => some (mkS (l ++ m))
        | false => none
      | .eql => match eqSs l m with
        | some c => some (.bl c)
        | none => none
      | .neq => match eqSs l m with
        | some c => some (.bl (!c))
        | none => none
      | _ => none
    | none => none
  | none => none
theorem eqB_ok {x y : PV} {m n : Nat} (hx : V b x (.int .u8 (Int.ofNat m))) (hy : V b y (.int .u8 (Int.ofNat n))) {c : Bool} (h : eqB x y = some c) : (m == n) = c := by
  unfold eqB at h
  split at h
  · cases hx; cases hy
    simp at h; subst h
    rw [Bool.eq_iff_iff]
    simp
    omega
  · split at h
    · rename_i c2 hs
      simp at h; subst h
      obtain ⟨k, u, k2, v, v', e1, e2, h1, h2⟩ := evSyV_ok hx hy hs
      cases h2
      injection e1 with e1 e3
      injection e2 with e2 e4
      subst e1; subst e2; subst e3; subst e4
      simp [binOp, Op.intCmp] at h1
      have h3 : Sem.pure (Value.bool ((m : Int) == (n : Int))) = Sem.pure (Value.bool c2) := h1
      injection h3 with h3
      injection h3 with h3
      rw [← h3, Bool.eq_iff_iff]
      simp
      omega
    · cases h
theorem eqSs_ok : ∀ {l k : List PV} {m n : List Nat} {c : Bool}, VL b l (m.map fun n => Value.int .u8 (Int.ofNat n)) → VL b k (n.map fun n => Value.int .u8 (Int.ofNat n)) → eqSs l k = some c → (m == n) = c
  | [], [], m, n, c, h1, h2, h => by
    simp [eqSs] at h; subst h
    cases m with
    | nil =>
      cases n with
      | nil => rfl
      | cons a n => cases h2
    | cons a m => cases h1
  | [], y :: k, m, n, c, h1, h2, h => by
    simp [eqSs] at h; subst h
    cases m with
    | nil =>
      cases n with
      | nil => cases h2
      | cons a n => rfl
    | cons a m => cases h1
  | x :: l, [], m, n, c, h1, h2, h => by
    simp [eqSs] at h; subst h
    cases n with
    | nil =>
      cases m with
      | nil => cases h1
      | cons a n => rfl
    | cons a m => cases h2
  | x :: l, y :: k, m, n, c, h1, h2, h => by
    cases m with
    | nil => have e1 := h1.length; simp at e1
    | cons a m =>
      cases n with
      | nil => have e2 := h2.length; simp at e2
      | cons a2 n =>
        cases h1 with
        | cons _ _ _ _ h3 h4 =>
          cases h2 with
          | cons _ _ _ _ h5 h6 =>
            have hc : (a :: m == a2 :: n) = ((a == a2) && (m == n)) := rfl
            rw [hc]
            unfold eqSs at h
            split at h
            · rename_i hb
              simp at h; subst h
              rw [eqB_ok h3 h5 hb]; rfl
            · rename_i hb
              rw [eqB_ok h3 h5 hb, eqSs_ok h4 h6 h]; rfl
            · split at h
              · rename_i hb
                simp at h; subst h
                rw [eqSs_ok h4 h6 hb]; simp
              · cases h
theorem eqS_of {s t : List Nat} (hs : ∀ n, n ∈ s → n < 256) (ht : ∀ n, n ∈ t → n < 256) : eqS s t = (s == t) := by
  rw [← eqS_lists]
  rw [Bool.eq_iff_iff, beq_iff_eq, beq_iff_eq]
  constructor
  · intro h
    have h2 : (bys s).data.toList = (bys t).data.toList := by rw [← ByteArray.toList_eq, ← ByteArray.toList_eq]; exact h
    have key : ∀ {m : List Nat}, (∀ n, n ∈ m → n < 256) → (bys m).data.toList.map UInt8.toNat = m := by
      intro m hm
      simp only [bys, List.map_map]
      conv => rhs; rw [← List.map_id m]
      apply List.map_congr_left
      intro n hn
      have := hm n hn
      simp [Function.comp]; omega
    rw [← key hs, ← key ht, h2]
  · intro h; rw [h]
theorem evSs_ok {op : BinOp} {ty : TypeId} {x y : Operand} {p q r : PV} {u v : Value} (hp : V b p u) (hq : V b q v) (h : evSs op p q = some r) :
    ∃ v', (do eqGuard op ty x y u v; binOp op ty u v : Sem Value).run P w = .ok v' w ∧ V b r v' := by
  unfold evSs at h
  split at h
  · rename_i l hl
    split at h
    · rename_i m hm
      obtain ⟨s, rfl, h1, h2⟩ := ssL_ok hp hl
      obtain ⟨t, rfl, h3, h4⟩ := ssL_ok hq hm
      have e1 : l.length = s.length := by simpa using h1.length
      have e2 : m.length = t.length := by simpa using h3.length
      split at h
      · split at h
        · rename_i hle
          simp only [Nat.ble_eq] at hle
          rw [e1, e2] at hle
          simp at h; subst h
          obtain ⟨v', h5, h6⟩ := evStr_ok (P := P) (b := b) (w := w) (op := .add) (ty := ty) (x := x) (y := y) (s := s) (t := t) (q := .st (s ++ t)) (by simp only [evStr]; rw [show Nat.ble (s.length + t.length) 9223372036854775807 = true from by rw [Nat.ble_eq]; exact hle])
          refine ⟨v', h5, ?_⟩
          cases h6
          refine mkS_V ?_ ?_
          · rw [List.map_append]; exact h1.app h3
          · intro n hn
            rcases List.mem_append.1 hn with hn | hn
            · exact h2 n hn
            · exact h4 n hn
        · cases h
      · split at h
        · rename_i c hc
          simp at h; subst h
          obtain ⟨v', h5, h6⟩ := evStr_ok (P := P) (b := b) (w := w) (op := .eql) (ty := ty) (x := x) (y := y) (s := s) (t := t) (q := .bl (eqS s t)) rfl
          refine ⟨v', h5, ?_⟩
          cases h6
          rw [eqS_of h2 h4, eqSs_ok h1 h3 hc]
          exact .bl _
        · cases h
      · split at h
        · rename_i c hc
          simp at h; subst h
          obtain ⟨v', h5, h6⟩ := evStr_ok (P := P) (b := b) (w := w) (op := .neq) (ty := ty) (x := x) (y := y) (s := s) (t := t) (q := .bl (!(eqS s t))) rfl
          refine ⟨v', h5, ?_⟩
          cases h6
          rw [eqS_of h2 h4, eqSs_ok h1 h3 hc]
          exact .bl _
        · cases h
      · cases h
    · cases h
  · cases h
def evBin (P : Program) (H : Hp) (op : BinOp) (ty : TypeId) (x y : Operand) : PV → PV → Option PV
  | .it k m, .it k' n => evInt op k m k' n
  | .st s, .st t => evStr op s t
  | p, q => match evSyV op p q with
    | some r => some r
    | none => match evAgEq P op ty p q with
      | some r => some r
      | none => match evSs op p q with
        | some r => some r
        | none => evCmp P H op ty x y p q
theorem evCmp_ok (hr : HR F b H w) {op : BinOp} {ty : TypeId} {x y : Operand} {p q r : PV} {u v : Value} (hp : V b p u) (hq : V b q v) (h : evCmp P H op ty x y p q = some r) :
    ∃ v', (do eqGuard op ty x y u v; binOp op ty u v : Sem Value).run P w = .ok v' w ∧ V b r v' := by
  unfold evCmp at h
  split at h
  · rename_i D hu
    split at h
    · rename_i c hc
      have hall : (eqGuard .eql ty x y u v).run P w = .ok () w ∧ (eqGuard .neq ty x y u v).run P w = .ok () w ∧ (Op.equal ty u v).run P w = .ok c w ∧
          binOp .eql ty u v = (do pure (.bool (← Op.equal ty u v))) ∧ binOp .neq ty u v = (do pure (.bool (!(← Op.equal ty u v)))) := by
        split at hc
        · rename_i c2 hc2
          simp at hc; subst hc
          exact evNil_ok (P := P) (w := w) hu hp hq hc2
        · exact evPtr_ok hr hu hp hq hc
      obtain ⟨h1, h2, h3, h4, h5⟩ := hall
      split at h
      · simp at h; subst h
        exact ⟨.bool c, by simp [h1, h4, h3], .bl _⟩
      · simp at h; subst h
        exact ⟨.bool (!c), by simp [h2, h5, h3], .bl _⟩
      · cases h
    · cases h
  · cases h
theorem evBin_ok (hr : HR F b H w) {op : BinOp} {ty : TypeId} {x y : Operand} {p q r : PV} {u v : Value} (hp : V b p u) (hq : V b q v) (h : evBin P H op ty x y p q = some r) :
    ∃ v', (do eqGuard op ty x y u v; binOp op ty u v : Sem Value).run P w = .ok v' w ∧ V b r v' := by
  unfold evBin at h
  split at h
  · cases hp; cases hq; exact evInt_ok h
  · cases hp; cases hq; exact evStr_ok h
  · split at h
    · rename_i r' hs
      simp only [Option.some.injEq] at h; subst h
      obtain ⟨k, m, k', n, v', rfl, rfl, h1, h2⟩ := evSyV_ok hp hq hs
      refine ⟨v', ?_, h2⟩
      have e : binOp op ty (.int k m) (.int k' n) = binOp op 0 (.int k m) (.int k' n) := by cases op <;> rfl
      rw [eqGuard_at_int, e]
      simp only [Sem.run_bind, Sem.run_pure, Result.andThen_ok]
      rw [h1]; rfl
    · split at h
      · rename_i r' hs
        simp only [Option.some.injEq] at h; subst h
        exact evAgEq_ok hp hq hs
      · split at h
        · rename_i r' hs
          simp only [Option.some.injEq] at h; subst h
          exact evSs_ok hp hq hs
        · exact evCmp_ok hr hp hq h
/-! ### nil checks -/
def evNc : PV → Option PV
  | .np => none
  | .ni => none
  | .nf => none
  | .fn f a c => match f with
    | .func _ => some (.fn f a c)
    | _ => none
  | p => some p
theorem evNc_ok {dst : Option Tmp} {ty : TypeId} {pos : String} {after : Array Edge} {gd : Option (Nat × Bool)} {ρ : Operand → Value} {x : Operand} {p q : PV} (hp : V b p (ρ x)) (h : evNc p = some q) :
    ∃ v', (execOp ρ ⟨dst, .nilCheck x, ty, pos, after, gd⟩).run P w = .ok (.value v') w ∧ V b q v' := by
  simp only [execOp]
  generalize ρ x = u at hp ⊢
  cases hp <;> simp only [evNc, Option.some.injEq, reduceCtorEq] at h
  case fn f a c a' c' h1 h2 =>
    split at h
    · simp at h; subst h
      exact ⟨_, rfl, .fn _ _ _ _ _ h1 h2⟩
    · cases h
  all_goals (subst h; exact ⟨_, rfl, by constructor <;> assumption⟩)
end
end
end Go.Proofs.YtoapdkcokemieaaGreat.Ev
