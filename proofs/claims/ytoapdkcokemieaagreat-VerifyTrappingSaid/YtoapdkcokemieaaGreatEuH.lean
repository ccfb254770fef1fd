/-
  Operations that only read (6): whatever names no block; all of them together. Nothing of the program stands here.
-/
import Derived.Test.YtoapdkcokemieaaGreatEuG
namespace Go.Proofs.YtoapdkcokemieaaGreat.Ev
open Go.RowKit
noncomputable section
set_option linter.unusedVariables false
set_option linter.unusedSimpArgs false
set_option linter.unusedSectionVars false
variable [Fs] [En] [FsOk]
section
variable {P : Program} {F : Fr} {b : Bm} {H : Hp} {w : World}
/-! ### Whatever names no block: the model's own operation -/
def plainV (t : Tr PV) (x : Operand) : Option Value := match evO t x with
  | some p => cv 10 p
  | none => none
def plainR (t : Tr PV) (x : Operand) : Value := match plainV t x with
  | some v => v
  | none => undef
def isSel : Op → Bool
  | .select .. => true
  | _ => false
def evPl (P : Program) (t : Tr PV) (o : Oper) : Option PV :=
  match o.op.operands.toList.all (fun x => (plainV t x).isSome) && !isSel o.op with
  | true => match pureRun P (execOp (plainR t) o) with
    | some (.value v) => unq 10 v
    | _ => none
  | false => none
theorem evPl_ok {t : Tr PV} {a : Act} (ht : TR b t a.tmps) {o : Oper} {q : PV} (h : evPl P t o = some q) : ∃ v', (execOp a.eval o).run P w = .ok (.value v') w ∧ V b q v' := by
  unfold evPl at h
  split at h
  · rename_i hall
    simp only [Bool.and_eq_true, List.all_eq_true, Bool.not_eq_true'] at hall
    obtain ⟨hall, hsel⟩ := hall
    split at h
    · rename_i v hv
      have e : execOp a.eval o = execOp (plainR t) o := by
        refine execOp_congr o (fun cs c hc => by rw [hc] at hsel; simp [isSel] at hsel) ?_
        intro x hx
        have h1 := hall x (by simpa using hx)
        unfold plainR
        cases h2 : plainV t x with
        | none => rw [h2] at h1; simp at h1
        | some u =>
          unfold plainV at h2
          split at h2
          · rename_i p hp
            exact cv_eq 10 p u _ h2 (evO_V ht hp)
          · cases h2
      exact ⟨v, by rw [e]; exact pureRun_ok hv w, unq_V b 10 v q h⟩
    · cases h
  · cases h
/-! ### All of them -/
def evOO (t : Tr PV) : Option Operand → Option (Option PV)
  | none => some none
  | some x => match evO t x with
    | some p => some (some p)
    | none => none
theorem evOO_VO {t : Tr PV} {a : Act} (ht : TR b t a.tmps) {x : Option Operand} {p : Option PV} (h : evOO t x = some p) : VO b p (x.map a.eval) := by
  cases x with
  | none => simp [evOO] at h; subst h; exact .none
  | some x =>
    simp only [evOO] at h
    split at h
    · rename_i q hq
      simp at h; subst h
      exact .some _ _ (evO_V ht hq)
    · cases h
def evArgs (t : Tr PV) : List Operand → Option (List PV)
  | [] => some []
  | x :: l => match evO t x with
    | some p => match evArgs t l with
      | some m => some (p :: m)
      | none => none
    | none => none
theorem evArgs_VL {t : Tr PV} {a : Act} (ht : TR b t a.tmps) : ∀ {l : List Operand} {m : List PV}, evArgs t l = some m → VL b m (l.map a.eval)
  | [], m, h => by simp [evArgs] at h; subst h; exact .nil
  | x :: l, m, h => by
    simp only [evArgs] at h
    split at h
    · rename_i p hp
      split at h
      · rename_i m' hm
        simp at h; subst h
        exact .cons _ _ _ _ (evO_V ht hp) (evArgs_VL ht hm)
      · cases h
    · cases h
def evParts (t : Tr PV) : List (Nat × Operand) → Option (List (Nat × PV))
  | [] => some []
  | (i, x) :: l => match evO t x with
    | some p => match evParts t l with
      | some m => some ((i, p) :: m)
      | none => none
    | none => none
theorem evParts_PL {t : Tr PV} {a : Act} (ht : TR b t a.tmps) : ∀ {l : List (Nat × Operand)} {m : List (Nat × PV)}, evParts t l = some m → PL b m (l.map fun x => (x.1, a.eval x.2))
  | [], m, h => by simp [evParts] at h; subst h; exact .nil
  | (i, x) :: l, m, h => by
    simp only [evParts] at h
    split at h
    · rename_i p hp
      split at h
      · rename_i m' hm
        simp at h; subst h
        exact .cons _ _ _ _ _ (evO_V ht hp) (evParts_PL ht hm)
      · cases h
    · cases h
def bnd1 (x : Option PV) (f : PV → Option PV) : Option PV := match x with
  | some p => f p
  | none => none
def bnd2 (x y : Option PV) (f : PV → PV → Option PV) : Option PV := match x with
  | some p => match y with
    | some q => f p q
    | none => none
  | none => none
theorem bnd1_some {x : Option PV} {f : PV → Option PV} {q : PV} (h : bnd1 x f = some q) : ∃ p, x = some p ∧ f p = some q := by
  cases x with
  | none => simp [bnd1] at h
  | some p => exact ⟨p, rfl, h⟩
theorem bnd2_some {x y : Option PV} {f : PV → PV → Option PV} {r : PV} (h : bnd2 x y f = some r) : ∃ p q, x = some p ∧ y = some q ∧ f p q = some r := by
  cases x with
  | none => simp [bnd2] at h
  | some p =>
    cases y with
    | none => simp [bnd2] at h
    | some q => exact ⟨p, q, rfl, rfl, h⟩
/-- What an operation that only reads yields. -/
def evQ1 (P : Program) (H : Hp) (t : Tr PV) (op : Op) : Option PV := match op with
  | .move x => evO t x
  | .assign x => evO t x
  | .pick c x y => match evO t c with
    | some (.bl true) => evO t x
    | some (.bl false) => evO t y
    | _ => none
  | .load ty x => bnd1 (evO t x) (evLd P H ty)
  | .nilCheck x => bnd1 (evO t x) evNc
  | .binOp op ty x y _ => bnd2 (evO t x) (evO t y) (evBin P H op ty x y)
  | .convert s d x => bnd1 (evO t x) (evCnv P H s d)
  | .unOp op _ x => match evO t x with
    | some (.sy k lo hi e) => unSy op k lo hi e
    | _ => none
  | .sliceToArrayPointer ty x => bnd1 (evO t x) (evS2a P ty)
  | .makeInterface ty x => bnd1 (evO t x) (evMi P ty)
  | .makeFunc f x c => match evArgs t x.toList with
    | some x => match evArgs t c.toList with
      | some c => some (.fn f x c)
      | none => none
    | none => none
  | .slice ty x lo hi mx => match evOO t lo with
    | some lo => match evOO t hi with
      | some hi => match evOO t mx with
        | some mx => bnd1 (evO t x) (evSlc P ty lo hi mx)
        | none => none
      | none => none
    | none => none
  | .fieldAddr s x f => bnd1 (evO t x) (evFa P s f)
  | .field ty x f => bnd1 (evO t x) (evFld P ty f)
  | .indexAddr ty x i => bnd2 (evO t x) (evO t i) (evIa P ty)
  | .index ty x i => bnd2 (evO t x) (evO t i) (evIx P ty)
  | .lookup ty m k ok => bnd2 (evO t m) (evO t k) (evLk P H ty ok)
  | .typeAssert x xt ty ok => bnd1 (evO t x) (evTa P ty ok)
  | .extract x i => bnd1 (evO t x) (evEx i)
  | .build ty ps => match evParts t ps.toList with
    | some ps => evBuild P ty ps
    | none => none
  | .call c => match c.callee with
    | .builtin .len => match c.args.toList with
      | [x] => match c.argTypes[0]? with
        | some ty => bnd1 (evO t x) (evLen P H ty)
        | none => none
      | _ => none
    | _ => none
  | _ => none
def evQ (P : Program) (H : Hp) (t : Tr PV) (o : Oper) : Option PV := match evQ1 P H t o.op with
  | some p => some p
  | none => evPl P t o
theorem run_v {s : Sem Value} {v : Value} (h : s.run P w = .ok v w) : (do pure (Next.value (← s)) : Sem Next).run P w = .ok (.value v) w := by
  simp [h]
theorem evQ1_ok (hr : HR F b H w) {t : Tr PV} {a : Act} (ht : TR b t a.tmps) {o : Oper} {q : PV} (h : evQ1 P H t o.op = some q) : ∃ v', (execOp a.eval o).run P w = .ok (.value v') w ∧ V b q v' := by
  obtain ⟨dst, op, ty0, pos, after, gd⟩ := o
  cases op <;> simp only [evQ1, reduceCtorEq] at h
  case move x => exact ⟨_, rfl, evO_V ht h⟩
  case assign x => exact ⟨_, rfl, evO_V ht h⟩
  case pick c x y =>
    split at h
    · rename_i hc
      have := evO_V (a := a) ht hc
      generalize hu : a.eval c = u at this
      cases this
      exact ⟨a.eval x, by simp [execOp, hu, asBool], evO_V ht h⟩
    · rename_i hc
      have := evO_V (a := a) ht hc
      generalize hu : a.eval c = u at this
      cases this
      exact ⟨a.eval y, by simp [execOp, hu, asBool], evO_V ht h⟩
    · cases h
  case load ty x =>
    obtain ⟨p, hp, hq⟩ := bnd1_some h
    obtain ⟨v', h1, h2⟩ := evLd_ok (P := P) hr (evO_V (a := a) ht hp) hq
    exact ⟨v', run_v h1, h2⟩
  case unOp op ty x =>
    split at h
    · rename_i k lo hi e hx
      have := evO_V (a := a) ht hx
      generalize hu : a.eval x = u at this
      cases this with
      | sy _ _ _ _ h1 h2 =>
        obtain ⟨v', h3, h4⟩ := unSy_ok (b := b) h h1 h2
        exact ⟨v', by simp [execOp, hu, h3], h4⟩
    · cases h
  case nilCheck x =>
    obtain ⟨p, hp, hq⟩ := bnd1_some h
    exact evNc_ok (evO_V (a := a) ht hp) hq
  case binOp op ty x y yt =>
    obtain ⟨p, q, hp, hq, hr'⟩ := bnd2_some h
    obtain ⟨v', h1, h2⟩ := evBin_ok (P := P) hr (evO_V (a := a) ht hp) (evO_V (a := a) ht hq) hr'
    exact ⟨v', run_v h1, h2⟩
  case convert s d x =>
    obtain ⟨p, hp, hq⟩ := bnd1_some h
    obtain ⟨v', h1, h2⟩ := evCnv_ok (P := P) hr (evO_V (a := a) ht hp) hq
    exact ⟨v', run_v h1, h2⟩
  case sliceToArrayPointer ty x =>
    obtain ⟨p, hp, hq⟩ := bnd1_some h
    obtain ⟨v', h1, h2⟩ := evS2a_ok (P := P) (w := w) (evO_V (a := a) ht hp) hq
    exact ⟨v', run_v h1, h2⟩
  case makeInterface ty x =>
    obtain ⟨p, hp, hq⟩ := bnd1_some h
    obtain ⟨v', h1, h2⟩ := evMi_ok (P := P) (w := w) (evO_V (a := a) ht hp) hq
    exact ⟨v', run_v h1, h2⟩
  case makeFunc f x c =>
    split at h
    · rename_i x' hx
      split at h
      · rename_i c' hc
        simp at h; subst h
        refine ⟨.func f (x.map a.eval) (c.map a.eval), rfl, ?_⟩
        have h1 := evArgs_VL (a := a) ht hx
        have h2 := evArgs_VL (a := a) ht hc
        have e1 : x.map a.eval = ⟨x.toList.map a.eval⟩ := by apply Array.ext'; simp
        have e2 : c.map a.eval = ⟨c.toList.map a.eval⟩ := by apply Array.ext'; simp
        rw [e1, e2]
        exact .fn _ _ _ _ _ h1 h2
      · cases h
    · cases h
  case slice ty x lo hi mx =>
    split at h
    · rename_i lo' hlo
      split at h
      · rename_i hi' hhi
        split at h
        · rename_i mx' hmx
          obtain ⟨p, hp, hq⟩ := bnd1_some h
          obtain ⟨v', h1, h2⟩ := evSlc_ok (P := P) (w := w) (evOO_VO (a := a) ht hlo) (evOO_VO (a := a) ht hhi) (evOO_VO (a := a) ht hmx) (evO_V (a := a) ht hp) hq
          exact ⟨v', run_v h1, h2⟩
        · cases h
      · cases h
    · cases h
  case fieldAddr s x f =>
    obtain ⟨p, hp, hq⟩ := bnd1_some h
    obtain ⟨v', h1, h2⟩ := evFa_ok (P := P) (w := w) (evO_V (a := a) ht hp) hq
    exact ⟨v', run_v h1, h2⟩
  case field ty x f =>
    obtain ⟨p, hp, hq⟩ := bnd1_some h
    obtain ⟨v', h1, h2⟩ := evFld_ok (P := P) (w := w) (evO_V (a := a) ht hp) hq
    exact ⟨v', run_v h1, h2⟩
  case indexAddr ty x i =>
    obtain ⟨p, q, hp, hq, hr'⟩ := bnd2_some h
    obtain ⟨v', h1, h2⟩ := evIa_ok (P := P) (w := w) (evO_V (a := a) ht hp) (evO_V (a := a) ht hq) hr'
    exact ⟨v', run_v h1, h2⟩
  case index ty x i =>
    obtain ⟨p, q, hp, hq, hr'⟩ := bnd2_some h
    obtain ⟨v', h1, h2⟩ := evIx_ok (P := P) (w := w) (evO_V (a := a) ht hp) (evO_V (a := a) ht hq) hr'
    exact ⟨v', run_v h1, h2⟩
  case lookup ty m k ok =>
    obtain ⟨p, q, hp, hq, hr'⟩ := bnd2_some h
    obtain ⟨v', h1, h2⟩ := evLk_ok (P := P) hr (evO_V (a := a) ht hp) (evO_V (a := a) ht hq) hr'
    exact ⟨v', run_v h1, h2⟩
  case typeAssert x xt ty ok =>
    obtain ⟨p, hp, hq⟩ := bnd1_some h
    obtain ⟨v', h1, h2⟩ := evTa_ok (P := P) (w := w) (xt := xt) (evO_V (a := a) ht hp) hq
    exact ⟨v', run_v h1, h2⟩
  case extract x i =>
    obtain ⟨p, hp, hq⟩ := bnd1_some h
    obtain ⟨v', h1, h2⟩ := evEx_ok (P := P) (w := w) (evO_V (a := a) ht hp) hq
    exact ⟨v', run_v h1, h2⟩
  case build ty ps =>
    split at h
    · rename_i ps' hps
      have h3 := evParts_PL (a := a) ht hps
      obtain ⟨v', h1, h2⟩ := evBuild_ok (P := P) (w := w) (ps' := ps.map fun x => (x.1, a.eval x.2)) (by simpa using h3) h
      exact ⟨v', run_v h1, h2⟩
    · cases h
  case call c =>
    obtain ⟨cl, args, ats⟩ := c
    cases cl with
    | builtin bi =>
      cases bi <;> simp only [reduceCtorEq] at h
      case len =>
        split at h
        · rename_i x hx
          split at h
          · rename_i ty hty
            obtain ⟨p, hp, hq⟩ := bnd1_some h
            obtain ⟨v', h1, h2⟩ := evLen_ok (P := P) (ty2 := ty0) hr hty (evO_V (a := a) ht hp) hq
            have e1 : args.map a.eval = #[a.eval x] := by
              apply Array.ext'; simp [hx]
            refine ⟨v', ?_, h2⟩
            simp only [execOp, resolve, e1, invoke, builtin, Sem.run_bind, Sem.run_pure, Result.andThen_ok, h1]
          · cases h
        · cases h
    | value f => simp at h
    | invoke r m => simp at h
theorem evQ_ok (hr : HR F b H w) {t : Tr PV} {a : Act} (ht : TR b t a.tmps) {o : Oper} {q : PV} (h : evQ P H t o = some q) : ∃ v', (execOp a.eval o).run P w = .ok (.value v') w ∧ V b q v' := by
  unfold evQ at h
  split at h
  · rename_i p hp
    simp at h; subst h
    exact evQ1_ok hr ht hp
  · exact evPl_ok ht h
end
end
end Go.Proofs.YtoapdkcokemieaaGreat.Ev
