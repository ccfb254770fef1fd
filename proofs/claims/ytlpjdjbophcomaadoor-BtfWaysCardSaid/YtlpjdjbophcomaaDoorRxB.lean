/-
  A run with letters: what the program's text does, reckoned with unknown numbers left as they stand and with blocks named by letters; and that the program does so in every world. Nothing of the program stands here.
-/
import Derived.Test.YtlpjdjbophcomaaDoorRxA
namespace Go.Proofs.YtlpjdjbophcomaaDoor
open Go.RowKit
set_option linter.unusedVariables false
set_option linter.unusedSimpArgs false
/-! ### Letters, and what must be equal -/
/-- A letter: a block's number, and values of which nothing is known. -/
structure L1 where
  n : Nat
  u : Nat → Value
abbrev Lt := Nat → L1
def agree (n : Nat) (b c : Lt) : Prop := ∀ i, i < n → b i = c i
theorem agree.rfl' {n : Nat} {b : Lt} : agree n b b := fun _ _ => rfl
theorem agree.trans {n : Nat} {a b c : Lt} (h : agree n a b) (k : agree n b c) : agree n a c := fun i hi => (h i hi).trans (k i hi)
theorem agree.mono {n m : Nat} {b c : Lt} (h : agree n b c) (hm : m ≤ n) : agree m b c := fun i hi => h i (by omega)
theorem agree.symm {n : Nat} {b c : Lt} (h : agree n b c) : agree n c b := fun i hi => (h i hi).symm
/-- A letter more. -/
def upd (b : Lt) (n x : Nat) : Lt := fun i => if i = n then ⟨x, fun _ => .nilFunc⟩ else b i
theorem upd_ne (b : Lt) {n x i : Nat} (h : i ≠ n) : upd b n x i = b i := if_neg h
theorem upd_agree (b : Lt) (n x : Nat) : agree n (upd b n x) b := fun i hi => if_neg (by omega)
theorem upd_at (b : Lt) (n x : Nat) : (upd b n x n).n = x := by simp [upd]
/-- An entry that stands for no block (yet). -/
def unb : Obj := .coro none
def real : Obj → Bool
  | .coro none => false
  | .pending .. => false
  | _ => true
/-! ### Families: an entry 'pending' stands for as many blocks as it has values; each block's number stands in the entry's letter -/
/-- What lies behind the elements of a row that may grow: room. -/
def padR (l : L1) : List Value := match l.u 0 with
  | .agg p => p.toList
  | _ => []
def padL (l : L1) (n sz : Nat) : List Value := if (padR l).length % sz = 0 ∧ n + (padR l).length / sz ≤ maxLen then padR l else []
/-- A member's letter. -/
def mfl (l : L1) (k : Nat) : L1 := match l.u k with
  | .tuple #[.int .u64 n, v] => ⟨n.toNat, fun _ => v⟩
  | _ => ⟨0, fun _ => .nilFunc⟩
/-- A member's block: cells, or a row with room behind it. -/
def objOf (l : L1) : Value → Option Obj
  | .iface T (.agg c) => some (.cells c T)
  | .tuple #[.int .u64 T, .agg c, .int .u64 n, .int .u64 sz] => some (.cells ⟨c.toList ++ padL l n.toNat sz.toNat⟩ T.toNat)
  | _ => none
/-- The blocks that an entry stands for. -/
def own (o : Obj) (l : L1) (k : Nat) : Option (Nat × Obj) := match o with
  | .pending c _ => match c[k]? with
    | some v => match objOf (mfl l k) v with
      | some p => some ((mfl l k).n, p)
      | none => none
    | none => none
  | .coro none => none
  | o => match k with
    | 0 => some (l.n, o)
    | _ + 1 => none
def isPend : Obj → Bool
  | .pending .. => true
  | _ => false
theorem own_real {o : Obj} {l : L1} (h : real o = true) : own o l 0 = some (l.n, o) := by
  cases o with
  | pending c T => simp [real] at h
  | coro p => cases p <;> simp [real] at h; rfl
  | _ => rfl
theorem own_plain {o : Obj} {l : L1} {k x : Nat} {p : Obj} (hp : isPend o = false) (h : own o l k = some (x, p)) : k = 0 ∧ x = l.n ∧ p = o ∧ real o = true := by
  cases o with
  | pending c T => simp [isPend] at hp
  | coro q =>
    cases q with
    | none => simp [own] at h
    | some q => cases k <;> simp [own] at h; exact ⟨rfl, h.1.symm, h.2.symm, rfl⟩
  | _ => cases k <;> simp [own] at h; exact ⟨rfl, h.1.symm, h.2.symm, rfl⟩
/-- Where a place of memory lies: in a block with a letter, or in old memory, where v is. -/
inductive Acc where
  | blk (i : Nat)
  | old (a : Addr) (v : Value)
  | saidF (i : Nat) (c : L1 → Array Value) (off : Nat) (v : Value)
  | saidW (i : Nat) (c : Array Value) (off : Nat) (v : Value) (c2 : Array Value)
abbrev Acc.said (i : Nat) (c : Array Value) (off : Nat) (v : Value) : Acc := .saidF i (fun _ => c) off v
def nx : List Acc → List Acc
  | [] => []
  | [x] => [x]
  | _ :: y :: r => y :: r
/-- An operation with its operands reckoned. -/
inductive Q where
  | bin (op : BinOp) (T : TypeId) (xo yo : Operand) (x y : Value)
  | idxA (T : TypeId) (x i : Value)
  | idx (T : TypeId) (x i : Value)
  | slc (T : TypeId) (x : Value) (lo hi mx : Option Value)
  | cnv (s d : TypeId) (x : Value)
  | blt (b : Builtin) (ats : Array TypeId) (type : TypeId) (consts : Array Bool) (args : Array Value)
  | lkp (T : TypeId) (x i : Value) (ok : Bool)
  | st (T : TypeId) (a v : Value)
  | mks (T : TypeId) (l c : Value)
  | s2a (T : TypeId) (x : Value)
  | mkm (T : TypeId) (r : Option Value)
  | mup (T : TypeId) (m k v : Value)
  | men (T : TypeId) (m k : Value)
  | est (T : TypeId) (m s v : Value)
  | tas (x : Value) (T A : TypeId) (ok : Bool)
  | rng (T : TypeId) (x : Value)
  | nxt (x : Value) (str : Bool) (T : TypeId)
  | ent (x : Value)
  | ld (T : TypeId) (a : Value)
  | mv (x : Value)
  | fn (f : Value) (args : Array Value)
def Q.of (ρ : Operand → Value) (o : Oper) : Option Q :=
  match o.op with
  | .binOp op T x y _ => some (.bin op T x y (ρ x) (ρ y))
  | .indexAddr T x i => some (.idxA T (ρ x) (ρ i))
  | .index T x i => some (.idx T (ρ x) (ρ i))
  | .slice T x lo hi mx => some (.slc T (ρ x) (lo.map ρ) (hi.map ρ) (mx.map ρ))
  | .convert s d x => some (.cnv s d (ρ x))
  | .lookup T x i ok => some (.lkp T (ρ x) (ρ i) ok)
  | .store T a x => some (.st T (ρ a) (ρ x))
  | .makeSlice T l c => some (.mks T (ρ l) (ρ c))
  | .sliceToArrayPointer T x => some (.s2a T (ρ x))
  | .makeMap T r => some (.mkm T (r.map ρ))
  | .mapUpdate T m k x | .insert T m k x => some (.mup T (ρ m) (ρ k) (ρ x))
  | .mapEntry T m k => some (.men T (ρ m) (ρ k))
  | .entryStore T m s x => some (.est T (ρ m) (ρ s) (ρ x))
  | .typeAssert x T A ok => some (.tas (ρ x) T A ok)
  | .range T x => some (.rng T (ρ x))
  | .next it s => some (.nxt (ρ it) s o.type)
  | .entry it => some (.ent (ρ it))
  | .load T x => some (.ld T (ρ x))
  | .assign x => some (.mv (ρ x))
  | .call c => match c.callee with
    | .builtin b => some (.blt b c.argTypes o.type (c.args.map fun | .const _ => true | _ => false) (c.args.map ρ))
    | _ => none
  | _ => none
def Q.sem : Q → Sem Next
  | .bin op T xo yo x y => do let v ← (do eqGuard op T xo yo x y; binOp op T x y); pure (.value v)
  | .idxA T x i => do let v ← Instr.indexAt T x i; pure (.value v)
  | .idx T x i => do let v ← Instr.index T x i; pure (.value v)
  | .slc T x lo hi mx => do let v ← Instr.sliceAt T x lo hi mx; pure (.value v)
  | .cnv s d x => do let v ← convert s d x; pure (.value v)
  | .blt b ats type consts args => builtin b ats type consts args
  | .lkp T x i ok => do let v ← Instr.lookup T x i ok; pure (.value v)
  | .st T a v => do Instr.storeAt T a v; pure .skip
  | .mks T l c => do let v ← Instr.makeSlice T l c; pure (.value v)
  | .s2a T x => do let v ← Instr.arrayAt T x; pure (.value v)
  | .mkm T r => do let v ← Instr.makeMap T r; pure (.value v)
  | .mup T m k x => do Instr.mapUpdate T m k x; pure .skip
  | .men T m k => do let v ← Instr.mapEntry T m k; pure (.value v)
  | .est T m s x => do Instr.entryStore T m s x; pure .skip
  | .tas x T A ok => do let v ← Instr.typeAssert x T A ok; pure (.value v)
  | .rng T x => do let v ← Instr.range T x; pure (.value v)
  | .nxt x s T => do let v ← Instr.next x s T; pure (.value v)
  | .ent x => do let v ← Instr.entry x; pure (.value v)
  | .ld T a => do let v ← Instr.loadAt T a; pure (.value v)
  | .mv x => pure (.value x)
  | .fn f args => do let d ← Deferred.ofValue f args; invoke d.target d.args
theorem Q.of_sem {ρ : Operand → Value} {o : Oper} {q : Q} (h : Q.of ρ o = some q) : execOp ρ o = q.sem := by
  obtain ⟨dst, op, type, pos, after, guard⟩ := o
  unfold Q.of at h
  cases op <;> simp only [Option.some.injEq, reduceCtorEq] at h
  case call c =>
    obtain ⟨cl, args, ats⟩ := c
    cases cl <;> simp only [Option.some.injEq, reduceCtorEq] at h
    subst h
    rfl
  all_goals (subst h; rfl)
/-- A call of a function that the model stands in for is an operation too. -/
def Q.ofc (ρ : Operand → Value) (o : Oper) : Option Q :=
  match Q.of ρ o with
  | some q => some q
  | none => match o.op with
    | .call c => match c.callee with
      | .value f => some (.fn (ρ f) (c.args.map ρ))
      | _ => none
    | _ => none
theorem Q.ofc_sem {ρ : Operand → Value} {o : Oper} {q : Q} (h : Q.ofc ρ o = some q) : execOp ρ o = q.sem := by
  unfold Q.ofc at h
  cases hq : Q.of ρ o with
  | some q' => rw [hq] at h; simp at h; subst h; exact Q.of_sem hq
  | none =>
    rw [hq] at h
    clear hq
    obtain ⟨dst, op, type, pos, after, guard⟩ := o
    cases op <;> simp only [Option.some.injEq, reduceCtorEq] at h
    case call c =>
      obtain ⟨cl, args, ats⟩ := c
      cases cl <;> simp only [Option.some.injEq, reduceCtorEq] at h
      subst h
      rfl
/-- What is told as a whole: an operation, a call, a piece of code. -/
inductive Wh where
  | op (q : Q)
  | call (f : FuncId) (args : Array Value)
  | code (x : Code) (t : List Value)
inductive Tok where
  | n (x : Nat)
  | v (x : Value)
  | a (x : Addr)
  | q (x : Q)
  | cell (c : Array Value) (off blk : Nat) (v : Value)
  | wh (x : Wh)
  | hs (x : List Obj)
  | vs (x : List Value)
abbrev Obl := List (Tok × Tok)
def okL (l : Obl) : Prop := l.map Prod.fst = l.map Prod.snd
theorem okL_cons {p : Tok × Tok} {l : Obl} : okL (p :: l) ↔ p.1 = p.2 ∧ okL l := by simp [okL]
theorem okL_app : ∀ {l m : Obl}, okL (l ++ m) ↔ okL l ∧ okL m
  | [], m => by simp [okL]
  | p :: l, m => by rw [List.cons_append, okL_cons, okL_cons, okL_app, and_assoc]
/-! ### What a run may change -/
structure Chg (X : Nat → Prop) (B : Nat) (w w' : World) : Prop where
  os : w'.os = w.os
  tape : w'.tape = w.tape
  output : w'.output = w.output
  size : w.heap.size ≤ w'.heap.size
  block : ∀ k, k < B → ¬ X k → w'.heap[k]? = w.heap[k]?
theorem Chg.refl (X : Nat → Prop) (B : Nat) (w : World) : Chg X B w w := ⟨rfl, rfl, rfl, Nat.le_refl _, fun _ _ _ => rfl⟩
theorem Chg.trans {X : Nat → Prop} {B : Nat} {a b c : World} (h : Chg X B a b) (k : Chg X B b c) : Chg X B a c :=
  ⟨k.os.trans h.os, k.tape.trans h.tape, k.output.trans h.output, Nat.le_trans h.size k.size, fun i hi hx => (k.block i hi hx).trans (h.block i hi hx)⟩
theorem Chg.of_below {X : Nat → Prop} {B : Nat} {w w' : World} (h : Below w.heap.size w w') (hB : B ≤ w.heap.size) : Chg X B w w' :=
  ⟨h.os, h.tape, h.output, h.size, fun k hk _ => h.block k (by omega)⟩
theorem Chg.below {B : Nat} {w w' : World} (h : Chg (fun _ => False) B w w') : Below B w w' := ⟨h.os, h.tape, h.output, h.size, fun k hk => h.block k hk id⟩
theorem Chg.alloc {X : Nat → Prop} {B : Nat} {w : World} (hB : B ≤ w.heap.size) (o : Obj) : Chg X B w (w.alloc o) := .of_below ((Below.refl _ _).alloc (Nat.le_refl _) o) hB
theorem Chg.drew (X : Nat → Prop) (B : Nat) (w : World) : Chg X B w w.drew := ⟨rfl, rfl, rfl, Nat.le_refl _, fun _ _ _ => rfl⟩
theorem Chg.setCell {X : Nat → Prop} {B : Nat} {w : World} {a : Addr} (h : X a.block ∨ B ≤ a.block) (v : Value) : Chg X B w (w.setCell a v) := by
  refine ⟨rfl, rfl, rfl, by simp [World.setCell], fun k hk hx => Below.heap_setCell _ _ _ _ ?_⟩
  rintro rfl
  rcases h with h | h
  · exact hx h
  · omega
theorem heap_freeze (w : World) (a : Addr) (n k : Nat) (h : k ≠ a.block) : (w.freeze a n).heap[k]? = w.heap[k]? := by
  unfold World.freeze
  split
  · rfl
  · simp only [Array.getElem?_modify]
    rw [if_neg (by omega)]
theorem Chg.freeze {X : Nat → Prop} {B : Nat} {w : World} {a : Addr} (h : X a.block ∨ B ≤ a.block) (n : Nat) : Chg X B w (w.freeze a n) := by
  refine ⟨by unfold World.freeze; split <;> rfl, by unfold World.freeze; split <;> rfl, by unfold World.freeze; split <;> rfl, by unfold World.freeze; split <;> simp, fun k hk hx => heap_freeze _ _ _ _ ?_⟩
  rintro rfl
  rcases h with h | h
  · exact hx h
  · omega
theorem Chg.setObj {X : Nat → Prop} {B : Nat} {w : World} {r : Nat} (h : X r ∨ B ≤ r) (o : Obj) : Chg X B w { w with heap := w.heap.setIfInBounds r o } := by
  refine ⟨rfl, rfl, rfl, by simp, fun k hk hx => ?_⟩
  have : r ≠ k := by
    rintro rfl
    rcases h with h | h
    · exact hx h
    · omega
  simp [Array.getElem?_setIfInBounds_ne this]
/-- The blocks with letters hold what is said; they may be written; no two are one. -/
structure Sat (X : Nat → Prop) (B : Nat) (b : Lt) (H : List Obj) (w : World) : Prop where
  hold_ : ∀ j k o x p, H[j]? = some o → own o (b j) k = some (x, p) → w.heap[x]? = some p
  mine_ : ∀ j k o x p, H[j]? = some o → own o (b j) k = some (x, p) → X x ∨ B ≤ x
  inj_ : ∀ j j' k k' o o' x p p', H[j]? = some o → own o (b j) k = some (x, p) → H[j']? = some o' → own o' (b j') k' = some (x, p') → j = j' ∧ k = k'
  base : B ≤ w.heap.size
section
variable {X : Nat → Prop} {B : Nat} {P : Program} {b c : Lt} {H : List Obj} {w w' : World}
theorem Sat.holds (h : Sat X B b H w) : ∀ j o, H[j]? = some o → real o = true → w.heap[(b j).n]? = some o := fun j o hj hr => h.hold_ j 0 o _ _ hj (own_real hr)
theorem Sat.mine (h : Sat X B b H w) : ∀ j o, H[j]? = some o → real o = true → X (b j).n ∨ B ≤ (b j).n := fun j o hj hr => h.mine_ j 0 o _ _ hj (own_real hr)
theorem Sat.inj (h : Sat X B b H w) : ∀ i j o p, H[i]? = some o → real o = true → H[j]? = some p → real p = true → (b i).n = (b j).n → i = j := fun i j o p hi hr hj hr' e =>
  (h.inj_ i j 0 0 o p (b i).n o p hi (own_real hr) hj (by rw [e]; exact own_real hr')).1
theorem Sat.of_agree (h : Sat X B b H w) (g : agree H.length c b) : Sat X B c H w := by
  refine ⟨fun j k o x p hj hr => ?_, fun j k o x p hj hr => ?_, fun i j k k' o o' x p p' hi hir hj hjr => ?_, h.base⟩
  · rw [g j (List.getElem?_eq_some_iff.1 hj).1] at hr; exact h.hold_ j k o x p hj hr
  · rw [g j (List.getElem?_eq_some_iff.1 hj).1] at hr; exact h.mine_ j k o x p hj hr
  · rw [g i (List.getElem?_eq_some_iff.1 hi).1] at hir
    rw [g j (List.getElem?_eq_some_iff.1 hj).1] at hjr
    exact h.inj_ i j k k' o o' x p p' hi hir hj hjr
theorem Sat.lt_ (h : Sat X B b H w) {j k x : Nat} {o p : Obj} (hj : H[j]? = some o) (hr : own o (b j) k = some (x, p)) : x < w.heap.size :=
  (Array.getElem?_eq_some_iff.1 (h.hold_ j k o x p hj hr)).1
theorem Sat.lt (h : Sat X B b H w) {j : Nat} {o : Obj} (hj : H[j]? = some o) (hr : real o = true) : (b j).n < w.heap.size :=
  (Array.getElem?_eq_some_iff.1 (h.holds j o hj hr)).1
theorem Sat.below (h : Sat X B b H w) (g : Below w.heap.size w w') : Sat X B b H w' :=
  ⟨fun j k o x p hj hr => (g.block _ (h.lt_ hj hr)).trans (h.hold_ j k o x p hj hr), h.mine_, h.inj_, Nat.le_trans h.base g.size⟩
theorem Sat.drew (h : Sat X B b H w) : Sat X B b H w.drew := ⟨h.hold_, h.mine_, h.inj_, h.base⟩
theorem Sat.nil (hB : B ≤ w.heap.size) : Sat X B b [] w := ⟨fun j k o x p h => by simp at h, fun j k o x p h => by simp at h, fun i j k k' o o' x p p' h => by simp at h, hB⟩
/-- An entry is born: at a new place, or at one that stood for none. -/
theorem Sat.born (h : Sat X B b H w) {H' : List Obj} {k : Nat} {o : Obj} {x : Nat} (hold : ∀ j, j ≠ k → H'[j]? = H[j]?) (hk : H'[k]? = some o) (hpo : isPend o = false) (hx : w.heap[x]? = some o) (hB : X x ∨ B ≤ x)
    (hn : ∀ j i p y q, j ≠ k → H[j]? = some p → own p (b j) i = some (y, q) → y ≠ x) : Sat X B (upd b k x) H' w := by
  have at_ : ∀ i o' y p, H'[k]? = some o' → own o' (upd b k x k) i = some (y, p) → i = 0 ∧ y = x ∧ p = o := fun i o' y p h1 h2 => by
    rw [hk] at h1
    cases h1
    have e : upd b k x k = ⟨x, fun _ => .nilFunc⟩ := if_pos rfl
    rw [e] at h2
    obtain ⟨h3, h4, h5, _⟩ := own_plain hpo h2
    exact ⟨h3, h4, h5⟩
  refine ⟨fun j i o' y p hj hr => ?_, fun j i o' y p hj hr => ?_, fun j j' i i' o1 o2 y p p' hj hr hj' hr' => ?_, h.base⟩
  · by_cases hjk : j = k
    · subst hjk
      obtain ⟨_, rfl, rfl⟩ := at_ i o' y p hj hr
      exact hx
    · rw [upd_ne b hjk] at hr; rw [hold j hjk] at hj; exact h.hold_ j i o' y p hj hr
  · by_cases hjk : j = k
    · subst hjk
      obtain ⟨_, rfl, rfl⟩ := at_ i o' y p hj hr
      exact hB
    · rw [upd_ne b hjk] at hr; rw [hold j hjk] at hj; exact h.mine_ j i o' y p hj hr
  · by_cases hik : j = k <;> by_cases hjk : j' = k
    · subst hik; subst hjk
      obtain ⟨h1, _, _⟩ := at_ i o1 y p hj hr
      obtain ⟨h2, _, _⟩ := at_ i' o2 y p' hj' hr'
      exact ⟨rfl, h1.trans h2.symm⟩
    · subst hik
      obtain ⟨_, rfl, _⟩ := at_ i o1 y p hj hr
      rw [upd_ne b hjk] at hr'
      rw [hold j' hjk] at hj'
      exact absurd rfl (hn j' i' o2 y p' hjk hj' hr')
    · subst hjk
      obtain ⟨_, rfl, _⟩ := at_ i' o2 y p' hj' hr'
      rw [upd_ne b hik] at hr
      rw [hold j hik] at hj
      exact absurd rfl (hn j i o1 y p hik hj hr)
    · rw [upd_ne b hjk] at hr'
      rw [upd_ne b hik] at hr
      rw [hold j hik] at hj
      rw [hold j' hjk] at hj'
      exact h.inj_ j j' i i' o1 o2 y p p' hj hr hj' hr'
theorem append_ne {H : List Obj} {o : Obj} {j : Nat} (h : j ≠ H.length) : (H ++ [o])[j]? = H[j]? := by
  rcases Nat.lt_or_gt_of_ne h with hl | hl
  · exact List.getElem?_append_left hl
  · rw [List.getElem?_eq_none (by simp; omega), List.getElem?_eq_none (by omega)]
theorem Sat.alloc (h : Sat X B b H w) (o : Obj) (hpo : isPend o = false) : Sat X B (upd b H.length w.heap.size) (H ++ [o]) (w.alloc o) :=
  (h.below ((Below.refl _ _).alloc (Nat.le_refl _) o)).born (fun j hj => append_ne hj) (by simp) hpo (heap_alloc_new w o) (.inr h.base) (fun j i p y q hj hp hr e => by have := h.lt_ hp hr; omega)
theorem Sat.set_ (h : Sat X B b H w) {i : Nat} {o p : Obj} (hp : H[i]? = some p) (hpr : real p = true) (ho' : isPend o = false) (hw : ∀ k, k ≠ (b i).n → w'.heap[k]? = w.heap[k]?) (ho : w'.heap[(b i).n]? = some o) (hz : w.heap.size ≤ w'.heap.size) : Sat X B b (H.set i o) w' := 
  have hi := (List.getElem?_eq_some_iff.1 hp).1
  -- what a block of the new list was
  have old : ∀ (j k : Nat) (o' : Obj) x q, (H.set i o)[j]? = some o' → own o' (b j) k = some (x, q) → (j = i ∧ k = 0 ∧ x = (b i).n ∧ q = o) ∨ (j ≠ i ∧ H[j]? = some o') := by
    intro j k o' x q hj hr
    by_cases hij : i = j
    · subst hij
      rw [List.getElem?_set_self hi] at hj
      simp at hj; subst hj
      obtain ⟨h1, h2, h3, _⟩ := own_plain ho' hr
      exact .inl ⟨rfl, h1, h2, h3⟩
    · rw [List.getElem?_set_ne hij] at hj; exact .inr ⟨fun e => hij e.symm, hj⟩
  have apart : ∀ (j k : Nat) (o' : Obj) x q, j ≠ i → H[j]? = some o' → own o' (b j) k = some (x, q) → x ≠ (b i).n := fun j k o' x q hji hj hr e =>
    hji (h.inj_ j i k 0 o' p x q p hj hr hp (by rw [e]; exact own_real hpr)).1
  ⟨fun j k o' x q hj hr => by
    rcases old j k o' x q hj hr with ⟨_, _, rfl, rfl⟩ | ⟨hji, hj'⟩
    · exact ho
    · rw [hw _ (apart j k o' x q hji hj' hr)]
      exact h.hold_ j k o' x q hj' hr,
   fun j k o' x q hj hr => by
    rcases old j k o' x q hj hr with ⟨_, _, rfl, rfl⟩ | ⟨hji, hj'⟩
    · exact h.mine i p hp hpr
    · exact h.mine_ j k o' x q hj' hr,
   fun j j' k k' o1 o2 x q q' hj hr hj' hr' => by
    rcases old j k o1 x q hj hr with ⟨rfl, rfl, rfl, rfl⟩ | ⟨hji, h1⟩
    · rcases old j' k' o2 _ q' hj' hr' with ⟨rfl, rfl, _, _⟩ | ⟨hji', h1'⟩
      · exact ⟨rfl, rfl⟩
      · exact absurd rfl (apart j' k' o2 _ q' hji' h1' hr')
    · rcases old j' k' o2 x q' hj' hr' with ⟨rfl, rfl, rfl, rfl⟩ | ⟨hji', h1'⟩
      · exact absurd rfl (apart j k o1 _ q hji h1 hr)
      · exact h.inj_ j j' k k' o1 o2 x q q' h1 hr h1' hr',
   Nat.le_trans h.base hz⟩
end
/-! ### One operation's meaning -/
/-- Where a place was found. -/
inductive Src where
  | blk (i x : Nat)
  | old (a a' : Addr)
  | cell (i : Nat) (c' : Array Value) (off' blk' : Nat) (v' : Value) (c : L1 → Array Value) (off : Nat) (v : Value)
def tok (b : Lt) : Src → Tok × Tok
  | .blk i x => (.n x, .n (b i).n)
  | .old a a' => (.a a, .a a')
  | .cell i c' off' blk' v' c off v => (.cell c' off' blk' v', .cell (c (b i)) off (b i).n v)
def Acc.blkOf : Acc → Option Nat
  | .blk i => some i
  | .saidF i _ _ _ => some i
  | .saidW i _ _ _ _ => some i
  | .old _ _ => none
def cellsAt (acc : List Acc) (H : List Obj) : Option (Nat × Array Value × TypeId × (Nat × Nat)) :=
  match acc with
  | x :: _ => match x.blkOf with
    | some i => match H[i]? with
      | some (.cells c T fz) => some (i, c, T, fz)
      | _ => none
    | none => none
  | _ => none
def objAt (acc : List Acc) (H : List Obj) : Option (Nat × Obj) :=
  match acc with
  | .blk i :: _ => match H[i]? with
    | some (.cells ..) => none
    | some o => match real o with
      | true => some (i, o)
      | false => none
    | none => none
  | _ => none
inductive Said where
  | plain
  | old (a : Addr) (v : Value)
  | rd (c : L1 → Array Value) (off : Nat) (v : Value)
  | wr (c : Array Value) (off : Nat) (v : Value) (c2 : Array Value)
def saidOf (acc : List Acc) : Said :=
  match acc with
  | .old a v :: _ => .old a v
  | .saidF _ c off v :: _ => .rd c off v
  | .saidW _ c off v c2 :: _ => .wr c off v c2
  | _ => .plain
def rdCell (acc : List Acc) (H : List Obj) (a : Addr) : Option (Value × Src) :=
  match saidOf acc with
  | .old a' v => some (v, .old a a')
  | .rd c off v => match cellsAt acc H with
    | some (i, c', _, _) => match a.spot with
      | none => some (v, .cell i c' a.off a.block v c off v)
      | some _ => none
    | none => none
  | _ => match cellsAt acc H with
    | some (i, c, _, _) => match a.spot with
      | none => match c[a.off]? with
        | some v => some (v, .blk i a.block)
        | none => none
      | some _ => none
    | none => none
def scalar : Value → Bool
  | .agg _ => false
  | .tuple _ => false
  | _ => true
def wrCell (acc : List Acc) (H : List Obj) (a : Addr) (v : Value) : Option (List Obj × Src) :=
  match saidOf acc with
  | .wr c off v' c2 => match cellsAt acc H with
    | some (i, c', T, fz) => match a.spot with
      | none => match (decide (fz.1 ≤ a.off) && decide (a.off < fz.2)) with
        | false => match scalar v with
          | true => some (H.set i (.cells c2 T fz), .cell i c' a.off a.block v (fun _ => c) off v')
          | false => none
        | true => none
      | some _ => none
    | none => none
  | _ => match cellsAt acc H with
    | some (i, c, T, fz) => match a.spot with
      | none => match c[a.off]? with
        | some _ => match (decide (fz.1 ≤ a.off) && decide (a.off < fz.2)) with
          | false => match scalar v with
            | true => some (H.set i (.cells (c.setIfInBounds a.off v) T fz), .blk i a.block)
            | false => none
          | true => none
        | none => none
      | some _ => none
    | none => none
def pushO {α : Type} (p : Tok × Tok) : Option (α × List Obj × Obl) → Option (α × List Obj × Obl)
  | some (x, H, o) => some (x, H, p :: o)
  | none => none
theorem pushO_some {α : Type} {p : Tok × Tok} {r : Option (α × List Obj × Obl)} {x : α} {H : List Obj} {o : Obl} : pushO p r = some (x, H, o) ↔ ∃ o1, r = some (x, H, o1) ∧ o = p :: o1 := by
  unfold pushO
  split
  · simp
    constructor
    · rintro ⟨rfl, rfl, rfl⟩; exact ⟨_, ⟨rfl, rfl, rfl⟩, rfl⟩
    · rintro ⟨_, ⟨rfl, rfl, rfl⟩, rfl⟩; exact ⟨rfl, rfl, rfl⟩
  · simp
def symRun {α : Type} (P : Program) (b : Lt) : Sem α → List Acc → List Obj → Option (α × List Obj × Obl)
  | .pure x, _, H => some (x, H, [])
  | .load _ a k, acc, H => match rdCell acc H a with
    | some (v, p) => pushO (tok b p) (symRun P b (k v) (nx acc) H)
    | none => none
  | .store _ a v k, acc, H => match wrCell acc H a v with
    | some (H1, p) => pushO (tok b p) (symRun P b k (nx acc) H1)
    | none => none
  | .new o k, acc, H => match isPend o with
    | false => symRun P b (k (b H.length).n) acc (H ++ [o])
    | true => none
  | .shape r k, acc, H => match cellsAt acc H with
    | some (i, c, T, _) => pushO (.n r, .n (b i).n) (symRun P b (k (some (T, c.size))) (nx acc) H)
    | none => none
  | .freeze _ 0 k, acc, H => symRun P b k acc H
  | .freeze a (n + 1) k, acc, H => match cellsAt acc H with
    | some (i, c, T, fz) => pushO (.n a.block, .n (b i).n) (symRun P b k (nx acc) (H.set i (.cells c T (if fz.1 == fz.2 then (a.off, a.off + (n + 1)) else (min fz.1 a.off, max fz.2 (a.off + (n + 1)))))))
    | none => none
  | .frozen a k, acc, H => match cellsAt acc H with
    | some (i, _, _, fz) => pushO (.n a.block, .n (b i).n) (symRun P b (k (decide (fz.1 ≤ a.off) && decide (a.off < fz.2))) (nx acc) H)
    | none => none
  | .getObj r k, acc, H => match objAt acc H with
    | some (i, o1) => pushO (.n r, .n (b i).n) (symRun P b (k o1) (nx acc) H)
    | none => none
  | .setObj r o1 k, acc, H => match objAt acc H with
    | some (i, _) => match isPend o1 with
      | false => pushO (.n r, .n (b i).n) (symRun P b k (nx acc) (H.set i o1))
      | true => none
    | none => none
  | .choose q k, acc, H => match q.forced with
    | true => symRun P b (k 0) acc H
    | false => none
  | .sys _ _, _, _ => none
  | .program k, acc, H => symRun P b (k P) acc H
  | .mark _ k, acc, H => symRun P b k acc H
  | .halt _, _, _ => none
/-- For all letters that agree with b in the first n. -/
def All (n : Nat) (b : Lt) (G : Lt → Prop) : Prop := ∀ c, agree n c b → G c
theorem All.self {n : Nat} {b : Lt} {G : Lt → Prop} (h : All n b G) : G b := h b agree.rfl'
theorem All.next {n m : Nat} {b c : Lt} {G : Lt → Prop} (h : All n b G) (ag : agree n c b) (hm : n ≤ m) : All m c G := fun d hd => h d ((hd.mono hm).trans ag)
section
variable {X : Nat → Prop} {B : Nat} {P : Program} {S : World → Prop}
/-- What is said of old memory. -/
def Acc.ok (S : World → Prop) : Acc → Prop
  | .blk _ => True
  | .old a v => ∀ w, S w → w.cell? a = some v
  | .saidF _ c off v => ∀ l, (c l)[off]? = some v
  | .saidW _ c off v c2 => (∃ u, c[off]? = some u) ∧ c.setIfInBounds off v = c2
def AccOk (S : World → Prop) (acc : List Acc) : Prop := ∀ x ∈ acc, x.ok S
theorem AccOk.nil : AccOk S [] := fun x h => by cases h
theorem AccOk.blk (i : Nat) : AccOk S [.blk i] := fun x h => by
  obtain rfl : x = .blk i := by simpa using h
  trivial
theorem nx_sub {acc : List Acc} {x : Acc} (h : x ∈ nx acc) : x ∈ acc := by
  match acc, h with
  | [y], h => exact h
  | _ :: y :: r, h => exact List.mem_cons_of_mem _ h
theorem AccOk.nx {acc : List Acc} (h : AccOk S acc) : AccOk S (nx acc) := fun x hm => h x (nx_sub hm)
theorem cellsAt_spec {acc : List Acc} {H : List Obj} {i : Nat} {c : Array Value} {T : TypeId} {fz : Nat × Nat} (h : cellsAt acc H = some (i, c, T, fz)) : H[i]? = some (.cells c T fz) := by
  unfold cellsAt at h
  split at h
  · split at h
    · split at h
      · rename_i hH
        simp at h
        obtain ⟨rfl, rfl, rfl, rfl⟩ := h
        exact hH
      · cases h
    · cases h
  · cases h
theorem saidOf_old {acc : List Acc} {a : Addr} {v : Value} (h : saidOf acc = .old a v) : Acc.old a v ∈ acc := by
  unfold saidOf at h
  split at h <;> simp at h
  obtain ⟨rfl, rfl⟩ := h
  exact List.mem_cons_self ..
theorem saidOf_rd {acc : List Acc} {c : L1 → Array Value} {off : Nat} {v : Value} (h : saidOf acc = .rd c off v) : ∃ i, Acc.saidF i c off v ∈ acc := by
  unfold saidOf at h
  split at h <;> simp at h
  obtain ⟨rfl, rfl, rfl⟩ := h
  exact ⟨_, List.mem_cons_self ..⟩
theorem saidOf_wr {acc : List Acc} {c c2 : Array Value} {off : Nat} {v : Value} (h : saidOf acc = .wr c off v c2) : ∃ i, Acc.saidW i c off v c2 ∈ acc := by
  unfold saidOf at h
  split at h <;> simp at h
  obtain ⟨rfl, rfl, rfl, rfl⟩ := h
  exact ⟨_, List.mem_cons_self ..⟩
theorem objAt_spec {acc : List Acc} {H : List Obj} {i : Nat} {o : Obj} (h : objAt acc H = some (i, o)) : H[i]? = some o ∧ (∀ c T fz, o ≠ .cells c T fz) ∧ real o = true := by
  unfold objAt at h
  split at h
  · split at h
    · cases h
    · rename_i o1 hn hH
      split at h
      · rename_i hr
        simp at h
        obtain ⟨rfl, rfl⟩ := h
        exact ⟨hH, fun c T fz e => hn c T fz e, hr⟩
      · cases h
    · cases h
  · cases h
theorem rdCell_sound {b : Lt} {acc : List Acc} {H : List Obj} {a : Addr} {w : World} {v : Value} {p : Src} (hs : Sat X B b H w) (hS : S w) (ha : AccOk S acc) (h : rdCell acc H a = some (v, p)) (hp : (tok b p).1 = (tok b p).2) : w.cell? a = some v := by
  unfold rdCell at h
  split at h
  · rename_i a' v' hsd
    simp at h
    obtain ⟨rfl, rfl⟩ := h
    simp [tok] at hp
    subst hp
    exact ha _ (saidOf_old hsd) w hS
  · rename_i c off v' hsd
    split at h
    · rename_i i c' T fz hc
      have hH := cellsAt_spec hc
      split at h
      · rename_i hsp
        simp at h
        obtain ⟨rfl, rfl⟩ := h
        simp [tok] at hp
        obtain ⟨rfl, rfl, hb⟩ := hp
        obtain ⟨i', hm⟩ := saidOf_rd hsd
        have h1 : (c (b i))[a.off]? = some v' := ha _ hm (b i)
        have := hs.holds _ _ hH rfl
        rw [← hb] at this
        simp [World.cell?, this, hsp, h1]
      · cases h
    · cases h
  · split at h
    · rename_i i c T fz hc
      have hH := cellsAt_spec hc
      split at h
      · rename_i hsp
        split at h
        · rename_i u hu
          simp at h
          obtain ⟨rfl, rfl⟩ := h
          simp [tok] at hp
          have := hs.holds _ _ hH rfl
          rw [← hp] at this
          simp [World.cell?, this, hsp, hu]
        · cases h
      · cases h
    · cases h
theorem scalar_spec {v : Value} (h : scalar v = true) : (∀ cs, v ≠ .agg cs) ∧ (∀ cs, v ≠ .tuple cs) := by
  cases v <;> simp [scalar] at h ⊢
theorem wrCell_sound {b : Lt} {acc : List Acc} {H H1 : List Obj} {a : Addr} {w : World} {v : Value} {p : Src} (hs : Sat X B b H w) (ha : AccOk S acc) (h : wrCell acc H a v = some (H1, p)) (hp : (tok b p).1 = (tok b p).2) :
    (∃ u, w.cell? a = some u) ∧ w.frozen? a = false ∧ (∀ cs, v ≠ .agg cs) ∧ (∀ cs, v ≠ .tuple cs) ∧ Sat X B b H1 (w.setCell a v) ∧ (X a.block ∨ B ≤ a.block) := by
  unfold wrCell at h
  split at h
  · rename_i c off v' c2 hsd
    split at h
    · rename_i i c' T fz hc
      have hH := cellsAt_spec hc
      split at h
      · rename_i hsp
        split at h
        · rename_i hf
          split at h
          · rename_i hsc
            simp at h
            obtain ⟨rfl, rfl⟩ := h
            simp [tok] at hp
            obtain ⟨rfl, rfl, hb, rfl⟩ := hp
            obtain ⟨i', hm⟩ := saidOf_wr hsd
            obtain ⟨⟨u, hu⟩, h2⟩ : (∃ u, c'[a.off]? = some u) ∧ c'.setIfInBounds a.off v = c2 := ha _ hm
            have hbl := hs.holds _ _ hH rfl
            rw [← hb] at hbl
            have hmi := hs.mine i _ hH rfl
            rw [← hb] at hmi
            refine ⟨⟨u, by simp [World.cell?, hbl, hsp, hu]⟩, by simpa [World.frozen?, hbl] using hf, (scalar_spec hsc).1, (scalar_spec hsc).2, ?_, hmi⟩
            refine hs.set_ hH rfl rfl (fun k hk => Below.heap_setCell _ _ _ _ (by rw [hb]; exact hk)) ?_ (by simp [World.setCell])
            rw [← hb]
            simp [World.setCell, Array.getElem?_modify, hbl, hsp, h2]
          · cases h
        · cases h
      · cases h
    · cases h
  · split at h
    · rename_i i c T fz hc
      have hH := cellsAt_spec hc
      split at h
      · rename_i hsp
        split at h
        · rename_i u hu
          split at h
          · rename_i hf
            split at h
            · rename_i hsc
              simp at h
              obtain ⟨rfl, rfl⟩ := h
              simp [tok] at hp
              have hb := hs.holds _ _ hH rfl
              rw [← hp] at hb
              have hm := hs.mine i _ hH rfl
              rw [← hp] at hm
              refine ⟨⟨u, by simp [World.cell?, hb, hsp, hu]⟩, by simpa [World.frozen?, hb] using hf, (scalar_spec hsc).1, (scalar_spec hsc).2, ?_, hm⟩
              refine hs.set_ hH rfl rfl (fun k hk => Below.heap_setCell _ _ _ _ (by rw [hp]; exact hk)) ?_ (by simp [World.setCell])
              rw [← hp]
              simp [World.setCell, Array.getElem?_modify, hb, hsp]
            · cases h
          · cases h
        · cases h
      · cases h
    · cases h
theorem wrCell_len {acc : List Acc} {H H1 : List Obj} {a : Addr} {v : Value} {p : Src} (h : wrCell acc H a v = some (H1, p)) : H1.length = H.length := by
  unfold wrCell at h
  split at h
  · split at h
    · split at h
      · split at h
        · split at h
          · simp at h; obtain ⟨rfl, rfl⟩ := h; simp
          · cases h
        · cases h
      · cases h
    · cases h
  · split at h
    · split at h
      · split at h
        · split at h
          · split at h
            · simp at h; obtain ⟨rfl, rfl⟩ := h; simp
            · cases h
          · cases h
        · cases h
      · cases h
    · cases h
theorem run_store_plain {α : Type} (P : Program) (m : Mode) (a : Addr) (v : Value) (k : Sem α) (w : World) (u : Value) (hv1 : ∀ cs, v ≠ .agg cs) (hv2 : ∀ cs, v ≠ .tuple cs) (hc : w.cell? a = some u) (hf : w.frozen? a = false) :
    (Sem.store m a v k).run P w = k.run P (w.setCell a v) := by
  cases v <;> first
    | exact absurd rfl (hv1 _)
    | exact absurd rfl (hv2 _)
    | simp [Sem.run, hc, hf]
/-- The run with letters hangs on those letters alone that it has. -/
theorem symRun_dep {α : Type} {b c : Lt} : ∀ (t : Sem α) (acc : List Acc) (H : List Obj) (x : α) (H' : List Obj) (o : Obl), symRun P b t acc H = some (x, H', o) →
    H.length ≤ H'.length ∧ ((∀ i, H.length ≤ i → i < H'.length → c i = b i) → (∃ o', symRun P c t acc H = some (x, H', o'))) := by
  intro t
  induction t with
  | pure y => intro acc H x H' o h; simp [symRun] at h; obtain ⟨rfl, rfl, rfl⟩ := h; exact ⟨Nat.le_refl _, fun _ => ⟨[], by simp [symRun]⟩⟩
  | load m a k ih =>
    intro acc H x H' o h
    simp only [symRun] at h ⊢
    split at h
    · rename_i v p hr
      obtain ⟨o1, h1, rfl⟩ := pushO_some.1 h
      obtain ⟨h2, h3⟩ := ih v _ _ _ _ _ h1
      refine ⟨h2, fun ag => ?_⟩
      obtain ⟨o', h4⟩ := h3 ag
      exact ⟨_, pushO_some.2 ⟨_, h4, rfl⟩⟩
    · cases h
  | store m a v k ih =>
    intro acc H x H' o h
    simp only [symRun] at h ⊢
    split at h
    · rename_i Hm p hr
      obtain ⟨o1, h1, rfl⟩ := pushO_some.1 h
      obtain ⟨h2, h3⟩ := ih _ _ _ _ _ h1
      have hl := wrCell_len hr
      refine ⟨by omega, fun ag => ?_⟩
      obtain ⟨o', h4⟩ := h3 (fun i hi => ag i (by omega))
      exact ⟨_, pushO_some.2 ⟨_, h4, rfl⟩⟩
    · cases h
  | new ob k ih =>
    intro acc H x H' o h
    simp only [symRun] at h
    split at h
    · rename_i hpo
      obtain ⟨h2, h3⟩ := ih _ _ _ _ _ _ h
      simp at h2
      refine ⟨by omega, fun ag => ?_⟩
      obtain ⟨o', h4⟩ := h3 (fun i hi => ag i (by simp at hi; omega))
      refine ⟨o', ?_⟩
      simp only [symRun, hpo]
      rw [ag H.length (Nat.le_refl _) (by omega)]
      exact h4
    · cases h
  | shape r k ih =>
    intro acc H x H' o h
    simp only [symRun] at h ⊢
    split at h
    · obtain ⟨o1, h1, rfl⟩ := pushO_some.1 h
      obtain ⟨h2, h3⟩ := ih _ _ _ _ _ _ h1
      refine ⟨h2, fun ag => ?_⟩
      obtain ⟨o', h4⟩ := h3 ag
      exact ⟨_, pushO_some.2 ⟨_, h4, rfl⟩⟩
    · cases h
  | freeze a n k ih =>
    intro acc H x H' o h
    cases n with
    | zero =>
      simp only [symRun] at h ⊢
      exact ih _ _ _ _ _ h
    | succ n =>
      simp only [symRun] at h ⊢
      split at h
      · obtain ⟨o1, h1, rfl⟩ := pushO_some.1 h
        obtain ⟨h2, h3⟩ := ih _ _ _ _ _ h1
        refine ⟨by simpa using h2, fun ag => ?_⟩
        obtain ⟨o', h4⟩ := h3 (fun i hi => ag i (by simpa using hi))
        exact ⟨_, pushO_some.2 ⟨_, h4, rfl⟩⟩
      · cases h
  | frozen a k ih =>
    intro acc H x H' o h
    simp only [symRun] at h ⊢
    split at h
    · obtain ⟨o1, h1, rfl⟩ := pushO_some.1 h
      obtain ⟨h2, h3⟩ := ih _ _ _ _ _ _ h1
      refine ⟨h2, fun ag => ?_⟩
      obtain ⟨o', h4⟩ := h3 ag
      exact ⟨_, pushO_some.2 ⟨_, h4, rfl⟩⟩
    · cases h
  | getObj r k ih =>
    intro acc H x H' o h
    simp only [symRun] at h ⊢
    split at h
    · obtain ⟨o1, h1, rfl⟩ := pushO_some.1 h
      obtain ⟨h2, h3⟩ := ih _ _ _ _ _ _ h1
      refine ⟨h2, fun ag => ?_⟩
      obtain ⟨o', h4⟩ := h3 ag
      exact ⟨_, pushO_some.2 ⟨_, h4, rfl⟩⟩
    · cases h
  | setObj r ob k ih =>
    intro acc H x H' o h
    simp only [symRun] at h ⊢
    split at h
    · split at h
      · obtain ⟨o1, h1, rfl⟩ := pushO_some.1 h
        obtain ⟨h2, h3⟩ := ih _ _ _ _ _ h1
        refine ⟨by simpa using h2, fun ag => ?_⟩
        obtain ⟨o', h4⟩ := h3 (fun i hi => ag i (by simpa using hi))
        exact ⟨_, pushO_some.2 ⟨_, h4, rfl⟩⟩
      · cases h
    · cases h
  | choose q k ih =>
    intro acc H x H' o h
    simp only [symRun] at h ⊢
    split at h
    · exact ih _ _ _ _ _ _ h
    · cases h
  | sys cl k ih => intro acc H x H' o h; simp [symRun] at h
  | program k ih =>
    intro acc H x H' o h
    simp only [symRun] at h ⊢
    exact ih _ _ _ _ _ _ h
  | mark m k ih =>
    intro acc H x H' o h
    simp only [symRun] at h ⊢
    exact ih _ _ _ _ _ h
  | halt hl => intro acc H x H' o h; simp [symRun] at h
/-- What a run with letters that goes well for all of them tells. -/
def Goes {α : Type} (P : Program) (n : Nat) (b : Lt) (t : Sem α) (acc : List Acc) (H : List Obj) : Prop := All n b fun c => ∃ x H' o, symRun P c t acc H = some (x, H', o) ∧ okL o
def Went {α : Type} (P : Program) (X : Nat → Prop) (B : Nat) (S : World → Prop) (t : Sem α) (acc : List Acc) (H : List Obj) (w : World) (b : Lt) : Prop :=
  ∃ c x H' o w', agree H.length c b ∧ symRun P c t acc H = some (x, H', o) ∧ okL o ∧ t.run P w = .ok x w' ∧ Sat X B c H' w' ∧ H.length ≤ H'.length ∧ Chg X B w w' ∧ S w'
/-- One step of it: the rest of the run is u, from the blocks H1, in the world w1. -/
theorem Went.step {α : Type} {t u : Sem α} {acc acc' : List Acc} {H H1 : List Obj} {w w1 : World} {b : Lt} {tk : Lt → Tok × Tok} (heq : ∀ c, symRun P c t acc H = pushO (tk c) (symRun P c u acc' H1)) (hl : H1.length = H.length)
    (hrun : t.run P w = u.run P w1) (hch : Chg X B w w1) (h : Goes P H.length b t acc H) (ih : Goes P H1.length b u acc' H1 → Went P X B S u acc' H1 w1 b) : Went P X B S t acc H w b := by
  have := ih (fun c hc => by
    rw [hl] at hc
    obtain ⟨x, H', o, h3, ho⟩ := h c hc
    rw [heq] at h3
    obtain ⟨o1, h4, rfl⟩ := pushO_some.1 h3
    exact ⟨x, H', o1, h4, (okL_cons.1 ho).2⟩)
  obtain ⟨c, x2, H2, o2, w2, h3, h4, h5, h6, h7, h8, h9, h10⟩ := this
  rw [hl] at h3 h8
  obtain ⟨x, H', o, h11, ho⟩ := h c h3
  have h12 := h11
  rw [heq] at h12
  obtain ⟨o1, h13, rfl⟩ := pushO_some.1 h12
  have := h4.symm.trans h13
  simp at this
  obtain ⟨rfl, rfl, rfl⟩ := this
  exact ⟨c, x2, H2, _, w2, h3, h11, ho, by rw [hrun]; exact h6, h7, h8, hch.trans h9, h10⟩
theorem symRun_sound {α : Type} (hUp : ∀ w w', S w → Chg X B w w' → S w') : ∀ (t : Sem α) (acc : List Acc) (H : List Obj) (w : World) (b : Lt), Sat X B b H w → S w → AccOk S acc →
    Goes P H.length b t acc H → Went P X B S t acc H w b := by
  intro t
  induction t with
  | pure y =>
    intro acc H w b hs hS ha h
    exact ⟨b, y, H, [], w, agree.rfl', rfl, rfl, rfl, hs, Nat.le_refl _, Chg.refl .., hS⟩
  | load m a k ih =>
    intro acc H w b hs hS ha h
    have hh := h
    obtain ⟨x, H', o, h1, ho⟩ := h.self
    simp only [symRun] at h1
    split at h1
    · rename_i v p hr
      obtain ⟨o1, h2, rfl⟩ := pushO_some.1 h1
      have hcell := rdCell_sound hs hS ha hr (okL_cons.1 ho).1
      exact Went.step (tk := fun c => tok c p) (fun c => by simp only [symRun, hr]) rfl (by simp only [Sem.run, hcell]) (.refl ..) hh (fun g => ih v (nx acc) H w b hs hS ha.nx g)
    · cases h1
  | store m a v k ih =>
    intro acc H w b hs hS ha h
    have hh := h
    obtain ⟨x, H', o, h1, ho⟩ := h.self
    simp only [symRun] at h1
    split at h1
    · rename_i Hm p hr
      obtain ⟨o1, h2, rfl⟩ := pushO_some.1 h1
      obtain ⟨⟨u, hcell⟩, hfz, hv1, hv2, hsat, hmine⟩ := wrCell_sound hs ha hr (okL_cons.1 ho).1
      exact Went.step (tk := fun c => tok c p) (fun c => by simp only [symRun, hr]) (wrCell_len hr) (run_store_plain P m a v k w u hv1 hv2 hcell hfz) (.setCell hmine v) hh
        (fun g => ih (nx acc) Hm (w.setCell a v) b hsat (hUp _ _ hS (.setCell hmine v)) ha.nx g)
    · cases h1
  | new ob k ih =>
    intro acc H w b hs hS ha h
    have hz := hs.base
    have hpo : isPend ob = false := by
      obtain ⟨x0, H0, o0, h1, _⟩ := h.self
      simp only [symRun] at h1
      split at h1
      · assumption
      · cases h1
    have := ih w.heap.size acc (H ++ [ob]) (w.alloc ob) (upd b H.length w.heap.size) (hs.alloc ob hpo) (hUp _ _ hS (.alloc hz ob)) ha (fun c hc => by
      obtain ⟨x', H'', o', h3, ho'⟩ := h c ((hc.mono (by simp)).trans (upd_agree _ _ _))
      simp only [symRun, hpo] at h3
      rw [hc H.length (by simp), upd_at] at h3
      exact ⟨_, _, _, h3, ho'⟩)
    obtain ⟨c, x2, H2, o2, w2, h3, h4, h5, h6, h7, h8, h9, h10⟩ := this
    refine ⟨c, x2, H2, o2, w2, (h3.mono (by simp)).trans (upd_agree _ _ _), ?_, h5, h6, h7, by simp at h8; omega, (Chg.alloc hz ob).trans h9, h10⟩
    simp only [symRun, hpo]
    rw [h3 H.length (by simp), upd_at]
    exact h4
  | shape r k ih =>
    intro acc H w b hs hS ha h
    have hh := h
    obtain ⟨x, H', o, h1, ho⟩ := h.self
    simp only [symRun] at h1
    split at h1
    · rename_i i cs T fz hc
      obtain ⟨o1, h2, rfl⟩ := pushO_some.1 h1
      have hb := hs.holds _ _ (cellsAt_spec hc) rfl
      have hr : r = (b i).n := by simpa using (okL_cons.1 ho).1
      exact Went.step (u := k (some (T, cs.size))) (tk := fun c => (.n r, .n (c i).n)) (fun c => by simp only [symRun, hc]) rfl (by simp only [Sem.run, World.shape?, hr, hb]) (.refl ..) hh (fun g => ih (some (T, cs.size)) (nx acc) H w b hs hS ha.nx g)
    · cases h1
  | freeze a n k ih =>
    intro acc H w b hs hS ha h
    cases n with
    | zero =>
      simp only [Goes, Went, symRun] at h ⊢
      exact ih acc H w b hs hS ha h
    | succ n =>
      have hh := h
      obtain ⟨x, H', o, h1, ho⟩ := h.self
      simp only [symRun] at h1
      split at h1
      · rename_i i cs T fz hc
        obtain ⟨o1, h2, rfl⟩ := pushO_some.1 h1
        have hH := cellsAt_spec hc
        have hb := hs.holds _ _ hH rfl
        have hr : a.block = (b i).n := by simpa using (okL_cons.1 ho).1
        have hm := hs.mine i _ hH rfl
        rw [← hr] at hm hb
        have hch : Chg X B w (w.freeze a (n + 1)) := .freeze hm _
        have hsat : Sat X B b (H.set i (.cells cs T (if fz.1 == fz.2 then (a.off, a.off + (n + 1)) else (min fz.1 a.off, max fz.2 (a.off + (n + 1)))))) (w.freeze a (n + 1)) := by
          refine hs.set_ hH rfl rfl (fun k' hk => heap_freeze _ _ _ _ (by rw [hr]; exact hk)) ?_ (by unfold World.freeze; simp)
          rw [← hr]
          simp [World.freeze, Array.getElem?_modify, hb]
        exact Went.step (tk := fun c => (.n a.block, .n (c i).n)) (w1 := w.freeze a (n + 1)) (fun c => by simp only [symRun, hc]) (by simp) rfl hch hh (fun g => ih (nx acc) _ _ b hsat (hUp _ _ hS hch) ha.nx g)
      · cases h1
  | frozen a k ih =>
    intro acc H w b hs hS ha h
    have hh := h
    obtain ⟨x, H', o, h1, ho⟩ := h.self
    simp only [symRun] at h1
    split at h1
    · rename_i i cs T fz hc
      obtain ⟨o1, h2, rfl⟩ := pushO_some.1 h1
      have hb := hs.holds _ _ (cellsAt_spec hc) rfl
      have hr : a.block = (b i).n := by simpa using (okL_cons.1 ho).1
      exact Went.step (u := k (decide (fz.1 ≤ a.off) && decide (a.off < fz.2))) (tk := fun c => (.n a.block, .n (c i).n)) (fun c => by simp only [symRun, hc]) rfl (by simp only [Sem.run, World.frozen?, hr, hb]) (.refl ..) hh (fun g => ih (decide (fz.1 ≤ a.off) && decide (a.off < fz.2)) (nx acc) H w b hs hS ha.nx g)
    · cases h1
  | getObj r k ih =>
    intro acc H w b hs hS ha h
    have hh := h
    obtain ⟨x, H', o, h1, ho⟩ := h.self
    simp only [symRun] at h1
    split at h1
    · rename_i i o1 hc
      obtain ⟨o1', h2, rfl⟩ := pushO_some.1 h1
      obtain ⟨hH, hn, hreal⟩ := objAt_spec hc
      have hb := hs.holds _ _ hH hreal
      have hr : r = (b i).n := by simpa using (okL_cons.1 ho).1
      refine Went.step (u := k o1) (tk := fun c => (.n r, .n (c i).n)) (fun c => by simp only [symRun, hc]) rfl ?_ (.refl ..) hh (fun g => ih o1 (nx acc) H w b hs hS ha.nx g)
      simp only [Sem.run, hr, hb]
    · cases h1
  | setObj r ob k ih =>
    intro acc H w b hs hS ha h
    have hh := h
    obtain ⟨x, H', o, h1, ho⟩ := h.self
    simp only [symRun] at h1
    split at h1
    · rename_i i o1 hc
      split at h1
      case h_2 => cases h1
      rename_i hpend
      obtain ⟨o1', h2, rfl⟩ := pushO_some.1 h1
      obtain ⟨hH, hn, hreal⟩ := objAt_spec hc
      have hb := hs.holds _ _ hH hreal
      have hr : r = (b i).n := by simpa using (okL_cons.1 ho).1
      have hm := hs.mine i _ hH hreal
      have hlt := hs.lt hH hreal
      have hsat : Sat X B b (H.set i ob) { w with heap := w.heap.setIfInBounds r ob } := by
        refine hs.set_ hH hreal hpend (fun k' hk => ?_) ?_ (by simp)
        · simp [Array.getElem?_setIfInBounds_ne (show r ≠ k' from fun e => hk (e ▸ hr))]
        · rw [hr]; simp [hlt]
      have hch : Chg X B w { w with heap := w.heap.setIfInBounds r ob } := .setObj (by rw [hr]; exact hm) ob
      refine Went.step (tk := fun c => (.n r, .n (c i).n)) (w1 := { w with heap := w.heap.setIfInBounds r ob }) (fun c => by simp only [symRun, hc, hpend]) (by simp) ?_ hch hh (fun g => ih (nx acc) _ _ b hsat (hUp _ _ hS hch) ha.nx g)
      simp only [Sem.run, hr, hb]
    · cases h1
  | choose q k ih =>
    intro acc H w b hs hS ha h
    obtain ⟨x, H', o, h1, ho⟩ := h.self
    simp only [symRun] at h1
    split at h1
    · rename_i hq
      have := ih 0 acc H w b hs hS ha (fun c hc => by
        obtain ⟨x', H'', o', h3, ho'⟩ := h c hc
        simp only [symRun, hq] at h3
        exact ⟨_, _, _, h3, ho'⟩)
      obtain ⟨c, x2, H2, o2, w2, h3, h4, h5, h6, h7, h8, h9, h10⟩ := this
      exact ⟨c, x2, H2, o2, w2, h3, by simp only [symRun, hq]; exact h4, h5, by simp only [Sem.run, hq, if_true]; exact h6, h7, h8, h9, h10⟩
    · cases h1
  | sys cl k ih => intro acc H w b hs hS ha h; obtain ⟨x, H', o, h1, ho⟩ := h.self; simp [symRun] at h1
  | program k ih =>
    intro acc H w b hs hS ha h
    simp only [Goes, Went, symRun] at h ⊢
    exact ih P acc H w b hs hS ha h
  | mark m k ih =>
    intro acc H w b hs hS ha h
    simp only [Goes, Went, symRun] at h ⊢
    exact ih acc H w b hs hS ha h
  | halt hl => intro acc H w b hs hS ha h; obtain ⟨x, H', o, h1, ho⟩ := h.self; simp [symRun] at h1
end
end Go.Proofs.YtlpjdjbophcomaaDoor

