/-
  Closed runs reckoned by a program: values with blocks that have numbers of their own, trees that hold them, and what it means that a world holds what they say. Nothing of the program stands here.
-/
import Derived.StillTail
import Derived.Below
import Derived.Lib.Hide
import Derived.WalkKit
import Derived.LoopN
namespace Go.Proofs.YtoapdkcokemieaaGreat.Ev
open Go.RowKit
noncomputable section
set_option linter.unusedVariables false
set_option linter.unusedSimpArgs false
/-! ### Trees whose places are numbers -/
inductive Pth where
  | e
  | o (p : Pth)
  | i (p : Pth)
  deriving DecidableEq
def pthF (f n : Nat) : Pth := Nat.rec (motive := fun _ => Nat → Pth) (fun _ => .e) (fun _ ih n => Nat.rec (motive := fun _ => Pth) .e (fun m _ => Bool.rec (motive := fun _ => Pth) (.i (ih (Nat.div m 2))) (.o (ih (Nat.div m 2))) (Nat.beq (Nat.mod m 2) 0)) n) f n
theorem pthF_s (f m : Nat) : pthF (f + 1) (m + 1) = (match Nat.beq (Nat.mod m 2) 0 with
  | true => .o (pthF f (Nat.div m 2))
  | false => .i (pthF f (Nat.div m 2))) := by
  show (Bool.rec (motive := fun _ => Pth) _ _ _ : Pth) = _
  cases Nat.beq (Nat.mod m 2) 0 <;> rfl
/-- A number's way down the tree. -/
def pth (n : Nat) : Pth := pthF n n
def Pth.num : Pth → Nat
  | .e => 0
  | .o p => 2 * p.num + 1
  | .i p => 2 * p.num + 2
theorem pthF_num : ∀ (f n : Nat), n ≤ f → (pthF f n).num = n
  | 0, n, h => by have : n = 0 := by omega
                  subst this; rfl
  | f + 1, 0, h => rfl
  | f + 1, m + 1, h => by
    have ih := pthF_num f (m / 2) (by omega)
    have e : Nat.div m 2 = m / 2 := rfl
    have e2 : Nat.mod m 2 = m % 2 := rfl
    cases hb : Nat.beq (Nat.mod m 2) 0 with
    | true =>
      have := Nat.eq_of_beq_eq_true hb
      simp only [pthF_s, hb, Pth.num, e, ih]; rw [e2] at this; omega
    | false =>
      have := Nat.ne_of_beq_eq_false hb
      simp only [pthF_s, hb, Pth.num, e, ih]; rw [e2] at this; omega
theorem pth_num (n : Nat) : (pth n).num = n := pthF_num n n (Nat.le_refl n)
theorem pth_inj {n m : Nat} (h : pth n = pth m) : n = m := by rw [← pth_num n, ← pth_num m, h]
inductive Tr (α : Type) where
  | lf
  | nd (l : Tr α) (v : Option α) (r : Tr α)
def Tr.get {α : Type} (p : Pth) : Tr α → Option α := Pth.rec (motive := fun _ => Tr α → Option α)
  (fun t => Tr.rec (motive := fun _ => Option α) none (fun _ v _ _ _ => v) t)
  (fun _ ih t => Tr.rec (motive := fun _ => Option α) none (fun l _ _ _ _ => ih l) t)
  (fun _ ih t => Tr.rec (motive := fun _ => Option α) none (fun _ _ r _ _ => ih r) t) p
theorem Tr.get_e {α : Type} (l r : Tr α) (v : Option α) : Tr.get .e (.nd l v r) = v := rfl
theorem Tr.get_o {α : Type} (p : Pth) (l r : Tr α) (v : Option α) : Tr.get (.o p) (.nd l v r) = Tr.get p l := rfl
theorem Tr.get_i {α : Type} (p : Pth) (l r : Tr α) (v : Option α) : Tr.get (.i p) (.nd l v r) = Tr.get p r := rfl
theorem Tr.get_lf {α : Type} (p : Pth) : Tr.get p (.lf : Tr α) = none := by cases p <;> rfl
def Tr.set {α : Type} : Pth → Option α → Tr α → Tr α
  | .e, v, .lf => .nd .lf v .lf
  | .e, v, .nd l _ r => .nd l v r
  | .o p, v, .lf => .nd (Tr.set p v .lf) none .lf
  | .o p, v, .nd l x r => .nd (Tr.set p v l) x r
  | .i p, v, .lf => .nd .lf none (Tr.set p v .lf)
  | .i p, v, .nd l x r => .nd l x (Tr.set p v r)
/-- The same, for whoever goes on with the tree when it is whole. -/
def Tr.setK {α ρ : Type} (p : Pth) (v : Option α) : Tr α → (Tr α → ρ) → ρ := Pth.rec (motive := fun _ => Tr α → (Tr α → ρ) → ρ)
  (fun t => Tr.rec (motive := fun _ => (Tr α → ρ) → ρ) (fun k => k (.nd .lf v .lf)) (fun l _ r _ _ k => k (.nd l v r)) t)
  (fun _ ih t => Tr.rec (motive := fun _ => (Tr α → ρ) → ρ) (fun k => ih .lf fun l => k (.nd l none .lf)) (fun l x r _ _ k => ih l fun l => k (.nd l x r)) t)
  (fun _ ih t => Tr.rec (motive := fun _ => (Tr α → ρ) → ρ) (fun k => ih .lf fun r => k (.nd .lf none r)) (fun l x r _ _ k => ih r fun r => k (.nd l x r)) t) p
theorem Tr.setK_eq {α ρ : Type} : ∀ (p : Pth) (v : Option α) (t : Tr α) (k : Tr α → ρ), Tr.setK p v t k = k (Tr.set p v t)
  | .e, v, .lf, k => rfl
  | .e, v, .nd l _ r, k => rfl
  | .o p, v, .lf, k => Tr.setK_eq p v .lf _
  | .o p, v, .nd l x r, k => Tr.setK_eq p v l _
  | .i p, v, .lf, k => Tr.setK_eq p v .lf _
  | .i p, v, .nd l x r, k => Tr.setK_eq p v r _
theorem Tr.get_set {α : Type} : ∀ (p q : Pth) (v : Option α) (t : Tr α), Tr.get q (Tr.set p v t) = if p = q then v else Tr.get q t
  | .e, .e, v, .lf => by simp [Tr.set, Tr.get_e, Tr.get_o, Tr.get_i, Tr.get_lf]
  | .e, .e, v, .nd l x r => by simp [Tr.set, Tr.get_e, Tr.get_o, Tr.get_i, Tr.get_lf]
  | .e, .o q, v, .lf => by simp [Tr.set, Tr.get_e, Tr.get_o, Tr.get_i, Tr.get_lf]
  | .e, .o q, v, .nd l x r => by simp [Tr.set, Tr.get_e, Tr.get_o, Tr.get_i, Tr.get_lf]
  | .e, .i q, v, .lf => by simp [Tr.set, Tr.get_e, Tr.get_o, Tr.get_i, Tr.get_lf]
  | .e, .i q, v, .nd l x r => by simp [Tr.set, Tr.get_e, Tr.get_o, Tr.get_i, Tr.get_lf]
  | .o p, .e, v, .lf => by simp [Tr.set, Tr.get_e, Tr.get_o, Tr.get_i, Tr.get_lf]
  | .o p, .e, v, .nd l x r => by simp [Tr.set, Tr.get_e, Tr.get_o, Tr.get_i, Tr.get_lf]
  | .o p, .o q, v, .lf => by simp [Tr.set, Tr.get_e, Tr.get_o, Tr.get_i, Tr.get_lf, Tr.get_set p q, Tr.get_lf]
  | .o p, .o q, v, .nd l x r => by simp [Tr.set, Tr.get_e, Tr.get_o, Tr.get_i, Tr.get_lf, Tr.get_set p q]
  | .o p, .i q, v, .lf => by simp [Tr.set, Tr.get_e, Tr.get_o, Tr.get_i, Tr.get_lf]
  | .o p, .i q, v, .nd l x r => by simp [Tr.set, Tr.get_e, Tr.get_o, Tr.get_i, Tr.get_lf]
  | .i p, .e, v, .lf => by simp [Tr.set, Tr.get_e, Tr.get_o, Tr.get_i, Tr.get_lf]
  | .i p, .e, v, .nd l x r => by simp [Tr.set, Tr.get_e, Tr.get_o, Tr.get_i, Tr.get_lf]
  | .i p, .o q, v, .lf => by simp [Tr.set, Tr.get_e, Tr.get_o, Tr.get_i, Tr.get_lf]
  | .i p, .o q, v, .nd l x r => by simp [Tr.set, Tr.get_e, Tr.get_o, Tr.get_i, Tr.get_lf]
  | .i p, .i q, v, .lf => by simp [Tr.set, Tr.get_e, Tr.get_o, Tr.get_i, Tr.get_lf, Tr.get_set p q, Tr.get_lf]
  | .i p, .i q, v, .nd l x r => by simp [Tr.set, Tr.get_e, Tr.get_o, Tr.get_i, Tr.get_lf, Tr.get_set p q]
/-- What stands at number n. -/
def Tr.at {α : Type} (t : Tr α) (n : Nat) : Option α := Tr.get (pth n) t
def Tr.put {α : Type} (t : Tr α) (n : Nat) (v : Option α) : Tr α := Tr.set (pth n) v t
theorem Tr.at_put {α : Type} (t : Tr α) (n m : Nat) (v : Option α) : (t.put n v).at m = if n = m then v else t.at m := by
  unfold Tr.at Tr.put
  rw [Tr.get_set]
  by_cases h : n = m
  · simp [h]
  · rw [if_neg h, if_neg (fun e => h (pth_inj e))]
theorem Tr.at_lf {α : Type} (n : Nat) : (Tr.lf : Tr α).at n = none := Tr.get_lf _
/-- Values behind one another from number n on. -/
def Tr.fill {α : Type} (t : Tr α) : Nat → List α → Tr α
  | _, [] => t
  | n, v :: l => (t.put n (some v)).fill (n + 1) l
theorem Tr.at_fill {α : Type} : ∀ (l : List α) (t : Tr α) (n m : Nat), (t.fill n l).at m = if n ≤ m ∧ m < n + l.length then l[m - n]? else t.at m
  | [], t, n, m => by simp [Tr.fill]; omega
  | v :: l, t, n, m => by
    rw [Tr.fill, Tr.at_fill l, Tr.at_put]
    by_cases h1 : n + 1 ≤ m ∧ m < n + 1 + l.length
    · rw [if_pos h1, if_pos (by simp; omega)]
      rw [show m - n = (m - (n + 1)) + 1 from by omega, List.getElem?_cons_succ]
    · rw [if_neg h1]
      by_cases h2 : n = m
      · rw [if_pos h2, if_pos (by simp; omega)]; subst h2; simp
      · rw [if_neg h2, if_neg (by simp; omega)]
def Tr.fillK {α ρ : Type} : List α → Nat → Tr α → (Tr α → ρ) → ρ
  | [], _, t, k => k t
  | v :: l, n, t, k => Tr.setK (pth n) (some v) t fun t => Tr.fillK l (n + 1) t k
theorem Tr.fillK_eq {α ρ : Type} : ∀ (l : List α) (n : Nat) (t : Tr α) (k : Tr α → ρ), Tr.fillK l n t k = k (t.fill n l)
  | [], n, t, k => rfl
  | v :: l, n, t, k => by rw [Tr.fillK, Tr.setK_eq, Tr.fillK_eq l]; rfl
/-- Values that stand behind one another. -/
def Tr.run {α : Type} (t : Tr α) (n : Nat) : Nat → Option (List α)
  | 0 => some []
  | m + 1 => match t.at n with
    | some v => match Tr.run t (n + 1) m with
      | some l => some (v :: l)
      | none => none
    | none => none
theorem Tr.run_spec {α : Type} {t : Tr α} : ∀ {m n : Nat} {l : List α}, t.run n m = some l → l.length = m ∧ ∀ j, j < m → t.at (n + j) = l[j]?
  | 0, n, l, h => by simp [Tr.run] at h; subst h; simp
  | m + 1, n, l, h => by
    simp only [Tr.run] at h
    split at h
    · rename_i v hv
      split at h
      · rename_i l' hl
        simp at h; subst h
        obtain ⟨h1, h2⟩ := Tr.run_spec hl
        refine ⟨by simp [h1], fun j hj => ?_⟩
        cases j with
        | zero => simpa using hv
        | succ j => have := h2 j (by omega); rw [show n + (j + 1) = n + 1 + j from by omega, this]; simp
      · cases h
    · cases h
/-! ### Numbers that are letters -/
inductive SE where
  | c (n : Int)
  | v (i : Nat)
  | o (op : BinOp) (k : IntKind) (x y : SE)
  | w (k : IntKind) (x : SE)
/-- What an operation makes of two numbers of a kind. -/
def opI (op : BinOp) (k : IntKind) (x y : Int) : Int := match op with
  | .add => k.wrap (x + y)
  | .sub => k.wrap (x - y)
  | .mul => k.wrap (x * y)
  | .quo => k.wrap (x.tdiv y)
  | .rem => x.tmod y
  | .and => k.wrap ((BitVec.ofInt k.bits x &&& BitVec.ofInt k.bits y).toNat : Int)
  | .or => k.wrap ((BitVec.ofInt k.bits x ||| BitVec.ofInt k.bits y).toNat : Int)
  | .xor => k.wrap ((BitVec.ofInt k.bits x ^^^ BitVec.ofInt k.bits y).toNat : Int)
  | .andNot => k.wrap ((BitVec.ofInt k.bits x &&& ~~~ BitVec.ofInt k.bits y).toNat : Int)
  | .shl => k.wrap (x * 2 ^ (Min.min y.toNat k.bits))
  | .shr => x.fdiv (2 ^ (Min.min y.toNat k.bits))
  | _ => 0
def SE.ev (η : Nat → Int) : SE → Int
  | .c n => n
  | .v i => η i
  | .o op k x y => opI op k (x.ev η) (y.ev η)
  | .w k x => k.wrap (x.ev η)
def cmpI (op : BinOp) (x y : Int) : Bool := match op with
  | .eql => x == y
  | .neq => x != y
  | .lss => decide (x < y)
  | .leq => decide (x ≤ y)
  | .gtr => decide (x > y)
  | .geq => decide (x ≥ y)
  | _ => false
/-- A comparison of letters whose outcome is taken for granted. -/
structure SF where
  op : BinOp
  x : SE
  y : SE
  r : Bool
def SF.holds (η : Nat → Int) (f : SF) : Prop := cmpI f.op (f.x.ev η) (f.y.ev η) = f.r
class Fs where
  l : List SF
  vals : List (SE × Int)
  /-- letters that are called otherwise: e lies between the two, and is e' -/
  subs : List (SE × Int × Int × SE)
/-- What the letters are. -/
class En where
  η : Nat → Int
class FsOk [Fs] [En] : Prop where
  ok : ∀ f, f ∈ Fs.l → f.holds En.η
  okv : ∀ p, p ∈ Fs.vals → p.1.ev En.η = p.2
  oks : ∀ p, p ∈ Fs.subs → p.2.1 ≤ p.1.ev En.η ∧ p.1.ev En.η ≤ p.2.2.1 ∧ p.2.2.2.ev En.η = p.1.ev En.η
/-! ### Values -/
inductive PV where
  | bl (b : Bool)
  | it (k : IntKind) (n : Int)
  | st (s : List Nat)
  | pt (i off : Nat)
  | np
  | sl (i off len c : Nat) (g : Bool)
  | ns
  | mp (i : Nat)
  | nm
  | fn (f : Fn) (a c : List PV)
  | nf
  | ic (t : TypeId) (v : PV)
  | ni
  | ag (l : List PV)
  | tp (l : List PV)
  /-- a number that is a letter: its kind, its bounds -/
  | sy (k : IntKind) (lo hi : Int) (e : SE)
  /-- a string, byte by byte; some are letters -/
  | ss (l : List PV)
/-- Where a block with a number of its own lies: the world's block, the first of its cells that is meant, and the room behind those that are known. -/
structure Blk where
  n : Nat
  o : Nat
  room : Nat
/-- Which numbers have a block, and where it lies. -/
abbrev Bm := Nat → Option Blk
set_option linter.unusedSectionVars false
variable [Fs] [En] [FsOk]
def Bm.le (b c : Bm) : Prop := ∀ i x, b i = some x → c i = some x
def Bm.upd (b : Bm) (i : Nat) (x : Blk) : Bm := fun j => if i = j then some x else b j
theorem Bm.le_rfl (b : Bm) : b.le b := fun _ _ h => h
theorem Bm.le.trans {a b c : Bm} (h : a.le b) (k : b.le c) : a.le c := fun i x hx => k i x (h i x hx)
theorem Bm.le_upd {b : Bm} {i : Nat} (h : b i = none) (x : Blk) : b.le (b.upd i x) := by
  intro j y hy
  unfold Bm.upd
  by_cases e : i = j
  · subst e; rw [h] at hy; cases hy
  · rw [if_neg e]; exact hy
theorem Bm.upd_at (b : Bm) (i : Nat) (x : Blk) : b.upd i x i = some x := by simp [Bm.upd]
theorem Bm.upd_ne {b : Bm} {i j : Nat} (h : i ≠ j) (x : Blk) : b.upd i x j = b j := by simp [Bm.upd, h]
def bys (l : List Nat) : ByteArray := ⟨(l.map UInt8.ofNat).toArray⟩
mutual
inductive V (b : Bm) : PV → Value → Prop where
  | bl (x : Bool) : V b (.bl x) (.bool x)
  | it (k : IntKind) (n : Int) : V b (.it k n) (.int k n)
  | st (l : List Nat) : V b (.st l) (.string (bys l))
  | pt (i off : Nat) (x : Blk) : b i = some x → V b (.pt i off) (.pointer (some ⟨x.n, x.o + off, none⟩))
  | np : V b .np (.pointer none)
  | sl (i off len c : Nat) (g : Bool) (x : Blk) : b i = some x → V b (.sl i off len c g) (.slice (some ⟨x.n, x.o + off, none⟩) len (c + bif g then x.room else 0))
  | ns : V b .ns (.slice none 0 0)
  | mp (i : Nat) (x : Blk) : b i = some x → V b (.mp i) (.map (some x.n))
  | nm : V b .nm (.map none)
  | fn (f : Fn) (a c : List PV) (a' c' : List Value) : VL b a a' → VL b c c' → V b (.fn f a c) (.func f ⟨a'⟩ ⟨c'⟩)
  | nf : V b .nf .nilFunc
  | ic (t : TypeId) (v : PV) (v' : Value) : V b v v' → V b (.ic t v) (.iface t v')
  | ni : V b .ni .nilIface
  | ag (l : List PV) (l' : List Value) : VL b l l' → V b (.ag l) (.agg ⟨l'⟩)
  | tp (l : List PV) (l' : List Value) : VL b l l' → V b (.tp l) (.tuple ⟨l'⟩)
  | ss (l : List PV) (l' : List Value) (m : List Nat) : VL b l l' → l' = m.map (fun n => Value.int .u8 (Int.ofNat n)) → (∀ n, n ∈ m → n < 256) → V b (.ss l) (.string (bys m))
  | sy (k : IntKind) (lo hi : Int) (e : SE) : lo ≤ e.ev En.η → e.ev En.η ≤ hi → V b (.sy k lo hi e) (.int k (e.ev En.η))
inductive VL (b : Bm) : List PV → List Value → Prop where
  | nil : VL b [] []
  | cons (v : PV) (v' : Value) (l : List PV) (l' : List Value) : V b v v' → VL b l l' → VL b (v :: l) (v' :: l')
end
mutual
theorem V.mono {b c : Bm} (h : b.le c) {v : PV} {v' : Value} (hv : V b v v') : V c v v' := match hv with
  | .bl x => .bl x
  | .it k n => .it k n
  | .st l => .st l
  | .pt i off x hx => .pt i off x (h _ _ hx)
  | .np => .np
  | .sl i off len d g x hx => .sl i off len d g x (h _ _ hx)
  | .ns => .ns
  | .mp i x hx => .mp i x (h _ _ hx)
  | .nm => .nm
  | .fn f a d a' d' h1 h2 => .fn f a d a' d' (VL.mono h h1) (VL.mono h h2)
  | .nf => .nf
  | .ic t v v' h1 => .ic t v v' (V.mono h h1)
  | .ni => .ni
  | .ag l l' h1 => .ag l l' (VL.mono h h1)
  | .tp l l' h1 => .tp l l' (VL.mono h h1)
  | .sy k lo hi e h1 h2 => .sy k lo hi e h1 h2
  | .ss l l' m h1 h2 h3 => .ss l l' m (VL.mono h h1) h2 h3
theorem VL.mono {b c : Bm} (h : b.le c) {l : List PV} {l' : List Value} (hv : VL b l l') : VL c l l' := match hv with
  | .nil => .nil
  | .cons v v' l l' h1 h2 => .cons v v' l l' (V.mono h h1) (VL.mono h h2)
end
theorem VL.length {b : Bm} {l : List PV} {l' : List Value} (h : VL b l l') : l.length = l'.length := match h with
  | .nil => rfl
  | .cons _ _ l l' _ h2 => by simp [VL.length h2]
theorem VL.get {b : Bm} : ∀ {l : List PV} {l' : List Value}, VL b l l' → ∀ {j : Nat} {v : PV}, l[j]? = some v → ∃ v', l'[j]? = some v' ∧ V b v v'
  | _, _, .nil, j, v, h => by simp at h
  | _, _, .cons x x' l l' h1 h2, 0, v, h => by simp at h; subst h; exact ⟨x', by simp, h1⟩
  | _, _, .cons x x' l l' h1 h2, j + 1, v, h => by simp at h; obtain ⟨v', h3, h4⟩ := VL.get h2 h; exact ⟨v', by simpa using h3, h4⟩
theorem VL.of_get {b : Bm} : ∀ {l : List PV} {l' : List Value}, l.length = l'.length → (∀ (j : Nat) (v : PV) (v' : Value), l[j]? = some v → l'[j]? = some v' → V b v v') → VL b l l'
  | [], [], _, _ => .nil
  | [], _ :: _, h, _ => by simp at h
  | _ :: _, [], h, _ => by simp at h
  | v :: l, v' :: l', h, hg => .cons v v' l l' (hg 0 v v' (by simp) (by simp)) (VL.of_get (by simpa using h) (fun j x x' h1 h2 => hg (j + 1) x x' (by simpa using h1) (by simpa using h2)))
theorem VL.app {b : Bm} {l m : List PV} {l' m' : List Value} (h : VL b l l') (k : VL b m m') : VL b (l ++ m) (l' ++ m') := match h with
  | .nil => k
  | .cons v v' l l' h1 h2 => .cons v v' _ _ h1 (VL.app h2 k)
theorem VL.take {b : Bm} : ∀ {l : List PV} {l' : List Value}, VL b l l' → ∀ (n : Nat), VL b (l.take n) (l'.take n)
  | _, _, .nil, n => by simp; exact .nil
  | _, _, .cons v v' l l' h1 h2, 0 => by simp; exact .nil
  | _, _, .cons v v' l l' h1 h2, n + 1 => by simp; exact .cons _ _ _ _ h1 (VL.take h2 n)
theorem VL.drop {b : Bm} : ∀ {l : List PV} {l' : List Value}, VL b l l' → ∀ (n : Nat), VL b (l.drop n) (l'.drop n)
  | _, _, .nil, n => by simp; exact .nil
  | _, _, .cons v v' l l' h1 h2, 0 => by simp; exact .cons _ _ _ _ h1 h2
  | _, _, .cons v v' l l' h1 h2, n + 1 => by simp; exact VL.drop h2 n
/-! ### Blocks -/
inductive AObj where
  /-- a row of cells: those that are known, how many, their type, how many an element has, whether there may be room behind them -/
  | row (c : Tr PV) (n : Nat) (T : TypeId) (sz : Nat) (g : Bool)
  | mp (es : List (PV × PV × Nat)) (clk : Nat)
  | si (s : List Nat) (pos : Nat)
  /-- how far a map has been gone through -/
  | mi (m since : Nat) (seen : List Nat) (last : Nat)
  | mn
structure Hp where
  t : Tr AObj
  n : Nat
inductive EL (b : Bm) : List (PV × PV × Nat) → List MapEntry → Prop where
  | nil : EL b [] []
  | cons (k v : PV) (n : Nat) (k' v' : Value) (l : List (PV × PV × Nat)) (l' : List MapEntry) : V b k k' → V b v v' → EL b l l' → EL b ((k, v, n) :: l) (⟨k', v', n⟩ :: l')
theorem EL.mono {b c : Bm} (h : b.le c) {l : List (PV × PV × Nat)} {l' : List MapEntry} (hv : EL b l l') : EL c l l' := match hv with
  | .nil => .nil
  | .cons k v n k' v' l l' h1 h2 h3 => .cons k v n k' v' l l' (h1.mono h) (h2.mono h) (EL.mono h h3)
/-- What a block of the world holds, where it is said what it holds. -/
def OR (b : Bm) (x : Blk) : AObj → Obj → Prop
  | .row c n T sz g, ob => ∃ a fz, ob = .cells a T fz ∧ a.size = x.o + n + (bif g then x.room * sz else 0) ∧ (∀ k, n ≤ k → c.at k = none) ∧
      (∀ k v, c.at k = some v → ∃ v', a[x.o + k]? = some v' ∧ V b v v') ∧ fz = (0, 0)
  | .mp es clk, ob => ∃ es', ob = .map ⟨es'⟩ clk ∧ EL b es es'
  | .si s pos, ob => x.o = 0 ∧ ob = .stringIter (bys s) pos
  | .mi m since seen last, ob => x.o = 0 ∧ ∃ y, b m = some y ∧ ob = .mapIter (some y.n) since ⟨seen⟩ last
  | .mn, ob => x.o = 0 ∧ ob = .mapIter none 0 #[] 0
theorem OR.mono {b c : Bm} (h : b.le c) {x : Blk} {o : AObj} {ob : Obj} (ho : OR b x o ob) : OR c x o ob := by
  cases o with
  | row d n T sz g =>
    obtain ⟨a, fz, h1, h2, h4, h5, h6⟩ := ho
    exact ⟨a, fz, h1, h2, h4, fun k v hk => by obtain ⟨v', h7, h8⟩ := h5 k v hk; exact ⟨v', h7, h8.mono h⟩, h6⟩
  | mp es clk => obtain ⟨es', h1, h2⟩ := ho; exact ⟨es', h1, h2.mono h⟩
  | si s pos => exact ho
  | mi m since seen last => obtain ⟨h0, y, h1, h2⟩ := ho; exact ⟨h0, y, h _ _ h1, h2⟩
  | mn => exact ho
/-- What is foreign: blocks of the world; and where the numbers below n0 lie. -/
structure Fr where
  f : Nat → Prop
  n0 : Nat
  b0 : Bm
structure HR (F : Fr) (b : Bm) (H : Hp) (w : World) : Prop where
  fo : ∀ n, F.f n → n < w.heap.size
  nx : ∀ i, H.n ≤ i → b i = none
  low : F.n0 ≤ H.n
  ag : ∀ i, i < F.n0 → b i = F.b0 i
  live : ∀ i o, H.t.at i = some o → ∃ x ob, b i = some x ∧ w.heap[x.n]? = some ob ∧ OR b x o ob ∧ ¬ F.f x.n
  inj : ∀ i j o p x y, H.t.at i = some o → H.t.at j = some p → b i = some x → b j = some y → x.n = y.n → i = j
/-- Nothing that is foreign has changed. -/
structure Keep (F : Fr) (w w' : World) : Prop where
  os : w'.os = w.os
  tape : w'.tape = w.tape
  output : w'.output = w.output
  size : w.heap.size ≤ w'.heap.size
  block : ∀ k, F.f k → w'.heap[k]? = w.heap[k]?
theorem Keep.rfl' (F : Fr) (w : World) : Keep F w w := ⟨rfl, rfl, rfl, Nat.le_refl _, fun _ _ => rfl⟩
theorem Keep.trans {F : Fr} {a b c : World} (h : Keep F a b) (k : Keep F b c) : Keep F a c :=
  ⟨k.os.trans h.os, k.tape.trans h.tape, k.output.trans h.output, Nat.le_trans h.size k.size, fun i hi => (k.block i hi).trans (h.block i hi)⟩
theorem Keep.below {B n : Nat} {b : Bm} {w w' : World} (h : Keep ⟨fun k => k < B, n, b⟩ w w') : Below B w w' := ⟨h.os, h.tape, h.output, h.size, fun k hk => h.block k hk⟩
theorem Keep.drew (F : Fr) (w : World) : Keep F w w.drew := ⟨rfl, rfl, rfl, Nat.le_refl _, fun _ _ => rfl⟩
/-- What a frame's temporaries hold, as far as it is said. -/
def TR (b : Bm) (t : Tr PV) (tmps : Array Value) : Prop := ∀ d v, t.at d = some v → ∃ v', tmps[d]? = some v' ∧ V b v v'
theorem TR.mono {b c : Bm} (h : b.le c) {t : Tr PV} {a : Array Value} (ht : TR b t a) : TR c t a := fun d v hd => by
  obtain ⟨v', h1, h2⟩ := ht d v hd; exact ⟨v', h1, h2.mono h⟩
theorem undef_V (b : Bm) : V b (.tp []) undef := .tp [] [] .nil
theorem TR.put {b : Bm} {t : Tr PV} {a : Array Value} (h : TR b t a) {d : Nat} {v : PV} {v' : Value} (hd : d < a.size) (hv : V b v v') : TR b (t.put d (some v)) (a.setIfInBounds d v') := by
  intro e u he
  rw [Tr.at_put] at he
  by_cases hde : d = e
  · rw [if_pos hde] at he; simp at he; subst he; subst hde
    exact ⟨v', by simp [hd], hv⟩
  · rw [if_neg hde] at he
    obtain ⟨u', h1, h2⟩ := h e u he
    exact ⟨u', by rw [Array.getElem?_setIfInBounds_ne (by omega)]; exact h1, h2⟩
end
end Go.Proofs.YtoapdkcokemieaaGreat.Ev
