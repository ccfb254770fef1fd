/-
  What is read and not written: rows of an argument (or of a block of the call's own that a callee only reads); numbers of a sort. Nothing of the program stands here.
-/
import Derived.Test.YtlpjdjbophcomaaDoorRxZ
import Derived.Laws.StructEq
namespace Go.Proofs.YtlpjdjbophcomaaDoor
open Go.RowKit
set_option linter.unusedVariables false
set_option linter.unusedSimpArgs false
/-- A slice that is read alone: n elements, number k has the cells f (A k). -/
structure Ro {τ : Type} (S : World → Prop) (f : τ → List Value) (sz : Nat) (a : Option Addr) (p m n : Nat) (A : Nat → τ) : Prop where
  at_ : 0 < n → a = some ⟨p, m, none⟩
  cell : ∀ w, S w → ∀ k, k < n → ∀ j, j < sz → w.cell? ⟨p, m + k * sz + j, none⟩ = (f (A k))[j]?
theorem Ro.mono {τ : Type} {S S' : World → Prop} {f : τ → List Value} {sz : Nat} {a : Option Addr} {p m n : Nat} {A : Nat → τ} (h : Ro S f sz a p m n A) (hs : ∀ w, S' w → S w) : Ro S' f sz a p m n A := ⟨h.at_, fun w hS => h.cell w (hs w hS)⟩
theorem Ro.nil {τ : Type} {S : World → Prop} {f : τ → List Value} {sz : Nat} {a : Option Addr} {p m : Nat} {A : Nat → τ} : Ro S f sz a p m 0 A := ⟨fun h => absurd h (by omega), fun w _ k hk => absurd hk (by omega)⟩
def inR (x : Int) (n : Nat) : Bool := decide (0 ≤ x) && decide (x < n)
theorem inR_iff {x : Int} {n : Nat} : inR x n = true ↔ 0 ≤ x ∧ x < n := by simp [inR]
theorem inR_nat {x : Int} {n : Nat} (h : inR x n = true) : x.toNat < n := by
  have := inR_iff.1 h
  omega
theorem inR_lo {x : Int} {n : Nat} (h : inR x n = true) : 0 ≤ x := (inR_iff.1 h).1
theorem inR_hi {x : Int} {n : Nat} (h : inR x n = true) : x < n := (inR_iff.1 h).2
def ixRo (T : TypeId) (iv : Value) (a : Option Addr) (n p m k sz : Nat) : Q → Option (Value × Obl)
  | .idxA T' (.slice b n' c) i => some (.pointer (some ⟨p, m + k * sz, none⟩), [(.n T', .n T), (.v i, .v iv), (.n n', .n n), (.v (.pointer b), .v (.pointer a))])
  | _ => none
theorem ixRo_ok {P : Program} {S : World → Prop} {τ : Type} {f : τ → List Value} {T : TypeId} {kd : IntKind} {x : Int} {sz : Nat} {a : Option Addr} {p m n : Nat} {A : Nat → τ} (hT : P.underlying T = some (.slice (P.elem T))) (hs : ∀ w, (sizeOf (P.elem T)).run P w = .ok sz w)
    (hR : Ro S f sz a p m n A) (h : inR x n = true) :
    ∀ q v ob, ixRo T (.int kd x) a n p m x.toNat sz q = some (v, ob) → okL ob → ∀ w, q.sem.run P w = .ok (.value v) w := by
  intro q v ob hq ho w
  obtain ⟨h0, hN⟩ := inR_iff.1 h
  unfold ixRo at hq
  split at hq
  · rename_i T' b n' c i
    simp only [Option.some.injEq, Prod.mk.injEq] at hq
    obtain ⟨rfl, rfl⟩ := hq
    obtain ⟨h1, h2⟩ := okL_cons.1 ho
    obtain ⟨h3, h4⟩ := okL_cons.1 h2
    obtain ⟨h5, h6⟩ := okL_cons.1 h4
    have h7 := (okL_cons.1 h6).1
    simp only [Tok.n.injEq, Tok.v.injEq, Value.pointer.injEq] at h1 h3 h5 h7
    subst h1 h3 h5
    rw [hR.at_ (by omega)] at h7
    subst h7
    have := run_indexAt_slice (P := P) w T' ⟨p, m, none⟩ n' c kd x hT
    rw [if_pos ⟨h0, hN⟩, hs] at this
    simp only [Result.andThen_ok, add_zero'] at this
    simp [Q.sem, this]
  · cases hq
def oldG (p : Nat) : Nat → List Value → List Acc
  | _, [] => []
  | m, v :: r => .old ⟨p, m, none⟩ v :: oldG p (m + 1) r
theorem oldG_ok {S : World → Prop} {p : Nat} : ∀ {vs : List Value} {m : Nat}, (∀ w, S w → ∀ j, j < vs.length → w.cell? ⟨p, m + j, none⟩ = vs[j]?) → AccOk S (oldG p m vs)
  | [], _, _ => AccOk.nil
  | v :: r, m, h => fun x hx => by
    rcases List.mem_cons.1 hx with rfl | hx
    · intro w hw
      have := h w hw 0 (by simp)
      simpa using this
    · refine oldG_ok (vs := r) (m := m + 1) (fun w hw j hj => ?_) x hx
      have := h w hw (j + 1) (by simp; omega)
      rw [show m + 1 + j = m + (j + 1) by omega, this]
      simp
/-- The cells of element k, from its cell j on. -/
theorem accRo {S : World → Prop} {τ : Type} {f : τ → List Value} {sz : Nat} {a : Option Addr} {p m n : Nat} {A : Nat → τ} {k : Nat} (hR : Ro S f sz a p m n A) (hf : ∀ x, (f x).length = sz) (hk : k < n) (j : Nat) (vs : List Value) (hv : ((f (A k)).drop j).take vs.length = vs) :
    AccOk S (oldG p (m + k * sz + j) vs) := by
  refine oldG_ok fun w hw i hi => ?_
  have hlen : vs.length ≤ (f (A k)).length - j := by
    have := congrArg List.length hv
    rw [List.length_take, List.length_drop] at this
    omega
  rw [hf] at hlen
  rw [show m + k * sz + j + i = m + k * sz + (j + i) by omega, hR.cell w hw k hk (j + i) (by omega)]
  conv => rhs; rw [← hv]
  rw [List.getElem?_take_of_lt hi, List.getElem?_drop]
def conSp (f : FuncId) (args : Array Value) (V : Value) : Spc := ⟨fun _ => .call f args, fun _ => [], 0, .normal, fun _ => [V], fun _ => [], fun _ => []⟩
theorem ConG.sp {P : Program} {M : Nat → Prop} {B : Nat} {S : World → Prop} {f : FuncId} {args : Array Value} {V : Value} (h : ConG P S f args V) : SpcG P M B S (conSp f args V) := by
  intro ls w hlen hsat htb hS
  match ls, hlen with
  | [], _ =>
    obtain ⟨h1, h2⟩ := h w hS
    refine ⟨h1, h2.mono fun e w' ⟨h3, h4⟩ => ⟨V, h3, [], rfl, rfl, Chg.of_below h4 (Nat.le_refl _), fun _ => ⟨⟨fun j k o l x p hj => ?_, fun i j k k' o o' l l' x p p' hi => ?_⟩, fun j k o l x p hj => ?_⟩⟩⟩
    · simp [conSp] at hj
    · simp [conSp] at hi
    · simp [conSp] at hj
def ownSp {τ : Type} (f : τ → List Value) (N : Nat) (A : Nat → τ) (T : TypeId) (pad : L1 → List Value) (cap : L1 → Nat) (sp : Option Addr → Nat → Spc) (m : Nat) (ex : Ex) : Spc :=
  ⟨fun ls => (sp (some ⟨(lget ls 0).n, 0, none⟩) (cap (lget ls 0))).wh ls.tail, fun ls => .cells ⟨esG f N A ++ pad (lget ls 0)⟩ T :: (sp (some ⟨(lget ls 0).n, 0, none⟩) (cap (lget ls 0))).pre ls.tail, m, ex,
   fun ls => (sp (some ⟨(lget ls 0).n, 0, none⟩) (cap (lget ls 0))).val ls.tail, fun ls => .cells ⟨esG f N A ++ pad (lget ls 0)⟩ T :: (sp (some ⟨(lget ls 0).n, 0, none⟩) (cap (lget ls 0))).post ls.tail, fun ls => (sp (some ⟨(lget ls 0).n, 0, none⟩) (cap (lget ls 0))).new ls.tail⟩
/-- A callee that only reads a slice may be given one of the call's own. -/
theorem SpcG.own {P : Program} {M : Nat → Prop} {B : Nat} {S : World → Prop} (hU : Up M B S) {τ : Type} {f : τ → List Value} {sz : Nat} (hf : ∀ x, (f x).length = sz) (N : Nat) (A : Nat → τ) (T : TypeId) (pad : L1 → List Value) (cap : L1 → Nat) (sp : Option Addr → Nat → Spc) (m : Nat) (ex : Ex)
    (hm : ∀ a c, (sp a c).m = m) (he : ∀ a c, (sp a c).ex = ex) (hk : ∀ a c ls ms, ((sp a c).pre ls).length = ls.length → ms.length = m → keepsReal ((sp a c).pre ls) ((sp a c).post (ls ++ ms)) = true)
    (h : ∀ (M' : Nat → Prop) (B' : Nat) (S' : World → Prop) (a : Option Addr) (p q c : Nat), Up M' B' S' → (∀ w, S' w → S w) → Ro S' f sz a p q N A → SpcG P M' B' S' (sp a c)) :
    SpcG P M B S (ownSp f N A T pad cap sp m ex) := by
  intro ls w hlen hsat htb hS
  match ls, hlen with
  | l :: rest, hlen =>
    have hl0 : lget (l :: rest) 0 = l := rfl
    let a : Option Addr := some ⟨l.n, 0, none⟩
    let s := sp a (cap l)
    have hg : w.heap[l.n]? = some (.cells ⟨esG f N A ++ pad l⟩ T) := hsat.hold 0 0 _ l _ _ rfl rfl rfl
    have hlt : l.n < w.heap.size := (Array.getElem?_eq_some_iff.1 hg).1
    have hpl : (s.pre rest).length = rest.length := by simpa [ownSp, hl0] using hlen
    have hsr : SatF rest (s.pre rest) w := ⟨fun j k o x y p hj hx hr => hsat.hold (j + 1) k o x y p hj hx hr, fun i j k k' o o' x x' y p p' hi hx hr hj hx' hr' => by
      have := hsat.inj (i + 1) (j + 1) k k' o o' x x' y p p' hi hx hr hj hx' hr'
      exact ⟨by omega, this.2⟩⟩
    have hnt : ¬ touchF rest (s.pre rest) l.n := fun ⟨j, k, o, x, p, h1, h2, h3⟩ => by
      have := hsat.inj 0 (j + 1) 0 k _ o l x l.n _ p rfl rfl rfl h1 h2 h3
      omega
    have htr : ∀ k, touchF rest (s.pre rest) k → touchF (l :: rest) ((ownSp f N A T pad cap sp m ex).pre (l :: rest)) k := fun k ⟨j, i, o, x, p, h1, h2, h3⟩ => ⟨j + 1, i, o, x, p, h1, h2, h3⟩
    have hS' : Up (fun k => (M k ∨ B ≤ k) ∧ k ≠ l.n) w.heap.size (fun w' => S w' ∧ w'.heap[l.n]? = w.heap[l.n]? ∧ w.heap.size ≤ w'.heap.size) := by
      refine ⟨fun w1 h1 => h1.2.2, fun w1 w2 h1 hc => ⟨hU.chg (X := fun k => (M k ∨ B ≤ k) ∧ k ≠ l.n) (B' := w.heap.size) (fun k hk => hk.elim (fun h => h.1) (fun h => .inr (Nat.le_trans (hU.base w hS) h))) h1.1 hc, ?_, Nat.le_trans h1.2.2 hc.size⟩⟩
      exact (hc.block l.n hlt (fun h => h.2 rfl)).trans h1.2.1
    have hRo : Ro (fun w' => S w' ∧ w'.heap[l.n]? = w.heap[l.n]? ∧ w.heap.size ≤ w'.heap.size) f sz a l.n 0 N A := by
      refine ⟨fun _ => rfl, fun w1 h1 k hk j hj => ?_⟩
      have hg1 : w1.heap[l.n]? = some (.cells ⟨esG f N A ++ pad l⟩ T) := h1.2.1.trans hg
      rw [cell_of_cells hg1, List.getElem?_toArray, Nat.zero_add, List.getElem?_append_left ?_, esG_get hf hj hk]
      rw [esG_len hf]
      have := Nat.mul_le_mul_right sz (show k + 1 ≤ N by omega)
      rw [Nat.succ_mul] at this
      omega
    have hd := h _ _ _ a l.n 0 (cap l) hS' (fun w1 h1 => h1.1) hRo rest w hpl hsr (fun k hk => .inl ⟨htb k (htr k hk), fun e => hnt (e ▸ hk)⟩) ⟨hS, rfl, Nat.le_refl _⟩
    show Does P (s.wh rest) ex w _
    rw [← he a (cap l)]
    refine hd.mono fun vs w' ⟨ms, hms, hv, hch, hfs⟩ => ?_
    obtain ⟨hsl, hnew⟩ := hfs (.inl rfl)
    have hmm : ms.length = m := hms.trans (hm _ _)
    have hkeep : w'.heap[l.n]? = some (.cells ⟨esG f N A ++ pad l⟩ T) := (hch.block l.n hlt hnt).trans hg
    have hother : ∀ (j k : Nat) (o : Obj) (x : L1) (y : Nat) (p : Obj), (s.post (rest ++ ms) ++ s.new (rest ++ ms))[j]? = some o → (rest ++ ms)[j]? = some x → Go.Proofs.YtlpjdjbophcomaaDoor.own o x k = some (y, p) → y ≠ l.n := fun j k o x y p hj hx hr e => by
      rcases hnew j k o x y p hj hx hr with h1 | h1
      · omega
      · exact hnt (e ▸ h1)
    have hown : ∀ (k : Nat) (o : Obj) (x : L1) (y : Nat) (p : Obj), (((ownSp f N A T pad cap sp m ex).post (l :: rest ++ ms)) ++ (ownSp f N A T pad cap sp m ex).new (l :: rest ++ ms))[0]? = some o → (l :: rest ++ ms)[0]? = some x → Go.Proofs.YtlpjdjbophcomaaDoor.own o x k = some (y, p) → k = 0 ∧ y = l.n ∧ p = .cells ⟨esG f N A ++ pad l⟩ T := fun k o x y p hj hx hr => by
      obtain rfl : Obj.cells ⟨esG f N A ++ pad l⟩ T = o := by simpa [ownSp, lget] using hj
      obtain rfl : l = x := by simpa using hx
      obtain ⟨h1, h2, h3, _⟩ := own_plain (rfl : isPend (.cells ⟨esG f N A ++ pad l⟩ T) = false) hr
      exact ⟨h1, h2, h3⟩
    refine ⟨ms, hmm, hv, ⟨hch.os, hch.tape, hch.output, hch.size, fun k hk ht => hch.block k hk fun h1 => ht (htr k h1)⟩, fun _ => ⟨⟨fun j k o x y p hj hx hr => ?_, fun i j k k' o o' x x' y p p' hi hx hr hj hx' hr' => ?_⟩, fun j k o x y p hj hx hr => ?_⟩⟩
    · cases j with
      | zero =>
        obtain ⟨h1, h2, h3⟩ := hown k o x y p hj hx hr
        rw [h2, h3]; exact hkeep
      | succ j => exact hsl.hold j k o x y p hj hx hr
    · cases i with
      | zero =>
        obtain ⟨h1, h2, h3⟩ := hown k o x y p hi hx hr
        cases j with
        | zero =>
          obtain ⟨h1', _, _⟩ := hown k' o' x' y p' hj hx' hr'
          exact ⟨rfl, by omega⟩
        | succ j => exact absurd h2 (hother j k' o' x' y p' hj hx' hr')
      | succ i =>
        cases j with
        | zero =>
          obtain ⟨_, h2, _⟩ := hown k' o' x' y p' hj hx' hr'
          exact absurd h2 (hother i k o x y p hi hx hr)
        | succ j =>
          obtain ⟨h1, h2⟩ := hsl.inj i j k k' o o' x x' y p p' hi hx hr hj hx' hr'
          exact ⟨by omega, h2⟩
    · cases j with
      | zero =>
        obtain ⟨_, h2, _⟩ := hown k o x y p hj hx hr
        exact .inr ⟨0, 0, _, l, _, rfl, rfl, by rw [h2]; rfl⟩
      | succ j =>
        rcases hnew j k o x y p hj hx hr with h1 | h1
        · exact .inl h1
        · exact .inr (htr _ h1)
/-! ### Cells -/
abbrev cZ (x : Int) : List Value := [.int .i64 x]
abbrev cB (x : Bool) : List Value := [.bool x]
theorem cZ_len (x : Int) : (cZ x).length = 1 := rfl
theorem cB_len (x : Bool) : (cB x).length = 1 := rfl
theorem cZ_one (x : Int) : ((cZ x).all fun u => u.oneCell') = true := rfl
theorem cB_one (x : Bool) : ((cB x).all fun u => u.oneCell') = true := rfl
/-! ### Numbers of a sort: int is an integer -/
theorem z_wrap {x : Int} (h0 : -9223372036854775808 ≤ x) (h1 : x < 9223372036854775808) : IntKind.i64.wrap x = x := by
  rw [i64_wrap]; unfold ii; rw [BitVec.toInt_ofInt, Int.bmod]; split <;> omega
/-! ### Equality of structs -/
def fl (P : Program) (T : TypeId) (i : Nat) : Field := (P.fieldsOf T).toList.getD i default
section
variable {P : Program} {w : World} {d : Nat} {t : TypeId}
theorem eq_z {k k' : IntKind} (x y : Int) (h : P.underlying t = some (.int k')) : (Op.equalIn (d + 1) t (.int k x) (.int k y)).run P w = .ok (x == y) w := run_equalIn_int w d t k k' x y h
theorem eq_s (x y : ByteArray) (h : P.underlying t = some .string) : (Op.equalIn (d + 1) t (.string x) (.string y)).run P w = .ok (x == y) w := by rw [run_equalIn_string w d t x y h, beq_toListBytes]
theorem eqf_nil (xs ys : Array Value) : (Op.eqFields d xs ys []).run P w = .ok true w := rfl
theorem eqf_cons {xs ys : Array Value} {f : Field} {fs : List Field} {a b : Value} {r R : Bool} (hn : (f.name == "_") = false) (ha : (part f.type xs f.offset).run P w = .ok a w) (hb : (part f.type ys f.offset).run P w = .ok b w)
    (he : (Op.equalIn d f.type a b).run P w = .ok r w) (hr : (Op.eqFields d xs ys fs).run P w = .ok R w) : (Op.eqFields d xs ys (f :: fs)).run P w = .ok (r && R) w := by
  have hn' : f.name ≠ "_" := by simpa using hn
  simp only [Op.eqFields, if_pos hn', Sem.run_bind, ha, hb, he, Result.andThen_ok, Sem.run_ite]
  cases r
  · simp
  · simp [hr]
theorem eqf_last {xs ys : Array Value} {f : Field} {a b : Value} {r : Bool} (hn : (f.name == "_") = false) (ha : (part f.type xs f.offset).run P w = .ok a w) (hb : (part f.type ys f.offset).run P w = .ok b w)
    (he : (Op.equalIn d f.type a b).run P w = .ok r w) : (Op.eqFields d xs ys [f]).run P w = .ok r w := by
  have := eqf_cons hn ha hb he (eqf_nil xs ys)
  simpa using this
theorem eqi_of {xs ys : Array Value} {r : Bool} {l : List Field} (ht : P.underlying t = some (.struct (P.fieldsOf t))) (hp : P.stoodInHeld t = false) (hl : (P.fieldsOf t).toList = l) (h : (Op.eqFields d xs ys l).run P w = .ok r w) : (Op.equalIn (d + 1) t (.agg xs) (.agg ys)).run P w = .ok r w := by
  rw [run_equalIn_struct w d t xs ys ht hp, hl]; exact h
end
end Go.Proofs.YtlpjdjbophcomaaDoor

