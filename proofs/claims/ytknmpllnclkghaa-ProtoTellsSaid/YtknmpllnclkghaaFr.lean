/-
  Regions that draw their order: calls that make memory, reads and arithmetic in any order, then an alloc perhaps, then a row in one forced order. One walk in the text's order serves. Nothing of the program stands here.
-/
import Derived.StillTail
import Derived.Below
import Derived.Lib.Hide
import Derived.WalkKit
namespace Go.Proofs.Ytknmpllnclkghaa
open Go.RowKit
set_option linter.unusedVariables false
set_option linter.unusedSimpArgs false
section
variable {P : Program} {ops : Array Oper} {md : Region.Mode} {S : World → Prop}
/-- In every world that meets S the operation, run, leaves v; what was there stays. -/
def RunsTo (P : Program) (o : Oper) (a : Act) (w : World) (v : Value) : Prop :=
  match (execOp a.eval o).run P w with
  | .ok (.value u) w' => w' = w ∧ u = v
  | .ok .skip w' => w' = w ∧ undef = v
  | .ok (.enter f args) w' => w' = w ∧ Calls P f args w (fun e w'' => e = .returned v ∧ Below w.heap.size w w'')
  | _ => False
def Gives (P : Program) (ops : Array Oper) (S : World → Prop) (o : Oper) (v : Value) (a : Act) : Prop :=
  (Region.wanted o (yielded ops a.tmps) = true ∧ ∀ w, S w → RunsTo P o a w v) ∨ (Region.wanted o (yielded ops a.tmps) = false ∧ v = undef)
theorem Gives.of_same {o : Oper} {v : Value} {a a' : Act} (h : Gives P ops S o v a) (he : execOp a'.eval o = execOp a.eval o)
    (hw : Region.wanted o (yielded ops a'.tmps) = Region.wanted o (yielded ops a.tmps)) : Gives P ops S o v a' := by
  unfold Gives RunsTo at *
  rw [he, hw]
  exact h
/-- S is kept where nothing that was there changes. -/
def Up (S : World → Prop) : Prop := ∀ w w', S w → Below w.heap.size w w' → S w'
theorem Gives.op {i : Nat} {o : Oper} {v : Value} {a : Act} {w : World} {Q : Exit → Act → World → Prop} {K : Act → World → Prop} (hi : ops[i]? = some o) (h : Gives P ops S o v a) (hS : S w)
    (hK : ∀ w', Below w.heap.size w w' → K (a.put o.dst v) w') : wpOp P ops Q i K a w := by
  unfold wpOp
  simp only [hi]
  rcases h with ⟨hw, hr⟩ | ⟨hw, rfl⟩
  · simp only [hw, if_true]
    refine .inl ?_
    have h := hr w hS
    unfold RunsTo at h
    unfold Oper.wp
    generalize (execOp a.eval o).run P w = r at *
    cases r with
    | ok n w' =>
      cases n <;> simp only [Oper.upon] at h ⊢
      case value u => obtain ⟨rfl, rfl⟩ := h; exact hK _ (Below.refl _ _)
      case skip => obtain ⟨rfl, rfl⟩ := h; exact hK _ (Below.refl _ _)
      case enter f args =>
        obtain ⟨rfl, hc⟩ := h
        exact hc.mono fun e w'' ⟨he, hb⟩ => by subst he; exact hK _ hb
    | halt x w' => exact h.elim
  · simp only [hw, Bool.false_eq_true, if_false]; exact hK _ (Below.refl _ _)
/-- The first n operations, in any order, with what each leaves. -/
def wpX (P : Program) (md : Region.Mode) (ops : Array Oper) (S : World → Prop) (n : Nat) (L : Act → Prop) : Nat → Array Bool → Act → Prop
  | 0, listed, a => (∀ i, i < n → listed.getD i false = true) ∧ L a
  | f + 1, listed, a => (∃ i, i < n ∧ i ∈ Region.ready md ops listed) ∧ ∀ i ∈ Region.ready md ops listed, i < n →
      ∃ o v, ops[i]? = some o ∧ Gives P ops S o v a ∧ wpX P md ops S n L f (listed.setIfInBounds i true) (a.put o.dst v)
theorem wpX_first {n i : Nat} {oi : Oper} {v : Value} {L : Act → Prop} (hi : ops[i]? = some oi) (hsel : ∀ (j : Nat) (o : Oper) cs b, ops[j]? = some o → o.op ≠ .select cs b) (hin : i < n) :
    ∀ (f : Nat) (listed : Array Bool) (a : Act), listed.size = ops.size →
      (∀ j oj, ops[j]? = some oj → j ≠ i → listed.getD j true = false → (∀ e ∈ oj.after, Region.binds md e = true → e.on ≠ i) → oi.apart ops oj = true) →
      i ∈ Region.ready md ops listed → Gives P ops S oi v a →
      wpX P md ops S n L f (listed.setIfInBounds i true) (a.put oi.dst v) → wpX P md ops S n L (f + 1) listed a := by
  intro f
  induction f with
  | zero =>
    intro listed a hz _ hr hy H
    refine ⟨⟨i, hin, hr⟩, fun j hj hjn => ?_⟩
    by_cases hji : j = i
    · subst hji; exact ⟨oi, v, hi, hy, H⟩
    · have h1 := H.1 j hjn
      rw [getD_set_ne false (Ne.symm hji)] at h1
      obtain ⟨h0, oj, hoj, _⟩ := mem_ready.1 hj
      rw [getD_both h0] at h1; cases h1
  | succ f ih =>
    intro listed a hz hfree hr hy H
    refine ⟨⟨i, hin, hr⟩, fun j hj hjn => ?_⟩
    by_cases hji : j = i
    · subst hji; exact ⟨oi, v, hi, hy, H⟩
    · obtain ⟨oj', vj, hoj', hgj, hK⟩ := H.2 j (ready_mono hj hji) hjn
      obtain ⟨hjun, oj, hoj, hall⟩ := mem_ready.1 hj
      obtain rfl : oj = oj' := Option.some.inj (hoj.symm.trans hoj')
      have hnot : ∀ e ∈ oj.after, Region.binds md e = true → e.on ≠ i := fun e he hb heq => by
        have h1 := hall e he hb
        rw [heq, getD_both (mem_ready.1 hr).1] at h1
        cases h1
      have hap := hfree j oj hoj hji hjun hnot
      obtain ⟨h1, h2, h3⟩ := Oper.apart_spec hap
      have gj : Gives P ops S oj vj a := hgj.of_same (execOp_put oj (fun cs b => hsel j oj cs b hoj) a oi.dst v h1).symm (wanted_put oj a oi.dst v h1).symm
      refine ⟨oj, vj, hoj, gj, ih (listed.setIfInBounds j true) (a.put oj.dst vj) (by simpa using hz) (fun k ok hk hki hun hno => ?_) (ready_mono hr (Ne.symm hji)) ?_ ?_⟩
      · refine hfree k ok hk hki ?_ hno
        by_cases hjk : j = k
        · subst hjk; exact hjun
        · rw [getD_set_ne true hjk] at hun; exact hun
      · exact hy.of_same (execOp_put oi (fun cs b => hsel i oi cs b hi) a oj.dst vj h3) (wanted_put oi a oj.dst vj h3)
      · rw [Array.setIfInBounds_comm _ _ hji, ← Act.put_comm a v vj h2]
        exact hK
/-- The text's order. -/
def wpG (P : Program) (ops : Array Oper) (S : World → Prop) (L : Act → Prop) : List Oper → Act → Prop
  | [], a => L a
  | o :: rest, a => ∃ v, Gives P ops S o v a ∧ wpG P ops S L rest (a.put o.dst v)
def headB (md : Region.Mode) (ops : Array Oper) : Nat → Nat → Array Bool → Bool
  | 0, k, listed => (List.range k).all fun i => listed.getD i false
  | f + 1, k, listed => (Region.ready md ops listed).contains k && Region.free md ops listed k && headB md ops f (k + 1) (listed.setIfInBounds k true)
theorem wpX_lex {n : Nat} {L : Act → Prop} (hsel : Region.noSelect ops = true) :
    ∀ (l : List Oper) (k : Nat) (listed : Array Bool) (a : Act), (∀ j, j < l.length → l[j]? = ops[k + j]?) → k + l.length = n → listed.size = ops.size →
    headB md ops l.length k listed = true → wpG P ops S L l a → wpX P md ops S n L l.length listed a
  | [], k, listed, a, _, hk, _, hB, h => by
    have : k = n := by simpa using hk
    subst this
    refine ⟨fun i hi => ?_, h⟩
    have := List.all_eq_true.1 hB i (List.mem_range.2 hi)
    exact this
  | o :: l, k, listed, a, hl, hk, hz, hB, h => by
    have h0 : ops[k]? = some o := by simpa using (hl 0 (by simp)).symm
    simp only [List.length_cons, headB, Bool.and_eq_true] at hB
    obtain ⟨⟨hr, hf⟩, hB'⟩ := hB
    obtain ⟨v, hy, hK⟩ := h
    exact wpX_first h0 (Region.noSelect_spec hsel) (by simp only [List.length_cons] at hk; omega) l.length listed a hz (Region.free_spec h0 hf) (by simpa using hr) hy
      (wpX_lex hsel l (k + 1) _ _ (fun j hj => by have := hl (j + 1) (by simp; omega); simpa [Nat.add_assoc, Nat.add_comm 1 j] using this) (by simp only [List.length_cons] at hk; omega) (by simpa using hz) hB' hK)
/-! ### No alloc -/
/-- Nothing behind the head comes up while one of the head is out. -/
def Waits (md : Region.Mode) (ops : Array Oper) (n : Nat) : Prop :=
  ∀ listed, HeadInv md ops n listed → ∀ i, i < n → listed.getD i true = false → ∀ t, n ≤ t → t ∉ Region.ready md ops listed
theorem sound0 {n g : Nat} {L : Act → Prop} {Q : Exit → Act → World → Prop} (hU : Up S) (hw : Waits md ops n) (hn : n ≤ ops.size)
    (hL : ∀ listed a, HeadInv md ops n listed → (∀ i, i < n → listed.getD i false = true) → L a → ∀ w, S w → wpAny P md ops Q g listed a w) :
    ∀ (f : Nat) (listed : Array Bool) (a : Act), HeadInv md ops n listed → wpX P md ops S n L f listed a → ∀ w, S w → wpAny P md ops Q (f + g) listed a w
  | 0, listed, a, inv, h => fun w hS => by rw [Nat.zero_add]; exact hL listed a inv h.1 h.2 w hS
  | f + 1, listed, a, inv, h => fun w hS => by
    rw [show f + 1 + g = (f + g) + 1 by omega]
    obtain ⟨⟨i0, hi0, hr0⟩, h⟩ := h
    refine ⟨fun h0 => (by rw [h0] at hr0; cases hr0), fun i hi => ?_⟩
    have hin : i < n := by
      rcases Nat.lt_or_ge i n with h' | h'
      · exact h'
      · exact absurd hi (hw listed inv i0 hi0 (mem_ready.1 hr0).1 i h')
    obtain ⟨o, v, ho, hg, hX⟩ := h i hi hin
    exact hg.op ho hS fun w' hb => sound0 hU hw hn hL f _ _ (inv.set hi hin) hX w' (hU w w' hS hb)
/-! ### One alloc, number n, behind the head -/
def Makes (P : Program) (S : World → Prop) (o : Oper) (obj : Obj) (a : Act) : Prop :=
  ∀ w, S w → (execOp a.eval o).run P w = .ok (.value (.pointer (some ⟨w.heap.size, 0, none⟩))) (w.alloc obj)
/-- No operation of the head waits for number n or touches its temporary; number n waits for nobody. -/
def looseB (md : Region.Mode) (ops : Array Oper) (n : Nat) : Bool :=
  match ops[n]? with
  | none => false
  | some on => on.after.isEmpty && on.guard.isNone && (List.range n).all fun i =>
      match ops[i]? with
      | none => false
      | some oi => (oi.after.all fun e => !(Region.binds md e) || e.on != n) && on.apart ops oi
theorem looseB_spec {n : Nat} (h : looseB md ops n = true) : ∃ on, ops[n]? = some on ∧ on.after = #[] ∧ on.guard = none ∧ ∀ i, i < n → ∃ oi, ops[i]? = some oi ∧ (∀ e ∈ oi.after, Region.binds md e = true → e.on ≠ n) ∧ on.apart ops oi = true := by
  unfold looseB at h
  split at h
  · cases h
  · rename_i on hon
    simp only [Bool.and_eq_true, Array.isEmpty_iff, Option.isNone_iff_eq_none] at h
    refine ⟨on, hon, h.1.1, h.1.2, fun i hi => ?_⟩
    have h1 := List.all_eq_true.1 h.2 i (List.mem_range.2 hi)
    split at h1
    · cases h1
    · rename_i oi hoi
      simp only [Bool.and_eq_true] at h1
      refine ⟨oi, hoi, fun e he hb hn => ?_, h1.2⟩
      have h2 := Array.all_eq_true'.1 h1.1 e he
      rw [hb, hn] at h2
      simp at h2
theorem sound1 {n g B : Nat} {on : Oper} {obj : Obj} {L : Act → Prop} {Q : Exit → Act → World → Prop} (hU : Up S) (hw : Waits md ops (n + 1)) (hon : ops[n]? = some on)
    (hap : ∀ i, i < n → ∃ oi, ops[i]? = some oi ∧ (∀ e ∈ oi.after, Region.binds md e = true → e.on ≠ n) ∧ on.apart ops oi = true)
    (hsel : ∀ (j : Nat) (o : Oper) cs b, ops[j]? = some o → o.op ≠ .select cs b)
    (hL : ∀ listed a, HeadInv md ops (n + 1) listed → (∀ i, i < n + 1 → listed.getD i false = true) → L a → ∀ (b : Nat) (w : World), S w → B ≤ b → w.heap[b]? = some obj → wpAny P md ops Q g listed (a.put on.dst (.pointer (some ⟨b, 0, none⟩))) w) :
    ∀ (f : Nat) (listed : Array Bool) (a : Act), HeadInv md ops (n + 1) listed → n ∈ Region.ready md ops listed → wpX P md ops S n L f listed a →
      ∀ (b : Nat) (w : World), S w → B ≤ b → w.heap[b]? = some obj → wpAny P md ops Q (f + g) (listed.setIfInBounds n true) (a.put on.dst (.pointer (some ⟨b, 0, none⟩))) w
  | 0, listed, a, inv, hrn, h => fun b w hS hB hb => by
    rw [Nat.zero_add]
    refine hL _ a (inv.set hrn (by omega)) (fun i hi => ?_) h.2 b w hS hB hb
    by_cases hin : n = i
    · subst hin
      have hlt : n < listed.size := by rw [inv.size]; exact (Array.getElem?_eq_some_iff.1 hon).1
      simp [hlt]
    · rw [getD_set_ne false hin]; exact h.1 i (by omega)
  | f + 1, listed, a, inv, hrn, h => fun b w hS hB hb => by
    rw [show f + 1 + g = (f + g) + 1 by omega]
    obtain ⟨⟨i0, hi0, hr0⟩, h⟩ := h
    have inv' := inv.set hrn (by omega)
    have hr0' := ready_mono hr0 (show i0 ≠ n by omega)
    refine ⟨fun h0 => (by rw [h0] at hr0'; cases hr0'), fun i hi => ?_⟩
    have hin : i < n := by
      rcases Nat.lt_trichotomy i n with h' | h' | h'
      · exact h'
      · subst h'
        have hlt : i < listed.size := by rw [inv.size]; exact (Array.getElem?_eq_some_iff.1 hon).1
        have := (mem_ready.1 hi).1
        simp [hlt] at this
      · exact absurd hi (hw _ inv' i0 (by omega) (mem_ready.1 hr0').1 i (by omega))
    have hri : i ∈ Region.ready md ops listed := by
      obtain ⟨h1, oi, hoi, hall⟩ := mem_ready.1 hi
      obtain ⟨oi', hoi', hno, _⟩ := hap i hin
      obtain rfl : oi = oi' := Option.some.inj (hoi.symm.trans hoi')
      refine mem_ready.2 ⟨by rw [getD_set_ne true (show n ≠ i by omega)] at h1; exact h1, oi, hoi, fun e he hbd => ?_⟩
      have := hall e he hbd
      rw [getD_set_ne false (Ne.symm (hno e he hbd))] at this
      exact this
    obtain ⟨o, v, ho, hg, hX⟩ := h i hri hin
    obtain ⟨oi', hoi', _, hapi⟩ := hap i hin
    obtain rfl : o = oi' := Option.some.inj (ho.symm.trans hoi')
    obtain ⟨h1, h2, h3⟩ := Oper.apart_spec hapi
    have hg' : Gives P ops S o v (a.put on.dst (.pointer (some ⟨b, 0, none⟩))) := hg.of_same (execOp_put o (fun cs b => hsel i o cs b ho) a on.dst _ h1) (wanted_put o a on.dst _ h1)
    refine hg'.op ho hS fun w' hbl => ?_
    have hlt : b < w.heap.size := (Array.getElem?_eq_some_iff.1 hb).1
    have ih := sound1 hU hw hon hap hsel hL f _ _ (inv.set hri (by omega)) (ready_mono hrn (show n ≠ i by omega)) hX b w' (hU w w' hS hbl) hB ((hbl.block b hlt).trans hb)
    rw [Array.setIfInBounds_comm _ _ (show n ≠ i by omega), Act.put_comm a _ _ h2]
    exact ih
theorem sound2 {n g B : Nat} {on : Oper} {obj : Obj} {L : Act → Prop} {Q : Exit → Act → World → Prop} (hU : Up S) (hw : Waits md ops (n + 1)) (hon : ops[n]? = some on) (haf : on.after = #[]) (hgu : on.guard = none)
    (hmk : ∀ a, Makes P S on obj a) (hB : ∀ w, S w → B ≤ w.heap.size)
    (hap : ∀ i, i < n → ∃ oi, ops[i]? = some oi ∧ (∀ e ∈ oi.after, Region.binds md e = true → e.on ≠ n) ∧ on.apart ops oi = true)
    (hsel : ∀ (j : Nat) (o : Oper) cs b, ops[j]? = some o → o.op ≠ .select cs b)
    (hL : ∀ listed a, HeadInv md ops (n + 1) listed → (∀ i, i < n + 1 → listed.getD i false = true) → L a → ∀ (b : Nat) (w : World), S w → B ≤ b → w.heap[b]? = some obj → wpAny P md ops Q g listed (a.put on.dst (.pointer (some ⟨b, 0, none⟩))) w) :
    ∀ (f : Nat) (listed : Array Bool) (a : Act), HeadInv md ops (n + 1) listed → listed.getD n true = false → wpX P md ops S n L f listed a →
      ∀ w, S w → wpAny P md ops Q (f + 1 + g) listed a w := by
  intro f
  induction f with
  | zero =>
    intro listed a inv hun h w hS
    have hrn : n ∈ Region.ready md ops listed := mem_ready.2 ⟨hun, on, hon, fun e he => by rw [haf] at he; simp at he⟩
    rw [show 0 + 1 + g = (0 + g) + 1 by omega]
    refine ⟨fun h0 => (by rw [h0] at hrn; cases hrn), fun i hi => ?_⟩
    have hin : i = n := by
      rcases Nat.lt_trichotomy i n with h' | h' | h'
      · have h1 := h.1 i h'
        rw [getD_both (mem_ready.1 hi).1] at h1; cases h1
      · exact h'
      · exact absurd hi (hw _ inv n (by omega) hun i (by omega))
    subst hin
    unfold wpOp
    simp only [hon]
    have hwt : Region.wanted on (yielded ops a.tmps) = true := by unfold Region.wanted; rw [hgu]
    simp only [hwt, if_true]
    refine .inl ?_
    unfold Oper.wp
    rw [hmk a w hS]
    simp only [Oper.upon]
    exact sound1 hU hw hon hap hsel hL 0 listed a inv hrn h w.heap.size (w.alloc obj) (hU _ _ hS ((Below.refl _ _).alloc (Nat.le_refl _) _)) (hB w hS) (heap_alloc_new w obj)
  | succ f ih =>
    intro listed a inv hun h w hS
    have hrn : n ∈ Region.ready md ops listed := mem_ready.2 ⟨hun, on, hon, fun e he => by rw [haf] at he; simp at he⟩
    have h' := h
    obtain ⟨⟨i0, hi0, hr0⟩, h⟩ := h
    rw [show f + 1 + 1 + g = (f + 1 + g) + 1 by omega]
    refine ⟨fun h0 => (by rw [h0] at hrn; cases hrn), fun i hi => ?_⟩
    rcases Nat.lt_trichotomy i n with hlt | heq | hgt
    · obtain ⟨o, v, ho, hg, hX⟩ := h i hi hlt
      refine hg.op ho hS fun w' hb => ih _ _ (inv.set hi (by omega)) ?_ hX w' (hU w w' hS hb)
      rw [getD_set_ne true (show i ≠ n by omega)]; exact hun
    · subst heq
      unfold wpOp
      simp only [hon]
      have hwt : Region.wanted on (yielded ops a.tmps) = true := by unfold Region.wanted; rw [hgu]
      simp only [hwt, if_true]
      refine .inl ?_
      unfold Oper.wp
      rw [hmk a w hS]
      simp only [Oper.upon]
      exact sound1 hU hw hon hap hsel hL (f + 1) listed a inv hrn h' w.heap.size (w.alloc obj) (hU _ _ hS ((Below.refl _ _).alloc (Nat.le_refl _) _)) (hB w hS) (heap_alloc_new w obj)
    · exact absurd hi (hw _ inv n (by omega) hun i (by omega))
/-! ### The regions -/
def firstB (n m : Nat) : Array Bool := ((List.range m).map fun i => decide (i < n)).toArray
theorem first_eq {n : Nat} {listed : Array Bool} (inv : HeadInv md ops n listed) (h : ∀ i, i < n → listed.getD i false = true) : listed = firstB n ops.size := by
  unfold firstB
  apply Array.ext
  · simp [inv.size]
  · intro i h1 h2
    simp only [List.getElem_toArray, List.getElem_map, List.getElem_range]
    by_cases hi : i < n
    · have := h i hi
      simp [h1] at this
      simp [hi, this]
    · have := inv.tail i (by omega) (by rw [← inv.size]; exact h1)
      simp [h1] at this
      simp [hi, this]
def waitsB (md : Region.Mode) (ops : Array Oper) (n : Nat) : Bool := decide (n = ops.size) || (decide (n < ops.size) && Region.sinkB md ops n && Region.chainB md ops n)
theorem waitsB_spec {n : Nat} (h : waitsB md ops n = true) : n ≤ ops.size ∧ Waits md ops n := by
  simp only [waitsB, Bool.or_eq_true, Bool.and_eq_true, decide_eq_true_eq] at h
  rcases h with h | ⟨⟨h1, h2⟩, h3⟩
  · refine ⟨by omega, fun listed inv i hi hun t ht hr => ?_⟩
    obtain ⟨_, o, ho, _⟩ := mem_ready.1 hr
    have := (Array.getElem?_eq_some_iff.1 ho).1
    omega
  · exact ⟨by omega, fun listed inv i hi hun t ht => tail_waits h2 h3 h1 inv _ i rfl hi hun t ht⟩
def tailB (md : Region.Mode) (ops : Array Oper) (n : Nat) : Bool := Region.seqB md ops (ops.size - n) n (firstB n ops.size)
/-- No alloc: the first n in any order, the others in one row. -/
def heldB (md : Region.Mode) (ops : Array Oper) (n : Nat) : Bool :=
  Region.noSelect ops && waitsB md ops n && headB md ops n 0 (Array.replicate ops.size false) && tailB md ops n
def allocB (md : Region.Mode) (ops : Array Oper) (n : Nat) : Bool :=
  Region.noSelect ops && waitsB md ops (n + 1) && looseB md ops n && headB md ops n 0 (Array.replicate ops.size false) && tailB md ops (n + 1)
theorem inv_start (md : Region.Mode) (ops : Array Oper) (n : Nat) : HeadInv md ops n (Array.replicate ops.size false) :=
  ⟨by simp, fun j oj _ hl => (by rw [getD_replicate_false] at hl; cases hl), fun t _ ht => getD_in (by simpa using ht) (getD_replicate_false _ _)⟩
theorem region_held {id : Nat} {Q : Exit → Act → World → Prop} {a : Act} {w : World} {l : List Oper} (n : Nat) (S : World → Prop) (hm : P.follows .mixedOrders = true) (hB : heldB .any l.toArray n = true)
    (hU : Up S) (hS : S w.drew)
    (h : wpG P l.toArray S (fun a' => ∀ w', S w' → wpList P l.toArray Q (l.drop n) a' w') (l.take n) a) : (Code.region id l.toArray true).wp P Q a w := by
  simp only [heldB, Bool.and_eq_true] at hB
  obtain ⟨⟨⟨hsel, hwt⟩, hhd⟩, htl⟩ := hB
  obtain ⟨hn, hw⟩ := waitsB_spec hwt
  have hn' : n ≤ l.length := by simpa using hn
  have hlen : (l.take n).length = n := by simp; omega
  have hX := wpX_lex (md := .any) (ops := l.toArray) (n := n) hsel (l.take n) 0 (Array.replicate l.toArray.size false) a (fun j hj => by
    have hj' : j < n := by rw [hlen] at hj; exact hj
    simp [hj']) (by rw [hlen]; omega) (by simp) (by rw [hlen]; exact hhd) h
  rw [hlen] at hX
  refine wp_region_any hm ?_
  have := sound0 (Q := Q) (g := l.toArray.size - n) hU hw hn (fun listed a' inv hall hL w' hS' => by
    rw [first_eq inv hall]
    have := wpAny_of_seq (md := .any) (Q' := Q) (l.drop n) n (firstB n l.toArray.size) a' w' (fun j => by simp [List.getElem?_drop]) (by
      have : (l.drop n).length = l.toArray.size - n := by simp
      rw [this]; exact htl) (hL w' hS')
    have e : (l.drop n).length = l.toArray.size - n := by simp
    rwa [e] at this) n _ a (inv_start _ _ _) hX w.drew hS
  rw [show n + (l.toArray.size - n) = l.toArray.size by omega] at this
  exact this
theorem region_alloc {id : Nat} {Q : Exit → Act → World → Prop} {a : Act} {w : World} {l : List Oper} (n : Nat) (S : World → Prop) (obj : Obj) (B : Nat) (dst : Option Tmp) (hm : P.follows .mixedOrders = true) (hB : allocB .any l.toArray n = true)
    (hU : Up S) (hS : S w.drew) (hd : (l.toArray[n]?).bind (·.dst) = dst) (hmk : ∀ on, l.toArray[n]? = some on → ∀ a, Makes P S on obj a) (hbase : ∀ w, S w → B ≤ w.heap.size)
    (h : wpG P l.toArray S (fun a' => ∀ (b : Nat) (w' : World), S w' → B ≤ b → w'.heap[b]? = some obj → wpList P l.toArray Q (l.drop (n + 1)) (a'.put dst (.pointer (some ⟨b, 0, none⟩))) w') (l.take n) a) :
    (Code.region id l.toArray true).wp P Q a w := by
  simp only [allocB, Bool.and_eq_true] at hB
  obtain ⟨⟨⟨⟨hsel, hwt⟩, hlo⟩, hhd⟩, htl⟩ := hB
  obtain ⟨hn, hw⟩ := waitsB_spec hwt
  obtain ⟨on, hon, haf, hgu, hap⟩ := looseB_spec hlo
  have hn' : n + 1 ≤ l.length := by simpa using hn
  have hlen : (l.take n).length = n := by simp; omega
  obtain rfl : on.dst = dst := by rw [← hd, hon]; rfl
  have hX := wpX_lex (md := .any) (ops := l.toArray) (n := n) hsel (l.take n) 0 (Array.replicate l.toArray.size false) a (fun j hj => by
    have hj' : j < n := by rw [hlen] at hj; exact hj
    simp [hj']) (by rw [hlen]; omega) (by simp) (by rw [hlen]; exact hhd) h
  rw [hlen] at hX
  refine wp_region_any hm ?_
  have := sound2 (Q := Q) (g := l.toArray.size - (n + 1)) hU hw hon haf hgu (hmk on hon) hbase hap (Region.noSelect_spec hsel) (fun listed a' inv hall hL b w' hS' hBb hb => by
    rw [first_eq inv hall]
    have := wpAny_of_seq (md := .any) (Q' := Q) (l.drop (n + 1)) (n + 1) (firstB (n + 1) l.toArray.size) (a'.put on.dst (.pointer (some ⟨b, 0, none⟩))) w' (fun j => by simp [List.getElem?_drop]) (by
      have : (l.drop (n + 1)).length = l.toArray.size - (n + 1) := by simp
      rw [this]; exact htl) (hL b w' hS' hBb hb)
    have e : (l.drop (n + 1)).length = l.toArray.size - (n + 1) := by simp
    rwa [e] at this) n _ a (inv_start _ _ _) (getD_in (by simp; omega) (getD_replicate_false _ _)) hX w.drew hS
  rw [show n + 1 + (l.toArray.size - (n + 1)) = l.toArray.size by omega] at this
  exact this
/-! ### The steps -/
theorem wpG_nil {L : Act → Prop} {a : Act} (h : L a) : wpG P ops S L [] a := h
theorem wpG_step {L : Act → Prop} {o : Oper} {rest : List Oper} {a : Act} (v : Value) (hw : Region.wanted o (yielded ops a.tmps) = true) (h : ∀ w, S w → RunsTo P o a w v) (hr : wpG P ops S L rest (a.put o.dst v)) : wpG P ops S L (o :: rest) a :=
  ⟨v, .inl ⟨hw, h⟩, hr⟩
theorem wpG_skip {L : Act → Prop} {o : Oper} {rest : List Oper} {a : Act} (hw : Region.wanted o (yielded ops a.tmps) = false) (hr : wpG P ops S L rest (a.put o.dst undef)) : wpG P ops S L (o :: rest) a :=
  ⟨undef, .inr ⟨hw, rfl⟩, hr⟩
theorem runs_value {o : Oper} {a : Act} {w : World} {v : Value} (h : (execOp a.eval o).run P w = .ok (.value v) w) : RunsTo P o a w v := by
  unfold RunsTo; rw [h]; exact ⟨rfl, rfl⟩
theorem runs_skip {o : Oper} {a : Act} {w : World} (h : (execOp a.eval o).run P w = .ok .skip w) : RunsTo P o a w undef := by
  unfold RunsTo; rw [h]; exact ⟨rfl, rfl⟩
theorem runs_call {o : Oper} {a : Act} {w : World} {v : Value} {f : FuncId} {args : Array Value} (h : (execOp a.eval o).run P w = .ok (.enter f args) w) (hc : Calls P f args w (fun e w'' => e = .returned v ∧ Below w.heap.size w w'')) : RunsTo P o a w v := by
  unfold RunsTo; rw [h]; exact ⟨rfl, hc⟩
end
end Go.Proofs.Ytknmpllnclkghaa
