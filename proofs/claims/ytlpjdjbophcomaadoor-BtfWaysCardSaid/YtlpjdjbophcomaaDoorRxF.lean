/-
  What a piece of code, a loop, a scope with jumps, a function does, told as a whole, out of its runs with letters. Nothing of the program stands here.
-/
import Derived.Test.YtlpjdjbophcomaaDoorRxD
namespace Go.Proofs.YtlpjdjbophcomaaDoor
open Go.RowKit
set_option linter.unusedVariables false
set_option linter.unusedSimpArgs false
section
variable {P : Program}
/-! ### What is told by the script -/
def lts (b : Lt) (n : Nat) : List L1 := (List.range n).map b
theorem lts_len (b : Lt) (n : Nat) : (lts b n).length = n := by simp [lts]
theorem lts_agree {b c : Lt} {n : Nat} (h : agree n c b) : lts c n = lts b n := map_congr_letters fun i hi => h i (List.mem_range.1 hi)
theorem lts_get (b : Lt) {n i : Nat} (h : i < n) : (lts b n)[i]? = some (b i) := by simp [lts, h]
/-- The letter of what is left in a frame and of no use. -/
def junk (t : List Value) : L1 := ⟨0, fun k => t.getD k undef⟩
def ofL (ls : List L1) : Lt := fun i => ls.getD i ⟨0, fun _ => undef⟩
theorem lts_ofL (ls : List L1) : lts (ofL ls) ls.length = ls := by
  apply List.ext_getElem?
  intro i
  by_cases h : i < ls.length
  · rw [lts_get _ h]; simp [ofL, h]
  · rw [List.getElem?_eq_none (by rw [lts_len]; omega), List.getElem?_eq_none (by omega)]
def eqL : List Nat → List Nat → Bool
  | [], [] => true
  | x :: l, y :: m => x == y && eqL l m
  | _, _ => false
theorem eqL_spec : ∀ {l m : List Nat}, eqL l m = true → l = m
  | [], [], _ => rfl
  | x :: l, y :: m, h => by
    simp only [eqL, Bool.and_eq_true, beq_iff_eq] at h
    rw [h.1, eqL_spec h.2]
  | [], _ :: _, h => by simp [eqL] at h
  | _ :: _, [], h => by simp [eqL] at h
def exB : Ex → Ex → Bool
  | .normal, .normal => true
  | .exit i, .exit j => i == j
  | .goto i, .goto j => i == j
  | .ret, .ret => true
  | _, _ => false
theorem exB_spec {e e' : Ex} (h : exB e e' = true) : e = e' := by
  cases e <;> cases e' <;> simp [exB] at h <;> first | rfl | rw [h]
/-- Some of the entries, and one that stands for no block. -/
def reLt (c : Lt) (sel : List Nat) (j : L1) : Lt := fun i => if i < sel.length then c (sel.getD i 0) else j
theorem reLt_lts (c : Lt) (sel : List Nat) (j : L1) : lts (reLt c sel j) (sel.length + 1) = sel.map c ++ [j] := by
  apply List.ext_getElem?
  intro i
  by_cases h : i < sel.length
  · rw [lts_get _ (by omega), List.getElem?_append_left (by simpa using h)]
    simp [reLt, h]
  · by_cases h1 : i = sel.length
    · subst h1
      rw [lts_get _ (by omega)]
      simp [reLt]
    · rw [List.getElem?_eq_none (by rw [lts_len]; omega), List.getElem?_eq_none (by simp; omega)]
theorem Sat.sel {X : Nat → Prop} {B : Nat} {c : Lt} {H l : List Obj} {w : World} {sel : List Nat} (h : Sat X B c H w) (hn : nodupB sel = true) (hp : pick H sel = some l) (j : L1) : Sat X B (reLt c sel j) (l ++ [unb]) w := by
  have hl := pick_len hp
  have key : ∀ (i m : Nat) (o : Obj) (x : Nat) (p : Obj), (l ++ [unb])[i]? = some o → own o (reLt c sel j i) m = some (x, p) → ∃ k, sel[i]? = some k ∧ H[k]? = some o ∧ own o (c k) m = some (x, p) := by
    intro i m o x p ho hr
    by_cases hi : i < l.length
    · rw [List.getElem?_append_left hi] at ho
      have hs : i < sel.length := by omega
      have h1 := pick_get hp i sel[i] (List.getElem?_eq_getElem hs)
      refine ⟨sel[i], List.getElem?_eq_getElem hs, by rw [← h1]; exact ho, ?_⟩
      have e : reLt c sel j i = c sel[i] := by simp [reLt, hs]
      rw [← e]; exact hr
    · rw [List.getElem?_append_right (by omega)] at ho
      have : o = unb := by
        cases hx : i - l.length with
        | zero => rw [hx] at ho; simpa using ho.symm
        | succ n => rw [hx] at ho; simp at ho
      subst this
      simp [own, unb] at hr
  refine ⟨fun i m o x p hi hr => ?_, fun i m o x p hi hr => ?_, fun i i' m m' o o' x p p' hi hr hi' hr' => ?_, h.base⟩
  · obtain ⟨k, hk, ho, he⟩ := key i m o x p hi hr
    exact h.hold_ k m o x p ho he
  · obtain ⟨k, hk, ho, he⟩ := key i m o x p hi hr
    exact h.mine_ k m o x p ho he
  · obtain ⟨k, hk, ho, he⟩ := key i m o x p hi hr
    obtain ⟨k', hk', ho', he'⟩ := key i' m' o' x p' hi' hr'
    obtain ⟨rfl, hm⟩ := h.inj_ k k' m m' o o' x p p' ho he ho' he'
    exact ⟨nodup_at (nodupB_spec hn) hk hk', hm⟩
/-! ### Code -/
def lftC (e : Ex) (k : Nat) (sel : List Nat) (r : Option (St × List Obj × Obl)) : Option (List Tok) :=
  match r with
  | some ((e', t', _), H', o) => match exB e' e && eqL (sel.take k) (List.range k) && nodupB sel with
    | true => match pick H' sel with
      | some l => some (.vs t' :: .hs (l ++ [unb]) :: o.map Prod.fst)
      | none => none
    | false => none
  | none => none
def rgtC (fr' : List L1 → List Value) (Hs' : List L1 → List Obj) (ls : List L1) (r : Option (St × List Obj × Obl)) : Option (List Tok) :=
  match r with
  | some ((_, t', _), _, o) => some (.vs (fr' (ls ++ [junk t'])) :: .hs (Hs' (ls ++ [junk t'])) :: o.map Prod.snd)
  | none => some []
theorem lft_rgtC {e : Ex} {k : Nat} {sel : List Nat} {r : Option (St × List Obj × Obl)} {fr' : List L1 → List Value} {Hs' : List L1 → List Obj} {ls : List L1} (h : lftC e k sel r = rgtC fr' Hs' ls r) :
    ∃ t' sc' H' o l, r = some ((e, t', sc'), H', o) ∧ okL o ∧ sel.take k = List.range k ∧ nodupB sel = true ∧ pick H' sel = some l ∧ t' = fr' (ls ++ [junk t']) ∧ l ++ [unb] = Hs' (ls ++ [junk t']) := by
  unfold lftC rgtC at h
  split at h
  · split at h
    · rename_i hc
      split at h
      · rename_i l hp
        simp only [Bool.and_eq_true] at hc
        simp only [Option.some.injEq, List.cons.injEq, Tok.vs.injEq, Tok.hs.injEq] at h
        refine ⟨_, _, _, _, l, by rw [exB_spec hc.1.1], ?_, eqL_spec hc.1.2, hc.2, hp, h.1, h.2.1⟩
        unfold okL; exact h.2.2
      · cases h
    · cases h
  · cases h
def lftF (n : Nat) (sel : List Nat) (r : Option (Value × List Obj × Obl)) : Option (List Tok) :=
  match r with
  | some (v, H', o) => match nodupB (List.range n ++ sel) with
    | true => match pick H' (List.range n ++ sel) with
      | some l => some (.v v :: .n n :: .hs l :: o.map Prod.fst)
      | none => none
    | false => none
  | none => none
def rgtF (V : Value) (post new : List Obj) (r : Option (Value × List Obj × Obl)) : Option (List Tok) :=
  match r with
  | some (_, _, o) => some (.v V :: .n post.length :: .hs (post ++ new) :: o.map Prod.snd)
  | none => some []
theorem lft_rgtF {n : Nat} {sel : List Nat} {r : Option (Value × List Obj × Obl)} {V : Value} {post new : List Obj} (h : lftF n sel r = rgtF V post new r) :
    ∃ H' o, r = some (V, H', o) ∧ okL o ∧ nodupB (List.range n ++ sel) = true ∧ pick H' (List.range n ++ sel) = some (post ++ new) ∧ post.length = n := by
  unfold lftF rgtF at h
  split at h
  · split at h
    · rename_i hc
      split at h
      · rename_i l hp
        simp only [Option.some.injEq, List.cons.injEq, Tok.v.injEq, Tok.n.injEq, Tok.hs.injEq] at h
        obtain ⟨rfl, h1, h2, h3⟩ := h
        exact ⟨_, _, rfl, by unfold okL; exact h3, hc, by rw [hp, h2], h1.symm⟩
      · cases h
    · cases h
  · cases h
end
end Go.Proofs.YtlpjdjbophcomaaDoor

