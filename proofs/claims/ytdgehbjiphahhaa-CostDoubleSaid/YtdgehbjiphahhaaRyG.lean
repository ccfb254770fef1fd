/-
  Makes among other makes, an entry for blocks that aren't there yet, a row of nothing in another's place. Nothing of the program stands here.
-/
import Derived.Test.YtdgehbjiphahhaaRyF
namespace Go.Proofs.Ytdgehbjiphahhaa
open Go.RowKit
set_option linter.unusedVariables false
set_option linter.unusedSimpArgs false
section
variable {P : Program} {t e : TypeId} {i : TypeInfo} {z : Value} {sz bytes : Nat}
end
section
variable {P : Program} {M : Nat → Prop} {B0 : Nat} {S : World → Prop} {e T2 T : TypeId}
/-- Nothing in a row's place. -/
def sqStRFn {τ : Type} (T e T2 : TypeId) (f : τ → List Value) (sz N k : Nat) (D : Nat → Nat × (Nat → τ)) (g : Nat → τ) : Spc :=
  ⟨fun ls => .op (.st T (.pointer (some ⟨(lget ls 0).n, 0 + k * 1, none⟩)) (.slice none 0 0)), fun ls => [rfR (lget ls 0) (lget ls 1) e sz N D, rfO T2 f sz N D], 0, .normal,
   fun _ => [undef], fun ls => [rfR (lget ls 0) (lget ls 1) e sz N (updF D k (0, g)), rfO T2 f sz N (updF D k (0, g))], fun _ => []⟩
theorem sqStRFn_ok {τ : Type} {f : τ → List Value} {sz N k : Nat} {D : Nat → Nat × (Nat → τ)} {g : Nat → τ} (hz : ∀ w, (sizeOf T).run P w = .ok 1 w) (hk : k < N) : SpcG P M B0 S (sqStRFn T e T2 f sz N k D g) := by
  intro ls w hlen hsat htb hS
  match ls, hlen with
  | [q, l], _ =>
    have hg : w.heap[q.n]? = some (rfR q l e sz N D) := hsat.hold 0 0 _ q _ _ rfl rfl rfl
    have hmem : ∀ i, i < N → (D i).1 ≠ 0 → w.heap[(mfl l i).n]? = some (rowO (mfl l i) (esG f (D i).1 (D i).2) T2 (D i).1 sz) := fun i hi h => hsat.hold 1 i _ l _ _ rfl rfl (own_rf1 hi h)
    have a4 : ∀ i, i < N → (D i).1 ≠ 0 → (mfl l i).n ≠ q.n := fun i hi h c => by
      have := (hsat.inj 1 0 i 0 _ _ l q q.n _ (rfR q l e sz N D) rfl rfl (by rw [← c]; exact own_rf1 hi h) rfl rfl rfl).1
      omega
    have a5 : ∀ i j, i < N → j < N → (D i).1 ≠ 0 → (D j).1 ≠ 0 → (mfl l i).n = (mfl l j).n → i = j := fun i j hi hj h h' c =>
      (hsat.inj 1 1 i j _ _ l l (mfl l j).n _ _ rfl rfl (by rw [← c]; exact own_rf1 hi h) rfl rfl (own_rf1 hj h')).2
    have lt : ∀ {x : Nat} {p : Obj}, w.heap[x]? = some p → x < w.heap.size := fun h => (Array.getElem?_eq_some_iff.1 h).1
    have es0 : esG (rfC l sz D) N (fun i => i) = esG fSl N (rfS1 l sz D) := esG_map fun j hj => rfC_S l sz D j
    let v0 : Option Addr × Nat × Nat := (none, 0, 0)
    have hst := sqStG_ok (P := P) (S := S) (T := T) (e := e) (f := fSl) (N := N) (k := k) (sz := 1) (A := rfS1 l sz D) (v := v0) 0 (.slice none 0 0) fSl_len fSl_one rfl rfl hz hk
    have hd := hst [q] w rfl ⟨fun j o x hj hr hx => by
      match j, hj, hx with
      | 0, hj, hx =>
        obtain rfl : Obj.cells ⟨esG fSl N (rfS1 l sz D) ++ padL q N 1⟩ e = o := by simpa [sqSt, lget] using hj
        obtain rfl : q = x := by simpa using hx
        rw [← es0]
        exact hg
      | c + 1, hj, _ => simp [sqSt] at hj, fun i j o p x y hi _ hj _ hx hy _ => by
      match i, j, hx, hy with
      | 0, 0, _, _ => rfl
      | c + 1, _, hx, _ => simp at hx
      | 0, c + 1, _, hy => simp at hy⟩ hS
    obtain ⟨v, w', hr, ms, hms, hv, hsl, hnew, hch⟩ := hd
    obtain rfl : ms = [] := List.eq_nil_of_length_eq_zero hms
    have hh : w'.heap[q.n]? = some (.cells ⟨esG fSl N (updF (rfS1 l sz D) k v0) ++ padL q N 1⟩ e) := hsl.holds 0 _ q rfl rfl rfl
    have blk : ∀ x, x < w.heap.size → x ≠ q.n → w'.heap[x]? = w.heap[x]? := fun x hx hne => hch.block x hx fun ⟨j, o, y, h1, h2, h3, h4⟩ => by
      match j, h3 with
      | 0, h3 =>
        obtain rfl : q = y := by simpa using h3
        exact hne h4.symm
      | c + 1, h3 => simp at h3
    have dK : updF D k (0, g) k = (0, g) := updF_at ..
    have dM : ∀ i, i ≠ k → updF D k (0, g) i = D i := fun i h => updF_ne _ _ h
    have es : esG (rfC l sz (updF D k (0, g))) N (fun i => i) = esG fSl N (updF (rfS1 l sz D) k v0) := esG_map fun j hj => by
      by_cases hjk : j = k
      · subst hjk
        rw [updF_at]
        unfold rfC
        rw [dK, if_pos rfl]
        rfl
      · rw [updF_ne _ _ hjk, ← rfC_S]
        unfold rfC
        rw [dM j hjk]
    have hq : w'.heap[q.n]? = some (rfR q l e sz N (updF D k (0, g))) := by
      unfold rfR
      rw [es]
      exact hh
    have key : ∀ i x p, own (rfO T2 f sz N (updF D k (0, g))) l i = some (x, p) → w'.heap[x]? = some p ∧ i < N ∧ (D i).1 ≠ 0 ∧ x = (mfl l i).n := fun i x p h => by
      obtain ⟨hi, hn, rfl, rfl⟩ := own_rf2 h
      by_cases hik : i = k
      · subst hik
        rw [dK] at hn
        exact absurd rfl hn
      · rw [dM i hik] at hn
        refine ⟨?_, hi, hn, rfl⟩
        rw [dM i hik]
        exact (blk _ (lt (hmem i hi hn)) (a4 i hi hn)).trans (hmem i hi hn)
    have at_ : ∀ (j c : Nat) (o : Obj) (y : L1) (x : Nat) (p : Obj), ([rfR q l e sz N (updF D k (0, g)), rfO T2 f sz N (updF D k (0, g))] ++ ([] : List Obj))[j]? = some o → ([q, l] ++ ([] : List L1))[j]? = some y → own o y c = some (x, p) →
        (j = 0 ∧ c = 0 ∧ x = q.n ∧ p = rfR q l e sz N (updF D k (0, g))) ∨ (j = 1 ∧ own (rfO T2 f sz N (updF D k (0, g))) l c = some (x, p)) := fun j c o y x p hj hl ho => by
      match j, hj, hl with
      | 0, hj, hl =>
        obtain rfl : rfR q l e sz N (updF D k (0, g)) = o := by simpa using hj
        obtain rfl : q = y := by simpa using hl
        obtain ⟨h1, h2, h3, _⟩ := own_plain (rfl : isPend (rfR q l e sz N (updF D k (0, g))) = false) ho
        exact .inl ⟨rfl, h1, h2, h3⟩
      | 1, hj, hl =>
        obtain rfl : rfO T2 f sz N (updF D k (0, g)) = o := by simpa using hj
        obtain rfl : l = y := by simpa using hl
        exact .inr ⟨rfl, ho⟩
      | c + 2, hj, _ => simp at hj
    have hr' : (Q.sem (.st T (.pointer (some ⟨q.n, 0 + k * 1, none⟩)) (.slice none 0 0))).run P w = .ok (.value v) w' ∨ (Q.sem (.st T (.pointer (some ⟨q.n, 0 + k * 1, none⟩)) (.slice none 0 0))).run P w = .ok .skip w' ∧ v = undef := hr
    refine ⟨v, w', hr', [], rfl, hv, ⟨hch.os, hch.tape, hch.output, hch.size, fun x hx ht => blk x hx fun c => ht (c ▸ ⟨0, 0, _, q, _, rfl, rfl, rfl⟩)⟩, fun _ => ⟨⟨fun j c o y x p hj hl ho => ?_, fun j j' c c' o o' y y' x p p' hj hl ho hj' hl' ho' => ?_⟩, fun j c o y x p hj hl ho => ?_⟩⟩
    · rcases at_ j c o y x p hj hl ho with ⟨_, _, rfl, rfl⟩ | ⟨_, h1⟩
      · exact hq
      · exact (key c x p h1).1
    · rcases at_ j c o y x p hj hl ho with ⟨rfl, rfl, rfl, rfl⟩ | ⟨rfl, h1⟩ <;> rcases at_ j' c' o' y' _ p' hj' hl' ho' with ⟨rfl, rfl, e2, rfl⟩ | ⟨rfl, h2⟩
      · exact ⟨rfl, rfl⟩
      · obtain ⟨_, hi, hn, e3⟩ := key _ _ _ h2
        exact absurd e3.symm (a4 c' hi hn)
      · obtain ⟨_, hi, hn, e3⟩ := key _ _ _ h1
        exact absurd (e3.symm.trans e2) (a4 c hi hn)
      · obtain ⟨_, hi, hn, e3⟩ := key _ _ _ h1
        obtain ⟨_, hi', hn', e4⟩ := key _ _ _ h2
        exact ⟨rfl, a5 c c' hi hi' hn hn' (e3.symm.trans e4)⟩
    · rcases at_ j c o y x p hj hl ho with ⟨_, _, rfl, rfl⟩ | ⟨_, h1⟩
      · exact .inr ⟨0, 0, _, q, _, rfl, rfl, rfl⟩
      · obtain ⟨_, hi, hn, rfl⟩ := key c x p h1
        exact .inr ⟨1, c, _, l, _, rfl, rfl, own_rf1 hi hn⟩
end
end Go.Proofs.Ytdgehbjiphahhaa

