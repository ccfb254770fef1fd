/-
  The way to a place: it is told, and two places of eight bytes that have one way are one place.
-/
import Derived.Test.YtlpjdjbophcomaaDoorBWK
namespace Go.Proofs.YtlpjdjbophcomaaDoor
open Go.RowKit
set_option linter.unusedVariables false
set_option linter.unusedSimpArgs false
abbrev txt (s : ByteArray) : List UInt8 := s.data.toList
theorem txt_app (a b : ByteArray) : txt (a ++ b) = txt a ++ txt b := by
  show (a ++ b).data.toList = _
  simp [ByteArray.data_append]
theorem size_app (a b : ByteArray) : (a ++ b).size = a.size + b.size := ByteArray.size_append
/-- The digits of a small number. -/
noncomputable def dgs (k : Nat) : List UInt8 := txt ((m_internal_strconv_small (k : Int)).getD ByteArray.empty)
theorem small_all : ∀ k : Nat, k < 100 → (m_internal_strconv_small (k : Int)).isSome = true ∧ (dgs k).length ≤ 2 ∧ (dgs k).all (fun c => c != 93) = true ∧ (dgs k).foldl (fun a c => a * 10 + (c.toNat - 48)) 0 = k := by decide +kernel
theorem itoa_told {k : Nat} (h : k < 100) : ∃ b, m_strconv_Itoa (k : Int) = some b ∧ txt b = dgs k ∧ b.size ≤ 2 := by
  obtain ⟨h1, h2, _⟩ := small_all k h
  cases hb : m_internal_strconv_small (k : Int) with
  | none => rw [hb] at h1; cases h1
  | some b =>
    have e : dgs k = txt b := by unfold dgs; rw [hb]; rfl
    refine ⟨b, ?_, e.symm, by rw [e] at h2; exact h2⟩
    simp only [m_strconv_Itoa, m_internal_strconv_Itoa, m_internal_strconv_FormatInt, d_t (show (0 : Int) ≤ (k : Int) by omega), d_t (show (k : Int) < 100 by omega), cond_true, hb, Option.bind_some]
theorem dgs_inj {a b : Nat} (ha : a < 100) (hb : b < 100) (h : dgs a = dgs b) : a = b := by
  have h1 := (small_all a ha).2.2.2
  have h2 := (small_all b hb).2.2.2
  rw [h] at h1
  exact h1.symm.trans h2
theorem dgs_mark {a : Nat} (ha : a < 100) : ∀ c ∈ dgs a, (c == 93) = false := fun c hc => by
  have := List.all_eq_true.1 (small_all a ha).2.2.1 c hc
  simpa using this
/-- Where the first mark stands, two lists are cut. -/
theorem cut_at {p : UInt8 → Bool} : ∀ {xs xs' ys ys' : List UInt8}, (∀ c ∈ xs, p c = false) → (∀ c ∈ xs', p c = false) → (ys = [] ∨ ∃ c t, ys = c :: t ∧ p c = true) → (ys' = [] ∨ ∃ c t, ys' = c :: t ∧ p c = true) → xs ++ ys = xs' ++ ys' → xs = xs' ∧ ys = ys'
  | [], [], _, _, _, _, _, _, h => ⟨rfl, h⟩
  | [], x :: xs', ys, ys', _, h2, h3, _, h => by
    rcases h3 with rfl | ⟨c, t, rfl, hc⟩
    · cases h
    · simp only [List.nil_append, List.cons_append, List.cons.injEq] at h
      have := h2 x (List.mem_cons_self ..)
      rw [← h.1, hc] at this
      cases this
  | x :: xs, [], ys, ys', h1, _, _, h4, h => by
    rcases h4 with rfl | ⟨c, t, rfl, hc⟩
    · cases h
    · simp only [List.nil_append, List.cons_append, List.cons.injEq] at h
      have := h1 x (List.mem_cons_self ..)
      rw [h.1, hc] at this
      cases this
  | x :: xs, x' :: xs', ys, ys', h1, h2, h3, h4, h => by
    simp only [List.cons_append, List.cons.injEq] at h
    obtain ⟨e1, e2⟩ := cut_at (fun c hc => h1 c (List.mem_cons_of_mem _ hc)) (fun c hc => h2 c (List.mem_cons_of_mem _ hc)) h3 h4 h.2
    exact ⟨by rw [h.1, e1], e2⟩
theorem name_mark {s : ByteArray} (h : IsName s) : ∀ c ∈ txt s, (c == 46 || c == 91) = false := fun c hc => by
  obtain ⟨k, hk, rfl⟩ := List.mem_iff_getElem.1 hc
  have hk' : k < s.size := by simpa using hk
  obtain ⟨a, b, _⟩ := h.chars k hk'
  have e : byteAt s k = BitVec.ofNat 8 (txt s)[k].toNat := by
    unfold byteAt
    rw [getElem?_pos s k hk']
    rfl
  rw [e] at a b
  have lt : (txt s)[k].toNat < 256 := UInt8.toNat_lt _
  rw [BitVec.toNat_ofNat, Nat.mod_eq_of_lt (by omega)] at a b
  rw [Bool.or_eq_false_iff]
  constructor
  · rw [beq_eq_false_iff_ne]; intro q; rw [q] at a; exact a rfl
  · rw [beq_eq_false_iff_ne]; intro q; rw [q] at b; exact b rfl
/-- The way from i to a place: what stands behind the way so far. -/
def Wy (n : Nat) (A : TyL) (y : Int) : Nat → Nat → Int → List UInt8 → Prop
  | 0, _, _, _ => False
  | d + 1, i, off, suf =>
    ((A i).1.fKind = 5 ∧ ∃ j, j < n ∧ (A i).1.fTo = ((j + 1 : Nat) : Int) ∧ Wy n A y d j off suf) ∨
    ((A i).1.fKind = 3 ∧ ∃ (j : Nat) (s : Int) (q : Nat) (t : List UInt8), j < n ∧ (A i).1.fTo = ((j + 1 : Nat) : Int) ∧ Sz n A j s ∧ q < 100 ∧ (q : Int) = off / s ∧ Wy n A y d j (off % s) t ∧ suf = 91 :: (dgs q ++ 93 :: t)) ∨
    ((A i).1.fKind = 4 ∧ ∃ u j t, u < (A i).2.1 ∧ j < n ∧ ((A i).2.2 u).fType = ((j + 1 : Nat) : Int) ∧ Wy n A y d j (off - zquo ((A i).2.2 u).fBits 8) t ∧ suf = 46 :: (txt ((A i).2.2 u).fName ++ t)) ∨
    ((A i).1.fKind ≠ 5 ∧ (A i).1.fKind ≠ 3 ∧ (A i).1.fKind ≠ 4 ∧ suf = [] ∧ 0 ≤ off ∧ ∃ s, Sz n A i s ∧ off + y ≤ s)
theorem Wy.head {n : Nat} {A : TyL} {y : Int} : ∀ {d i : Nat} {off : Int} {suf : List UInt8}, Wy n A y d i off suf → suf = [] ∨ ∃ c t, suf = c :: t ∧ (c == 46 || c == 91) = true
  | d + 1, i, off, suf, h => by
    rcases h with ⟨_, j, _, _, h⟩ | ⟨_, j, s, q, t, _, _, _, _, _, _, rfl⟩ | ⟨_, u, j, t, _, _, _, _, rfl⟩ | ⟨_, _, _, rfl, _⟩
    · exact Wy.head h
    · exact .inr ⟨_, _, rfl, rfl⟩
    · exact .inr ⟨_, _, rfl, rfl⟩
    · exact .inl rfl
section
variable {n : Nat} {A : TyL} (G : Good n A)
include G
omit G in
theorem Sz.one {i : Nat} {s s' : Int} (h : Sz n A i s) (h' : Sz n A i s') : s = s' := by
  have := (h 256 (by omega)).symm.trans (h' 256 (by omega))
  injection this
/-- Two places of eight bytes with one way are one. -/
theorem Good.way_inj : ∀ d i, i < n → ∀ off off' suf, Wy n A 8 d i off suf → Wy n A 8 d i off' suf → off = off' := by
  intro d
  induction d with
  | zero => intro i _ off off' suf h; exact h.elim
  | succ d ih =>
    intro i hi off off' suf h h'
    rcases h with ⟨k, j, hj, e, h⟩ | ⟨k, j, s, q, t, hj, e, hs, hq, hqs, h, e1⟩ | ⟨k, u, j, t, hu, hj, e, h, e1⟩ | ⟨k5, k3, k4, _, h0, s, hs, hle⟩
    · rcases h' with ⟨_, j', hj', e', h'⟩ | ⟨k', _⟩ | ⟨k', _⟩ | ⟨k', _⟩
      · obtain rfl : j = j' := by omega
        exact ih j hj _ _ _ h h'
      · omega
      · omega
      · exact absurd k k'
    · rcases h' with ⟨k', _⟩ | ⟨_, j', s', q', t', hj', e', hs', hq', hqs', h', e1'⟩ | ⟨k', _⟩ | ⟨_, k', _⟩
      · omega
      · obtain rfl : j = j' := by omega
        obtain rfl := Sz.one hs hs'
        rw [e1] at e1'
        simp only [List.cons.injEq, true_and] at e1'
        obtain ⟨a, b⟩ := cut_at (p := fun c => c == 93) (dgs_mark hq) (dgs_mark hq') (.inr ⟨_, _, rfl, rfl⟩) (.inr ⟨_, _, rfl, rfl⟩) e1'
        have hqq := dgs_inj hq hq' a
        simp only [List.cons.injEq, true_and] at b
        subst b hqq
        have hr := ih j hj _ _ _ h h'
        have h1 := Int.mul_ediv_add_emod off s
        have h2 := Int.mul_ediv_add_emod off' s
        rw [← hqs] at h1
        rw [← hqs', ← hr] at h2
        exact h1.symm.trans h2
      · omega
      · exact absurd k k'
    · rcases h' with ⟨k', _⟩ | ⟨k', _⟩ | ⟨_, u', j', t', hu', hj', e', h', e1'⟩ | ⟨_, _, k', _⟩
      · omega
      · omega
      · rw [e1] at e1'
        simp only [List.cons.injEq, true_and] at e1'
        have N := (G.ok i hi).names k
        obtain ⟨a, b⟩ := cut_at (p := fun c => c == 46 || c == 91) (name_mark (N u hu).1) (name_mark (N u' hu').1) h.head h'.head e1'
        have en : ((A i).2.2 u).fName = ((A i).2.2 u').fName := by
          have := Array.toList_inj.1 a
          cases h1 : ((A i).2.2 u).fName
          cases h2 : ((A i).2.2 u').fName
          rw [h1, h2] at this
          exact congrArg ByteArray.mk this
        obtain rfl : u = u' := by
          rcases Nat.lt_trichotomy u u' with q | q | q
          · exact absurd en ((N u' hu').2 u q)
          · exact q
          · exact absurd en.symm ((N u hu).2 u' q)
        obtain rfl : j = j' := by omega
        subst b
        have := ih j hj _ _ _ h h'
        omega
      · exact absurd k k'
    · rcases h' with ⟨k', _⟩ | ⟨k', _⟩ | ⟨k', _⟩ | ⟨_, _, _, _, h0', s', hs', hle'⟩
      · exact absurd k' k5
      · exact absurd k' k3
      · exact absurd k' k4
      · obtain rfl := Sz.one hs hs'
        have e := G.sz_leaf hi hs k5 k3
        have hs8 : s ≤ 8 := by
          rw [e]
          split
          · omega
          · split
            · rename_i k1; have := (G.toEach.sizes hi).1 k1; omega
            · first | omega | (rw [if_neg k4]; omega)
        omega
end
end Go.Proofs.YtlpjdjbophcomaaDoor

