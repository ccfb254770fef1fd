/-
  All numbers of a small tnum, and that each operation's unknown bits are met by two pairs. Nothing of the program stands here.
-/
import Derived.Test.YtpmhojfbjhgjpaaTig
namespace Go.Proofs.Ytpmhojfbjhgjpaa
set_option linter.unusedVariables false
set_option linter.unusedSimpArgs false

/-- Nat: what is even and odd. -/
theorem odd_part (s : Nat) (h : 0 < s) : ∃ i q, s = 2 ^ i * (2 * q + 1) := by
  induction s using Nat.strongRecOn with
  | ind s ih =>
    rcases Nat.mod_two_eq_zero_or_one s with h0 | h1
    · obtain ⟨i, q, e⟩ := ih (s / 2) (by omega) (by omega)
      refine ⟨i + 1, q, ?_⟩
      rw [Nat.pow_succ, Nat.mul_comm (2 ^ i) 2, Nat.mul_assoc, ← e]
      omega
    · exact ⟨0, s / 2, by simp; omega⟩
theorem and_parts (x y n : Nat) : x &&& y = 2 ^ n * ((x / 2 ^ n) &&& (y / 2 ^ n)) + ((x % 2 ^ n) &&& (y % 2 ^ n)) := by
  have h := Nat.div_add_mod (x &&& y) (2 ^ n)
  rw [Nat.and_mod_two_pow] at h
  rw [← Nat.shiftRight_eq_div_pow, Nat.shiftRight_and_distrib, Nat.shiftRight_eq_div_pow, Nat.shiftRight_eq_div_pow] at h
  exact h.symm
theorem and_even (q m : Nat) (h : (2 * q + 1) &&& m = 2 * q + 1) : (2 * q) &&& m = 2 * q := by
  apply Nat.eq_of_testBit_eq
  intro j
  have hj := congrArg (fun z => Nat.testBit z j) h
  simp only [Nat.testBit_and] at hj ⊢
  rcases j with _ | j
  · simp
  · simp only [Nat.testBit_succ] at hj ⊢
    rw [show (2 * q + 1) / 2 = q by omega] at hj
    rw [show 2 * q / 2 = q by omega]
    exact hj
theorem sub_step (m s t : Nat) (hs : s &&& m = s) (ht : t &&& m = t) (h : t < s) : t ≤ (s - 1) &&& m := by
  obtain ⟨i, q, e⟩ := odd_part s (by omega)
  have hp := Nat.two_pow_pos i
  have e1 : s - 1 = 2 ^ i * (2 * q) + (2 ^ i - 1) := by
    rw [e, Nat.mul_add]; omega
  have d1 : (s - 1) / 2 ^ i = 2 * q := by
    rw [e1, Nat.mul_add_div hp, Nat.div_eq_of_lt (by omega)]; rfl
  have d2 : (s - 1) % 2 ^ i = 2 ^ i - 1 := by
    rw [e1, Nat.mul_add_mod]; exact Nat.mod_eq_of_lt (by omega)
  have d3 : s / 2 ^ i = 2 * q + 1 := by
    rw [e, Nat.mul_div_cancel_left _ hp]
  have hsm : (2 * q + 1) &&& (m / 2 ^ i) = 2 * q + 1 := by
    have := congrArg (fun z => z >>> i) hs
    rw [Nat.shiftRight_and_distrib, Nat.shiftRight_eq_div_pow, Nat.shiftRight_eq_div_pow, d3] at this
    exact this
  have h1 := and_parts (s - 1) m i
  rw [d1, d2, and_even _ _ hsm] at h1
  have h2 : (2 ^ i - 1) &&& (m % 2 ^ i) = m % 2 ^ i := by
    rw [Nat.and_comm, Nat.and_two_pow_sub_one_eq_mod, Nat.mod_mod]
  rw [h2] at h1
  have t1 := Nat.div_add_mod t (2 ^ i)
  have t2 : t / 2 ^ i < 2 * q + 1 := by
    apply Nat.div_lt_of_lt_mul; rw [← e]; exact h
  have t3 : t % 2 ^ i ≤ m % 2 ^ i := by
    have := congrArg (fun z => z % 2 ^ i) ht
    simp only [Nat.and_mod_two_pow] at this
    rw [← this]; exact Nat.and_le_right
  rw [h1]
  have t4 : 2 ^ i * (t / 2 ^ i) ≤ 2 ^ i * (2 * q) := Nat.mul_le_mul_left _ (by omega)
  omega

/-- s has only bits of m. -/
def smk (s m : BitVec 64) : Prop := s &&& m = s
theorem nat_sub {s m : BitVec 64} (h : smk s m) : s.toNat &&& m.toNat = s.toNat := by
  have := congrArg BitVec.toNat h
  rwa [BitVec.toNat_and] at this
theorem sub_next {m s : BitVec 64} (hs : smk s m) (h0 : s ≠ 0#64) : smk ((s - 1#64) &&& m) m ∧ ((s - 1#64) &&& m).toNat < s.toNat ∧ ∀ t, smk t m → t.toNat < s.toNat → t.toNat ≤ ((s - 1#64) &&& m).toNat := by
  have hp : 0 < s.toNat := by
    rcases Nat.eq_zero_or_pos s.toNat with h | h
    · exact absurd (BitVec.eq_of_toNat_eq h) h0
    · exact h
  have e1 : (s - 1#64).toNat = s.toNat - 1 := by
    have := s.isLt
    rw [BitVec.toNat_sub]
    simp
    omega
  refine ⟨?_, ?_, ?_⟩
  · unfold smk; rw [BitVec.and_assoc, BitVec.and_self]
  · rw [BitVec.toNat_and, e1]
    have := @Nat.and_le_left (s.toNat - 1) m.toNat
    omega
  · intro t ht h
    rw [BitVec.toNat_and, e1]
    exact sub_step _ _ _ (nat_sub hs) (nat_sub ht) h

/-- A tnum whose numbers are at most so many. -/
def Few (n : Nat) (m : BitVec 64) : Prop := ∃ U : List (BitVec 64), U.length ≤ 2 ^ n ∧ ∀ s, smk s m → s ∈ U
theorem few_zero : Few 0 0#64 := ⟨[0#64], by simp, fun s h => by
  have h : s &&& 0#64 = s := h
  have : s = 0#64 := by rw [← h]; simp
  simp [this]⟩
theorem few_step {n : Nat} {m b : BitVec 64} (h : Few n m) (hb : ∀ i j, i < 64 → j < 64 → b.getLsbD i = true → b.getLsbD j = true → i = j) : Few (n + 1) (m ||| b) := by
  obtain ⟨U, hl, hU⟩ := h
  refine ⟨U ++ U.map (· ||| b), by rw [List.length_append, List.length_map, Nat.pow_succ]; omega, fun s hs => ?_⟩
  have hm : s &&& m ∈ U := hU _ (by unfold smk; rw [BitVec.and_assoc, BitVec.and_self])
  have bit : ∀ i, i < 64 → (s.getLsbD i && (m.getLsbD i || b.getLsbD i)) = s.getLsbD i := by
    intro i hi
    have := congrArg (fun z => BitVec.getLsbD z i) hs
    simpa only [BitVec.getLsbD_and, BitVec.getLsbD_or] using this
  rw [List.mem_append]
  by_cases hb0 : s &&& b = 0#64
  · left
    have : s = s &&& m := by
      apply bit_ext; intro i hi
      have h1 := bit i hi
      have h2 := congrArg (fun z => BitVec.getLsbD z i) hb0
      revert h1 h2
      simp only [BitVec.getLsbD_and, BitVec.getLsbD_zero]
      cases s.getLsbD i <;> cases m.getLsbD i <;> cases b.getLsbD i <;> decide
    rw [this]; exact hm
  · right
    rw [List.mem_map]
    refine ⟨s &&& m, hm, ?_⟩
    obtain ⟨j, hj, hj2⟩ : ∃ j, j < 64 ∧ (s &&& b).getLsbD j = true := by
      apply Classical.byContradiction
      intro hn
      apply hb0
      apply bit_ext; intro i hi
      rw [BitVec.getLsbD_zero]
      cases hx : (s &&& b).getLsbD i
      · rfl
      · exact absurd ⟨i, hi, hx⟩ hn
    rw [BitVec.getLsbD_and, Bool.and_eq_true] at hj2
    apply bit_ext; intro i hi
    have h1 := bit i hi
    simp only [BitVec.getLsbD_and, BitVec.getLsbD_or]
    cases hbi : b.getLsbD i
    · rw [hbi] at h1
      simpa using h1
    · have : i = j := hb i j hi hj hbi hj2.2
      subst this
      rw [hj2.1]; simp
theorem nodup_le {α : Type} [DecidableEq α] : ∀ (l U : List α), l.Nodup → (∀ x ∈ l, x ∈ U) → l.length ≤ U.length := by
  intro l
  induction l with
  | nil => intro U _ _; simp
  | cons x r ih =>
    intro U hn h
    have hx := h x (by simp)
    have h1 := ih (U.erase x) (List.nodup_cons.1 hn).2 (fun y hy => by
      have hne : y ≠ x := by rintro rfl; exact (List.nodup_cons.1 hn).1 hy
      exact (List.mem_erase_of_ne hne).2 (h y (by simp [hy])))
    rw [List.length_erase_of_mem hx] at h1
    have : 0 < U.length := List.length_pos_of_mem hx
    simp; omega

/-- What has been told of all numbers of t, when 's' comes next. -/
def Told (t : T) (l : List (BitVec 64)) (s : BitVec 64) : Prop :=
  smk s t.m ∧ ∃ k : List (BitVec 64), l = k.map (t.v ||| ·) ∧ k.Nodup ∧ (∀ x ∈ k, smk x t.m ∧ s.toNat < x.toNat) ∧ ∀ x, smk x t.m → s.toNat < x.toNat → x ∈ k
theorem told_start (t : T) : Told t [] t.m := ⟨BitVec.and_self, [], rfl, List.nodup_nil, by simp, fun x hx h => by
  have := nat_sub hx
  have h2 := @Nat.and_le_right x.toNat t.m.toNat
  omega⟩
/-- All numbers of t, each once. -/
def Whole (t : T) (l : List (BitVec 64)) : Prop := l ≠ [] ∧ (∀ x ∈ l, ∃ s, smk s t.m ∧ x = t.v ||| s) ∧ ∀ s, smk s t.m → t.v ||| s ∈ l
theorem told_next {t : T} {l : List (BitVec 64)} {s : BitVec 64} (h : Told t l s) (h0 : s ≠ 0#64) : Told t (l ++ [t.v ||| s]) ((s - 1#64) &&& t.m) := by
  obtain ⟨hs, k, rfl, hn, h1, h2⟩ := h
  obtain ⟨n1, n2, n3⟩ := sub_next hs h0
  refine ⟨n1, k ++ [s], by simp, ?_, ?_, ?_⟩
  · rw [List.nodup_append]
    refine ⟨hn, by simp, fun a ha b hb => ?_⟩
    simp at hb
    subst hb
    rintro rfl
    have := (h1 _ ha).2
    omega
  · intro x hx
    rw [List.mem_append, List.mem_singleton] at hx
    rcases hx with hx | rfl
    · exact ⟨(h1 x hx).1, by have := (h1 x hx).2; omega⟩
    · exact ⟨hs, n2⟩
  · intro x hx hlt
    rw [List.mem_append, List.mem_singleton]
    rcases Nat.lt_trichotomy s.toNat x.toNat with h | h | h
    · exact Or.inl (h2 x hx h)
    · exact Or.inr (BitVec.eq_of_toNat_eq h.symm)
    · have := n3 x hx h; omega
theorem told_last {t : T} {l : List (BitVec 64)} (h : Told t l 0#64) : Whole t (l ++ [t.v ||| 0#64]) := by
  obtain ⟨hs, k, rfl, hn, h1, h2⟩ := h
  refine ⟨by simp, fun x hx => ?_, fun s hsub => ?_⟩
  · rw [List.mem_append, List.mem_singleton, List.mem_map] at hx
    rcases hx with ⟨y, hy, rfl⟩ | rfl
    · exact ⟨y, (h1 y hy).1, rfl⟩
    · exact ⟨0#64, hs, rfl⟩
  · rw [List.mem_append, List.mem_singleton, List.mem_map]
    rcases Nat.eq_zero_or_pos s.toNat with h | h
    · right; rw [BitVec.eq_of_toNat_eq (x := s) (y := 0#64) h]
    · left; exact ⟨s, h2 s hsub h, rfl⟩
theorem told_len {n : Nat} {t : T} {l : List (BitVec 64)} {s : BitVec 64} (hf : Few n t.m) (h : Told t l s) : l.length < 2 ^ n := by
  obtain ⟨hs, k, rfl, hn, h1, h2⟩ := h
  obtain ⟨U, hl, hU⟩ := hf
  have : (s :: k).length ≤ U.length := nodup_le _ _ (List.nodup_cons.2 ⟨fun hm => by have := (h1 s hm).2; omega, hn⟩) (by
    intro x hx
    rcases List.mem_cons.1 hx with rfl | hx
    · exact hU _ hs
    · exact hU _ (h1 x hx).1)
  simp at this ⊢
  omega
theorem whole_has {t : T} (ht : wf t) {l : List (BitVec 64)} (h : Whole t l) (x : BitVec 64) : x ∈ l ↔ has t x := by
  constructor
  · intro hx
    obtain ⟨s, hs, rfl⟩ := h.2.1 x hx
    refine has_of ht fun i hi hm => ?_
    have := congrArg (fun z => BitVec.getLsbD z i) hs
    revert this
    simp only [BitVec.getLsbD_and, BitVec.getLsbD_or, hm]
    cases s.getLsbD i <;> cases t.v.getLsbD i <;> decide
  · intro hx
    have := h.2.2 (x &&& t.m) (by unfold smk; rw [BitVec.and_assoc, BitVec.and_self])
    have e : t.v ||| (x &&& t.m) = x := by
      apply bit_ext; intro i hi
      have h1 := has_bit hx i hi
      have h2 := wf_bit ht i
      revert h1 h2
      simp only [BitVec.getLsbD_and, BitVec.getLsbD_or]
      cases x.getLsbD i <;> cases t.v.getLsbD i <;> cases t.m.getLsbD i <;> decide
    rwa [e] at this
/-- The operation of a code. -/
def opf (c k : Nat) (x y : BitVec 64) : BitVec 64 :=
  match c with
  | 0 => x + y
  | 1 => x - y
  | 2 => x &&& y
  | 3 => x ||| y
  | 4 => x ^^^ y
  | 5 => x <<< k
  | 6 => x >>> k
  | _ => x.sshiftRight k
/-- What it makes of two tnums. -/
def opT (c k : Nat) (a b : T) : T :=
  match c with
  | 0 => padd a b
  | 1 => psub a b
  | 2 => pand a b
  | 3 => por a b
  | 4 => pxor a b
  | 5 => ⟨a.v <<< k, a.m <<< k⟩
  | 6 => ⟨a.v >>> k, a.m >>> k⟩
  | _ => ⟨a.v.sshiftRight k, a.m.sshiftRight k⟩
theorem opT_has (c k : Nat) {a b : T} {x y : BitVec 64} (ha : has a x) (hb : has b y) : has (opT c k a b) (opf c k x y) := by
  unfold opT opf
  split
  · exact padd_has ha hb
  · exact psub_has ha hb
  · exact pand_has ha hb
  · exact por_has ha hb
  · exact pxor_has ha hb
  · exact shl_has ha k
  · exact shr_has ha k
  · exact sar_has ha k
theorem has_v {a : T} (h : wf a) : has a a.v := has_of h fun i hi hm => rfl
theorem has_hi {a : T} (h : wf a) : has a (hi a) := has_of h fun i hi' hm => by
  unfold hi; rw [BitVec.getLsbD_or, hm]; simp
theorem hi_bit {a : T} (h : wf a) (i : Nat) : (hi a).getLsbD i = (a.v.getLsbD i || a.m.getLsbD i) := by
  unfold hi; rw [BitVec.getLsbD_or]
/-- One bit that isn't known, the other way. -/
theorem has_flip {a : T} (h : wf a) {j : Nat} (hj : j < 64) (hm : a.m.getLsbD j = true) : has a (a.v ^^^ BitVec.twoPow 64 j) := has_of h fun i hi' hi2 => by
  rw [BitVec.getLsbD_xor, BitVec.getLsbD_twoPow]
  have : ¬ (j = i) := by rintro rfl; rw [hm] at hi2; cases hi2
  simp [this]
theorem flip_bit (x : BitVec 64) {j : Nat} (hj : j < 64) (i : Nat) : (x ^^^ BitVec.twoPow 64 j).getLsbD i = (x.getLsbD i ^^ decide (i = j)) := by
  rw [BitVec.getLsbD_xor, BitVec.getLsbD_twoPow]
  by_cases h : i = j <;> simp [h, hj, Ne.symm] 
/-- Bits below i alone make what is carried into i. -/
theorem carry_flip (x y : BitVec 64) (c : Bool) {i : Nat} (hi' : i < 64) : BitVec.carry i (x ^^^ BitVec.twoPow 64 i) y c = BitVec.carry i x y c := by
  have e : (x ^^^ BitVec.twoPow 64 i).toNat % 2 ^ i = x.toNat % 2 ^ i := by
    apply Nat.eq_of_testBit_eq
    intro j
    simp only [Nat.testBit_mod_two_pow]
    by_cases hj : j < i
    · simp only [hj, decide_true, Bool.true_and]
      have := flip_bit x hi' j
      have hne : ¬ j = i := by omega
      simpa [BitVec.getLsbD, hne] using this
    · simp [hj]
  simp only [BitVec.carry, e]
theorem carry_flip' (x y : BitVec 64) (c : Bool) {i : Nat} (hi' : i < 64) : BitVec.carry i x (y ^^^ BitVec.twoPow 64 i) c = BitVec.carry i x y c := by
  have e : (y ^^^ BitVec.twoPow 64 i).toNat % 2 ^ i = y.toNat % 2 ^ i := by
    apply Nat.eq_of_testBit_eq
    intro j
    simp only [Nat.testBit_mod_two_pow]
    by_cases hj : j < i
    · simp only [hj, decide_true, Bool.true_and]
      have := flip_bit y hi' j
      have hne : ¬ j = i := by omega
      simpa [BitVec.getLsbD, hne] using this
    · simp [hj]
  simp only [BitVec.carry, e]
theorem not_flip (y : BitVec 64) {i : Nat} (hi' : i < 64) : ~~~(y ^^^ BitVec.twoPow 64 i) = ~~~y ^^^ BitVec.twoPow 64 i := by
  apply bit_ext; intro j hj
  rw [flip_bit _ hi', BitVec.getLsbD_not, BitVec.getLsbD_not, flip_bit _ hi']
  simp only [hj, decide_true, Bool.true_and]
  cases y.getLsbD j <;> cases decide (j = i) <;> rfl
/-- An unknown bit is met by two pairs. -/
def Apart2 (c k : Nat) (a b : T) (i : Nat) : Prop := ∃ x x' y y', has a x ∧ has a x' ∧ has b y ∧ has b y' ∧ (opf c k x y).getLsbD i ≠ (opf c k x' y').getLsbD i
theorem apart_add {a b : T} (ha : wf a) (hb : wf b) (k i : Nat) (hi' : i < 64) (h : (padd a b).m.getLsbD i = true) : Apart2 0 k a b i := by
  rw [padd_m ha hb i hi'] at h
  by_cases h1 : a.m.getLsbD i = true
  · refine ⟨a.v, a.v ^^^ BitVec.twoPow 64 i, b.v, b.v, has_v ha, has_flip ha hi' h1, has_v hb, has_v hb, ?_⟩
    show (a.v + b.v).getLsbD i ≠ ((a.v ^^^ BitVec.twoPow 64 i) + b.v).getLsbD i
    rw [add_bit _ _ _ hi', add_bit _ _ _ hi', carry_flip _ _ _ hi', flip_bit _ hi']
    simp
  · by_cases h2 : b.m.getLsbD i = true
    · refine ⟨a.v, a.v, b.v, b.v ^^^ BitVec.twoPow 64 i, has_v ha, has_v ha, has_v hb, has_flip hb hi' h2, ?_⟩
      show (a.v + b.v).getLsbD i ≠ (a.v + (b.v ^^^ BitVec.twoPow 64 i)).getLsbD i
      rw [add_bit _ _ _ hi', add_bit _ _ _ hi', carry_flip' _ _ _ hi', flip_bit _ hi']
      cases a.v.getLsbD i <;> cases b.v.getLsbD i <;> simp
    · refine ⟨a.v, hi a, b.v, hi b, has_v ha, has_hi ha, has_v hb, has_hi hb, ?_⟩
      show (a.v + b.v).getLsbD i ≠ (hi a + hi b).getLsbD i
      simp only [Bool.not_eq_true] at h1 h2
      rw [h1, h2] at h
      simp only [Bool.false_or] at h
      rw [add_bit _ _ _ hi', add_bit _ _ _ hi', hi_bit ha, hi_bit hb, h1, h2]
      revert h
      cases a.v.getLsbD i <;> cases b.v.getLsbD i <;> cases BitVec.carry i a.v b.v false <;> cases BitVec.carry i (hi a) (hi b) false <;> decide
theorem apart_sub {a b : T} (ha : wf a) (hb : wf b) (k i : Nat) (hi' : i < 64) (h : (psub a b).m.getLsbD i = true) : Apart2 1 k a b i := by
  rw [psub_m ha hb i hi'] at h
  by_cases h1 : a.m.getLsbD i = true
  · refine ⟨a.v, a.v ^^^ BitVec.twoPow 64 i, b.v, b.v, has_v ha, has_flip ha hi' h1, has_v hb, has_v hb, ?_⟩
    show (a.v - b.v).getLsbD i ≠ ((a.v ^^^ BitVec.twoPow 64 i) - b.v).getLsbD i
    rw [sub_bit _ _ _ hi', sub_bit _ _ _ hi', carry_flip _ _ _ hi', flip_bit _ hi']
    simp
  · by_cases h2 : b.m.getLsbD i = true
    · refine ⟨a.v, a.v, b.v, b.v ^^^ BitVec.twoPow 64 i, has_v ha, has_v ha, has_v hb, has_flip hb hi' h2, ?_⟩
      show (a.v - b.v).getLsbD i ≠ (a.v - (b.v ^^^ BitVec.twoPow 64 i)).getLsbD i
      rw [sub_bit _ _ _ hi', sub_bit _ _ _ hi', not_flip _ hi', carry_flip' _ _ _ hi', flip_bit _ hi']
      cases a.v.getLsbD i <;> cases b.v.getLsbD i <;> simp
    · refine ⟨a.v, hi a, hi b, b.v, has_v ha, has_hi ha, has_hi hb, has_v hb, ?_⟩
      show (a.v - hi b).getLsbD i ≠ (hi a - b.v).getLsbD i
      simp only [Bool.not_eq_true] at h1 h2
      rw [h1, h2] at h
      simp only [Bool.false_or] at h
      rw [sub_bit _ _ _ hi', sub_bit _ _ _ hi', hi_bit ha, hi_bit hb, h1, h2]
      revert h
      cases a.v.getLsbD i <;> cases b.v.getLsbD i <;> cases BitVec.carry i a.v (~~~(hi b)) true <;> cases BitVec.carry i (hi a) (~~~b.v) true <;> decide
theorem apart_bit {a b : T} (c k : Nat) (f : Bool → Bool → Bool) (hf : ∀ x y i, i < 64 → (opf c k x y).getLsbD i = f (x.getLsbD i) (y.getLsbD i))
    (ha : wf a) (hb : wf b) (i : Nat) (hi' : i < 64)
    (h : (a.m.getLsbD i = true ∧ f false (b.v.getLsbD i) ≠ f true (b.v.getLsbD i)) ∨ (a.m.getLsbD i = true ∧ b.m.getLsbD i = true ∧ f false false ≠ f true true) ∨ (b.m.getLsbD i = true ∧ f (a.v.getLsbD i) false ≠ f (a.v.getLsbD i) true)) : Apart2 c k a b i := by
  rcases h with ⟨h1, h2⟩ | ⟨h1, h2, h3⟩ | ⟨h1, h2⟩
  · refine ⟨a.v, hi a, b.v, b.v, has_v ha, has_hi ha, has_v hb, has_v hb, ?_⟩
    rw [hf _ _ _ hi', hf _ _ _ hi', hi_bit ha, h1]
    have := wf_bit ha i
    rw [h1] at this
    simp only [Bool.and_true] at this
    rw [this]; exact h2
  · refine ⟨a.v, hi a, b.v, hi b, has_v ha, has_hi ha, has_v hb, has_hi hb, ?_⟩
    rw [hf _ _ _ hi', hf _ _ _ hi', hi_bit ha, hi_bit hb, h1, h2]
    have := wf_bit ha i
    have u := wf_bit hb i
    rw [h1] at this
    rw [h2] at u
    simp only [Bool.and_true] at this u
    rw [this, u]; exact h3
  · refine ⟨a.v, a.v, b.v, hi b, has_v ha, has_v ha, has_v hb, has_hi hb, ?_⟩
    rw [hf _ _ _ hi', hf _ _ _ hi', hi_bit hb, h1]
    have := wf_bit hb i
    rw [h1] at this
    simp only [Bool.and_true] at this
    rw [this]; exact h2
theorem apart_sh {a b : T} (c k : Nat) (g : Nat → Option Nat) (hf : ∀ x y i, i < 64 → (opf c k x y).getLsbD i = match g i with | some j => x.getLsbD j | none => false)
    (ha : wf a) (hb : wf b) (i j : Nat) (hi' : i < 64) (hg : g i = some j) (h : a.m.getLsbD j = true) : Apart2 c k a b i := by
  refine ⟨a.v, hi a, b.v, b.v, has_v ha, has_hi ha, has_v hb, has_v hb, ?_⟩
  rw [hf _ _ _ hi', hf _ _ _ hi', hg]
  simp only
  rw [hi_bit ha, h]
  have := wf_bit ha j
  rw [h] at this
  simp only [Bool.and_true] at this
  rw [this]; decide
theorem apart_any {a b : T} (ha : wf a) (hb : wf b) (c k i : Nat) (hi' : i < 64) (h : (opT c k a b).m.getLsbD i = true) : Apart2 c k a b i := by
  have wa := wf_bit ha i
  have wb := wf_bit hb i
  match c, h with
  | 0, h => exact apart_add ha hb k i hi' h
  | 1, h => exact apart_sub ha hb k i hi' h
  | 2, h =>
    refine apart_bit 2 k (· && ·) (fun x y i _ => BitVec.getLsbD_and) ha hb i hi' ?_
    revert h wa wb
    simp only [opT, pand, wo, BitVec.getLsbD_and, BitVec.getLsbD_or, BitVec.getLsbD_not, hi', decide_true, Bool.true_and]
    cases a.v.getLsbD i <;> cases a.m.getLsbD i <;> cases b.v.getLsbD i <;> cases b.m.getLsbD i <;> decide
  | 3, h =>
    refine apart_bit 3 k (· || ·) (fun x y i _ => BitVec.getLsbD_or) ha hb i hi' ?_
    revert h wa wb
    simp only [opT, por, wo, BitVec.getLsbD_and, BitVec.getLsbD_or, BitVec.getLsbD_not, hi', decide_true, Bool.true_and]
    cases a.v.getLsbD i <;> cases a.m.getLsbD i <;> cases b.v.getLsbD i <;> cases b.m.getLsbD i <;> decide
  | 4, h =>
    refine apart_bit 4 k (fun x y => x ^^ y) (fun x y i _ => BitVec.getLsbD_xor) ha hb i hi' ?_
    revert h wa wb
    simp only [opT, pxor, wo, BitVec.getLsbD_and, BitVec.getLsbD_or, BitVec.getLsbD_not, hi', decide_true, Bool.true_and]
    cases a.v.getLsbD i <;> cases a.m.getLsbD i <;> cases b.v.getLsbD i <;> cases b.m.getLsbD i <;> decide
  | 5, h =>
    simp only [opT, BitVec.getLsbD_shiftLeft, hi', decide_true, Bool.true_and, Bool.and_eq_true, Bool.not_eq_true', decide_eq_false_iff_not] at h
    refine apart_sh 5 k (fun i => if i < k then none else some (i - k)) (fun x y i hi2 => ?_) ha hb i (i - k) hi' (if_neg h.1) h.2
    simp only [opf, BitVec.getLsbD_shiftLeft, hi2, decide_true, Bool.true_and]
    by_cases hk : i < k <;> simp [hk]
  | 6, h =>
    simp only [opT, BitVec.getLsbD_ushiftRight] at h
    refine apart_sh 6 k (fun i => some (k + i)) (fun x y i hi2 => ?_) ha hb i (k + i) hi' rfl h
    simp only [opf, BitVec.getLsbD_ushiftRight]
  | n + 7, h =>
    simp only [opT, sar_bit _ _ _ hi'] at h
    refine apart_sh (n + 7) k (fun i => some (if k + i < 64 then k + i else 63)) (fun x y i hi2 => ?_) ha hb i _ hi' rfl h
    simp only [opf, sar_bit _ _ _ hi2]
theorem orx_bit (v0 : BitVec 64) (l : List (BitVec 64)) (i : Nat) : (orx v0 l).getLsbD i = true ↔ ∃ v ∈ l, (v ^^^ v0).getLsbD i = true := by
  have key : ∀ (l : List (BitVec 64)) (m : BitVec 64), (l.foldl (fun m v => m ||| (v ^^^ v0)) m).getLsbD i = true ↔ m.getLsbD i = true ∨ ∃ v ∈ l, (v ^^^ v0).getLsbD i = true := by
    intro l
    induction l with
    | nil => intro m; simp
    | cons x r ih =>
      intro m
      rw [List.foldl_cons, ih, BitVec.getLsbD_or, Bool.or_eq_true]
      constructor
      · rintro ((h | h) | ⟨v, h1, h2⟩)
        · exact Or.inl h
        · exact Or.inr ⟨x, by simp, h⟩
        · exact Or.inr ⟨v, by simp [h1], h2⟩
      · rintro (h | ⟨v, h1, h2⟩)
        · exact Or.inl (Or.inl h)
        · rcases List.mem_cons.1 h1 with rfl | h1
          · exact Or.inl (Or.inr h2)
          · exact Or.inr ⟨v, h1, h2⟩
  unfold orx
  rw [key]
  simp
theorem tight_of {t : T} {v0 : BitVec 64} {l : List (BitVec 64)} (h0 : v0 ∈ l) (hall : ∀ x ∈ l, has t x)
    (hd : ∀ i, i < 64 → t.m.getLsbD i = true → ∃ x ∈ l, ∃ y ∈ l, x.getLsbD i ≠ y.getLsbD i) : wo v0 (orx v0 l) = t := by
  have hm : orx v0 l = t.m := by
    apply bit_ext; intro i hi'
    rw [Bool.eq_iff_iff, orx_bit]
    constructor
    · rintro ⟨v, hv, h⟩
      cases hmi : t.m.getLsbD i
      · rw [BitVec.getLsbD_xor, has_bit (hall v hv) i hi' hmi, has_bit (hall v0 h0) i hi' hmi] at h
        simp at h
      · rfl
    · intro h
      obtain ⟨x, hx, y, hy, hne⟩ := hd i hi' h
      by_cases hxv : x.getLsbD i = v0.getLsbD i
      · refine ⟨y, hy, ?_⟩
        rw [BitVec.getLsbD_xor]
        rw [hxv] at hne
        revert hne
        cases y.getLsbD i <;> cases v0.getLsbD i <;> decide
      · refine ⟨x, hx, ?_⟩
        rw [BitVec.getLsbD_xor]
        revert hxv
        cases x.getLsbD i <;> cases v0.getLsbD i <;> decide
  refine T.ext' ?_ hm
  show v0 &&& ~~~(orx v0 l) = t.v
  rw [hm]
  exact (hall v0 h0).2
/-- All pairs' results. -/
def prods (c k : Nat) (x y : List (BitVec 64)) : List (BitVec 64) := x.flatMap fun a => y.map (opf c k a)
theorem tight_prods {a b : T} (ha : wf a) (hb : wf b) {x y : List (BitVec 64)} (hx : Whole a x) (hy : Whole b y) (c k : Nat) {v0 : BitVec 64} {r : List (BitVec 64)} (h : prods c k x y = v0 :: r) :
    wo v0 (orx v0 (v0 :: r)) = opT c k a b := by
  have mem : ∀ z, z ∈ prods c k x y ↔ ∃ p q, has a p ∧ has b q ∧ z = opf c k p q := by
    intro z
    unfold prods
    rw [List.mem_flatMap]
    constructor
    · rintro ⟨p, hp, h⟩
      obtain ⟨q, hq, rfl⟩ := List.mem_map.1 h
      exact ⟨p, q, (whole_has ha hx p).1 hp, (whole_has hb hy q).1 hq, rfl⟩
    · rintro ⟨p, q, hp, hq, rfl⟩
      exact ⟨p, (whole_has ha hx p).2 hp, List.mem_map.2 ⟨q, (whole_has hb hy q).2 hq, rfl⟩⟩
  rw [h] at mem
  refine tight_of (by simp) (fun z hz => ?_) fun i hi' hm => ?_
  · obtain ⟨p, q, hp, hq, rfl⟩ := (mem z).1 hz
    exact opT_has c k hp hq
  · obtain ⟨p, p', q, q', h1, h2, h3, h4, h5⟩ := apart_any ha hb c k i hi' hm
    exact ⟨_, (mem _).2 ⟨p, q, h1, h3, rfl⟩, _, (mem _).2 ⟨p', q', h2, h4, rfl⟩, h5⟩
end Go.Proofs.Ytpmhojfbjhgjpaa
