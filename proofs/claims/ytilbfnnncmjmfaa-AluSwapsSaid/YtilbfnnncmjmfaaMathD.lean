/-
  Bytes of a number, and the number that has them in the other order: laws on natural numbers. Nothing of the program stands here.
-/
import Derived.Test.YtilbfnnncmjmfaaMath
namespace Go.Proofs.Ytilbfnnncmjmfaa
open Go.RowKit
set_option linter.unusedSimpArgs false

/-- The number that has these bytes, the lowest first. -/
def nest : List Nat → Nat
  | [] => 0
  | b :: l => b + 256 * nest l
theorem split_eq (z a b : Nat) (h1 : z % 2 ^ 8 = a) (h2 : z / 2 ^ 8 = b) : z = a + 256 * b := by omega
theorem nest_and : ∀ (l m : List Nat), (∀ b ∈ l, b < 256) → (∀ b ∈ m, b < 256) → l.length = m.length → nest l &&& nest m = nest (List.zipWith (· &&& ·) l m)
  | [], [], _, _, _ => rfl
  | b :: l, c :: m, hl, hm, hn => by
    have ih := nest_and l m (fun x hx => hl x (List.mem_cons_of_mem _ hx)) (fun x hx => hm x (List.mem_cons_of_mem _ hx)) (by simpa using hn)
    have hb := hl b (List.mem_cons_self ..)
    have hc := hm c (List.mem_cons_self ..)
    show (b + 256 * nest l) &&& (c + 256 * nest m) = (b &&& c) + 256 * nest (List.zipWith (· &&& ·) l m)
    refine split_eq _ _ _ ?_ ?_
    · rw [Nat.and_mod_two_pow]
      congr 1 <;> omega
    · rw [Nat.and_div_two_pow, ← ih]
      congr 1 <;> omega
theorem nest_or : ∀ (l m : List Nat), (∀ b ∈ l, b < 256) → (∀ b ∈ m, b < 256) → l.length = m.length → nest l ||| nest m = nest (List.zipWith (· ||| ·) l m)
  | [], [], _, _, _ => rfl
  | b :: l, c :: m, hl, hm, hn => by
    have ih := nest_or l m (fun x hx => hl x (List.mem_cons_of_mem _ hx)) (fun x hx => hm x (List.mem_cons_of_mem _ hx)) (by simpa using hn)
    have hb := hl b (List.mem_cons_self ..)
    have hc := hm c (List.mem_cons_self ..)
    show (b + 256 * nest l) ||| (c + 256 * nest m) = (b ||| c) + 256 * nest (List.zipWith (· ||| ·) l m)
    refine split_eq _ _ _ ?_ ?_
    · rw [Nat.or_mod_two_pow]
      congr 1 <;> omega
    · rw [Nat.or_div_two_pow, ← ih]
      congr 1 <;> omega
theorem and_255 (c : Nat) (h : c < 256) : c &&& 255 = c := by
  have := Nat.and_two_pow_sub_one_eq_mod c 8
  rw [show (2 ^ 8 - 1 : Nat) = 255 from rfl] at this
  rw [this]; omega
theorem nest_div : ∀ (l m : List Nat), (∀ b ∈ l, b < 256) → nest (l ++ m) / 256 ^ l.length = nest m
  | [], m, _ => by simp
  | b :: l, m, h => by
    have ih := nest_div l m (fun x hx => h x (List.mem_cons_of_mem _ hx))
    have hb := h b (List.mem_cons_self ..)
    show (b + 256 * nest (l ++ m)) / 256 ^ (l.length + 1) = nest m
    rw [Nat.pow_succ, Nat.mul_comm (256 ^ l.length) 256, ← Nat.div_div_eq_div_mul, ← ih]
    congr 1
    omega
theorem nest_lt : ∀ (l : List Nat), (∀ b ∈ l, b < 256) → nest l < 256 ^ l.length
  | [], _ => by simp [nest]
  | b :: l, h => by
    have ih := nest_lt l (fun x hx => h x (List.mem_cons_of_mem _ hx))
    have hb := h b (List.mem_cons_self ..)
    show b + 256 * nest l < 256 ^ (l.length + 1)
    rw [Nat.pow_succ]
    generalize 256 ^ l.length = P at *
    omega
theorem nest_app : ∀ (l m : List Nat), nest (l ++ m) = nest l + 256 ^ l.length * nest m
  | [], m => by simp [nest]
  | b :: l, m => by
    show b + 256 * nest (l ++ m) = b + 256 * nest l + 256 ^ (l.length + 1) * nest m
    rw [nest_app l m, Nat.mul_add, ← Nat.mul_assoc, Nat.pow_succ, Nat.mul_comm 256 (256 ^ l.length), Nat.add_assoc]
theorem nest_mod (l m : List Nat) (h : ∀ b ∈ l, b < 256) : nest (l ++ m) % 256 ^ l.length = nest l := by
  rw [nest_app, Nat.add_mul_mod_self_left, Nat.mod_eq_of_lt (nest_lt l h)]

/-- The first n bytes of a number, the first one highest. -/
def tn (a : Nat) : Nat → Nat
  | 0 => 0
  | n + 1 => 256 * tn a n + a / 2 ^ (8 * n) % 256

theorem rev16 (a : Nat) (h : a < 65536) : (a / 256) ||| (a * 256 % 65536) = tn a 2 := by
  have h0 : a / 256 = nest [a / 256, 0] := by simp [nest]
  have h1 : a * 256 % 65536 = nest [0, a % 256] := by simp only [nest]; omega
  rw [h1]
  conv => lhs; rw [h0]
  rw [nest_or]
  · simp [nest, tn]
    omega
  · simp <;> omega
  · simp <;> omega
  · rfl
set_option maxRecDepth 100000 in
theorem rev32 (a : Nat) (h : a < 4294967296) (s : Nat) (hs : s = (a / 256 &&& 16711935) ||| ((a &&& 16711935) * 256 % 4294967296)) :
    (s / 65536) ||| (s * 65536 % 4294967296) = tn a 4 := by
  obtain ⟨b0, e0⟩ : ∃ b, b = a % 256 := ⟨_, rfl⟩
  obtain ⟨b1, e1⟩ : ∃ b, b = a / 256 % 256 := ⟨_, rfl⟩
  obtain ⟨b2, e2⟩ : ∃ b, b = a / 65536 % 256 := ⟨_, rfl⟩
  obtain ⟨b3, e3⟩ : ∃ b, b = a / 16777216 := ⟨_, rfl⟩
  have l0 : b0 < 256 := by omega
  have l1 : b1 < 256 := by omega
  have l2 : b2 < 256 := by omega
  have l3 : b3 < 256 := by omega
  have ea : a = nest [b0, b1, b2, b3] := by simp only [nest]; omega
  have eq : a / 256 = nest [b1, b2, b3, 0] := by simp only [nest]; omega
  have em : (16711935 : Nat) = nest [255, 0, 255, 0] := rfl
  have x1 : (a / 256 &&& 16711935) = nest [b1, 0, b3, 0] := by
    rw [eq, em, nest_and]
    · simp [and_255, l1, l3]
    · simp <;> omega
    · simp
    · rfl
  have x2 : (a &&& 16711935) = nest [b0, 0, b2, 0] := by
    rw [em]; conv => lhs; rw [ea]
    rw [nest_and]
    · simp [and_255, l0, l2]
    · simp <;> omega
    · simp
    · rfl
  have x3 : nest [b0, 0, b2, 0] * 256 % 4294967296 = nest [0, b0, 0, b2] := by simp only [nest]; omega
  have x4 : s = nest [b1, b0, b3, b2] := by
    rw [hs, x1, x2, x3, nest_or]
    · simp
    · simp <;> omega
    · simp <;> omega
    · rfl
  have x5 : s / 65536 = nest [b3, b2, 0, 0] := by rw [x4]; simp only [nest]; omega
  have x6 : s * 65536 % 4294967296 = nest [0, 0, b1, b0] := by rw [x4]; simp only [nest]; omega
  rw [x5, x6, nest_or]
  · simp [nest, tn]
    omega
  · simp <;> omega
  · simp <;> omega
  · rfl
set_option maxRecDepth 100000 in
set_option maxHeartbeats 4000000 in
theorem bytes8 (a : Nat) (h : a < 18446744073709551616) : ∃ b0 b1 b2 b3 b4 b5 b6 b7 : Nat, (b0 < 256 ∧ b1 < 256 ∧ b2 < 256 ∧ b3 < 256 ∧ b4 < 256 ∧ b5 < 256 ∧ b6 < 256 ∧ b7 < 256) ∧
    a = nest [b0, b1, b2, b3, b4, b5, b6, b7] ∧ tn a 8 = nest [b7, b6, b5, b4, b3, b2, b1, b0] := by
  refine ⟨a % 256, a / 256 % 256, a / 65536 % 256, a / 16777216 % 256, a / 4294967296 % 256, a / 1099511627776 % 256, a / 281474976710656 % 256, a / 72057594037927936 % 256, ⟨by omega, by omega, by omega, by omega, by omega, by omega, by omega, by omega⟩, ?_, ?_⟩
  · simp only [nest]; omega
  · simp only [tn, nest, Nat.mul_zero, Nat.pow_zero, Nat.reduceMul, Nat.reducePow, Nat.div_one, Nat.add_zero]
    generalize a % 256 = c0
    generalize a / 256 % 256 = c1
    generalize a / 65536 % 256 = c2
    generalize a / 16777216 % 256 = c3
    generalize a / 4294967296 % 256 = c4
    generalize a / 1099511627776 % 256 = c5
    generalize a / 281474976710656 % 256 = c6
    generalize a / 72057594037927936 % 256 = c7
    omega
set_option maxRecDepth 100000 in
set_option maxHeartbeats 4000000 in
theorem rev64 (a : Nat) (h : a < 18446744073709551616) (s t : Nat)
    (hs : s = (a / 256 &&& 71777214294589695) ||| ((a &&& 71777214294589695) * 256 % 18446744073709551616))
    (ht : t = (s / 65536 &&& 281470681808895) ||| ((s &&& 281470681808895) * 65536 % 18446744073709551616)) :
    (t / 4294967296) ||| (t * 4294967296 % 18446744073709551616) = tn a 8 := by
  obtain ⟨b0, b1, b2, b3, b4, b5, b6, b7, ⟨l0, l1, l2, l3, l4, l5, l6, l7⟩, ea, et⟩ := bytes8 a h
  rw [et]
  clear et h
  have eq : a / 256 = nest [b1, b2, b3, b4, b5, b6, b7, 0] := by
    have := nest_div [b0] [b1, b2, b3, b4, b5, b6, b7] (by simp; omega)
    simp only [List.length_cons, List.length_nil, List.cons_append, List.nil_append, Nat.reduceAdd, Nat.zero_add, Nat.reducePow] at this
    rw [ea, this]
    simp only [nest, Nat.mul_zero, Nat.add_zero]
  have em : (71777214294589695 : Nat) = nest [255, 0, 255, 0, 255, 0, 255, 0] := rfl
  have en : (281470681808895 : Nat) = nest [255, 255, 0, 0, 255, 255, 0, 0] := rfl
  have x1 : (a / 256 &&& 71777214294589695) = nest [b1, 0, b3, 0, b5, 0, b7, 0] := by
    rw [eq, em, nest_and]
    · simp [and_255, l1, l3, l5, l7]
    · simp <;> omega
    · simp
    · rfl
  have x2 : (a &&& 71777214294589695) = nest [b0, 0, b2, 0, b4, 0, b6, 0] := by
    rw [ea, em, nest_and]
    · simp [and_255, l0, l2, l4, l6]
    · simp <;> omega
    · simp
    · rfl
  have x3 : nest [b0, 0, b2, 0, b4, 0, b6, 0] * 256 % 18446744073709551616 = nest [0, b0, 0, b2, 0, b4, 0, b6] := by
    have e : nest [b0, 0, b2, 0, b4, 0, b6, 0] * 256 = nest [0, b0, 0, b2, 0, b4, 0, b6, 0] := by
      simp only [nest]; omega
    rw [e]
    have := nest_mod [0, b0, 0, b2, 0, b4, 0, b6] [0] (by simp; omega)
    simp only [List.length_cons, List.length_nil, List.cons_append, List.nil_append, Nat.reduceAdd, Nat.zero_add, Nat.reducePow] at this
    exact this
  have x4 : s = nest [b1, b0, b3, b2, b5, b4, b7, b6] := by
    rw [hs, x1, x2, x3, nest_or]
    · simp
    · simp <;> omega
    · simp <;> omega
    · rfl
  clear x1 x2 x3 eq ea hs
  have y0 : s / 65536 = nest [b3, b2, b5, b4, b7, b6, 0, 0] := by
    have := nest_div [b1, b0] [b3, b2, b5, b4, b7, b6] (by simp; omega)
    simp only [List.length_cons, List.length_nil, List.cons_append, List.nil_append, Nat.reduceAdd, Nat.zero_add, Nat.reducePow] at this
    rw [x4, this]
    simp only [nest, Nat.mul_zero, Nat.add_zero]
  have y1 : (s / 65536 &&& 281470681808895) = nest [b3, b2, 0, 0, b7, b6, 0, 0] := by
    rw [y0, en, nest_and]
    · simp [and_255, l2, l3, l6, l7]
    · simp <;> omega
    · simp
    · rfl
  have y2 : (s &&& 281470681808895) = nest [b1, b0, 0, 0, b5, b4, 0, 0] := by
    rw [en, x4, nest_and]
    · simp [and_255, l0, l1, l4, l5]
    · simp <;> omega
    · simp
    · rfl
  have y3 : nest [b1, b0, 0, 0, b5, b4, 0, 0] * 65536 % 18446744073709551616 = nest [0, 0, b1, b0, 0, 0, b5, b4] := by
    have e : nest [b1, b0, 0, 0, b5, b4, 0, 0] * 65536 = nest [0, 0, b1, b0, 0, 0, b5, b4, 0, 0] := by
      simp only [nest]; omega
    rw [e]
    have := nest_mod [0, 0, b1, b0, 0, 0, b5, b4] [0, 0] (by simp; omega)
    simp only [List.length_cons, List.length_nil, List.cons_append, List.nil_append, Nat.reduceAdd, Nat.zero_add, Nat.reducePow] at this
    exact this
  have y4 : t = nest [b3, b2, b1, b0, b7, b6, b5, b4] := by
    rw [ht, y1, y2, y3, nest_or]
    · simp
    · simp <;> omega
    · simp <;> omega
    · rfl
  clear y0 y1 y2 y3 ht x4
  have z0 : t / 4294967296 = nest [b7, b6, b5, b4, 0, 0, 0, 0] := by
    have := nest_div [b3, b2, b1, b0] [b7, b6, b5, b4] (by simp; omega)
    simp only [List.length_cons, List.length_nil, List.cons_append, List.nil_append, Nat.reduceAdd, Nat.zero_add, Nat.reducePow] at this
    rw [y4, this]
    simp only [nest, Nat.mul_zero, Nat.add_zero]
  have z1 : t * 4294967296 % 18446744073709551616 = nest [0, 0, 0, 0, b3, b2, b1, b0] := by
    have e : nest [b3, b2, b1, b0, b7, b6, b5, b4] * 4294967296 = nest [0, 0, 0, 0, b3, b2, b1, b0, b7, b6, b5, b4] := by
      simp only [nest]; omega
    rw [y4, e]
    have := nest_mod [0, 0, 0, 0, b3, b2, b1, b0] [b7, b6, b5, b4] (by simp; omega)
    simp only [List.length_cons, List.length_nil, List.cons_append, List.nil_append, Nat.reduceAdd, Nat.zero_add, Nat.reducePow] at this
    exact this
  rw [z0, z1, nest_or]
  · simp
  · simp <;> omega
  · simp <;> omega
  · rfl
/-! Turned twice. -/
theorem tn_nest2 (b0 b1 : Nat) (l0 : b0 < 256) (l1 : b1 < 256) : tn (nest [b0, b1]) 2 = nest [b1, b0] := by
  have d0 : nest [b0, b1] / 1 % 256 = b0 := by simp only [nest]; omega
  have d1 : nest [b0, b1] / 256 % 256 = b1 := by simp only [nest]; omega
  simp only [tn, Nat.mul_zero, Nat.pow_zero, Nat.reduceMul, Nat.reducePow, d0, d1]
  simp only [nest]; omega
theorem tn_2 (a : Nat) : tn (tn a 2) 2 = a % 65536 ∧ tn (a % 65536) 2 = tn a 2 ∧ tn a 2 < 65536 := by
  obtain ⟨b0, e0⟩ : ∃ b, b = a / 1 % 256 := ⟨_, rfl⟩
  have l0 : b0 < 256 := by omega
  obtain ⟨b1, e1⟩ : ∃ b, b = a / 256 % 256 := ⟨_, rfl⟩
  have l1 : b1 < 256 := by omega
  have ea : a % 65536 = nest [b0, b1] := by simp only [nest]; omega
  have et : tn a 2 = nest [b1, b0] := by
    simp only [tn, Nat.mul_zero, Nat.pow_zero, Nat.reduceMul, Nat.reducePow, ← e0, ← e1]
    simp only [nest]; omega
  rw [et, ea, tn_nest2 b1 b0 l1 l0, tn_nest2 b0 b1 l0 l1]
  refine ⟨rfl, rfl, ?_⟩
  simp only [nest]; omega
theorem tn_nest4 (b0 b1 b2 b3 : Nat) (l0 : b0 < 256) (l1 : b1 < 256) (l2 : b2 < 256) (l3 : b3 < 256) : tn (nest [b0, b1, b2, b3]) 4 = nest [b3, b2, b1, b0] := by
  have d0 : nest [b0, b1, b2, b3] / 1 % 256 = b0 := by simp only [nest]; omega
  have d1 : nest [b0, b1, b2, b3] / 256 % 256 = b1 := by simp only [nest]; omega
  have d2 : nest [b0, b1, b2, b3] / 65536 % 256 = b2 := by simp only [nest]; omega
  have d3 : nest [b0, b1, b2, b3] / 16777216 % 256 = b3 := by simp only [nest]; omega
  simp only [tn, Nat.mul_zero, Nat.pow_zero, Nat.reduceMul, Nat.reducePow, d0, d1, d2, d3]
  simp only [nest]; omega
theorem tn_4 (a : Nat) : tn (tn a 4) 4 = a % 4294967296 ∧ tn (a % 4294967296) 4 = tn a 4 ∧ tn a 4 < 4294967296 := by
  obtain ⟨b0, e0⟩ : ∃ b, b = a / 1 % 256 := ⟨_, rfl⟩
  have l0 : b0 < 256 := by omega
  obtain ⟨b1, e1⟩ : ∃ b, b = a / 256 % 256 := ⟨_, rfl⟩
  have l1 : b1 < 256 := by omega
  obtain ⟨b2, e2⟩ : ∃ b, b = a / 65536 % 256 := ⟨_, rfl⟩
  have l2 : b2 < 256 := by omega
  obtain ⟨b3, e3⟩ : ∃ b, b = a / 16777216 % 256 := ⟨_, rfl⟩
  have l3 : b3 < 256 := by omega
  have ea : a % 4294967296 = nest [b0, b1, b2, b3] := by simp only [nest]; omega
  have et : tn a 4 = nest [b3, b2, b1, b0] := by
    simp only [tn, Nat.mul_zero, Nat.pow_zero, Nat.reduceMul, Nat.reducePow, ← e0, ← e1, ← e2, ← e3]
    simp only [nest]; omega
  rw [et, ea, tn_nest4 b3 b2 b1 b0 l3 l2 l1 l0, tn_nest4 b0 b1 b2 b3 l0 l1 l2 l3]
  refine ⟨rfl, rfl, ?_⟩
  simp only [nest]; omega
set_option maxRecDepth 100000 in
set_option maxHeartbeats 4000000 in
theorem tn_8 (a : Nat) (h : a < 18446744073709551616) : tn (tn a 8) 8 = a ∧ tn a 8 < 18446744073709551616 := by
  obtain ⟨b0, b1, b2, b3, b4, b5, b6, b7, ⟨l0, l1, l2, l3, l4, l5, l6, l7⟩, ea, et⟩ := bytes8 a h
  rw [et, ea]
  have lt := nest_lt [b7, b6, b5, b4, b3, b2, b1, b0] (by simp; omega)
  simp only [List.length_cons, List.length_nil, Nat.reduceAdd, Nat.zero_add, Nat.reducePow] at lt
  refine ⟨?_, lt⟩
  have d0 : nest [b7, b6, b5, b4, b3, b2, b1, b0] / 1 % 256 = b7 := by
    rw [Nat.div_one]; simp only [nest]; omega
  have d1 : nest [b7, b6, b5, b4, b3, b2, b1, b0] / 256 % 256 = b6 := by
    have e : nest [b7, b6, b5, b4, b3, b2, b1, b0] / 256 = nest [b6, b5, b4, b3, b2, b1, b0] := by
      have := nest_div [b7] [b6, b5, b4, b3, b2, b1, b0] (by simp; omega)
      simp only [List.length_cons, List.length_nil, List.cons_append, List.nil_append, Nat.reduceAdd, Nat.zero_add, Nat.reducePow] at this
      exact this
    rw [e]; simp only [nest]; omega
  have d2 : nest [b7, b6, b5, b4, b3, b2, b1, b0] / 65536 % 256 = b5 := by
    have e : nest [b7, b6, b5, b4, b3, b2, b1, b0] / 65536 = nest [b5, b4, b3, b2, b1, b0] := by
      have := nest_div [b7, b6] [b5, b4, b3, b2, b1, b0] (by simp; omega)
      simp only [List.length_cons, List.length_nil, List.cons_append, List.nil_append, Nat.reduceAdd, Nat.zero_add, Nat.reducePow] at this
      exact this
    rw [e]; simp only [nest]; omega
  have d3 : nest [b7, b6, b5, b4, b3, b2, b1, b0] / 16777216 % 256 = b4 := by
    have e : nest [b7, b6, b5, b4, b3, b2, b1, b0] / 16777216 = nest [b4, b3, b2, b1, b0] := by
      have := nest_div [b7, b6, b5] [b4, b3, b2, b1, b0] (by simp; omega)
      simp only [List.length_cons, List.length_nil, List.cons_append, List.nil_append, Nat.reduceAdd, Nat.zero_add, Nat.reducePow] at this
      exact this
    rw [e]; simp only [nest]; omega
  have d4 : nest [b7, b6, b5, b4, b3, b2, b1, b0] / 4294967296 % 256 = b3 := by
    have e : nest [b7, b6, b5, b4, b3, b2, b1, b0] / 4294967296 = nest [b3, b2, b1, b0] := by
      have := nest_div [b7, b6, b5, b4] [b3, b2, b1, b0] (by simp; omega)
      simp only [List.length_cons, List.length_nil, List.cons_append, List.nil_append, Nat.reduceAdd, Nat.zero_add, Nat.reducePow] at this
      exact this
    rw [e]; simp only [nest]; omega
  have d5 : nest [b7, b6, b5, b4, b3, b2, b1, b0] / 1099511627776 % 256 = b2 := by
    have e : nest [b7, b6, b5, b4, b3, b2, b1, b0] / 1099511627776 = nest [b2, b1, b0] := by
      have := nest_div [b7, b6, b5, b4, b3] [b2, b1, b0] (by simp; omega)
      simp only [List.length_cons, List.length_nil, List.cons_append, List.nil_append, Nat.reduceAdd, Nat.zero_add, Nat.reducePow] at this
      exact this
    rw [e]; simp only [nest]; omega
  have d6 : nest [b7, b6, b5, b4, b3, b2, b1, b0] / 281474976710656 % 256 = b1 := by
    have e : nest [b7, b6, b5, b4, b3, b2, b1, b0] / 281474976710656 = nest [b1, b0] := by
      have := nest_div [b7, b6, b5, b4, b3, b2] [b1, b0] (by simp; omega)
      simp only [List.length_cons, List.length_nil, List.cons_append, List.nil_append, Nat.reduceAdd, Nat.zero_add, Nat.reducePow] at this
      exact this
    rw [e]; simp only [nest]; omega
  have d7 : nest [b7, b6, b5, b4, b3, b2, b1, b0] / 72057594037927936 % 256 = b0 := by
    have e : nest [b7, b6, b5, b4, b3, b2, b1, b0] / 72057594037927936 = nest [b0] := by
      have := nest_div [b7, b6, b5, b4, b3, b2, b1] [b0] (by simp; omega)
      simp only [List.length_cons, List.length_nil, List.cons_append, List.nil_append, Nat.reduceAdd, Nat.zero_add, Nat.reducePow] at this
      exact this
    rw [e]; simp only [nest]; omega
  simp only [tn, Nat.mul_zero, Nat.pow_zero, Nat.reduceMul, Nat.reducePow, d0, d1, d2, d3, d4, d5, d6, d7]
  simp only [nest]; omega
end Go.Proofs.Ytilbfnnncmjmfaa
