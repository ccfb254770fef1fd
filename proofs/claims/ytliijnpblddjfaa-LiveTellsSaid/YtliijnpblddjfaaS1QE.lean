/-
  Instructions: the law InsnChecks, in plain words.
-/
import Derived.Test.YtliijnpblddjfaaS1QD
namespace Go.Proofs.Ytliijnpblddjfaa
open Go.RowKit
set_option linter.unusedVariables false
set_option linter.unusedSimpArgs false
set_option linter.unusedSectionVars false
set_option maxRecDepth 100000
theorem zx5 {n : Nat} {A : Nat → Insn} (hok : okTo n A n) {t : Nat} (h0 : 0 < t) (ht : t ≤ n) : zw (A (ziP A t)) = true ∧ (sec A (t - 1) = true → 2 ≤ t) := by
  unfold ziP
  cases hs : sec A (t - 1)
  · exact ⟨zpD (hok (t - 1) (by omega) (by omega) hs), fun h => (by cases h)⟩
  · have h2 : 2 ≤ t := by
      apply Classical.byContradiction
      intro h
      obtain rfl : t = 1 := by omega
      cases hs
    obtain ⟨d, rfl⟩ : ∃ d, t = d + 2 := ⟨t - 2, by omega⟩
    have hs2 : sec A d = false := by
      have : sec A (d + 1) = (zgG (A d) && !sec A d) := rfl
      rw [show d + 2 - 1 = d + 1 by omega, this] at hs
      cases h : sec A d
      · rfl
      · rw [h] at hs; simp at hs
    rw [if_pos rfl, show d + 2 - 2 = d by omega]
    exact ⟨zpD (hok d (by omega) (by omega) hs2), fun _ => h2⟩
section
variable {n : Nat} (hn : n ≤ 4096) {A : Nat → Insn} {G : Nat → Bool} (hG : ∀ k, k < n → G k = sec A k) (hok : okTo n A n) {g : Nat → Bool} {N : Nat} {P : Nat → Part} (hP : Parts g n N P) (hN : N ≤ n) {S : Nat → Int} (hS : ∀ i, i < N → S i = (P i).fFrom)
include hn hG hok hP hN hS
theorem zDz {m i : Nat} (Q : Nat → Part) (hm : m ≤ N) (hi : i < N) : zG n A G N S (.c1 m Q (i : Int)) =
    if ziu A (P i).fTo.toNat = true then some (.inl (.c1 (m + 1) (updF Q m (P i)) ((i + 1 : Nat) : Int))) else some (.inr (.e2 (ziP A (P i).fTo.toNat : Int))) := by
  have hl := hP.lt i hi
  have hto := hP.to hi
  obtain ⟨t, ht⟩ := Int.eq_ofNat_of_zero_le (show 0 ≤ (P i).fTo by omega)
  obtain ⟨hkn, h2⟩ := zx5 hok (t := t) (by omega) (by omega)
  have e1 : IntKind.i64.wrap ((i : Int) + 1) = ((i + 1 : Nat) : Int) := by rw [wz] <;> omega
  have et : IntKind.i64.wrap ((t : Int) - 1) = ((t - 1 : Nat) : Int) := by rw [wz] <;> omega
  have hp : (⟨S i, (t : Int)⟩ : Part) = P i := by rw [hS i hi, ← ht]
  unfold zG
  dsimp only
  simp only [Int.toNat_natCast, e1]
  rw [ht, Int.toNat_natCast]
  have core : ∀ z : Int, z = (t : Int) → (bif inR (IntKind.i64.wrap (z - 1)) n then
      bif G (IntKind.i64.wrap (z - 1)).toNat then
        bif inR (IntKind.i64.wrap (IntKind.i64.wrap (z - 1) - 1)) n then
          bif zi (A (IntKind.i64.wrap (IntKind.i64.wrap (z - 1) - 1)).toNat) 9 then
            bif inR (i : Int) N then
              bif decide (m ≤ 1000000) then some (Sum.inl (zC.c1 (m + 1) (updF Q m ⟨S i, z⟩) ((i + 1 : Nat) : Int))) else none
            else none
          else bif zi (A (IntKind.i64.wrap (IntKind.i64.wrap (z - 1) - 1)).toNat) 0 then
            bif inR (i : Int) N then
              bif decide (m ≤ 1000000) then some (Sum.inl (zC.c1 (m + 1) (updF Q m ⟨S i, z⟩) ((i + 1 : Nat) : Int))) else none
            else none
          else some (Sum.inr (zX.e2 (IntKind.i64.wrap (IntKind.i64.wrap (z - 1) - 1))))
        else none
      else bif inR (IntKind.i64.wrap (z - 1)) n then
          bif zi (A (IntKind.i64.wrap (z - 1)).toNat) 9 then
            bif inR (i : Int) N then
              bif decide (m ≤ 1000000) then some (Sum.inl (zC.c1 (m + 1) (updF Q m ⟨S i, z⟩) ((i + 1 : Nat) : Int))) else none
            else none
          else bif zi (A (IntKind.i64.wrap (z - 1)).toNat) 0 then
            bif inR (i : Int) N then
              bif decide (m ≤ 1000000) then some (Sum.inl (zC.c1 (m + 1) (updF Q m ⟨S i, z⟩) ((i + 1 : Nat) : Int))) else none
            else none
          else some (Sum.inr (zX.e2 (IntKind.i64.wrap (z - 1))))
        else none
    else none) = if ziu A t = true then some (.inl (.c1 (m + 1) (updF Q m (P i)) ((i + 1 : Nat) : Int))) else some (.inr (.e2 (ziP A t : Int))) := by
    rintro z rfl
    rw [et, bi_t (by omega), Int.toNat_natCast, hG _ (by omega), hp]
    unfold ziu
    unfold ziP at hkn ⊢
    cases hs : sec A (t - 1)
    · rw [hs] at hkn
      simp only [Bool.false_eq_true, if_false] at hkn ⊢
      rw [b_f, bi_t (by omega), zvr hkn, zAi hkn, bi_t (by omega), bd_t (by omega)]
      cases (A (t - 1)).fOp == 149#8 <;> cases (A (t - 1)).fOp == 5#8 <;> rfl
    · have h3 := h2 hs
      have et2 : IntKind.i64.wrap (((t - 1 : Nat) : Int) - 1) = ((t - 2 : Nat) : Int) := by rw [wz] <;> omega
      rw [hs] at hkn
      simp only [if_true] at hkn ⊢
      rw [b_t, et2, bi_t (by omega), Int.toNat_natCast, zvr hkn, zAi hkn, bi_t (by omega), bd_t (by omega)]
      cases (A (t - 2)).fOp == 149#8 <;> cases (A (t - 2)).fOp == 5#8 <;> rfl
  rw [bd_t (by omega)]
  by_cases c : i + 1 < N
  · have hz : S (i + 1) = (t : Int) := by rw [hS _ c, ← hP.next i c, ht]
    rw [bd_t (by omega), bi_t (by omega)]
    exact core (S (i + 1)) hz
  · have hz : (n : Int) = (t : Int) := by
      obtain rfl : i = N - 1 := by omega
      rw [← ht, hP.last]
    rw [bd_f (by omega)]
    exact core (n : Int) hz
theorem zDv : zG n A G N S .c0 =
    if ziu A (P 0).fTo.toNat = true then some (.inl (.c1 1 (fun _ => P 0) 1)) else some (.inr (.e2 (ziP A (P 0).fTo.toNat : Int))) := by
  have hi := hP.pos
  have hl := hP.lt 0 hi
  have hto := hP.to hi
  obtain ⟨t, ht⟩ := Int.eq_ofNat_of_zero_le (show 0 ≤ (P 0).fTo by omega)
  obtain ⟨hkn, h2⟩ := zx5 hok (t := t) (by omega) (by omega)
  have et : IntKind.i64.wrap ((t : Int) - 1) = ((t - 1 : Nat) : Int) := by rw [wz] <;> omega
  have hp : (⟨S 0, (t : Int)⟩ : Part) = P 0 := by rw [hS 0 hi, ← ht]
  unfold zG
  dsimp only
  simp only [Int.toNat_natCast]
  rw [ht, Int.toNat_natCast]
  have core : ∀ z : Int, z = (t : Int) → (bif inR (IntKind.i64.wrap (z - 1)) n then
      bif G (IntKind.i64.wrap (z - 1)).toNat then
        bif inR (IntKind.i64.wrap (IntKind.i64.wrap (z - 1) - 1)) n then
          bif zi (A (IntKind.i64.wrap (IntKind.i64.wrap (z - 1) - 1)).toNat) 9 then
            bif inR 0 N then
              some (Sum.inl (zC.c1 1 (fun _ => ⟨S 0, z⟩) 1))
            else none
          else bif zi (A (IntKind.i64.wrap (IntKind.i64.wrap (z - 1) - 1)).toNat) 0 then
            bif inR 0 N then
              some (Sum.inl (zC.c1 1 (fun _ => ⟨S 0, z⟩) 1))
            else none
          else some (Sum.inr (zX.e2 (IntKind.i64.wrap (IntKind.i64.wrap (z - 1) - 1))))
        else none
      else bif inR (IntKind.i64.wrap (z - 1)) n then
          bif zi (A (IntKind.i64.wrap (z - 1)).toNat) 9 then
            bif inR 0 N then
              some (Sum.inl (zC.c1 1 (fun _ => ⟨S 0, z⟩) 1))
            else none
          else bif zi (A (IntKind.i64.wrap (z - 1)).toNat) 0 then
            bif inR 0 N then
              some (Sum.inl (zC.c1 1 (fun _ => ⟨S 0, z⟩) 1))
            else none
          else some (Sum.inr (zX.e2 (IntKind.i64.wrap (z - 1))))
        else none
    else none) = if ziu A t = true then some (.inl (.c1 1 (fun _ => P 0) 1)) else some (.inr (.e2 (ziP A t : Int))) := by
    rintro z rfl
    rw [et, bi_t (by omega), Int.toNat_natCast, hG _ (by omega), hp]
    unfold ziu
    unfold ziP at hkn ⊢
    cases hs : sec A (t - 1)
    · rw [hs] at hkn
      simp only [Bool.false_eq_true, if_false] at hkn ⊢
      rw [b_f, bi_t (by omega), zvr hkn, zAi hkn, bi_t (by omega)]
      cases (A (t - 1)).fOp == 149#8 <;> cases (A (t - 1)).fOp == 5#8 <;> rfl
    · have h3 := h2 hs
      have et2 : IntKind.i64.wrap (((t - 1 : Nat) : Int) - 1) = ((t - 2 : Nat) : Int) := by rw [wz] <;> omega
      rw [hs] at hkn
      simp only [if_true] at hkn ⊢
      rw [b_t, et2, bi_t (by omega), Int.toNat_natCast, zvr hkn, zAi hkn, bi_t (by omega)]
      cases (A (t - 2)).fOp == 149#8 <;> cases (A (t - 2)).fOp == 5#8 <;> rfl
  rw [bd_t (by omega)]
  by_cases c : 1 < N
  · have hz : S 1 = (t : Int) := by rw [hS _ c, ← hP.next 0 c, ht]
    rw [bd_t (by omega), bi_t (by omega)]
    exact core (S 1) hz
  · have hz : (n : Int) = (t : Int) := by
      have : N = 1 := by omega
      have h := hP.last
      rw [this] at h
      rw [← ht, ← h]
    rw [bd_f (by omega)]
    exact core (n : Int) hz
theorem zzN : ∃ r, lpO (zG n A G N S) .c0 = some r ∧
    (((∃ Q, r = .e1 N Q ∧ ∀ i, i < N → Q i = P i) ∧ ∀ i, i < N → ziu A (P i).fTo.toNat = true) ∨ ∃ i, i < N ∧ r = .e2 (ziP A (P i).fTo.toNat : Int) ∧ ziu A (P i).fTo.toNat = false ∧ ∀ j, j < i → ziu A (P j).fTo.toNat = true) := by
  have hpos := hP.pos
  refine zgD (st := zG n A G N S) (fun s => match s with | .c0 => True | .c1 m Q x => x = (m : Int) ∧ 0 < m ∧ m ≤ N ∧ (∀ i, i < m → Q i = P i) ∧ ∀ j, j < m → ziu A (P j).fTo.toNat = true) (fun s => match s with | .c0 => N + 1 | .c1 m Q x => N - x.toNat)
    (fun _ r => ((∃ Q, r = .e1 N Q ∧ ∀ i, i < N → Q i = P i) ∧ ∀ i, i < N → ziu A (P i).fTo.toNat = true) ∨ ∃ i, i < N ∧ r = .e2 (ziP A (P i).fTo.toNat : Int) ∧ ziu A (P i).fTo.toNat = false ∧ ∀ j, j < i → ziu A (P j).fTo.toNat = true) ?_ _ trivial
  rintro (_ | ⟨m, Q, x⟩) hI
  · rw [zDv hn hG hok hP hN hS]
    cases he : ziu A (P 0).fTo.toNat
    · exact .inr ⟨_, rfl, .inr ⟨0, hpos, rfl, he, fun j hj => by omega⟩⟩
    · refine .inl ⟨_, rfl, ⟨rfl, by omega, hpos, fun i hi => ?_, fun j hj => ?_⟩, by show N - (1 : Int).toNat < N + 1; omega, fun r hr => hr⟩
      · obtain rfl : i = 0 := by omega
        rfl
      · obtain rfl : j = 0 := by omega
        exact he
  · obtain ⟨rfl, hm0, hm, hQ, hE⟩ := hI
    by_cases h : m < N
    · rw [zDz hn hG hok hP hN hS Q hm h]
      cases he : ziu A (P m).fTo.toNat
      · exact .inr ⟨_, rfl, .inr ⟨m, h, rfl, he, hE⟩⟩
      · refine .inl ⟨_, rfl, ⟨rfl, by omega, by omega, fun i hi => ?_, fun j hj => ?_⟩, by show N - ((m + 1 : Nat) : Int).toNat < N - (m : Int).toNat; omega, fun r hr => hr⟩
        · rw [zuD]
          by_cases c : i = m
          · rw [if_pos c, c]
          · rw [if_neg c]; exact hQ i (by omega)
        · by_cases c : j = m
          · subst c; exact he
          · exact hE j (by omega)
    · obtain rfl : m = N := by omega
      refine .inr ⟨.e1 m Q, ?_, .inl ⟨⟨Q, rfl, hQ⟩, hE⟩⟩
      unfold zG
      dsimp only
      rw [bd_f (by omega)]
end
/-- What both tell of subprograms. -/
def zDC : zm9 → zmO → Prop
  | .e0 a e, .e0 b f => a = b ∧ e = f
  | .e1 N P, .e1 M Q => N = M ∧ ∀ i, i < N → Q i = P i
  | _, _ => False
theorem zAl {n : Nat} {A : Nat → Insn} {g g' : Nat → Bool} (h : ∀ j, g j = true ↔ Beg n A j) (h' : ∀ j, g' j = true ↔ Beg n A j) (j : Nat) : g' j = g j := by
  have a := h j
  have b := h' j
  cases hg : g j <;> cases hg' : g' j
  · rfl
  · rw [hg] at a; rw [hg'] at b; exact absurd (a.2 (b.1 rfl)) (by simp)
  · rw [hg] at a; rw [hg'] at b; exact absurd (b.2 (a.1 rfl)) (by simp)
  · rfl
theorem Parts.uniq {g : Nat → Bool} {n N M : Nat} {P Q : Nat → Part} (hn : n ≤ 4096) (hP : Parts g n N P) (hQ : Parts g n M Q) (hN : N ≤ n) (hM : M ≤ n) : N = M ∧ ∀ i, i < N → Q i = P i := by
  obtain ⟨S, h1, h2⟩ := zwC hn (fun _ => rfl) hP hN
  obtain ⟨T, h3, h4⟩ := zwC hn (fun _ => rfl) hQ hM
  have := h1.symm.trans h3
  injection this with this
  injection this with e1 e2
  subst e1 e2
  have hf : ∀ i, i < N → (Q i).fFrom = (P i).fFrom := fun i hi => (h4 i hi).symm.trans (h2 i hi)
  refine ⟨rfl, fun i hi => ?_⟩
  have ht : (Q i).fTo = (P i).fTo := by
    by_cases c : i + 1 < N
    · rw [hP.next i c, hQ.next i c, hf _ c]
    · obtain rfl : i = N - 1 := by omega
      rw [hP.last, hQ.last]
  cases hp : P i
  cases hq : Q i
  have a := hf i hi
  rw [hp, hq] at a ht
  simp only at a ht
  rw [a, ht]
theorem zAm {n : Nat} {A : Nat → Insn} {k j : Nat} (hk : okTo n A k) (hj : okTo n A j) (hkn : k < n) (hjn : j < n) (hks : sec A k = false) (hjs : sec A j = false) (hke : errB n A k ≠ 0) (hje : errB n A j ≠ 0) : k = j := by
  apply Classical.byContradiction
  intro h
  rcases Nat.lt_or_gt_of_ne h with c | c
  · exact hke (hj k c hkn hks)
  · exact hje (hk j c hjn hjs)
theorem zBt {n : Nat} {A : Nat → Insn} {r : zm9} (h : SubsIs n A r) : ∃ r', zds n A = some r' ∧ zDC r r' := by
  unfold zds
  by_cases c0 : n = 0
  · subst c0
    cases h with
    | many _ => exact ⟨.e0 0 10, rfl, rfl, rfl⟩
    | slot _ k hk _ _ _ => omega
    | subs h0 _ _ _ _ _ _ _ _ _ => omega
    | ends h0 _ _ _ _ _ _ _ _ _ _ _ _ _ => omega
    | fine h0 _ _ _ _ _ _ _ _ _ _ => omega
  rw [bz_f (by omega)]
  by_cases c1 : 4096 < n
  · rw [bd_t (by omega)]
    cases h with
    | many _ => exact ⟨.e0 0 10, rfl, rfl, rfl⟩
    | slot hn _ _ _ _ _ => omega
    | subs _ hn _ _ _ _ _ _ _ _ => omega
    | ends _ hn _ _ _ _ _ _ _ _ _ _ _ _ => omega
    | fine _ hn _ _ _ _ _ _ _ _ _ => omega
  rw [bd_f (by omega)]
  obtain ⟨G, hG1, hG⟩ := zsj (n := n) (by omega) A
  rw [hG1]
  simp only [bs_]
  obtain ⟨w, hw1, hw⟩ := zCH (n := n) (by omega) hG
  rw [hw1]
  simp only [bs_]
  rcases hw with ⟨rfl, hok⟩ | ⟨k, hk, rfl, hks, hke, hok⟩
  · obtain ⟨g', hg1, hg'⟩ := zAH (n := n) (by omega) hG hok
    have main : ∀ (g : Nat → Bool) (hg : ∀ j, g j = true ↔ Beg n A j) (N : Nat) (P : Nat → Part) (hN : N ≤ n) (hP : Parts g n N P), ∃ S, zc7 n A = some (.e1 N S) ∧ ∀ i, i < N → S i = (P i).fFrom := fun g hg N P hN hP => by
      obtain ⟨S, hS1, hS⟩ := zwC (n := n) (by omega) (zAl hg hg') hP hN
      refine ⟨S, ?_, hS⟩
      unfold zc7
      rw [bi_t (by omega), hG1]
      simp only [bs_, Int.toNat_natCast]
      rw [bi_t (by omega), hg1]
      simp only [bs_]
      rw [hS1]
      rfl
    cases h with
    | many hx => omega
    | slot _ k hk hs he _ => exact absurd (hok k hk hk hs) he
    | subs _ _ _ g hg N P hN hP h64 =>
      obtain ⟨S, hS1, hS⟩ := main g hg N P hN hP
      simp only [hS1, bs_]
      rw [bd_t (by omega)]
      exact ⟨_, rfl, rfl, rfl⟩
    | ends _ _ _ g hg N P hN hP h64 i hi he hb =>
      obtain ⟨S, hS1, hS⟩ := main g hg N P hN hP
      simp only [hS1, bs_]
      rw [bd_f (by omega)]
      obtain ⟨w, hw1, hw⟩ := zzN (by omega) hG hok hP hN hS
      rw [hw1]
      rcases hw with ⟨⟨Q, rfl, hQ⟩, hE⟩ | ⟨j, hj, rfl, hje, hjb⟩
      · rw [hE i hi] at he; cases he
      · have : i = j := by
          apply Classical.byContradiction
          intro h
          rcases Nat.lt_or_gt_of_ne h with c | c
          · rw [hjb i c] at he; cases he
          · rw [hb j c] at hje; cases hje
        subst this
        exact ⟨_, rfl, rfl, rfl⟩
    | fine _ _ _ g hg N P hN hP h64 he =>
      obtain ⟨S, hS1, hS⟩ := main g hg N P hN hP
      simp only [hS1, bs_]
      rw [bd_f (by omega)]
      obtain ⟨w, hw1, hw⟩ := zzN (by omega) hG hok hP hN hS
      rw [hw1]
      rcases hw with ⟨⟨Q, rfl, hQ⟩, hE⟩ | ⟨j, hj, rfl, hje, hjb⟩
      · exact ⟨_, rfl, rfl, hQ⟩
      · rw [he j hj] at hje; cases hje
  · cases h with
    | many hx => omega
    | slot _ j hj hs he hok' =>
      obtain rfl := zAm hok hok' hk hj hks hs hke he
      exact ⟨_, rfl, rfl, rfl⟩
    | subs _ _ hok' _ _ _ _ _ _ _ => exact absurd (hok' k hk hk hks) hke
    | ends _ _ hok' _ _ _ _ _ _ _ _ _ _ _ => exact absurd (hok' k hk hk hks) hke
    | fine _ _ hok' _ _ _ _ _ _ _ _ => exact absurd (hok' k hk hk hks) hke
end Go.Proofs.Ytliijnpblddjfaa

