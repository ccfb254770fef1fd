/-
  Where operations go on, what is reached, in plain words.
-/
import Derived.Test.YtliijnpblddjfaaFM
import Derived.Test.YtliijnpblddjfaaS1QF
import Derived.Test.YtliijnpblddjfaaLTF
namespace Go.Proofs.Ytliijnpblddjfaa
open Go.RowKit
set_option linter.unusedVariables false
set_option linter.unusedSimpArgs false
theorem ct {α : Sort _} {x y : α} {b : Bool} (h : b = true) : (bif b then x else y) = x := by rw [h]; rfl
theorem cf {α : Sort _} {x y : α} {b : Bool} (h : b = false) : (bif b then x else y) = y := by rw [h]; rfl
theorem zjU {k : Nat} (h : k < 1000000) : IntKind.i64.wrap ((k : Int) + 1) = ((k + 1 : Nat) : Int) := by rw [wr] <;> omega
theorem zwR {x : Insn} (h : zV x = true) : (x.fOp == 24#8) = false ∧ (x.fOp == 133#8) = false ∧ (x.fOp == 149#8) = false ∧ (x.fOp == 0#8) = false := by
  unfold zV at h
  revert h
  generalize x.fOp = o
  revert o
  decide
theorem zxm {x : Insn} (h : zV x = true) : zs x = false := by
  obtain ⟨h1, h2, _⟩ := zwR h
  unfold zs
  rw [cf h1, cf h2]
theorem zzt {x : Insn} (h : zs x = true) : zV x = false := by
  cases e : zV x
  · rfl
  · rw [zxm e] at h; cases h
theorem zy2 {x : Insn} (h : zV x = true) : wid x = 1 := by
  have : zgG x = false := (zwR h).1
  unfold wid
  rw [this]
  rfl
theorem zBT {x : Insn} (h : (x.fOp == 5#8) = true) : zV x = true := by
  have : x.fOp = 5#8 := by simpa using h
  unfold zV
  rw [this]
  rfl
theorem zBP {n : Nat} {A : Nat → Insn} {k : Nat} (h : zpx n A k = true) : (A (k + 1)).fOp = 0#8 := by
  unfold zpx at h
  simp only [Bool.and_eq_true] at h
  simpa using h.2.1
inductive Way (E : Nat → Nat → Prop) : Nat → Prop where
  | root : Way E 0
  | step {k t : Nat} : Way E k → E k t → Way E t
/-- The slot k goes on at t. -/
def Edge (A : Nat → Insn) (k t : Nat) : Prop :=
  (zV (A k) = true ∧ (k : Int) + 1 + ii (A k).fOff = (t : Int)) ∨ (((A k).fOp == 149#8) = false ∧ ((A k).fOp == 5#8) = false ∧ t = k + wid (A k)) ∨ (zs (A k) = true ∧ (k : Int) + 1 + ii (A k).fImm = (t : Int))
def Slot (n : Nat) (A : Nat → Insn) (k : Nat) : Prop := k < n ∧ sec A k = false
section
variable {n N : Nat} {A : Nat → Insn} {P : Nat → Part}
theorem zyc {g : Nat → Bool} (h : Parts g n N P) {k : Nat} (hk : k < n) : ∃ i, i < N ∧ (P i).fFrom ≤ k ∧ (k : Int) < (P i).fTo := by
  have key : ∀ i, i < N → (∃ i', i' ≤ i ∧ (P i').fFrom ≤ k ∧ (k : Int) < (P i').fTo) ∨ (P i).fTo ≤ k := by
    intro i
    induction i with
    | zero =>
      intro hi
      have := h.first
      by_cases c : (k : Int) < (P 0).fTo
      · exact .inl ⟨0, Nat.le_refl _, by omega, c⟩
      · exact .inr (by omega)
    | succ i ih =>
      intro hi
      rcases ih (by omega) with ⟨i', h1, h2⟩ | h1
      · exact .inl ⟨i', by omega, h2⟩
      · have := h.next i hi
        by_cases c : (k : Int) < (P (i + 1)).fTo
        · exact .inl ⟨i + 1, Nat.le_refl _, by omega, c⟩
        · exact .inr (by omega)
  have hp := h.pos
  rcases key (N - 1) (by omega) with ⟨i', h1, h2⟩ | h1
  · exact ⟨i', by omega, h2⟩
  · have := h.last
    omega
theorem Fine.known (h : Fine n A N P) {k : Nat} (hk : k < n) (hs : sec A k = false) : zw (A k) = true := zpD (h.ok k hk hk hs)
/-- Where an operation goes on in its own subprogram. -/
theorem Fine.fallIn (h : Fine n A N P) {i k : Nat} (hi : i < N) (hk : (k : Int) < (P i).fTo) (hs : sec A k = false) (h1 : ((A k).fOp == 149#8) = false) (h2 : ((A k).fOp == 5#8) = false) : ((k + wid (A k) : Nat) : Int) < (P i).fTo := by
  unfold wid
  cases hw : zgG (A k)
  · have : (P i).fTo ≠ ((k + 1 : Nat) : Int) := fun e => by
      rcases h.last hi e hs with c | c
      · rw [h1] at c; cases c
      · rw [h2] at c; cases c
    simp only [Bool.false_eq_true, if_false]
    omega
  · have := h.wide hi hk hs hw
    simp only [if_true]
    omega
theorem Fine.jumpIn (h : Fine n A N P) {i k : Nat} (hi : i < N) (hf : (P i).fFrom ≤ k) (hk : (k : Int) < (P i).fTo) (hs : sec A k = false) (hj : zV (A k) = true) : ∃ t : Nat, (k : Int) + 1 + ii (A k).fOff = (t : Int) ∧ (P i).fFrom ≤ t ∧ (t : Int) < (P i).fTo ∧ sec A t = false := by
  obtain ⟨g, hP⟩ := h.parts
  have hl := hP.lt i hi
  obtain ⟨h5, h6⟩ := h.goes hi hf hk hs hj
  have hb := h.stay i hi k hf hk hs
  unfold zP at hb
  rw [hj, Bool.true_and, Bool.or_eq_false_iff, Bool.or_eq_false_iff] at hb
  exact ⟨((k : Int) + 1 + ii (A k).fOff).toNat, by omega, by omega, by omega, hb.2.2⟩
theorem Fine.nameTo (h : Fine n A N P) {k : Nat} (hk : k < n) (hs : sec A k = false) (hn : zs (A k) = true) : ∃ t : Nat, (k : Int) + 1 + ii (A k).fImm = (t : Int) ∧ 0 < t ∧ t < n ∧ sec A t = false := by
  obtain ⟨h1, h2, h3⟩ := zux.1 (zs2 (h.ok k hk hk hs) hn)
  exact ⟨((k : Int) + 1 + ii (A k).fImm).toNat, by omega, by omega, by omega, h3⟩
theorem Fine.edge (h : Fine n A N P) {k t : Nat} (hk : Slot n A k) (he : Edge A k t) : Slot n A t := by
  obtain ⟨g, hP⟩ := h.parts
  obtain ⟨i, hi, h3, h4⟩ := zyc hP hk.1
  have ht := hP.to hi
  rcases he with ⟨hj, e⟩ | ⟨h1, h2, rfl⟩ | ⟨hn, e⟩
  · obtain ⟨t', e', _, h5, h6⟩ := h.jumpIn hi h3 h4 hk.2 hj
    obtain rfl : t = t' := by omega
    exact ⟨by omega, h6⟩
  · have := h.fallIn hi h4 hk.2 h1 h2
    exact ⟨by omega, zu7 hk.2⟩
  · obtain ⟨t', e', _, h5, h6⟩ := h.nameTo hk.1 hk.2 hn
    obtain rfl : t = t' := by omega
    exact ⟨h5, h6⟩
theorem zxe (h : Fine n A N P) {k : Nat} (hk : Slot n A k) (hj : zV (A k) = true) : zel n A (k : Int) = some ((k : Int) + 1 + ii (A k).fOff, true) := by
  obtain ⟨g, hP⟩ := h.parts
  obtain ⟨i, hi, h3, h4⟩ := zyc hP hk.1
  have ht := hP.to hi
  obtain ⟨t, h1, h2, h3, h5⟩ := h.jumpIn hi h3 h4 hk.2 hj
  have hm := h.most
  have hkn := hk.1
  have e1 : IntKind.i64.wrap ((k : Int) + 1) = (k : Int) + 1 := by rw [wr] <;> omega
  have e3 : IntKind.i64.wrap ((k : Int) + 1 + ii (A k).fOff) = (k : Int) + 1 + ii (A k).fOff := by rw [wr] <;> omega
  unfold zel
  rw [zsO hm hk.1, zt hk.1, Int.toNat_natCast, e1, e3, h.known hk.1 hk.2, hk.2]
  simp only [Option.bind_some]
  rw [ct (b := true && !false) rfl, ct (b := true) rfl, cf (zxm hj), ct hj, cf (d_f (by omega)), cf (d_f (by omega))]
theorem zzw (h : Fine n A N P) {k : Nat} (hk : Slot n A k) (hn : zs (A k) = true) : zel n A (k : Int) = some ((k : Int) + 1 + ii (A k).fImm, true) := by
  obtain ⟨t, h1, h2, h3, h5⟩ := h.nameTo hk.1 hk.2 hn
  have hm := h.most
  have hkn := hk.1
  have e1 : IntKind.i64.wrap ((k : Int) + 1) = (k : Int) + 1 := by rw [wr] <;> omega
  have e3 : IntKind.i64.wrap ((k : Int) + 1 + ii (A k).fImm) = (k : Int) + 1 + ii (A k).fImm := by rw [wr] <;> omega
  unfold zel
  rw [zsO hm hk.1, zt hk.1, Int.toNat_natCast, e1, e3, h.known hk.1 hk.2, hk.2]
  simp only [Option.bind_some]
  rw [ct (b := true && !false) rfl, ct (b := true) rfl, ct hn, cf (d_f (by omega)), cf (d_f (by omega))]
theorem zzj (h : Fine n A N P) {k : Nat} (hk : k < n) (hn : sec A k = true ∨ zs (A k) = false ∧ zV (A k) = false) : ∃ x, zel n A (k : Int) = some (x, false) := by
  have hm := h.most
  unfold zel
  rw [zsO hm hk, zt hk, Int.toNat_natCast]
  simp only [Option.bind_some]
  rcases hn with hs | ⟨h1, h2⟩
  · rw [hs, cf (by simp)]
    exact ⟨_, rfl⟩
  · cases (zw (A k) && !sec A k)
    · rw [cf rfl]; exact ⟨_, rfl⟩
    · rw [ct rfl, ct rfl, cf h1, cf h2]; exact ⟨_, rfl⟩
/-- What a list of slots to go on at must be. -/
def zA7 (A : Nat → Insn) (nm : Bool) (k m : Nat) (L : Nat → Int) : Prop :=
  m ≤ 2 ∧ (∀ i, i < m → ∃ t : Nat, L i = (t : Int) ∧ Edge A k t) ∧ ∀ t : Nat, Edge A k t → (∃ i, i < m ∧ L i = (t : Int)) ∨ (zs (A k) = true ∧ (k : Int) + 1 + ii (A k).fImm = (t : Int))
theorem zs7 {A : Nat → Insn} {k : Nat} (hx : ((A k).fOp == 149#8) = true) : zA7 A false k 0 (fun _ => 0) := by
  refine ⟨by omega, fun i hi => by omega, fun t he => ?_⟩
  rcases he with ⟨hj, _⟩ | ⟨h1, _⟩ | h
  · rw [(zwR hj).2.2.1] at hx; cases hx
  · rw [hx] at h1; cases h1
  · exact .inr h
theorem znD {A : Nat → Insn} {k t : Nat} {L : Nat → Int} (hL : L 0 = (t : Int)) (he : Edge A k t) (hall : ∀ t' : Nat, ((zV (A k) = true ∧ (k : Int) + 1 + ii (A k).fOff = (t' : Int)) ∨ (((A k).fOp == 149#8) = false ∧ ((A k).fOp == 5#8) = false ∧ t' = k + wid (A k))) → t' = t) : zA7 A false k 1 L := by
  refine ⟨by omega, fun i hi => ⟨t, by rw [show i = 0 by omega]; exact hL, he⟩, fun t' h => ?_⟩
  rcases h with h | h | h
  · rw [hall t' (.inl h)]; exact .inl ⟨0, by omega, hL⟩
  · rw [hall t' (.inr h)]; exact .inl ⟨0, by omega, hL⟩
  · exact .inr h
theorem zyU {A : Nat → Insn} {k : Nat} {s t : Nat} {L : Nat → Int} (h0 : L 0 = (s : Int)) (h1 : L 1 = (t : Int)) (es : Edge A k s) (et : Edge A k t) (hall : ∀ t' : Nat, ((zV (A k) = true ∧ (k : Int) + 1 + ii (A k).fOff = (t' : Int)) ∨ (((A k).fOp == 149#8) = false ∧ ((A k).fOp == 5#8) = false ∧ t' = k + wid (A k))) → t' = s ∨ t' = t) : zA7 A false k 2 L := by
  refine ⟨by omega, fun i hi => ?_, fun t' h => ?_⟩
  · rcases (show i = 0 ∨ i = 1 by omega) with rfl | rfl
    · exact ⟨s, h0, es⟩
    · exact ⟨t, h1, et⟩
  · have key : (t' = s ∨ t' = t) → ∃ i, i < 2 ∧ L i = (t' : Int) := fun h => by
      rcases h with rfl | rfl
      · exact ⟨0, by omega, h0⟩
      · exact ⟨1, by omega, h1⟩
    rcases h with h | h | h
    · exact .inl (key (hall t' (.inl h)))
    · exact .inl (key (hall t' (.inr h)))
    · exact .inr h
theorem zzg (h : Fine n A N P) {k : Nat} (hk : Slot n A k) : (((A k).fOp == 149#8) = true ∧ zbs n A (k : Int) = some .e0) ∨ ∃ m L, zbs n A (k : Int) = some (.e1 m L) ∧ zA7 A false k m L := by
  have hm := h.most
  have hkn := hk.1
  unfold zbs
  rw [ct (zt hk.1), Int.toNat_natCast, zqc]
  simp only [zv]
  have hw := zw0 (A k)
  have ew : IntKind.i64.wrap ((k : Int) + (wid (A k) : Int)) = ((k + wid (A k) : Nat) : Int) := by rw [wr] <;> omega
  cases hx : ((A k).fOp == 149#8)
  · rw [cf rfl, ew]
    refine .inr ?_
    cases hj : zV (A k)
    · rw [cf rfl]
      have h5 : ((A k).fOp == 5#8) = false := by
        cases c : ((A k).fOp == 5#8)
        · rfl
        · rw [zBT c] at hj; cases hj
      refine ⟨_, _, rfl, znD (t := k + wid (A k)) rfl (.inr (.inl ⟨hx, h5, rfl⟩)) fun t' ht => ?_⟩
      rcases ht with ⟨c, _⟩ | ⟨_, _, c⟩
      · rw [hj] at c; cases c
      · exact c
    · rw [ct rfl, zxe h hk hj]
      simp only [Option.bind_some]
      obtain ⟨g, hP⟩ := h.parts
      obtain ⟨i, hi, q3, q4⟩ := zyc hP hk.1
      obtain ⟨t, e, _, _, _⟩ := h.jumpIn hi q3 q4 hk.2 hj
      have ej : Edge A k t := .inl ⟨hj, e⟩
      rw [e]
      cases h5 : ((A k).fOp == 5#8)
      · rw [cf rfl]
        have es : Edge A k (k + wid (A k)) := .inr (.inl ⟨hx, h5, rfl⟩)
        by_cases c : t = k + wid (A k)
        · rw [ct (by rw [c]; simp)]
          refine ⟨_, _, rfl, znD (t := t) rfl ej fun t' ht => ?_⟩
          rcases ht with ⟨_, c'⟩ | ⟨_, _, c'⟩ <;> omega
        · rw [cf (by rw [beq_eq_false_iff_ne]; omega)]
          refine ⟨_, _, rfl, zyU (s := k + wid (A k)) (t := t) (by rw [zbW _ _ (by decide)]) (by rw [zcM]) es ej fun t' ht => ?_⟩
          rcases ht with ⟨_, c'⟩ | ⟨_, _, c'⟩ <;> omega
      · rw [ct rfl]
        refine ⟨_, _, rfl, znD (t := t) rfl ej fun t' ht => ?_⟩
        rcases ht with ⟨_, c'⟩ | ⟨_, c', _⟩
        · omega
        · rw [h5] at c'; cases c'
  · rw [ct rfl]
    exact .inl ⟨rfl, rfl⟩
theorem zB0 (h : Fine n A N P) {k : Nat} (hk : Slot n A k) : (zs (A k) = false ∧ ∃ x, zdg n A (k : Int) = some (x, false)) ∨ (zs (A k) = true ∧ zdg n A (k : Int) = some ((k : Int) + 1 + ii (A k).fImm, true)) := by
  unfold zdg
  rw [ct (zt hk.1), Int.toNat_natCast]
  cases hn : zs (A k)
  · refine .inl ⟨rfl, ?_⟩
    cases hj : zV (A k)
    · obtain ⟨x, hx⟩ := zzj h hk.1 (.inr ⟨hn, hj⟩)
      rw [cf rfl, hx]
      exact ⟨_, rfl⟩
    · rw [ct rfl]
      exact ⟨_, rfl⟩
  · rw [cf (zzt hn), zzw h hk hn]
    exact .inr ⟨rfl, rfl⟩
theorem zCd (x : BitVec 16) (h : (x == 0#16) = true) : ii x = 0 := by
  have : x = 0#16 := by simpa using h
  rw [this]
  rfl
theorem zx6 (h : Fine n A N P) {k : Nat} (hk : Slot n A k) : (((A k).fOp == 149#8) = true ∧ zbQ n A (k : Int) = some .e0) ∨ ∃ m L, zbQ n A (k : Int) = some (.e1 m L) ∧ zA7 A false k m L := by
  have hm := h.most
  have hkn := hk.1
  have kn := h.known hk.1 hk.2
  have h16 := ii16 (A k).fOff
  have e1 : IntKind.i64.wrap ((k : Int) + 1) = (k : Int) + 1 := by rw [wr] <;> omega
  have e2 : IntKind.i64.wrap ((k : Int) + 2) = (k : Int) + 2 := by rw [wr] <;> omega
  have e3 : IntKind.i64.wrap ((k : Int) + 1 + ii (A k).fOff) = (k : Int) + 1 + ii (A k).fOff := by rw [wr] <;> omega
  have je := zyH kn
  unfold zbQ
  rw [ct (zt hk.1), Int.toNat_natCast, e1, e2, e3, zvr kn]
  rw [zAi kn] at je ⊢
  cases hx : ((A k).fOp == 149#8)
  · rw [cf rfl]
    refine .inr ?_
    cases hj : zV (A k)
    · rw [hj, Bool.or_eq_false_iff] at je
      rw [je.1, je.2, cf rfl, cf rfl]
      have es : Edge A k (k + wid (A k)) := .inr (.inl ⟨hx, je.1, rfl⟩)
      have hall : ∀ t' : Nat, ((zV (A k) = true ∧ (k : Int) + 1 + ii (A k).fOff = (t' : Int)) ∨ (((A k).fOp == 149#8) = false ∧ ((A k).fOp == 5#8) = false ∧ t' = k + wid (A k))) → t' = k + wid (A k) := fun t' ht => by
        rcases ht with ⟨c, _⟩ | ⟨_, _, c⟩
        · rw [hj] at c; cases c
        · exact c
      have wd : wid (A k) = if ((A k).fOp == 24#8) = true then 2 else 1 := rfl
      unfold zK
      cases hw : ((A k).fOp == 24#8)
      · rw [hw] at wd
        rw [cf rfl]
        exact ⟨_, _, rfl, znD (by rw [wd]; simp) es hall⟩
      · rw [hw] at wd
        rw [ct rfl]
        exact ⟨_, _, rfl, znD (by rw [wd]; simp) es hall⟩
    · obtain ⟨g, hP⟩ := h.parts
      obtain ⟨i, hi, q3, q4⟩ := zyc hP hk.1
      obtain ⟨t, e, _, _, _⟩ := h.jumpIn hi q3 q4 hk.2 hj
      have ej : Edge A k t := .inl ⟨hj, e⟩
      have hw1 := zy2 hj
      cases h5 : ((A k).fOp == 5#8)
      · rw [hj, h5, Bool.false_or] at je
        rw [cf rfl, je, ct rfl]
        have es : Edge A k (k + wid (A k)) := .inr (.inl ⟨hx, h5, rfl⟩)
        cases h0 : ((A k).fOff == 0#16)
        · rw [cf rfl, e]
          refine ⟨_, _, rfl, zyU (s := k + wid (A k)) (t := t) (by rw [zbW _ _ (by decide)]; omega) (by rw [zcM]) es ej fun t' ht => ?_⟩
          rcases ht with ⟨_, c'⟩ | ⟨_, _, c'⟩ <;> omega
        · have := zCd _ h0
          rw [ct rfl]
          refine ⟨_, _, rfl, znD (t := k + wid (A k)) (by omega) es fun t' ht => ?_⟩
          rcases ht with ⟨_, c'⟩ | ⟨_, _, c'⟩ <;> omega
      · rw [ct rfl, e]
        refine ⟨_, _, rfl, znD (t := t) rfl ej fun t' ht => ?_⟩
        rcases ht with ⟨_, c'⟩ | ⟨_, c', _⟩
        · omega
        · rw [h5] at c'; cases c'
  · rw [ct rfl]
    exact .inl ⟨rfl, rfl⟩
end
/-! ### Slots that wait -/
def miss (R : Nat → Bool) : Nat → Nat
  | 0 => 0
  | n + 1 => miss R n + (if R n then 0 else 1)
theorem zx7 {R R' : Nat → Bool} : ∀ {n : Nat}, (∀ k, k < n → R k = R' k) → miss R n = miss R' n
  | 0, _ => rfl
  | n + 1, h => by unfold miss; rw [zx7 (n := n) fun k hk => h k (by omega), h n (by omega)]
theorem zz7 {R : Nat → Bool} {t : Nat} (h0 : R t = false) : ∀ {n : Nat}, t < n → miss (updF R t true) n + 1 = miss R n
  | 0, h => by omega
  | n + 1, h => by
    unfold miss
    by_cases e : t = n
    · subst e
      rw [zcM, h0, zx7 (R' := R) fun k hk => zbW R true (by omega)]
      simp
    · rw [zbW R true (show n ≠ t by omega), ← zz7 h0 (show t < n by omega)]
      omega
theorem zzr {R : Nat → Bool} : ∀ {n : Nat}, miss R n ≤ n
  | 0 => Nat.le_refl _
  | n + 1 => by
    unfold miss
    have := zzr (R := R) (n := n)
    split <;> omega
structure PS where
  R : Nat → Bool
  W : Nat
  Q : Nat → Int
/-- The slot x waits, if it wasn't reached. -/
def zt9 (x : Int) (s : PS) : PS := if s.R x.toNat then s else ⟨updF s.R x.toNat true, s.W + 1, updF s.Q s.W x⟩
def zdt (L : Nat → Int) (s : PS) : Nat → PS
  | 0 => s
  | j + 1 => zt9 (L j) (zdt L s j)
structure zCT (n : Nat) (L : Nat → Int) (m : Nat) (s s' : PS) : Prop where
  mono : ∀ k, s.R k = true → s'.R k = true
  all : ∀ i, i < m → s'.R (L i).toNat = true
  lo : s.W ≤ s'.W
  hi : s'.W ≤ s.W + m
  keep : ∀ i, i < s.W → s'.Q i = s.Q i
  wait : ∀ i, s.W ≤ i → i < s'.W → ∃ j, j < m ∧ s'.Q i = L j
  seen : ∀ k, s'.R k = true → s.R k = true ∨ ∃ i, s.W ≤ i ∧ i < s'.W ∧ s'.Q i = (k : Int)
  size : 2 * miss s'.R n + s'.W ≤ 2 * miss s.R n + s.W
theorem ziU {n : Nat} {L : Nat → Int} {s : PS} : ∀ m, (∀ i, i < m → ∃ t : Nat, L i = (t : Int) ∧ t < n) → zCT n L m s (zdt L s m)
  | 0, _ => ⟨fun _ h => h, fun i hi => by omega, Nat.le_refl _, Nat.le_refl _, fun _ _ => rfl, fun i h1 h2 => by change i < s.W at h2; omega, fun _ h => .inl h, Nat.le_refl _⟩
  | m + 1, h => by
    have ih := ziU (n := n) (L := L) (s := s) m fun i hi => h i (by omega)
    obtain ⟨t, et, ht⟩ := h m (by omega)
    have e : zdt L s (m + 1) = zt9 (L m) (zdt L s m) := rfl
    rw [e]
    generalize zdt L s m = p at ih ⊢
    unfold zt9
    rw [et, Int.toNat_natCast]
    cases hr : p.R t
    · rw [if_neg (by simp)]
      refine ⟨fun k hk => ?_, fun i hi => ?_, by show s.W ≤ p.W + 1; have := ih.lo; omega, by show p.W + 1 ≤ _; have := ih.hi; omega, fun i hi => ?_, fun i h1 h2 => ?_, fun k hk => ?_, ?_⟩
      · show updF p.R t true k = true
        unfold updF
        split
        · rfl
        · exact ih.mono k hk
      · show updF p.R t true _ = true
        by_cases c : i = m
        · subst c; rw [et, Int.toNat_natCast, zcM]
        · unfold updF
          split
          · rfl
          · exact ih.all i (by omega)
      · show updF p.Q p.W (t : Int) i = _
        have := ih.lo
        rw [zbW _ _ (by omega)]
        exact ih.keep i hi
      · change i < p.W + 1 at h2
        show ∃ j, j < m + 1 ∧ updF p.Q p.W (t : Int) i = L j
        by_cases c : i = p.W
        · subst c; exact ⟨m, by omega, by rw [zcM, et]⟩
        · obtain ⟨j, q1, q2⟩ := ih.wait i h1 (by omega)
          exact ⟨j, by omega, by rw [zbW _ _ c]; exact q2⟩
      · change updF p.R t true k = true at hk
        show _ ∨ ∃ i, s.W ≤ i ∧ i < p.W + 1 ∧ updF p.Q p.W (t : Int) i = (k : Int)
        have := ih.lo
        by_cases c : k = t
        · subst c
          exact .inr ⟨p.W, this, by omega, zcM _ _ _⟩
        · rw [zbW _ _ c] at hk
          rcases ih.seen k hk with q | ⟨i, q1, q2, q3⟩
          · exact .inl q
          · exact .inr ⟨i, q1, by omega, by rw [zbW _ _ (by omega)]; exact q3⟩
      · show 2 * miss (updF p.R t true) n + (p.W + 1) ≤ _
        have := zz7 hr ht
        have := ih.size
        omega
    · rw [if_pos rfl]
      refine ⟨ih.mono, fun i hi => ?_, ih.lo, by have := ih.hi; omega, ih.keep, fun i h1 h2 => ?_, ih.seen, ih.size⟩
      · by_cases c : i = m
        · subst c; rw [et, Int.toNat_natCast]; exact hr
        · exact ih.all i (by omega)
      · obtain ⟨j, q1, q2⟩ := ih.wait i h1 h2
        exact ⟨j, by omega, q2⟩

theorem zhm (rb1 : Int) {n : Nat} {R0 : Nat → Bool} {W0 : Nat} {Q0 : Nat → Int} (hm : 1 ≤ 3) (hv : ∀ i, i < 1 → ∃ t : Nat, (fun _ => rb1) i = (t : Int) ∧ t < n) (hW : W0 ≤ 900000) : ∀ d j, j + d = 1 → lpO (zbl n rb1) (.c0 (zdt (fun _ => rb1) ⟨R0, W0, Q0⟩ j).R (zdt (fun _ => rb1) ⟨R0, W0, Q0⟩ j).W (zdt (fun _ => rb1) ⟨R0, W0, Q0⟩ j).Q (j : Int)) = some (.e0 (zdt (fun _ => rb1) ⟨R0, W0, Q0⟩ (1)).R (fun _ => rb1) (zdt (fun _ => rb1) ⟨R0, W0, Q0⟩ (1)).W (zdt (fun _ => rb1) ⟨R0, W0, Q0⟩ (1)).Q)
  | 0, j, h => by
    obtain rfl : j = 1 := by omega
    exact zfz (by
      unfold zbl
      simp only
      rw [cf (d_f (by omega))])
  | d + 1, j, h => by
    have ih := zhm rb1 (R0 := R0) (W0 := W0) (Q0 := Q0)  hm hv hW d (j + 1) (by omega)
    rw [← ih]
    have hp := ziU (n := n) (L := (fun _ => rb1)) (s := ⟨R0, W0, Q0⟩) j fun i hi => hv i (by omega)
    have hhi := hp.hi
    change _ ≤ W0 + j at hhi
    obtain ⟨t, et, ht⟩ := hv j (by omega)
    try dsimp only at et
    have e : zdt (fun _ => rb1) ⟨R0, W0, Q0⟩ (j + 1) = zt9 ((fun _ => rb1) j) (zdt (fun _ => rb1) ⟨R0, W0, Q0⟩ j) := rfl
    rw [e]
    generalize zdt (fun _ => rb1) ⟨R0, W0, Q0⟩ j = p at hhi ⊢
    refine zdd ?_
    unfold zbl
    simp only [Int.toNat_natCast]
    rw [ct (d_t (by omega)), ct (zt (by omega)), et, ct (zt ht), Int.toNat_natCast, zjU (by omega)]
    unfold zt9
    rw [Int.toNat_natCast]
    cases hr : p.R t
    · rw [cf rfl, ct (d_t (by omega)), if_neg (by simp)]
    · rw [ct rfl, if_pos rfl]

theorem zgJ (gb0_0 : Nat) (gb0_1 : Nat → Int) (rb1 : Int) {n : Nat} {R0 : Nat → Bool} {W0 : Nat} {Q0 : Nat → Int} (hm : gb0_0 + 1 ≤ 3) (hv : ∀ i, i < gb0_0 + 1 → ∃ t : Nat, (updF gb0_1 gb0_0 rb1) i = (t : Int) ∧ t < n) (hW : W0 ≤ 900000) : ∀ d j, j + d = gb0_0 + 1 → lpO (zbg n gb0_0 gb0_1 rb1) (.c0 (zdt (updF gb0_1 gb0_0 rb1) ⟨R0, W0, Q0⟩ j).R (zdt (updF gb0_1 gb0_0 rb1) ⟨R0, W0, Q0⟩ j).W (zdt (updF gb0_1 gb0_0 rb1) ⟨R0, W0, Q0⟩ j).Q (j : Int)) = some (.e0 (zdt (updF gb0_1 gb0_0 rb1) ⟨R0, W0, Q0⟩ (gb0_0 + 1)).R (updF gb0_1 gb0_0 rb1) (zdt (updF gb0_1 gb0_0 rb1) ⟨R0, W0, Q0⟩ (gb0_0 + 1)).W (zdt (updF gb0_1 gb0_0 rb1) ⟨R0, W0, Q0⟩ (gb0_0 + 1)).Q)
  | 0, j, h => by
    obtain rfl : j = gb0_0 + 1 := by omega
    exact zfz (by
      unfold zbg
      simp only
      rw [cf (d_f (by omega))])
  | d + 1, j, h => by
    have ih := zgJ gb0_0 gb0_1 rb1 (R0 := R0) (W0 := W0) (Q0 := Q0)  hm hv hW d (j + 1) (by omega)
    rw [← ih]
    have hp := ziU (n := n) (L := (updF gb0_1 gb0_0 rb1)) (s := ⟨R0, W0, Q0⟩) j fun i hi => hv i (by omega)
    have hhi := hp.hi
    change _ ≤ W0 + j at hhi
    obtain ⟨t, et, ht⟩ := hv j (by omega)
    try dsimp only at et
    have e : zdt (updF gb0_1 gb0_0 rb1) ⟨R0, W0, Q0⟩ (j + 1) = zt9 ((updF gb0_1 gb0_0 rb1) j) (zdt (updF gb0_1 gb0_0 rb1) ⟨R0, W0, Q0⟩ j) := rfl
    rw [e]
    generalize zdt (updF gb0_1 gb0_0 rb1) ⟨R0, W0, Q0⟩ j = p at hhi ⊢
    refine zdd ?_
    unfold zbg
    simp only [Int.toNat_natCast]
    rw [ct (d_t (by omega)), ct (zt (by omega)), et, ct (zt ht), Int.toNat_natCast, zjU (by omega)]
    unfold zt9
    rw [Int.toNat_natCast]
    cases hr : p.R t
    · rw [cf rfl, ct (d_t (by omega)), if_neg (by simp)]
    · rw [ct rfl, if_pos rfl]

theorem zgO (gb0_0 : Nat) (gb0_1 : Nat → Int) {n : Nat} {R0 : Nat → Bool} {W0 : Nat} {Q0 : Nat → Int} (hm : gb0_0 ≤ 3) (hv : ∀ i, i < gb0_0 → ∃ t : Nat, (gb0_1) i = (t : Int) ∧ t < n) (hW : W0 ≤ 900000) : ∀ d j, j + d = gb0_0 → lpO (zbf n gb0_0 gb0_1) (.c0 (zdt (gb0_1) ⟨R0, W0, Q0⟩ j).R (zdt (gb0_1) ⟨R0, W0, Q0⟩ j).W (zdt (gb0_1) ⟨R0, W0, Q0⟩ j).Q (j : Int)) = some (.e0 (zdt (gb0_1) ⟨R0, W0, Q0⟩ (gb0_0)).R (zdt (gb0_1) ⟨R0, W0, Q0⟩ (gb0_0)).W (zdt (gb0_1) ⟨R0, W0, Q0⟩ (gb0_0)).Q)
  | 0, j, h => by
    obtain rfl : j = gb0_0 := by omega
    exact zfz (by
      unfold zbf
      simp only
      rw [cf (d_f (by omega))])
  | d + 1, j, h => by
    have ih := zgO gb0_0 gb0_1 (R0 := R0) (W0 := W0) (Q0 := Q0)  hm hv hW d (j + 1) (by omega)
    rw [← ih]
    have hp := ziU (n := n) (L := (gb0_1)) (s := ⟨R0, W0, Q0⟩) j fun i hi => hv i (by omega)
    have hhi := hp.hi
    change _ ≤ W0 + j at hhi
    obtain ⟨t, et, ht⟩ := hv j (by omega)
    try dsimp only at et
    have e : zdt (gb0_1) ⟨R0, W0, Q0⟩ (j + 1) = zt9 ((gb0_1) j) (zdt (gb0_1) ⟨R0, W0, Q0⟩ j) := rfl
    rw [e]
    generalize zdt (gb0_1) ⟨R0, W0, Q0⟩ j = p at hhi ⊢
    refine zdd ?_
    unfold zbf
    simp only [Int.toNat_natCast]
    rw [ct (d_t (by omega)), ct (zt (by omega)), et, ct (zt ht), Int.toNat_natCast, zjU (by omega)]
    unfold zt9
    rw [Int.toNat_natCast]
    cases hr : p.R t
    · rw [cf rfl, ct (d_t (by omega)), if_neg (by simp)]
    · rw [ct rfl, if_pos rfl]

theorem zfG (rb1 : (Int) × (Bool)) {n : Nat} {R0 : Nat → Bool} {W0 : Nat} {Q0 : Nat → Int} (hm : 1 ≤ 3) (hv : ∀ i, i < 1 → ∃ t : Nat, (fun _ => rb1.1) i = (t : Int) ∧ t < n) (hW : W0 ≤ 900000) : ∀ d j, j + d = 1 → lpO (zS n rb1) (.c0 (zdt (fun _ => rb1.1) ⟨R0, W0, Q0⟩ j).R (zdt (fun _ => rb1.1) ⟨R0, W0, Q0⟩ j).W (zdt (fun _ => rb1.1) ⟨R0, W0, Q0⟩ j).Q (j : Int)) = some (.e0 (zdt (fun _ => rb1.1) ⟨R0, W0, Q0⟩ (1)).R (fun _ => rb1.1) (zdt (fun _ => rb1.1) ⟨R0, W0, Q0⟩ (1)).W (zdt (fun _ => rb1.1) ⟨R0, W0, Q0⟩ (1)).Q)
  | 0, j, h => by
    obtain rfl : j = 1 := by omega
    exact zfz (by
      unfold zS
      simp only
      rw [cf (d_f (by omega))])
  | d + 1, j, h => by
    have ih := zfG rb1 (R0 := R0) (W0 := W0) (Q0 := Q0)  hm hv hW d (j + 1) (by omega)
    rw [← ih]
    have hp := ziU (n := n) (L := (fun _ => rb1.1)) (s := ⟨R0, W0, Q0⟩) j fun i hi => hv i (by omega)
    have hhi := hp.hi
    change _ ≤ W0 + j at hhi
    obtain ⟨t, et, ht⟩ := hv j (by omega)
    try dsimp only at et
    have e : zdt (fun _ => rb1.1) ⟨R0, W0, Q0⟩ (j + 1) = zt9 ((fun _ => rb1.1) j) (zdt (fun _ => rb1.1) ⟨R0, W0, Q0⟩ j) := rfl
    rw [e]
    generalize zdt (fun _ => rb1.1) ⟨R0, W0, Q0⟩ j = p at hhi ⊢
    refine zdd ?_
    unfold zS
    simp only [Int.toNat_natCast]
    rw [ct (d_t (by omega)), ct (zt (by omega)), et, ct (zt ht), Int.toNat_natCast, zjU (by omega)]
    unfold zt9
    rw [Int.toNat_natCast]
    cases hr : p.R t
    · rw [cf rfl, ct (d_t (by omega)), if_neg (by simp)]
    · rw [ct rfl, if_pos rfl]

theorem zfs (gb0_0 : Nat) (gb0_1 : Nat → Int) (rb1 : (Int) × (Bool)) {n : Nat} {R0 : Nat → Bool} {W0 : Nat} {Q0 : Nat → Int} (hm : gb0_0 + 1 ≤ 3) (hv : ∀ i, i < gb0_0 + 1 → ∃ t : Nat, (updF gb0_1 gb0_0 rb1.1) i = (t : Int) ∧ t < n) (hW : W0 ≤ 900000) : ∀ d j, j + d = gb0_0 + 1 → lpO (zN n gb0_0 gb0_1 rb1) (.c0 (zdt (updF gb0_1 gb0_0 rb1.1) ⟨R0, W0, Q0⟩ j).R (zdt (updF gb0_1 gb0_0 rb1.1) ⟨R0, W0, Q0⟩ j).W (zdt (updF gb0_1 gb0_0 rb1.1) ⟨R0, W0, Q0⟩ j).Q (j : Int)) = some (.e0 (zdt (updF gb0_1 gb0_0 rb1.1) ⟨R0, W0, Q0⟩ (gb0_0 + 1)).R (updF gb0_1 gb0_0 rb1.1) (zdt (updF gb0_1 gb0_0 rb1.1) ⟨R0, W0, Q0⟩ (gb0_0 + 1)).W (zdt (updF gb0_1 gb0_0 rb1.1) ⟨R0, W0, Q0⟩ (gb0_0 + 1)).Q)
  | 0, j, h => by
    obtain rfl : j = gb0_0 + 1 := by omega
    exact zfz (by
      unfold zN
      simp only
      rw [cf (d_f (by omega))])
  | d + 1, j, h => by
    have ih := zfs gb0_0 gb0_1 rb1 (R0 := R0) (W0 := W0) (Q0 := Q0)  hm hv hW d (j + 1) (by omega)
    rw [← ih]
    have hp := ziU (n := n) (L := (updF gb0_1 gb0_0 rb1.1)) (s := ⟨R0, W0, Q0⟩) j fun i hi => hv i (by omega)
    have hhi := hp.hi
    change _ ≤ W0 + j at hhi
    obtain ⟨t, et, ht⟩ := hv j (by omega)
    try dsimp only at et
    have e : zdt (updF gb0_1 gb0_0 rb1.1) ⟨R0, W0, Q0⟩ (j + 1) = zt9 ((updF gb0_1 gb0_0 rb1.1) j) (zdt (updF gb0_1 gb0_0 rb1.1) ⟨R0, W0, Q0⟩ j) := rfl
    rw [e]
    generalize zdt (updF gb0_1 gb0_0 rb1.1) ⟨R0, W0, Q0⟩ j = p at hhi ⊢
    refine zdd ?_
    unfold zN
    simp only [Int.toNat_natCast]
    rw [ct (d_t (by omega)), ct (zt (by omega)), et, ct (zt ht), Int.toNat_natCast, zjU (by omega)]
    unfold zt9
    rw [Int.toNat_natCast]
    cases hr : p.R t
    · rw [cf rfl, ct (d_t (by omega)), if_neg (by simp)]
    · rw [ct rfl, if_pos rfl]

theorem zfv (gb0_0 : Nat) (gb0_1 : Nat → Int) {n : Nat} {R0 : Nat → Bool} {W0 : Nat} {Q0 : Nat → Int} (hm : gb0_0 ≤ 3) (hv : ∀ i, i < gb0_0 → ∃ t : Nat, (gb0_1) i = (t : Int) ∧ t < n) (hW : W0 ≤ 900000) : ∀ d j, j + d = gb0_0 → lpO (zM n gb0_0 gb0_1) (.c0 (zdt (gb0_1) ⟨R0, W0, Q0⟩ j).R (zdt (gb0_1) ⟨R0, W0, Q0⟩ j).W (zdt (gb0_1) ⟨R0, W0, Q0⟩ j).Q (j : Int)) = some (.e0 (zdt (gb0_1) ⟨R0, W0, Q0⟩ (gb0_0)).R (zdt (gb0_1) ⟨R0, W0, Q0⟩ (gb0_0)).W (zdt (gb0_1) ⟨R0, W0, Q0⟩ (gb0_0)).Q)
  | 0, j, h => by
    obtain rfl : j = gb0_0 := by omega
    exact zfz (by
      unfold zM
      simp only
      rw [cf (d_f (by omega))])
  | d + 1, j, h => by
    have ih := zfv gb0_0 gb0_1 (R0 := R0) (W0 := W0) (Q0 := Q0)  hm hv hW d (j + 1) (by omega)
    rw [← ih]
    have hp := ziU (n := n) (L := (gb0_1)) (s := ⟨R0, W0, Q0⟩) j fun i hi => hv i (by omega)
    have hhi := hp.hi
    change _ ≤ W0 + j at hhi
    obtain ⟨t, et, ht⟩ := hv j (by omega)
    try dsimp only at et
    have e : zdt (gb0_1) ⟨R0, W0, Q0⟩ (j + 1) = zt9 ((gb0_1) j) (zdt (gb0_1) ⟨R0, W0, Q0⟩ j) := rfl
    rw [e]
    generalize zdt (gb0_1) ⟨R0, W0, Q0⟩ j = p at hhi ⊢
    refine zdd ?_
    unfold zM
    simp only [Int.toNat_natCast]
    rw [ct (d_t (by omega)), ct (zt (by omega)), et, ct (zt ht), Int.toNat_natCast, zjU (by omega)]
    unfold zt9
    rw [Int.toNat_natCast]
    cases hr : p.R t
    · rw [cf rfl, ct (d_t (by omega)), if_neg (by simp)]
    · rw [ct rfl, if_pos rfl]

/-- What is known while slots wait. -/
structure RI (n : Nat) (A : Nat → Insn) (s : PS) : Prop where
  zero : s.R 0 = true
  first : ∀ k, s.R k = true → Slot n A k ∧ Way (Edge A) k
  wait : ∀ i, i < s.W → ∃ k : Nat, s.Q i = (k : Int) ∧ s.R k = true
  closed : ∀ k, s.R k = true → (∃ i, i < s.W ∧ s.Q i = (k : Int)) ∨ ∀ t, Edge A k t → s.R t = true
/-- What is reached. -/
structure zpB (n : Nat) (A : Nat → Insn) (R : Nat → Bool) : Prop where
  zero : R 0 = true
  first : ∀ k, R k = true → Slot n A k ∧ Way (Edge A) k
  closed : ∀ k t, R k = true → Edge A k t → R t = true
theorem ri0 {n : Nat} {A : Nat → Insn} (h0 : 0 < n) : RI n A ⟨updF (fun _ => false) 0 true, 1, fun _ => 0⟩ := by
  refine ⟨rfl, fun k hk => ?_, fun i hi => ⟨0, rfl, rfl⟩, fun k hk => ?_⟩
  · change updF (fun _ => false) 0 true k = true at hk
    by_cases c : k = 0
    · subst c; exact ⟨⟨h0, rfl⟩, .root⟩
    · rw [zbW _ _ c] at hk; cases hk
  · change updF (fun _ => false) 0 true k = true at hk
    by_cases c : k = 0
    · subst c; exact .inl ⟨0, by show 0 < 1; omega, rfl⟩
    · rw [zbW _ _ c] at hk; cases hk
theorem RI.push {n N : Nat} {A : Nat → Insn} {P : Nat → Part} (hF : Fine n A N P) {R : Nat → Bool} {w : Nat} {Q : Nat → Int} (h : RI n A ⟨R, w + 1, Q⟩) {k m : Nat} {L : Nat → Int} (hk : Q w = (k : Int)) (hL : ∀ i, i < m → ∃ t : Nat, L i = (t : Int) ∧ Edge A k t) (hall : ∀ t : Nat, Edge A k t → ∃ i, i < m ∧ L i = (t : Int)) :
    (∀ i, i < m → ∃ t : Nat, L i = (t : Int) ∧ t < n) ∧ RI n A (zdt L ⟨R, w, Q⟩ m) ∧ 2 * miss (zdt L ⟨R, w, Q⟩ m).R n + (zdt L ⟨R, w, Q⟩ m).W < 2 * miss R n + (w + 1) := by
  obtain ⟨k', e', hr⟩ := h.wait w (Nat.lt_succ_self _)
  change Q w = _ at e'
  change R k' = true at hr
  obtain rfl : k' = k := by omega
  have hs := h.first k' hr
  have hv : ∀ i, i < m → ∃ t : Nat, L i = (t : Int) ∧ t < n := fun i hi => by
    obtain ⟨t, e, he⟩ := hL i hi
    exact ⟨t, e, (hF.edge hs.1 he).1⟩
  have hp := ziU (n := n) (L := L) (s := ⟨R, w, Q⟩) m hv
  refine ⟨hv, ?_, by have := hp.size; change _ ≤ 2 * miss R n + w at this; omega⟩
  generalize zdt L ⟨R, w, Q⟩ m = p at hp ⊢
  have hlo := hp.lo
  change w ≤ p.W at hlo
  refine ⟨hp.mono 0 h.zero, fun j hj => ?_, fun i hi => ?_, fun j hj => ?_⟩
  · rcases hp.seen j hj with q | ⟨i, q1, q2, q3⟩
    · exact h.first j q
    · obtain ⟨a, a1, a2⟩ := hp.wait i q1 q2
      obtain ⟨t, e, he⟩ := hL a a1
      obtain rfl : j = t := by omega
      exact ⟨hF.edge hs.1 he, .step hs.2 he⟩
  · by_cases c : i < w
    · obtain ⟨j, e, q⟩ := h.wait i (show i < w + 1 by omega)
      exact ⟨j, by rw [hp.keep i c]; exact e, hp.mono j q⟩
    · obtain ⟨a, a1, a2⟩ := hp.wait i (show w ≤ i by omega) hi
      obtain ⟨t, e, he⟩ := hL a a1
      refine ⟨t, a2.trans e, ?_⟩
      have := hp.all a a1
      rw [e, Int.toNat_natCast] at this
      exact this
  · rcases hp.seen j hj with q | ⟨i, q1, q2, q3⟩
    · by_cases c : j = k'
      · subst c
        refine .inr fun t he => ?_
        obtain ⟨i, hi, e⟩ := hall t he
        have := hp.all i hi
        rw [e, Int.toNat_natCast] at this
        exact this
      · rcases h.closed j q with ⟨i, q1, q2⟩ | q1
        · change i < w + 1 at q1
          change Q i = _ at q2
          have : i < w := by
            by_cases ce : i = w
            · subst ce; exact absurd (by omega) c
            · omega
          exact .inl ⟨i, by omega, by rw [hp.keep i this]; exact q2⟩
        · exact .inr fun t he => hp.mono t (q1 t he)
    · exact .inl ⟨i, q2, q3⟩

theorem zl6 {n N : Nat} {A : Nat → Insn} {P : Nat → Part} (hF : Fine n A N P) {R : Nat → Bool} {w : Nat} {Q : Nat → Int} (h : RI n A ⟨R, w + 1, Q⟩) (hw : w ≤ 800000) :
    ∃ p : PS, zbd n A (.c0 R (w + 1) Q) = some (.inl (.c0 p.R p.W p.Q)) ∧ RI n A p ∧ 2 * miss p.R n + p.W < 2 * miss R n + (w + 1) := by
  obtain ⟨k, hk, hr⟩ := h.wait w (Nat.lt_succ_self _)
  change Q w = _ at hk
  change R k = true at hr
  obtain ⟨hs, hway⟩ := h.first k hr
  have hn := hF.most
  have hkn := hs.1
  have e1 : IntKind.i64.wrap (((w + 1 : Nat) : Int) - 1) = (w : Int) := by rw [wr] <;> omega
  unfold zbd
  simp only
  rw [ct (d_t (by omega)), e1, ct (zt (show w < w + 1 by omega)), ct (zt (show w < w + 1 + 1 by omega)), ct (d_t (by omega)), Int.toNat_natCast, hk]
  rcases zB0 hF hs with ⟨hnm, x, hnd⟩ | ⟨hnm, hnd⟩
  · have hx0 : ∀ t : Nat, (zs (A k) = true ∧ (k : Int) + 1 + ii (A k).fImm = (t : Int)) → False := fun t c => by rw [hnm] at c; cases c.1
    rcases zzg hF hs with ⟨hx, h1⟩ | ⟨m, L, h1, hL⟩
    · have hE := zs7 hx
      obtain ⟨hv, hI, hμ⟩ := RI.push hF h (m := 0) (L := fun _ => 0) hk (fun i hi => by omega) (fun t he => (hE.2.2 t he).elim (fun ⟨i, hi, _⟩ => by omega) fun c => (hx0 t c).elim)
      refine ⟨⟨R, w, Q⟩, ?_, hI, hμ⟩
      rw [h1, hnd]
      rfl
    · obtain ⟨hv, hI, hμ⟩ := RI.push hF h (m := m) (L := L) hk hL.2.1 (fun t he => (hL.2.2 t he).elim id fun c => (hx0 t c).elim)
      refine ⟨_, ?_, hI, hμ⟩
      have hg := zfv m L (R0 := R) (W0 := w) (Q0 := Q) (by have := hL.1; omega) hv (by omega) m 0 (by omega)
      change lpO (zM n m L) (.c0 R w Q 0) = _ at hg
      rw [h1, hnd]
      simp only [Option.bind_some]
      rw [cf rfl, hg]
      rfl
  · obtain ⟨t0, et, ht0, htn, hts⟩ := hF.nameTo hs.1 hs.2 hnm
    have en : Edge A k t0 := .inr (.inr ⟨hnm, et⟩)

    rcases zzg hF hs with ⟨hx, h1⟩ | ⟨m, L, h1, hL⟩
    · have hE := zs7 hx
      obtain ⟨hv, hI, hμ⟩ := RI.push hF h (m := 1) (L := fun _ => ((k : Int) + 1 + ii (A k).fImm)) hk (fun i hi => ⟨t0, et, en⟩) (fun t he => (hE.2.2 t he).elim (fun ⟨i, hi, _⟩ => by omega) fun c => ⟨0, by omega, c.2⟩)
      refine ⟨_, ?_, hI, hμ⟩
      have hg := zfG ((k : Int) + 1 + ii (A k).fImm, true) (R0 := R) (W0 := w) (Q0 := Q) (by omega) hv (by omega) 1 0 (by omega)
      change lpO (zS n ((k : Int) + 1 + ii (A k).fImm, true)) (.c0 R w Q 0) = _ at hg
      rw [h1, hnd]
      simp only [Option.bind_some]
      rw [ct rfl, hg]
      rfl
    · have hm2 := hL.1
      obtain ⟨hv, hI, hμ⟩ := RI.push hF h (m := m + 1) (L := updF L m ((k : Int) + 1 + ii (A k).fImm)) hk (fun i hi => by
          by_cases c : i = m
          · subst c; exact ⟨t0, (zcM _ _ _).trans et, en⟩
          · obtain ⟨t, e, he⟩ := hL.2.1 i (by omega)
            exact ⟨t, by rw [zbW _ _ c]; exact e, he⟩) (fun t he => (hL.2.2 t he).elim (fun ⟨i, hi, e⟩ => ⟨i, by omega, by rw [zbW _ _ (by omega)]; exact e⟩) fun c => ⟨m, by omega, (zcM _ _ _).trans c.2⟩)
      refine ⟨_, ?_, hI, hμ⟩
      have hg := zfs m L ((k : Int) + 1 + ii (A k).fImm, true) (R0 := R) (W0 := w) (Q0 := Q) (by omega) hv (by omega) (m + 1) 0 (by omega)
      change lpO (zN n m L ((k : Int) + 1 + ii (A k).fImm, true)) (.c0 R w Q 0) = _ at hg
      rw [h1, hnd]
      simp only [Option.bind_some]
      rw [ct rfl, ct (d_t (by omega)), hg]
      rfl
theorem znP {n N : Nat} {A : Nat → Insn} {P : Nat → Part} (hF : Fine n A N P) (h0 : 0 < n) : ∃ R, lpO (zbd n A) (.c0 (updF (fun _ => false) 0 true) 1 (fun _ => 0)) = some (.e0 R) ∧ zpB n A R := by
  have hn := hF.most
  obtain ⟨r, h1, h2⟩ := zgD (st := zbd n A) (fun s => match s with | .c0 R W Q => RI n A ⟨R, W, Q⟩ ∧ 2 * miss R n + W ≤ 2 * n + 1) (fun s => match s with | .c0 R W Q => 2 * miss R n + W)
    (fun _ r => ∃ R, r = .e0 R ∧ zpB n A R) (fun s hs => by
      obtain ⟨R, W, Q⟩ := s
      obtain ⟨hI, hmm⟩ := hs
      cases W with
      | zero =>
        refine .inr ⟨.e0 R, ?_, R, rfl, hI.zero, hI.first, fun k t hk he => ?_⟩
        · unfold zbd
          simp only
          rw [cf (d_f (by omega))]
        · rcases hI.closed k hk with ⟨i, hi, _⟩ | q
          · exact absurd hi (by show ¬ i < 0; omega)
          · exact q t he
      | succ w =>
        obtain ⟨p, q1, q2, q3⟩ := zl6 hF hI (by omega)
        exact .inl ⟨_, q1, ⟨q2, by omega⟩, q3, fun r hr => hr⟩) (.c0 (updF (fun _ => false) 0 true) 1 (fun _ => 0)) ⟨ri0 h0, by have := zzr (R := updF (fun _ => false) 0 true) (n := n); omega⟩
  obtain ⟨R, rfl, h3⟩ := h2
  exact ⟨R, h1, h3⟩

theorem zo0 {n N : Nat} {A : Nat → Insn} {P : Nat → Part} (hF : Fine n A N P) {R : Nat → Bool} {w : Nat} {Q : Nat → Int} (h : RI n A ⟨R, w + 1, Q⟩) (hw : w ≤ 800000) :
    ∃ p : PS, zbO n A (.c0 R (w + 1) Q) = some (.inl (.c0 p.R p.W p.Q)) ∧ RI n A p ∧ 2 * miss p.R n + p.W < 2 * miss R n + (w + 1) := by
  obtain ⟨k, hk, hr⟩ := h.wait w (Nat.lt_succ_self _)
  change Q w = _ at hk
  change R k = true at hr
  obtain ⟨hs, hway⟩ := h.first k hr
  have hn := hF.most
  have hkn := hs.1
  have e1 : IntKind.i64.wrap (((w + 1 : Nat) : Int) - 1) = (w : Int) := by rw [wr] <;> omega
  unfold zbO
  simp only
  rw [ct (d_t (by omega)), e1, ct (zt (show w < w + 1 by omega)), ct (zt (show w < w + 1 + 1 by omega)), ct (d_t (by omega)), Int.toNat_natCast, hk]
  have hne := zww (hF.known hs.1 hs.2)
  cases hnm : zs (A k) <;> rw [hnm] at hne
  · have hx0 : ∀ t : Nat, (zs (A k) = true ∧ (k : Int) + 1 + ii (A k).fImm = (t : Int)) → False := fun t c => by rw [hnm] at c; cases c.1
    rcases zx6 hF hs with ⟨hx, h1⟩ | ⟨m, L, h1, hL⟩
    · have hE := zs7 hx
      obtain ⟨hv, hI, hμ⟩ := RI.push hF h (m := 0) (L := fun _ => 0) hk (fun i hi => by omega) (fun t he => (hE.2.2 t he).elim (fun ⟨i, hi, _⟩ => by omega) fun c => (hx0 t c).elim)
      refine ⟨⟨R, w, Q⟩, ?_, hI, hμ⟩
      rw [h1]
      simp only [Option.bind_some]
      rw [ct (zt hkn), Int.toNat_natCast, cf hne]
    · obtain ⟨hv, hI, hμ⟩ := RI.push hF h (m := m) (L := L) hk hL.2.1 (fun t he => (hL.2.2 t he).elim id fun c => (hx0 t c).elim)
      refine ⟨_, ?_, hI, hμ⟩
      have hg := zgO m L (R0 := R) (W0 := w) (Q0 := Q) (by have := hL.1; omega) hv (by omega) m 0 (by omega)
      change lpO (zbf n m L) (.c0 R w Q 0) = _ at hg
      rw [h1]
      simp only [Option.bind_some]
      rw [ct (zt hkn), Int.toNat_natCast, cf hne, hg]
      rfl
  · obtain ⟨t0, et, ht0, htn, hts⟩ := hF.nameTo hs.1 hs.2 hnm
    have en : Edge A k t0 := .inr (.inr ⟨hnm, et⟩)
    have h32 := ii32 (A k).fImm
    have hto : zbm n A (k : Int) (ii (A k).fImm) = (t0 : Int) := by
      rw [zBC A (by omega) (by omega) (by omega), if_pos (by omega)]
      exact et
    rcases zx6 hF hs with ⟨hx, h1⟩ | ⟨m, L, h1, hL⟩
    · have hE := zs7 hx
      obtain ⟨hv, hI, hμ⟩ := RI.push hF h (m := 1) (L := fun _ => (t0 : Int)) hk (fun i hi => ⟨t0, rfl, en⟩) (fun t he => (hE.2.2 t he).elim (fun ⟨i, hi, _⟩ => by omega) fun c => ⟨0, by omega, (et.symm.trans c.2)⟩)
      refine ⟨_, ?_, hI, hμ⟩
      have hg := zhm (t0 : Int) (R0 := R) (W0 := w) (Q0 := Q) (by omega) hv (by omega) 1 0 (by omega)
      change lpO (zbl n (t0 : Int)) (.c0 R w Q 0) = _ at hg
      rw [h1]
      simp only [Option.bind_some, zv]
      rw [ct (zt hkn), Int.toNat_natCast, ct hne, hto, hg]
      rfl
    · have hm2 := hL.1
      obtain ⟨hv, hI, hμ⟩ := RI.push hF h (m := m + 1) (L := updF L m (t0 : Int)) hk (fun i hi => by
          by_cases c : i = m
          · subst c; exact ⟨t0, (zcM _ _ _).trans rfl, en⟩
          · obtain ⟨t, e, he⟩ := hL.2.1 i (by omega)
            exact ⟨t, by rw [zbW _ _ c]; exact e, he⟩) (fun t he => (hL.2.2 t he).elim (fun ⟨i, hi, e⟩ => ⟨i, by omega, by rw [zbW _ _ (by omega)]; exact e⟩) fun c => ⟨m, by omega, (zcM _ _ _).trans (et.symm.trans c.2)⟩)
      refine ⟨_, ?_, hI, hμ⟩
      have hg := zgJ m L (t0 : Int) (R0 := R) (W0 := w) (Q0 := Q) (by omega) hv (by omega) (m + 1) 0 (by omega)
      change lpO (zbg n m L (t0 : Int)) (.c0 R w Q 0) = _ at hg
      rw [h1]
      simp only [Option.bind_some, zv]
      rw [ct (zt hkn), Int.toNat_natCast, ct hne, hto, ct (d_t (by omega)), hg]
      rfl
theorem zqs {n N : Nat} {A : Nat → Insn} {P : Nat → Part} (hF : Fine n A N P) (h0 : 0 < n) : ∃ R, lpO (zbO n A) (.c0 (updF (fun _ => false) 0 true) 1 (fun _ => 0)) = some (.e0 R) ∧ zpB n A R := by
  have hn := hF.most
  obtain ⟨r, h1, h2⟩ := zgD (st := zbO n A) (fun s => match s with | .c0 R W Q => RI n A ⟨R, W, Q⟩ ∧ 2 * miss R n + W ≤ 2 * n + 1) (fun s => match s with | .c0 R W Q => 2 * miss R n + W)
    (fun _ r => ∃ R, r = .e0 R ∧ zpB n A R) (fun s hs => by
      obtain ⟨R, W, Q⟩ := s
      obtain ⟨hI, hmm⟩ := hs
      cases W with
      | zero =>
        refine .inr ⟨.e0 R, ?_, R, rfl, hI.zero, hI.first, fun k t hk he => ?_⟩
        · unfold zbO
          simp only
          rw [cf (d_f (by omega))]
        · rcases hI.closed k hk with ⟨i, hi, _⟩ | q
          · exact absurd hi (by show ¬ i < 0; omega)
          · exact q t he
      | succ w =>
        obtain ⟨p, q1, q2, q3⟩ := zo0 hF hI (by omega)
        exact .inl ⟨_, q1, ⟨q2, by omega⟩, q3, fun r hr => hr⟩) (.c0 (updF (fun _ => false) 0 true) 1 (fun _ => 0)) ⟨ri0 h0, by have := zzr (R := updF (fun _ => false) 0 true) (n := n); omega⟩
  obtain ⟨R, rfl, h3⟩ := h2
  exact ⟨R, h1, h3⟩

theorem zxT {n N : Nat} {A : Nat → Insn} {P : Nat → Part} (hF : Fine n A N P) (h0 : 0 < n) {r : Int × Int} (hc : zb0 n A = some r) (hr : r.2 = 0) : ∃ R, zg1 n A = some (.e0 R) ∧ zpB n A R := by
  obtain ⟨R, h1, h2⟩ := znP hF h0
  have hn := hF.most
  refine ⟨R, ?_, h2⟩
  unfold zg1 zfg
  rw [hc]
  simp only [Option.bind_some]
  rw [ct (by rw [hr]; rfl), ct (ziB.2 ⟨by omega, by omega⟩), ct (ziB.2 ⟨by omega, by omega⟩), h1]
  rfl
theorem zAN {n N : Nat} {A : Nat → Insn} {P : Nat → Part} (hF : Fine n A N P) (h0 : 0 < n) : ∃ R, zfq n A = some (.e0 R) ∧ zpB n A R := by
  obtain ⟨R, h1, h2⟩ := zqs hF h0
  have hn := hF.most
  refine ⟨R, ?_, h2⟩
  unfold zfq
  rw [ct (ziB.2 ⟨by omega, by omega⟩), ct (ziB.2 ⟨by omega, by omega⟩), h1]
  rfl
end Go.Proofs.Ytliijnpblddjfaa

