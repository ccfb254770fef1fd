/-
  Regions that draw their order (2): whatever order is drawn, the same comes out. Nothing of the program stands here.
-/
import Derived.Test.YtoapdkcokemieaaGreatEuT
namespace Go.Proofs.YtoapdkcokemieaaGreat.Ev
open Go.RowKit
noncomputable section
set_option linter.unusedVariables false
set_option linter.unusedSimpArgs false
set_option linter.unusedSectionVars false
variable [Fs] [En] [FsOk]
/-- How an operation of a region went: it read; it made a block; it is number j of those that change memory; it panicked; it was never done. -/
inductive K where
  | q
  | m (ob : AObj)
  | c (j : Nat)
  | p
  | x
def isM : K → Prop
  | .m _ => True
  | _ => False
section
variable {P : Program}
open Classical in
/-- The blocks that are there: those of memory number j, and those made by operations of X that it hasn't yet. -/
noncomputable def HL (kd : Nat → K) (hs : Nat → Hp) (ab : Nat → Nat → Prop) (n0 : Nat) (X : Nat → Prop) (j : Nat) (idx : Nat) : Option AObj :=
  if n0 ≤ idx ∧ X (idx - n0) ∧ ¬ ab j (idx - n0) then (match kd (idx - n0) with
    | .m ob => some ob
    | _ => (hs j).t.at idx) else (hs j).t.at idx
def dstOf (ops : Array Oper) (i : Nat) : Option Tmp := (ops[i]?).bind (·.dst)
/-- What is known of a region that draws. -/
structure Dr (P : Program) (ops : Array Oper) (T0 : Tr PV) (n0 : Nat) (cl : Nat → Nat → Prop) (val : Nat → PV) (kd : Nat → K) (E : Nat → Tr PV) (want : Nat → Bool) (core : List Nat) (hs : Nat → Hp) (ab : Nat → Nat → Prop) (vp : PV) (Hp' : Hp) : Prop where
  c1 : ∀ i j, cl i j → ∃ o e, ops[i]? = some o ∧ e ∈ o.after ∧ Region.binds .any e = true ∧ (e.on = j ∨ cl e.on j)
  c2 : ∀ i j d, dstOf ops i = some d → dstOf ops j = some d → i = j
  c3 : ∀ i, i < ops.size → kd i ≠ .x → ∀ t v, (E i).at t = some v → (∃ j, dstOf ops j = some t ∧ cl i j ∧ val j = v) ∨ (T0.at t = some v ∧ ∀ j, dstOf ops j = some t → j = i ∨ cl j i)
  c4 : ∀ i o, ops[i]? = some o → kd i ≠ .x → evWant ops (E i) o = some (want i)
  c4' : ∀ i, i < ops.size → kd i ≠ .x → want i = false → kd i = .q ∧ val i = .tp []
  c5 : ∀ i o, ops[i]? = some o → kd i = .q → want i = true → ∀ j, j ≤ core.length → (∀ k c, core[k]? = some c → cl i c → k < j) → (∀ k c, core[k]? = some c → cl c i → j ≤ k) →
    ∃ A : Hp, A.n = (hs j).n ∧ (∀ idx, A.t.at idx = HL kd hs ab n0 (cl i) j idx) ∧ QOk P o (E i) A (val i)
  c6 : ∀ i o ob, ops[i]? = some o → kd i = .m ob → MOk P o (E i) (n0 + i) (val i) ob
  c7 : ∀ i o j, ops[i]? = some o → kd i = .c j → core[j]? = some i ∧ ∃ A : Hp, A.n = (hs j).n ∧ (∀ idx, A.t.at idx = HL kd hs ab n0 (cl i) j idx) ∧ ValOk P o (E i) A (val i) (hs (j + 1))
  c7' : ∀ j i, core[j]? = some i → kd i = .c j ∧ i < ops.size
  c7'' : ∀ j i i', core[j]? = some i → core[j + 1]? = some i' → cl i' i
  c8 : ∀ i o, ops[i]? = some o → kd i = .p → (∀ j c, core[j]? = some c → j + 1 = core.length → cl i c) ∧ ∃ A : Hp, A.n = (hs core.length).n ∧ (∀ idx, A.t.at idx = HL kd hs ab n0 (cl i) core.length idx) ∧ PanOk P o (E i) A vp Hp'
  c9 : ∀ i, i < ops.size → kd i = .x → ∃ p, kd p = .p ∧ cl i p
  c10 : ∀ i o e, ops[i]? = some o → e ∈ o.after → Region.binds .any e = true → e.on < i
  a0 : ∀ i, ¬ ab 0 i
  a1 : ∀ j c i, core[j]? = some c → isM (kd i) → (ab (j + 1) i ↔ ab j i ∨ cl c i)
  a2 : ∀ i, ops.size ≤ i → kd i = .x
  a3 : ∀ j i, j ≤ core.length → isM (kd i) → ¬ ab j i → (hs j).t.at (n0 + i) = none
/-- A state in which the operations of L have been done, J of those that change memory. -/
structure Inv (P : Program) (ops : Array Oper) (T0 : Tr PV) (D : DL) (n0 : Nat) (cl : Nat → Nat → Prop) (val : Nat → PV) (kd : Nat → K) (core : List Nat) (hs : Nat → Hp) (ab : Nat → Nat → Prop) (N : Nat) (F : Fr) (L : Nat → Prop) (J : Nat) (b : Bm) (a : Act) (w : World) : Prop where
  cls : ∀ i, L i → ∀ j, cl i j → L j
  lt : ∀ i, L i → i < ops.size
  nop : ∀ i, L i → kd i ≠ .p ∧ kd i ≠ .x
  jc : ∀ k c, core[k]? = some c → (L c ↔ k < J)
  jl : J ≤ core.length
  sz : a.tmps.size = N
  df : DR P b D a.defers
  t1 : ∀ t v, (∀ i, dstOf ops i ≠ some t) → T0.at t = some v → ∃ v', a.tmps[t]? = some v' ∧ V b v v'
  t2 : ∀ i t, L i → dstOf ops i = some t → ∃ v', a.tmps[t]? = some v' ∧ V b (val i) v'
  t3 : ∀ i t v, ¬ L i → dstOf ops i = some t → T0.at t = some v → ∃ v', a.tmps[t]? = some v' ∧ V b v v'
  heap : HRf F b (HL kd hs ab n0 L J) (hs J).n w
  res : ∀ i, isM (kd i) → ¬ L i → b (n0 + i) = none
  low : F.n0 ≤ n0
  rm : ∀ i, i < ops.size → n0 + i < (hs J).n
section
variable {ops : Array Oper} {T0 : Tr PV} {D : DL} {n0 : Nat} {cl : Nat → Nat → Prop} {val : Nat → PV} {kd : Nat → K} {E : Nat → Tr PV} {want : Nat → Bool} {core : List Nat} {hs : Nat → Hp} {ab : Nat → Nat → Prop} {vp : PV} {Hp' : Hp} {N : Nat} {F : Fr}
theorem HL_mono {X Y : Nat → Prop} {j : Nat} (h : ∀ i, X i → Y i) {idx : Nat} {o : AObj} (hx : HL kd hs ab n0 X j idx = some o) (hno : ∀ i, isM (kd i) → Y i → ¬ X i → ¬ ab j i → (hs j).t.at (n0 + i) = none) : HL kd hs ab n0 Y j idx = some o := by
  unfold HL at hx ⊢
  by_cases h1 : n0 ≤ idx ∧ X (idx - n0) ∧ ¬ ab j (idx - n0)
  · rw [if_pos h1] at hx
    rw [if_pos ⟨h1.1, h _ h1.2.1, h1.2.2⟩]; exact hx
  · rw [if_neg h1] at hx
    by_cases h2 : n0 ≤ idx ∧ Y (idx - n0) ∧ ¬ ab j (idx - n0)
    · rw [if_pos h2]
      cases hk : kd (idx - n0) with
      | m ob =>
        have := hno (idx - n0) (by rw [hk]; trivial) h2.2.1 (fun e => h1 ⟨h2.1, e, h2.2.2⟩) h2.2.2
        rw [show n0 + (idx - n0) = idx from by omega] at this
        rw [this] at hx; cases hx
      | _ => exact hx
    · rw [if_neg h2]; exact hx
theorem isM_m {k : K} (h : isM k) : ∃ ob, k = .m ob := by cases k <;> simp [isM] at h; exact ⟨_, rfl⟩
theorem HL_q {X : Nat → Prop} {i j : Nat} (h : ¬ isM (kd i)) : HL kd hs ab n0 (fun k => X k ∨ k = i) j = HL kd hs ab n0 X j := by
  funext idx
  unfold HL
  by_cases h1 : n0 ≤ idx ∧ X (idx - n0) ∧ ¬ ab j (idx - n0)
  · rw [if_pos h1, if_pos ⟨h1.1, .inl h1.2.1, h1.2.2⟩]
  · rw [if_neg h1]
    by_cases h2 : n0 ≤ idx ∧ (X (idx - n0) ∨ idx - n0 = i) ∧ ¬ ab j (idx - n0)
    · rw [if_pos h2]
      have he : idx - n0 = i := by
        rcases h2.2.1 with h3 | h3
        · exact absurd ⟨h2.1, h3, h2.2.2⟩ h1
        · exact h3
      rw [he]
      cases hk : kd i with
      | m ob => rw [hk] at h; exact absurd trivial h
      | _ => rfl
    · rw [if_neg h2]
theorem HL_some {X : Nat → Prop} {j idx : Nat} {ob : AObj} (h0 : n0 ≤ idx) (hX : X (idx - n0)) (hab : ¬ ab j (idx - n0)) (hk : kd (idx - n0) = .m ob) : HL kd hs ab n0 X j idx = some ob := by
  unfold HL; rw [if_pos ⟨h0, hX, hab⟩, hk]
theorem HL_cases {X : Nat → Prop} {j idx : Nat} {o : AObj} (h : HL kd hs ab n0 X j idx = some o) : (n0 ≤ idx ∧ X (idx - n0) ∧ ¬ ab j (idx - n0) ∧ kd (idx - n0) = .m o) ∨ ((hs j).t.at idx = some o ∧ ¬ (n0 ≤ idx ∧ X (idx - n0) ∧ ¬ ab j (idx - n0) ∧ isM (kd (idx - n0)))) := by
  unfold HL at h
  by_cases h1 : n0 ≤ idx ∧ X (idx - n0) ∧ ¬ ab j (idx - n0)
  · rw [if_pos h1] at h
    cases hk : kd (idx - n0) with
    | m ob => rw [hk] at h; simp at h; subst h; exact .inl ⟨h1.1, h1.2.1, h1.2.2, rfl⟩
    | q => rw [hk] at h; exact .inr ⟨h, fun e => e.2.2.2⟩
    | c k => rw [hk] at h; exact .inr ⟨h, fun e => e.2.2.2⟩
    | p => rw [hk] at h; exact .inr ⟨h, fun e => e.2.2.2⟩
    | x => rw [hk] at h; exact .inr ⟨h, fun e => e.2.2.2⟩
  · rw [if_neg h1] at h
    exact .inr ⟨h, fun e => h1 ⟨e.1, e.2.1, e.2.2.1⟩⟩
variable (dr : Dr P ops T0 n0 cl val kd E want core hs ab vp Hp') (hN : ∀ i d, dstOf ops i = some d → d < N)
include dr
theorem Dr.before {L : Nat → Prop} (hcls : ∀ i, L i → ∀ j, cl i j → L j) {i : Nat} {o : Oper} (ho : ops[i]? = some o) (hall : ∀ e ∈ o.after, Region.binds .any e = true → L e.on) : ∀ j, cl i j → L j := by
  intro j hj
  obtain ⟨o', e, h1, h2, h3, h4⟩ := dr.c1 i j hj
  rw [ho] at h1; simp at h1; subst h1
  have := hall e h2 h3
  rcases h4 with rfl | h4
  · exact this
  · exact hcls _ this j h4
theorem Dr.sub {L : Nat → Prop} {J : Nat} (hJ : J ≤ core.length) {i : Nat} (hb : ∀ j, cl i j → L j) {idx : Nat} {o : AObj} (h : HL kd hs ab n0 (cl i) J idx = some o) : HL kd hs ab n0 L J idx = some o :=
  HL_mono hb h (fun k hk _ _ hab => dr.a3 J k hJ hk hab)
theorem Inv.env {L : Nat → Prop} {J : Nat} {b : Bm} {a : Act} {w : World} (iv : Inv P ops T0 D n0 cl val kd core hs ab N F L J b a w) {i : Nat} (hi : i < ops.size) (hL : ¬ L i) (hx : kd i ≠ .x) (hb : ∀ j, cl i j → L j) : TR b (E i) a.tmps := by
  intro t v ht
  rcases dr.c3 i hi hx t v ht with ⟨j, h1, h2, rfl⟩ | ⟨h1, h2⟩
  · exact iv.t2 j t (hb j h2) h1
  · by_cases hd : ∃ j, dstOf ops j = some t
    · obtain ⟨j, hj⟩ := hd
      refine iv.t3 j t v ?_ hj h1
      rcases h2 j hj with rfl | h3
      · exact hL
      · exact fun hLj => hL (iv.cls j hLj i h3)
    · exact iv.t1 t v (fun j hj => hd ⟨j, hj⟩) h1
include hN
/-- The state behind an operation, but for memory. -/
theorem Inv.next {L : Nat → Prop} {J J' : Nat} {b b' : Bm} {a : Act} {w w' : World} (iv : Inv P ops T0 D n0 cl val kd core hs ab N F L J b a w) {i : Nat} {o : Oper} (ho : ops[i]? = some o) (hL : ¬ L i) (hb : ∀ j, cl i j → L j) (hk : kd i ≠ .p ∧ kd i ≠ .x) (hle : b.le b') {v' : Value} (hv : V b' (val i) v')
    (hj : ∀ k c, core[k]? = some c → ((L c ∨ c = i) ↔ k < J')) (hJ : J' ≤ core.length) (hheap : HRf F b' (HL kd hs ab n0 (fun k => L k ∨ k = i) J') (hs J').n w') (hres : ∀ k, isM (kd k) → ¬ (L k ∨ k = i) → b' (n0 + k) = none) (hrm : ∀ k, k < ops.size → n0 + k < (hs J').n) :
    Inv P ops T0 D n0 cl val kd core hs ab N F (fun k => L k ∨ k = i) J' b' (a.put o.dst v') w' := by
  have hi : i < ops.size := (Array.getElem?_eq_some_iff.1 ho).1
  have hdst : dstOf ops i = o.dst := by simp [dstOf, ho]
  have keep : ∀ t, dstOf ops i ≠ some t → (a.put o.dst v').tmps[t]? = a.tmps[t]? := by
    intro t ht
    rw [hdst] at ht
    cases hd : o.dst with
    | none => rfl
    | some d =>
      have : d ≠ t := fun e => ht (by rw [hd, e])
      simp [Act.put, Array.getElem?_setIfInBounds_ne this]
  refine ⟨?_, ?_, ?_, hj, hJ, ?_, ?_, ?_, ?_, ?_, hheap, hres, iv.low, hrm⟩
  · rintro k (hk1 | rfl) j hkj
    · exact .inl (iv.cls k hk1 j hkj)
    · exact .inl (hb j hkj)
  · rintro k (hk1 | rfl)
    · exact iv.lt k hk1
    · exact hi
  · rintro k (hk1 | rfl)
    · exact iv.nop k hk1
    · exact hk
  · cases hd : o.dst <;> simp [Act.put, iv.sz]
  · have : (a.put o.dst v').defers = a.defers := by cases o.dst <;> rfl
    rw [this]; exact iv.df.mono hle
  · intro t v ht hv0
    obtain ⟨u, h1, h2⟩ := iv.t1 t v ht hv0
    exact ⟨u, by rw [keep t (ht i)]; exact h1, h2.mono hle⟩
  · rintro k t (hk1 | rfl) hkt
    · have hne : dstOf ops i ≠ some t := fun e => hL (by have := dr.c2 i k t e hkt; rw [this]; exact hk1)
      obtain ⟨u, h1, h2⟩ := iv.t2 k t hk1 hkt
      exact ⟨u, by rw [keep t hne]; exact h1, h2.mono hle⟩
    · refine ⟨v', ?_, hv⟩
      have hlt := hN k t hkt
      rw [hdst] at hkt
      rw [hkt]
      have : t < a.tmps.size := by rw [iv.sz]; exact hlt
      simp [Act.put, this]
  · intro k t v hk1 hkt hv0
    have hne : dstOf ops i ≠ some t := fun e => hk1 (.inr (dr.c2 i k t e hkt).symm)
    obtain ⟨u, h1, h2⟩ := iv.t3 k t v (fun e => hk1 (.inl e)) hkt hv0
    exact ⟨u, by rw [keep t hne]; exact h1, h2.mono hle⟩
end
end
end
end Go.Proofs.YtoapdkcokemieaaGreat.Ev
