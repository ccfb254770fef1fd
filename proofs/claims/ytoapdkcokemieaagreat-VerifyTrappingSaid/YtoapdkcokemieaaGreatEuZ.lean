/-
  Regions that draw their order (7): what is known of the operations done so far. Nothing of the program stands here.
-/
import Derived.Test.YtoapdkcokemieaaGreatEuY
namespace Go.Proofs.YtoapdkcokemieaaGreat.Ev
open Go.RowKit
noncomputable section
set_option linter.unusedVariables false
set_option linter.unusedSimpArgs false
set_option linter.unusedSectionVars false
variable [Fs] [En] [FsOk]
/-- How an operation went. -/
structure Rc where
  k : K
  v : PV
  E : Tr PV
  w : Bool
def kdR (R : List Rc) (i : Nat) : K := match R[i]? with
  | some r => r.k
  | none => .x
def valR (R : List Rc) (i : Nat) : PV := match R[i]? with
  | some r => r.v
  | none => .tp []
def envR (R : List Rc) (i : Nat) : Tr PV := match R[i]? with
  | some r => r.E
  | none => .lf
def wR (R : List Rc) (i : Nat) : Bool := match R[i]? with
  | some r => r.w
  | none => true
def hsL (hl : Hl) (j : Nat) : Hp := match hl[j]? with
  | some x => x.1
  | none => ⟨.lf, 0⟩
def abL (hl : Hl) (j i : Nat) : Prop := match hl[j]? with
  | some x => Nat.testBit x.2 i = true
  | none => False
theorem HL_congr {kd kd' : Nat → K} {hs hs' : Nat → Hp} {ab ab' : Nat → Nat → Prop} {n0 j idx : Nat} {X : Nat → Prop} (h1 : ∀ k, X k → kd k = kd' k) (h2 : hs j = hs' j) (h3 : ∀ k, ab j k ↔ ab' j k) : HL kd hs ab n0 X j idx = HL kd' hs' ab' n0 X j idx := by
  unfold HL
  rw [h2]
  by_cases h : n0 ≤ idx ∧ X (idx - n0) ∧ ¬ ab j (idx - n0)
  · rw [if_pos h, if_pos ⟨h.1, h.2.1, fun e => h.2.2 ((h3 _).2 e)⟩, h1 _ h.2.1]
  · rw [if_neg h, if_neg (fun e => h ⟨e.1, e.2.1, fun e' => e.2.2 ((h3 _).1 e')⟩)]
theorem app_some {β : Type} {l m : List β} {i : Nat} {x : β} (h : l[i]? = some x) : (l ++ m)[i]? = some x := by
  rw [List.getElem?_append_left (List.getElem?_eq_some_iff.1 h).1]; exact h
theorem app_one {β : Type} {l : List β} {i : Nat} {x y : β} (h : (l ++ [x])[i]? = some y) : (i < l.length ∧ l[i]? = some y) ∨ (i = l.length ∧ y = x) := by
  by_cases hi : i < l.length
  · rw [List.getElem?_append_left hi] at h; exact .inl ⟨hi, h⟩
  · rw [List.getElem?_append_right (by omega)] at h
    by_cases h0 : i - l.length = 0
    · rw [h0] at h; simp at h; exact .inr ⟨by omega, h.symm⟩
    · rw [List.getElem?_eq_none (by simp; omega)] at h; cases h
theorem kdR_app {R X : List Rc} {i : Nat} (h : i < R.length) : kdR (R ++ X) i = kdR R i := by
  unfold kdR; rw [List.getElem?_append_left h]
theorem hsL_app {h X : Hl} {i : Nat} (hi : i < h.length) : hsL (h ++ X) i = hsL h i := by
  unfold hsL; rw [List.getElem?_append_left hi]
theorem abL_app {h X : Hl} {i j : Nat} (hi : i < h.length) : abL (h ++ X) i j ↔ abL h i j := by
  unfold abL; rw [List.getElem?_append_left hi]
theorem kdR_some {R : List Rc} {i : Nat} {k : K} (h : kdR R i = k) (hk : k ≠ .x) : ∃ r : Rc, R[i]? = some r ∧ r.k = k := by
  unfold kdR at h
  split at h
  · rename_i r hr; exact ⟨r, hr, h⟩
  · exact absurd h.symm hk
/-- The memory that operation i may look at when j of those that change it have been done. -/
structure At (ms : List Nat) (n0 : Nat) (R : List Rc) (hl : Hl) (i j : Nat) (A : Hp) : Prop where
  n : A.n = (hsL hl j).n
  t : ∀ idx, A.t.at idx = HL (kdR R) (hsL hl) (abL hl) n0 (fun k => clB ms i k = true) j idx
theorem At.mono {ms : List Nat} {n0 : Nat} {R X : List Rc} {hl Y : Hl} {i j : Nat} {A : Hp} (h : At ms n0 R hl i j A) (hlt : ∀ k, clB ms i k = true → k < i) (hi : i ≤ R.length) (hj : j < hl.length) : At ms n0 (R ++ X) (hl ++ Y) i j A := by
  refine ⟨by rw [hsL_app hj]; exact h.n, fun idx => ?_⟩
  rw [h.t]
  exact HL_congr (fun k hk => (kdR_app (Nat.lt_of_lt_of_le (hlt k hk) hi)).symm) (hsL_app hj).symm (fun k => (abL_app hj).symm)
section
variable (P : Program) (ops : Array Oper) (T0 : Tr PV) (n0 : Nat) (ms : List Nat)
structure RcOk (R : List Rc) (hl : Hl) (cs : List Nat) (i : Nat) (o : Oper) (r : Rc) : Prop where
  e : ∀ t v, r.E.at t = some v → (srcOf ops.toList ms i t = 1 ∧ T0.at t = some v) ∨ (srcOf ops.toList ms i t = 2 ∧ ∃ (j : Nat) (r' : Rc), R[j]? = some r' ∧ dstOf ops j = some t ∧ r'.v = v)
  w : evWant ops r.E o = some r.w
  nw : r.w = false → r.k = .q ∧ r.v = .tp []
  m : ∀ ob, r.k = .m ob → MOk P o r.E (n0 + i) r.v ob
  c : ∀ j, r.k = .c j → cs[j]? = some i ∧ j + 1 < hl.length ∧ ∃ A, At ms n0 R hl i j A ∧ ValOk P o r.E A r.v (hsL hl (j + 1))
structure G (R : List Rc) (T1 T : Tr PV) (hc : Hp) (ac : Nat) (hl : Hl) (cs : List Nat) (lc : Option Nat) (mv : List (Nat × AObj)) (qs : List Qr) (st : Option (Nat × PV × Hp)) : Prop where
  rc : ∀ (i : Nat) (r : Rc), R[i]? = some r → ∃ o, ops[i]? = some o ∧ (r.k ≠ .x → RcOk P ops T0 n0 ms R hl cs i o r)
  t1 : ∀ t v, T1.at t = some v → ∃ (j : Nat) (r : Rc), R[j]? = some r ∧ dstOf ops j = some t ∧ r.v = v
  t : st = none → ∀ t v, T.at t = some v → (∃ (j : Nat) (r : Rc), R[j]? = some r ∧ dstOf ops j = some t ∧ r.v = v) ∨ (T0.at t = some v ∧ ∀ j, j < R.length → dstOf ops j ≠ some t)
  hl1 : hl.length = cs.length + 1
  hl2 : hl[cs.length]? = some (hc, ac)
  ab : ∀ j c, cs[j]? = some c → ∃ x y, hl[j]? = some x ∧ hl[j + 1]? = some y ∧ y.2 = x.2 ||| ms.getD c 0
  cs1 : ∀ j c, cs[j]? = some c → ∃ r : Rc, R[c]? = some r ∧ r.k = .c j
  cs2 : ∀ j c c', cs[j]? = some c → cs[j + 1]? = some c' → clB ms c' c = true
  lc : ∀ j c, cs[j]? = some c → j + 1 = cs.length → lc = some c
  mv1 : ∀ j ob, (j, ob) ∈ mv → kdR R j = .m ob
  mv2 : ∀ j ob, kdR R j = .m ob → (j, ob) ∈ mv
  q : ∀ (i : Nat) (r : Rc) (o : Oper), R[i]? = some r → ops[i]? = some o → r.k = .q → r.w = true → (⟨i, o, r.E, r.v⟩ : Qr) ∈ qs
  st0 : st = none → ∀ (i : Nat) (r : Rc), R[i]? = some r → r.k ≠ .p ∧ r.k ≠ .x
  st1 : ∀ x, st = some x → (∀ (i : Nat) (r : Rc), R[i]? = some r → r.k = .p → i = x.1) ∧ (∀ (i : Nat) (r : Rc), R[i]? = some r → r.k = .x → clB ms i x.1 = true) ∧ (∀ j c, cs[j]? = some c → j + 1 = cs.length → clB ms x.1 c = true) ∧
    ∃ (o : Oper) (r : Rc) (A : Hp), ops[x.1]? = some o ∧ R[x.1]? = some r ∧ r.k = .p ∧ At ms n0 R hl x.1 cs.length A ∧ PanOk P o r.E A x.2.1 x.2.2
end
section
variable {P : Program} {ops : Array Oper} {T0 : Tr PV} {n0 : Nat} {ms : List Nat}
theorem RcOk.mono {R X : List Rc} {hl Y : Hl} {cs Z : List Nat} {i : Nat} {o : Oper} {r : Rc} (h : RcOk P ops T0 n0 ms R hl cs i o r) (hlt : ∀ i k, clB ms i k = true → k < i) (hi : i ≤ R.length) : RcOk P ops T0 n0 ms (R ++ X) (hl ++ Y) (cs ++ Z) i o r := by
  refine ⟨?_, h.w, h.nw, h.m, ?_⟩
  · intro t v ht
    rcases h.e t v ht with h1 | ⟨h1, j, r', h2, h3, h4⟩
    · exact .inl h1
    · exact .inr ⟨h1, j, r', app_some h2, h3, h4⟩
  · intro j hj
    obtain ⟨h1, h2, A, h3, h4⟩ := h.c j hj
    refine ⟨app_some h1, by rw [List.length_append]; omega, A, h3.mono (hlt i) hi (by omega), ?_⟩
    rw [hsL_app h2]; exact h4
theorem kdR_one {R : List Rc} {r : Rc} {j : Nat} {k : K} (h : kdR (R ++ [r]) j = k) (hk : k ≠ .x) : (j < R.length ∧ kdR R j = k) ∨ (j = R.length ∧ r.k = k) := by
  obtain ⟨r', h1, h2⟩ := kdR_some h hk
  rcases app_one h1 with ⟨h3, h4⟩ | ⟨h3, rfl⟩
  · refine .inl ⟨h3, ?_⟩; unfold kdR; rw [h4]; exact h2
  · exact .inr ⟨h3, h2⟩
theorem kdR_last {R : List Rc} {r : Rc} : kdR (R ++ [r]) R.length = r.k := by
  unfold kdR; simp
variable (hlt : ∀ i k, clB ms i k = true → k < i)
include hlt
theorem G.push {R : List Rc} {T1 T T1' T' : Tr PV} {hc : Hp} {ac : Nat} {hl : Hl} {cs : List Nat} {lc : Option Nat} {mv mv' : List (Nat × AObj)} {qs qs' : List Qr} {st st' : Option (Nat × PV × Hp)} (g : G P ops T0 n0 ms R T1 T hc ac hl cs lc mv qs st) {o : Oper} (ho : ops[R.length]? = some o) {r : Rc}
    (hr : r.k ≠ .x → RcOk P ops T0 n0 ms R hl cs R.length o r) (hnc : ∀ j, r.k ≠ .c j)
    (ht1 : ∀ t v, T1'.at t = some v → (o.dst = some t ∧ r.v = v) ∨ T1.at t = some v)
    (ht : st' = none → st = none ∧ ∀ t v, T'.at t = some v → (o.dst = some t ∧ r.v = v) ∨ (o.dst ≠ some t ∧ T.at t = some v))
    (hmv : (∃ ob, r.k = .m ob ∧ mv' = (R.length, ob) :: mv) ∨ (¬ isM r.k ∧ mv' = mv))
    (hq : (∀ q, q ∈ qs → q ∈ qs') ∧ (r.k = .q → r.w = true → (⟨R.length, o, r.E, r.v⟩ : Qr) ∈ qs'))
    (hst0 : st' = none → r.k ≠ .p ∧ r.k ≠ .x)
    (hst : ∀ x, st' = some x → (st = some x ∧ r.k ≠ .p ∧ (r.k = .x → clB ms R.length x.1 = true)) ∨ (st = none ∧ r.k = .p ∧ x.1 = R.length ∧ (∀ j c, cs[j]? = some c → j + 1 = cs.length → clB ms x.1 c = true) ∧ ∃ A, At ms n0 R hl R.length cs.length A ∧ PanOk P o r.E A x.2.1 x.2.2)) :
    G P ops T0 n0 ms (R ++ [r]) T1' T' hc ac hl cs lc mv' qs' st' := by
  have hdst : dstOf ops R.length = o.dst := by simp [dstOf, ho]
  have hlast : (R ++ [r])[R.length]? = some r := by simp
  refine ⟨?_, ?_, ?_, g.hl1, g.hl2, g.ab, ?_, g.cs2, g.lc, ?_, ?_, ?_, ?_, ?_⟩
  · intro i r' hi
    rcases app_one hi with ⟨h1, h2⟩ | ⟨rfl, rfl⟩
    · obtain ⟨o', h3, h4⟩ := g.rc i r' h2
      exact ⟨o', h3, fun hx => by have := (h4 hx).mono (X := [r]) (Y := []) (Z := []) hlt (by omega); simpa using this⟩
    · exact ⟨o, ho, fun hx => by have := (hr hx).mono (X := [r']) (Y := []) (Z := []) hlt (Nat.le_refl _); simpa using this⟩
  · intro t v h
    rcases ht1 t v h with ⟨h1, h2⟩ | h1
    · exact ⟨R.length, r, hlast, by rw [hdst]; exact h1, h2⟩
    · obtain ⟨j, r', h2, h3, h4⟩ := g.t1 t v h1
      exact ⟨j, r', app_some h2, h3, h4⟩
  · intro hn t v h
    obtain ⟨h0, h1⟩ := ht hn
    rcases h1 t v h with ⟨h1, h2⟩ | ⟨h1, h2⟩
    · exact .inl ⟨R.length, r, hlast, by rw [hdst]; exact h1, h2⟩
    · rcases g.t h0 t v h2 with ⟨j, r', h2, h3, h4⟩ | ⟨h3, h4⟩
      · exact .inl ⟨j, r', app_some h2, h3, h4⟩
      · refine .inr ⟨h3, fun j hj => ?_⟩
        by_cases hj2 : j < R.length
        · exact h4 j hj2
        · simp at hj
          have : j = R.length := by omega
          subst this
          rw [hdst]; exact h1
  · intro j c h
    obtain ⟨r', h1, h2⟩ := g.cs1 j c h
    exact ⟨r', app_some h1, h2⟩
  · intro j ob h
    have old : (j, ob) ∈ mv → kdR (R ++ [r]) j = .m ob := by
      intro h
      have h1 := g.mv1 j ob h
      obtain ⟨r', h2, h3⟩ := kdR_some h1 (by simp)
      rw [kdR_app (List.getElem?_eq_some_iff.1 h2).1]; exact h1
    rcases hmv with ⟨ob', h1, rfl⟩ | ⟨h1, rfl⟩
    · rcases List.mem_cons.1 h with h | h
      · obtain ⟨rfl, rfl⟩ := Prod.mk.inj h
        rw [kdR_last]; exact h1
      · exact old h
    · exact old h
  · intro j ob h
    rcases kdR_one h (by simp) with ⟨h1, h2⟩ | ⟨rfl, h2⟩
    · have h3 := g.mv2 j ob h2
      rcases hmv with ⟨ob', h4, rfl⟩ | ⟨h4, rfl⟩
      · exact List.mem_cons_of_mem _ h3
      · exact h3
    · rcases hmv with ⟨ob', h4, rfl⟩ | ⟨h4, rfl⟩
      · rw [h2] at h4; injection h4 with h4; subst h4; simp
      · rw [h2] at h4; exact absurd trivial h4
  · intro i r' o' hi ho' hk hw
    rcases app_one hi with ⟨h1, h2⟩ | ⟨rfl, rfl⟩
    · exact hq.1 _ (g.q i r' o' h2 ho' hk hw)
    · rw [ho] at ho'; injection ho' with ho'; subst ho'
      exact hq.2 hk hw
  · intro hn i r' hi
    rcases app_one hi with ⟨h1, h2⟩ | ⟨rfl, rfl⟩
    · exact g.st0 (ht hn).1 i r' h2
    · exact hst0 hn
  · intro x hx
    rcases hst x hx with ⟨h1, h2, h3⟩ | ⟨h1, h2, h3, h4, A, h5, h6⟩
    · obtain ⟨h4, h5, h6, o', r', A, h7, h8, h9, h10, h11⟩ := g.st1 x h1
      refine ⟨?_, ?_, h6, o', r', A, h7, app_some h8, h9, ?_, h11⟩
      · intro i r'' hi hk
        rcases app_one hi with ⟨h12, h13⟩ | ⟨rfl, rfl⟩
        · exact h4 i r'' h13 hk
        · exact absurd hk h2
      · intro i r'' hi hk
        rcases app_one hi with ⟨h12, h13⟩ | ⟨rfl, rfl⟩
        · exact h5 i r'' h13 hk
        · exact h3 hk
      · have := h10.mono (X := [r]) (Y := []) (hlt x.1) (Nat.le_of_lt (List.getElem?_eq_some_iff.1 h8).1) (by rw [g.hl1]; omega)
        simpa using this
    · refine ⟨?_, ?_, h4, o, r, A, by rw [h3]; exact ho, by rw [h3]; exact hlast, h2, ?_, h6⟩
      · intro i r'' hi hk
        rcases app_one hi with ⟨h12, h13⟩ | ⟨rfl, rfl⟩
        · exact absurd hk (g.st0 h1 i r'' h13).1
        · exact h3.symm
      · intro i r'' hi hk
        rcases app_one hi with ⟨h12, h13⟩ | ⟨rfl, rfl⟩
        · exact absurd hk (g.st0 h1 i r'' h13).2
        · rw [h2] at hk; cases hk
      · rw [h3]
        have := h5.mono (X := [r]) (Y := []) (hlt R.length) (Nat.le_refl _) (by rw [g.hl1]; omega)
        simpa using this
theorem G.core {R : List Rc} {T1 T T1' T' : Tr PV} {hc H' : Hp} {ac ac' : Nat} {hl : Hl} {cs : List Nat} {lc : Option Nat} {mv : List (Nat × AObj)} {qs : List Qr} (g : G P ops T0 n0 ms R T1 T hc ac hl cs lc mv qs none) {o : Oper} (ho : ops[R.length]? = some o) {r : Rc}
    (he : ∀ t v, r.E.at t = some v → (srcOf ops.toList ms R.length t = 1 ∧ T0.at t = some v) ∨ (srcOf ops.toList ms R.length t = 2 ∧ ∃ (j : Nat) (r' : Rc), R[j]? = some r' ∧ dstOf ops j = some t ∧ r'.v = v)) (hw : evWant ops r.E o = some r.w) (hwt : r.w = true) (hk : r.k = .c cs.length)
    (hlast : ∀ c, lc = some c → clB ms R.length c = true) {A : Hp} (hA : At ms n0 R hl R.length cs.length A) (hV : ValOk P o r.E A r.v H') (hac : ac' = ac ||| ms.getD R.length 0)
    (ht1 : ∀ t v, T1'.at t = some v → (o.dst = some t ∧ r.v = v) ∨ T1.at t = some v)
    (ht : ∀ t v, T'.at t = some v → (o.dst = some t ∧ r.v = v) ∨ (o.dst ≠ some t ∧ T.at t = some v)) :
    G P ops T0 n0 ms (R ++ [r]) T1' T' H' ac' (hl ++ [(H', ac')]) (cs ++ [R.length]) (some R.length) mv qs none := by
  have hdst : dstOf ops R.length = o.dst := by simp [dstOf, ho]
  have hl1 := g.hl1
  have hlastr : (R ++ [r])[R.length]? = some r := by simp
  have hnew : (hl ++ [(H', ac')])[cs.length + 1]? = some (H', ac') := by rw [← hl1]; simp
  refine ⟨?_, ?_, ?_, by simp [hl1], by simpa using hnew, ?_, ?_, ?_, ?_, ?_, ?_, ?_, ?_, fun x hx => by cases hx⟩
  · intro i r' hi
    rcases app_one hi with ⟨h1, h2⟩ | ⟨rfl, rfl⟩
    · obtain ⟨o', h3, h4⟩ := g.rc i r' h2
      exact ⟨o', h3, fun hx => (h4 hx).mono hlt (by omega)⟩
    · refine ⟨o, ho, fun hx => ⟨?_, hw, fun h => (by rw [hwt] at h; cases h), fun ob h => (by rw [hk] at h; cases h), ?_⟩⟩
      · intro t v h
        rcases he t v h with h1 | ⟨h1, j, r'', h2, h3, h4⟩
        · exact .inl h1
        · exact .inr ⟨h1, j, r'', app_some h2, h3, h4⟩
      · intro j hj
        rw [hk] at hj; injection hj with hj; subst hj
        refine ⟨by simp, by simp [hl1], A, hA.mono (hlt _) (Nat.le_refl _) (by omega), ?_⟩
        have : hsL (hl ++ [(H', ac')]) (cs.length + 1) = H' := by unfold hsL; rw [hnew]
        rw [this]; exact hV
  · intro t v h
    rcases ht1 t v h with ⟨h1, h2⟩ | h1
    · exact ⟨R.length, r, hlastr, by rw [hdst]; exact h1, h2⟩
    · obtain ⟨j, r', h2, h3, h4⟩ := g.t1 t v h1
      exact ⟨j, r', app_some h2, h3, h4⟩
  · intro hn t v h
    rcases ht t v h with ⟨h1, h2⟩ | ⟨h1, h2⟩
    · exact .inl ⟨R.length, r, hlastr, by rw [hdst]; exact h1, h2⟩
    · rcases g.t rfl t v h2 with ⟨j, r', h2, h3, h4⟩ | ⟨h3, h4⟩
      · exact .inl ⟨j, r', app_some h2, h3, h4⟩
      · refine .inr ⟨h3, fun j hj => ?_⟩
        by_cases hj2 : j < R.length
        · exact h4 j hj2
        · simp at hj
          have : j = R.length := by omega
          subst this
          rw [hdst]; exact h1
  · intro j c h
    rcases app_one h with ⟨h1, h2⟩ | ⟨rfl, rfl⟩
    · obtain ⟨x, y, h3, h4, h5⟩ := g.ab j c h2
      exact ⟨x, y, app_some h3, app_some h4, h5⟩
    · exact ⟨(hc, ac), (H', ac'), app_some g.hl2, hnew, hac⟩
  · intro j c h
    rcases app_one h with ⟨h1, h2⟩ | ⟨rfl, rfl⟩
    · obtain ⟨r', h3, h4⟩ := g.cs1 j c h2
      exact ⟨r', app_some h3, h4⟩
    · exact ⟨r, hlastr, hk⟩
  · intro j c c' h h'
    rcases app_one h' with ⟨h1, h2⟩ | ⟨h1, rfl⟩
    · rcases app_one h with ⟨h3, h4⟩ | ⟨h3, _⟩
      · exact g.cs2 j c c' h4 h2
      · omega
    · rcases app_one h with ⟨h3, h4⟩ | ⟨h3, _⟩
      · exact hlast c (g.lc j c h4 h1)
      · omega
  · intro j c h hj
    rcases app_one h with ⟨h1, h2⟩ | ⟨h1, rfl⟩
    · simp at hj; omega
    · rfl
  · intro j ob h
    have h1 := g.mv1 j ob h
    obtain ⟨r', h2, h3⟩ := kdR_some h1 (by simp)
    rw [kdR_app (List.getElem?_eq_some_iff.1 h2).1]; exact h1
  · intro j ob h
    rcases kdR_one h (by simp) with ⟨h1, h2⟩ | ⟨rfl, h2⟩
    · exact g.mv2 j ob h2
    · rw [hk] at h2; cases h2
  · intro i r' o' hi ho' hk' hw'
    rcases app_one hi with ⟨h1, h2⟩ | ⟨rfl, rfl⟩
    · exact g.q i r' o' h2 ho' hk' hw'
    · rw [hk] at hk'; cases hk'
  · intro hn i r' hi
    rcases app_one hi with ⟨h1, h2⟩ | ⟨rfl, rfl⟩
    · exact g.st0 rfl i r' h2
    · rw [hk]; exact ⟨by simp, by simp⟩
end
end
end Go.Proofs.YtoapdkcokemieaaGreat.Ev
