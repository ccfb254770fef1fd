/-
  The law on live registers, in plain words.
-/
import Derived.Test.YtliijnpblddjfaaLTE
import Derived.Test.YtliijnpblddjfaaFM
import Derived.Test.YtliijnpblddjfaaLTS
namespace Go.Proofs.Ytliijnpblddjfaa
open Go.RowKit
set_option linter.unusedVariables false
set_option linter.unusedSimpArgs false
theorem zAr {n : Nat} {A : Nat → Insn} {R R' : Nat → Bool} (h : zpB n A R) (h' : zpB n A R') (k : Nat) : R k = R' k := by
  have all : ∀ {Q : Nat → Bool}, zpB n A Q → ∀ a, Way (Edge A) a → Q a = true := fun hQ a w => by
    induction w with
    | root => exact hQ.zero
    | step _ he ih => exact hQ.closed _ _ ih he
  rw [Bool.eq_iff_iff]
  exact ⟨fun q => all h' k (h.first k q).2, fun q => all h k (h'.first k q).2⟩
theorem cl0 : ∀ o : BitVec 8, (nn (o % 8#8) == 0) = ((o &&& 7#8) == 0#8) := by decide +kernel
theorem cl4 : ∀ o : BitVec 8, (nn (o % 8#8) == 4) = ((o &&& 7#8) == 4#8) := by decide +kernel
theorem cl7 : ∀ o : BitVec 8, (nn (o % 8#8) == 7) = ((o &&& 7#8) == 7#8) := by decide +kernel
/-- What is told to be in vain. -/
noncomputable def dd (A : Nat → Insn) (v : Nat → BitVec 16) (R : Nat → Bool) (k : Nat) : Bool := R k && (zeE (A k) && ((bh A v k &&& (1#16 <<< (A k).fDst.toNat)) == 0#16))
section
variable {n N : Nat} {A : Nat → Insn} {P : Nat → Part} {R W v : Nat → BitVec 16} {X : Nat → Nat × (Nat → Int)} {Q : Nat → Bool}
theorem zCf (h : Fine n A N P) (hX : Rows n A R W X) (hQ : zpB n A Q) {k : Nat} (hk : k < n) : zR n A Q R W v X (.c0 (k : Int)) = some (.inl (bif dd A v Q k then .c1 1 (fun _ => (k : Int)) ((k + 1 : Nat) : Int) else .c0 ((k + 1 : Nat) : Int))) := by
  have hm := h.most
  unfold zR dd
  simp only
  rw [ct (d_t (by omega)), ct (zt hk), ct (by rw [Int.toNat_natCast]; exact zt hk), Int.toNat_natCast, zjU (by omega)]
  cases hq : Q k
  · rfl
  · rw [ct rfl]
    cases hs : zeE (A k)
    · rfl
    · rw [ct rfl, hX.behind h hk, Option.bind_some, (hQ.first k hq).1.2, if_neg (by simp)]
      simp only [zv]
      unfold zc3
      cases (bh A v k &&& (1#16 <<< (A k).fDst.toNat)) == 0#16 <;> rfl
theorem zBj (h : Fine n A N P) (hX : Rows n A R W X) (hQ : zpB n A Q) {k m : Nat} {D : Nat → Int} (hk : k < n) (hm : m ≤ n) : zR n A Q R W v X (.c1 m D (k : Int)) = some (.inl (bif dd A v Q k then .c1 (m + 1) (updF D m (k : Int)) ((k + 1 : Nat) : Int) else .c1 m D ((k + 1 : Nat) : Int))) := by
  have hmm := h.most
  unfold zR dd
  simp only
  rw [ct (d_t (by omega)), ct (zt hk), ct (by rw [Int.toNat_natCast]; exact zt hk), Int.toNat_natCast, zjU (by omega)]
  cases hq : Q k
  · rfl
  · rw [ct rfl]
    cases hs : zeE (A k)
    · rfl
    · rw [ct rfl, hX.behind h hk, Option.bind_some, (hQ.first k hq).1.2, if_neg (by simp)]
      simp only [zv]
      unfold zc3
      cases (bh A v k &&& (1#16 <<< (A k).fDst.toNat)) == 0#16
      · rfl
      · rw [ct rfl, ct (d_t (by omega))]
        rfl
theorem jp5 (h : Fine n A N P) (hQ : zpB n A Q) {k : Nat} (hk : k < n) : ∃ a b c d, zcb n A v Q (k : Int) (zk (A k)) = some (.e0 a b c d (dd A v Q k)) := by
  unfold zcb dd zk zeE
  rw [ct (by rw [Int.toNat_natCast]; exact zt hk), Int.toNat_natCast, cl4, cl7, cl0]
  cases hq : Q k
  · exact ⟨_, _, _, _, rfl⟩
  · have hb := zw4 (lv := v) h hk (hQ.first k hq).1.2
    rw [ct rfl, ct (zt hk)]
    simp only [Int.toNat_natCast]
    rw [hb]
    simp only [zv, Option.bind_some]
    unfold zl
    cases ((A k).fOp &&& 7#8) == 4#8 <;> cases ((A k).fOp &&& 7#8) == 7#8 <;> cases ((A k).fOp &&& 7#8) == 0#8 <;> cases (bh A v k &&& (1#16 <<< (A k).fDst.toNat)) == 0#16 <;> exact ⟨_, _, _, _, rfl⟩
theorem jp6 (h : Fine n A N P) (hQ : zpB n A Q) {k : Nat} (hk : k < n) : ∃ a b c d, zce n A v Q (k : Int) (zk (A k)) = some (.e0 a b c d (dd A v Q k)) := by
  unfold zce dd zk zeE
  rw [ct (by rw [Int.toNat_natCast]; exact zt hk), Int.toNat_natCast, cl4, cl7, cl0]
  cases hq : Q k
  · exact ⟨_, _, _, _, rfl⟩
  · have hb := zw4 (lv := v) h hk (hQ.first k hq).1.2
    rw [ct rfl, ct (zt hk)]
    simp only [Int.toNat_natCast]
    rw [hb]
    simp only [zv, Option.bind_some]
    unfold zl
    cases ((A k).fOp &&& 7#8) == 4#8 <;> cases ((A k).fOp &&& 7#8) == 7#8 <;> cases ((A k).fOp &&& 7#8) == 0#8 <;> cases (bh A v k &&& (1#16 <<< (A k).fDst.toNat)) == 0#16 <;> exact ⟨_, _, _, _, rfl⟩
theorem zDk (h : Fine n A N P) (hQ : zpB n A Q) {k : Nat} (hk : k < n) : zu n A v Q (.c0 (k : Int)) = some (.inl (bif dd A v Q k then .c1 1 (fun _ => (k : Int)) ((k + 1 : Nat) : Int) else .c0 ((k + 1 : Nat) : Int))) := by
  have hm := h.most
  obtain ⟨a, b, c, d, e⟩ := jp5 (v := v) h hQ hk
  unfold zu
  simp only [zv]
  rw [ct (d_t (by omega)), ct (zt hk), Int.toNat_natCast, e, Option.bind_some, zjU (by omega)]
  cases dd A v Q k <;> rfl
theorem zC2 (h : Fine n A N P) (hQ : zpB n A Q) {k m : Nat} {D : Nat → Int} (hk : k < n) (hm : m ≤ n) : zu n A v Q (.c1 m D (k : Int)) = some (.inl (bif dd A v Q k then .c1 (m + 1) (updF D m (k : Int)) ((k + 1 : Nat) : Int) else .c1 m D ((k + 1 : Nat) : Int))) := by
  have hmm := h.most
  obtain ⟨a, b, c, d, e⟩ := jp6 (v := v) h hQ hk
  unfold zu
  simp only [zv]
  rw [ct (d_t (by omega)), ct (zt hk), Int.toNat_natCast, e, Option.bind_some, zjU (by omega), d_t (show m ≤ 1000000 by omega)]
  cases dd A v Q k <;> rfl
theorem zCI (h : Fine n A N P) (hX : Rows n A R W X) (hQ : zpB n A Q) : ∀ d k m D, k + d = n → m ≤ k → ∃ m' D', m' ≤ n ∧ lpO (zR n A Q R W v X) (.c1 m D (k : Int)) = some (.e1 m' D') ∧ lpO (zu n A v Q) (.c1 m D (k : Int)) = some (.e1 m' D')
  | 0, k, m, D, e, hm => by
    obtain rfl : k = n := by omega
    refine ⟨m, D, hm, zfz ?_, zfz ?_⟩
    · unfold zR
      simp only
      rw [cf (d_f (by omega))]
    · unfold zu
      simp only
      rw [cf (d_f (by omega))]
  | d + 1, k, m, D, e, hm => by
    have p := zBj (v := v) (D := D) h hX hQ (show k < n by omega) (show m ≤ n by omega)
    have r := zC2 (v := v) (D := D) h hQ (show k < n by omega) (show m ≤ n by omega)
    cases hd : dd A v Q k <;> rw [hd] at p r
    · obtain ⟨m', D', h0, h1, h2⟩ := zCI h hX hQ d (k + 1) m D (by omega) (by omega)
      exact ⟨m', D', h0, by rw [zdd p]; exact h1, by rw [zdd r]; exact h2⟩
    · obtain ⟨m', D', h0, h1, h2⟩ := zCI h hX hQ d (k + 1) (m + 1) (updF D m (k : Int)) (by omega) (by omega)
      exact ⟨m', D', h0, by rw [zdd p]; exact h1, by rw [zdd r]; exact h2⟩
theorem zDh (h : Fine n A N P) (hX : Rows n A R W X) (hQ : zpB n A Q) : ∀ d k, k + d = n → (lpO (zR n A Q R W v X) (.c0 (k : Int)) = some .e0 ∧ lpO (zu n A v Q) (.c0 (k : Int)) = some .e0) ∨
    ∃ m' D', m' ≤ n ∧ lpO (zR n A Q R W v X) (.c0 (k : Int)) = some (.e1 m' D') ∧ lpO (zu n A v Q) (.c0 (k : Int)) = some (.e1 m' D')
  | 0, k, e => by
    obtain rfl : k = n := by omega
    refine .inl ⟨zfz ?_, zfz ?_⟩
    · unfold zR
      simp only
      rw [cf (d_f (by omega))]
    · unfold zu
      simp only
      rw [cf (d_f (by omega))]
  | d + 1, k, e => by
    have p := zCf (v := v) h hX hQ (show k < n by omega)
    have r := zDk (v := v) h hQ (show k < n by omega)
    cases hd : dd A v Q k <;> rw [hd] at p r
    · rw [zdd p, zdd r]
      exact zDh h hX hQ d (k + 1) (by omega)
    · obtain ⟨m', D', h0, h1, h2⟩ := zCI (v := v) h hX hQ d (k + 1) 1 (fun _ => (k : Int)) (by omega) (by omega)
      exact .inr ⟨m', D', h0, by rw [zdd p]; exact h1, by rw [zdd r]; exact h2⟩
/-- What is live, by both. -/
theorem zzf (h : Fine n A N P) {w : Int × Int} (hc : zb0 n A = some w) (hr : zcQ n A = some w) (hw : w.2 = 0) : ∃ R W X v, Rows n A R W X ∧ ziC n A = some (.e0 R W v X) ∧ zbx n A = some (.e0 v) ∧ ∀ k, k < n → sec A k = false → Fv A R W v k = v k := by
  have hm := h.most
  obtain ⟨R, W, X, h1, hX⟩ := zDy h hc hw
  obtain ⟨g, hg1, hg⟩ := zsj (show n ≤ 1000000 by omega) A
  obtain ⟨v, v1, v2, v3⟩ := rounds h hX hg _ (fun _ => 0#16) (Nat.lt_succ_self _) (fun k _ _ => leW.zero)
  refine ⟨R, W, X, v, hX, ?_, ?_, v3⟩
  · unfold ziC
    rw [ct (d_t (by omega)), h1, Option.bind_some]
    simp only
    rw [v1]
    rfl
  · unfold zbx
    rw [hr, Option.bind_some, ct (by rw [hw]; rfl), hg1, Option.bind_some]
    simp only
    rw [ct (ziB.2 ⟨by omega, by omega⟩), v2]
    rfl
end
theorem zw7 {n : Nat} {A B : Nat → Int} (hn : n ≤ 100000) (h : ∀ k, k < n → A k = B k) : zdr n A n B = some true := by
  unfold zdr
  rw [ct (by simp)]
  obtain ⟨r, h1, h2⟩ := zgD (st := zbZ n A n B) (fun s => match s with | .c0 y => ∃ k : Nat, y = (k : Int) ∧ k ≤ n) (fun s => match s with | .c0 y => n - y.toNat) (fun _ r => r = .e0) (fun s hs => by
    obtain ⟨y⟩ := s
    obtain ⟨k, rfl, hk⟩ := hs
    by_cases h' : k < n
    · refine .inl ⟨.c0 ((k + 1 : Nat) : Int), ?_, ⟨k + 1, rfl, by omega⟩, by show n - ((k + 1 : Nat) : Int).toNat < n - (k : Int).toNat; omega, fun r hr => hr⟩
      unfold zbZ
      simp only
      rw [ct (d_t (by omega)), ct (zt h'), ct (zt h'), Int.toNat_natCast, ct (by rw [h k h']; simp), zjU (by omega)]
    · refine .inr ⟨_, ?_, rfl⟩
      unfold zbZ
      simp only
      rw [cf (d_f (by omega))]) (.c0 0) ⟨0, rfl, by omega⟩
  rw [h1, h2]
  rfl
theorem zAP {n : Nat} {v : Nat → BitVec 16} (hn : n ≤ 100000) : lpO (z4 n v v) (.c0 0) = some .e0 := by
  obtain ⟨r, h1, h2⟩ := zgD (st := z4 n v v) (fun s => match s with | .c0 y => ∃ k : Nat, y = (k : Int) ∧ k ≤ n) (fun s => match s with | .c0 y => n - y.toNat) (fun _ r => r = .e0) (fun s hs => by
    obtain ⟨y⟩ := s
    obtain ⟨k, rfl, hk⟩ := hs
    by_cases h' : k < n
    · refine .inl ⟨.c0 ((k + 1 : Nat) : Int), ?_, ⟨k + 1, rfl, by omega⟩, by show n - ((k + 1 : Nat) : Int).toNat < n - (k : Int).toNat; omega, fun r hr => hr⟩
      unfold z4
      simp only [Int.toNat_natCast]
      rw [ct (d_t (by omega)), ct (zt h'), ct (zt h'), ct (by simp), zjU (by omega)]
    · refine .inr ⟨_, ?_, rfl⟩
      unfold z4
      simp only
      rw [cf (d_f (by omega))]) (.c0 0) ⟨0, rfl, by omega⟩
  rw [h1, h2]
/-! ### The row of the first statement -/
def ex3 : Nat → Insn := fun k => if k = 0 then (⟨183#8, 1#8, 0#8, 0#16, 1#32⟩ : Insn) else if k = 1 then (⟨183#8, 0#8, 0#8, 0#16, 2#32⟩ : Insn) else (⟨149#8, 0#8, 0#8, 0#16, 0#32⟩ : Insn)
theorem zuo {k : Nat} (hk : k < 3) : k = 0 ∨ k = 1 ∨ k = 2 := by omega
theorem zxa {k : Nat} (hk : k < 3) : sec ex3 k = false := by
  rcases zuo hk with rfl | rfl | rfl <;> rfl
theorem zAE : Plain 3 ex3 := by
  refine ⟨by omega, by omega, fun k hk hk' hs => ?_, fun k hk hs => ?_, rfl⟩
  · rcases zuo hk with rfl | rfl | rfl <;> rfl
  · rcases zuo hk with rfl | rfl | rfl <;> rfl
theorem zsh : zb0 3 ex3 = some (0, 0) := by
  refine zAE.check fun p h0 h1 k hk hs => ?_
  unfold zP
  rcases zuo hk with rfl | rfl | rfl <;> rfl
theorem zDe : zcS (ex3 0) = some (0#16, true) ∧ zcS (ex3 1) = some (0#16, true) ∧ zcS (ex3 2) = some (1#16, true) := by
  refine ⟨?_, ?_, ?_⟩ <;> (unfold zcS; rw [zmN]; rfl)
theorem zCS : zcZ (ex3 0) = some (2#16, true) ∧ zcZ (ex3 1) = some (1#16, true) := by
  refine ⟨?_, ?_⟩ <;> (unfold zcZ; rw [zmN]; rfl)
theorem zDn : nxN ex3 0 = 1 ∧ nxN ex3 1 = 1 ∧ nxN ex3 2 = 0 ∧ nxL ex3 0 0 = 1 ∧ nxL ex3 1 0 = 2 := ⟨rfl, rfl, rfl, rfl, rfl⟩
theorem zDg (v : Nat → BitVec 16) : bh ex3 v 0 = v 1 ∧ bh ex3 v 1 = v 2 ∧ bh ex3 v 2 = 0#16 := by
  obtain ⟨a, b, c, d, e⟩ := zDn
  unfold bh
  rw [a, b, c]
  refine ⟨?_, ?_, rfl⟩
  · show 0#16 ||| v (nxL ex3 0 0).toNat = v 1
    rw [d]
    simp
  · show 0#16 ||| v (nxL ex3 1 0).toNat = v 2
    rw [e]
    simp
theorem zDl : Edge ex3 0 1 ∧ Edge ex3 1 2 := ⟨.inr (.inl ⟨rfl, rfl, rfl⟩), .inr (.inl ⟨rfl, rfl, rfl⟩)⟩
theorem zBI : zeE (ex3 0) = true ∧ zeE (ex3 1) = true ∧ zeE (ex3 2) = false ∧ (ex3 0).fDst.toNat = 1 ∧ (ex3 1).fDst.toNat = 0 := ⟨rfl, rfl, rfl, rfl, rfl⟩
theorem zBB : ∃ R W X v Q, Rows 3 ex3 R W X ∧ zpB 3 ex3 Q ∧ zg1 3 ex3 = some (.e0 Q) ∧ ziC 3 ex3 = some (.e0 R W v X) ∧ v 0 = 0#16 ∧ v 2 = 1#16 ∧ dd ex3 v Q 0 = true ∧ dd ex3 v Q 1 = false ∧ dd ex3 v Q 2 = false := by
  obtain ⟨w, hw, hf⟩ := zvK 3 ex3
  rw [zsh] at hw
  cases hw
  obtain ⟨N, P, h⟩ := hf rfl
  obtain ⟨w, hw, hc⟩ := zuG 3 ex3
  have hr := zzV hc
  have hw0 : w = (0, 0) := by rw [zsh] at hw; injection hw with e; exact e.symm
  have hw2 : w.2 = 0 := by rw [hw0]
  obtain ⟨R, W, X, v, hX, h1, -, hfix⟩ := zzf h hw hr hw2
  obtain ⟨Q, hQ1, hQ⟩ := zxT h (by omega) hw hw2
  obtain ⟨b0, b1, b2⟩ := zDg v
  obtain ⟨r0, r1, r2⟩ := zDe
  obtain ⟨w0, w1⟩ := zCS
  have rd : ∀ k, k < 3 → ∀ a, zcS (ex3 k) = some (a, true) → R k = a := fun k hk a e => by
    obtain ⟨b, e2⟩ := hX.reads k hk (zxa hk)
    rw [e] at e2
    injection e2 with e2
    exact (congrArg Prod.fst e2).symm
  have wd : ∀ k, k < 3 → ∀ a, zcZ (ex3 k) = some (a, true) → W k = a := fun k hk a e => by
    obtain ⟨b, e2⟩ := hX.writes k hk (zxa hk)
    rw [e] at e2
    injection e2 with e2
    exact (congrArg Prod.fst e2).symm
  have v2 : v 2 = 1#16 := by
    rw [← hfix 2 (by omega) (zxa (by omega))]
    unfold Fv
    rw [b2, rd 2 (by omega) _ r2]
    simp
  have v1 : v 1 = 0#16 := by
    rw [← hfix 1 (by omega) (zxa (by omega))]
    unfold Fv
    rw [b1, rd 1 (by omega) _ r1, wd 1 (by omega) _ w1, v2]
    rfl
  have v0 : v 0 = 0#16 := by
    rw [← hfix 0 (by omega) (zxa (by omega))]
    unfold Fv
    rw [b0, rd 0 (by omega) _ r0, wd 0 (by omega) _ w0, v1]
    rfl
  have q0 := hQ.zero
  have q1 := hQ.closed 0 1 q0 zDl.1
  have q2 := hQ.closed 1 2 q1 zDl.2
  obtain ⟨s0, s1, s2, d0, d1⟩ := zBI
  refine ⟨R, W, X, v, Q, hX, hQ, hQ1, h1, v0, v2, ?_, ?_, ?_⟩
  · unfold dd
    rw [q0, s0, b0, v1, d0]
    rfl
  · unfold dd
    rw [q1, s1, b1, v2, d1]
    rfl
  · unfold dd
    rw [q2, s2]
    rfl
theorem zBA : ∃ v D, zdQ 3 ex3 = some (.e0 v) ∧ zdE 3 ex3 = some (.e1 1 D) ∧ D 0 = 0 ∧ v 0 = 0#16 ∧ v 2 = 1#16 := by
  obtain ⟨R, W, X, v, Q, hX, hQ, hQ1, h1, v0, v2, d0, d1, d2⟩ := zBB
  obtain ⟨w, hw, hf⟩ := zvK 3 ex3
  rw [zsh] at hw
  cases hw
  obtain ⟨N, P, h⟩ := hf rfl
  have p0 := zCf (v := v) h hX hQ (show 0 < 3 by omega)
  have p1 := zBj (v := v) (m := 1) (D := fun _ => ((0 : Nat) : Int)) h hX hQ (show 1 < 3 by omega) (by omega)
  have p2 := zBj (v := v) (m := 1) (D := fun _ => ((0 : Nat) : Int)) h hX hQ (show 2 < 3 by omega) (by omega)
  rw [d0, ct rfl] at p0
  rw [d1, cf rfl] at p1
  rw [d2, cf rfl] at p2
  have p3 : lpO (zR 3 ex3 Q R W v X) (.c1 1 (fun _ => ((0 : Nat) : Int)) ((2 + 1 : Nat) : Int)) = some (.e1 1 fun _ => ((0 : Nat) : Int)) := zfz (by
    unfold zR
    simp only
    rw [cf (d_f (by omega))])
  have hl : lpO (zR 3 ex3 Q R W v X) (.c0 ((0 : Nat) : Int)) = some (.e1 1 fun _ => ((0 : Nat) : Int)) := by
    rw [zdd p0, zdd p1, zdd p2, p3]
  have hl : lpO (zR 3 ex3 Q R W v X) (.c0 0) = some (.e1 1 fun _ => ((0 : Nat) : Int)) := hl
  refine ⟨v, fun _ => ((0 : Nat) : Int), ?_, ?_, rfl, v0, v2⟩
  · unfold zdQ
    rw [zsh, Option.bind_some, ct (by rfl), h1]
    rfl
  · unfold zdE
    rw [zsh, Option.bind_some, ct (by rfl), hQ1, Option.bind_some]
    simp only
    rw [h1, Option.bind_some]
    simp only
    rw [hl]
    rfl
theorem zAx : zep = some true := by
  obtain ⟨v, D, h1, h2, hD, v0, v2⟩ := zBA
  have h1 : zdQ 3 (fun k => if k = 0 then (⟨183#8, 1#8, 0#8, 0#16, 1#32⟩ : Insn) else if k = 1 then (⟨183#8, 0#8, 0#8, 0#16, 2#32⟩ : Insn) else (⟨149#8, 0#8, 0#8, 0#16, 0#32⟩ : Insn)) = _ := h1
  have h2 : zdE 3 (fun k => if k = 0 then (⟨183#8, 1#8, 0#8, 0#16, 1#32⟩ : Insn) else if k = 1 then (⟨183#8, 0#8, 0#8, 0#16, 2#32⟩ : Insn) else (⟨149#8, 0#8, 0#8, 0#16, 0#32⟩ : Insn)) = _ := h2
  unfold zep
  rw [h2, Option.bind_some]
  simp only
  rw [h1, Option.bind_some]
  simp only
  rw [ct (by rfl), ct (show inR 0 1 = true by decide), ct (by rw [hD]; rfl), ct (by rw [v0]; rfl), v2]
  rfl
/-- The law answers true. -/
theorem zxK (n : Nat) (A : Nat → Insn) (x : Insn) : zem n A x = some true := by
  obtain ⟨a, b, r1, r2, -⟩ := zvh x
  obtain ⟨c, d, w1⟩ := zxv x
  have w2 : zcY x = some (c, d) := by rw [← zx2]; exact w1
  unfold zem
  rw [zAx, Option.bind_some, ct (b := true) rfl]
  by_cases hn : 150 < (n : Int) ∨ 120 < (n : Int)
  · rw [ct (d_t (by omega))]
  have hn : n ≤ 120 := by omega
  rw [cf (d_f (by omega)), r1, Option.bind_some, r2, Option.bind_some, w1, Option.bind_some, w2, Option.bind_some, ct (by simp), cf (by simp), ct (by simp), cf (by simp)]
  obtain ⟨w, hw, hc⟩ := zuG n A
  have hr := zzV hc
  by_cases h0 : w.2 = 0
  · obtain ⟨w', hw', hf⟩ := zvK n A
    rw [hw] at hw'
    injection hw' with e
    obtain ⟨N, P, h⟩ := hf (by rw [← e]; exact h0)
    have hpos : 0 < n := by
      cases hc with
      | subs a e h => exact absurd h0 h.err
      | jump => exact absurd h0 (show ¬ ((15 : Int) = 0) by decide)
      | fine N P h => cases h with | fine h0 => exact h0
    obtain ⟨R, W, X, v, hX, h1, h2, -⟩ := zzf h hw hr h0
    obtain ⟨Q, hQ1, hQ⟩ := zxT h hpos hw h0
    obtain ⟨Q', hQ1', hQ'⟩ := zAN h hpos
    have hqq : Q' = Q := funext fun k => zAr hQ' hQ k
    subst hqq
    have hl : zdQ n A = some (.e0 v) := by
      unfold zdQ
      rw [hw, Option.bind_some, ct (by rw [h0]; rfl), h1]
      rfl
    have pd : ∀ r, lpO (zR n A Q' R W v X) (.c0 0) = some r → zdE n A = (match r with | .e0 => some (.e0 0) | .e1 a b => some (.e1 a b)) := fun r e => by
      unfold zdE
      rw [hw, Option.bind_some, ct (by rw [h0]; rfl), hQ1, Option.bind_some]
      simp only
      rw [h1, Option.bind_some]
      simp only
      rw [e, Option.bind_some]
      cases r <;> rfl
    have rd : ∀ r, lpO (zu n A v Q') (.c0 0) = some r → zby n A = (match r with | .e0 => some (.e0 0) | .e1 a b => some (.e1 a b)) := fun r e => by
      unfold zby
      rw [h2, Option.bind_some]
      simp only
      rw [hQ1', Option.bind_some]
      simp only
      rw [e, Option.bind_some]
      cases r <;> rfl
    rw [hl, Option.bind_some]
    simp only
    rw [h2, Option.bind_some]
    simp only
    rw [ct (by simp), zAP (by omega), Option.bind_some]
    rcases zDh (v := v) h hX hQ n 0 (by omega) with ⟨p, q⟩ | ⟨m, D, hm, p, q⟩
    · have p := pd _ p
      have q := rd _ q
      simp only at p q
      rw [p, Option.bind_some]
      simp only
      rw [q, Option.bind_some]
      simp only
      rw [ct (by rfl), zw7 (by omega) (fun k hk => by omega)]
      rfl
    · have p := pd _ p
      have q := rd _ q
      simp only at p q
      rw [p, Option.bind_some]
      simp only
      rw [q, Option.bind_some]
      simp only
      rw [zw7 (by omega) (fun k hk => rfl)]
      rfl
  · have hb : (w.2 == 0) = false := by simpa using h0
    have e1 : zdQ n A = some (.e1 w.2) := by
      unfold zdQ
      rw [hw, Option.bind_some, cf hb]
    have e2 : zbx n A = some (.e1 w.2) := by
      unfold zbx
      rw [hr, Option.bind_some, cf hb]
    have e3 : zdE n A = some (.e0 w.2) := by
      unfold zdE
      rw [hw, Option.bind_some, cf hb]
    have e4 : zby n A = some (.e0 w.2) := by
      unfold zby
      rw [e2, Option.bind_some]
      simp only
      rw [cf hb]
    rw [e1, Option.bind_some]
    simp only
    rw [e2, Option.bind_some]
    simp only
    rw [ct (by simp), e3, Option.bind_some]
    simp only
    rw [e4, Option.bind_some]
    simp only
    rw [ct (by simp), zw7 (by omega) (fun k hk => by omega)]
    rfl
end Go.Proofs.Ytliijnpblddjfaa

