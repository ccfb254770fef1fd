/-
  What is live: the program's rounds and the document's, side by side, in plain words.
-/
import Derived.Test.YtliijnpblddjfaaLTC
namespace Go.Proofs.Ytliijnpblddjfaa
open Go.RowKit
set_option linter.unusedVariables false
set_option linter.unusedSimpArgs false
/-! ### Rows of bits -/
def leW (a b : BitVec 16) : Prop := ∀ i, a.getLsbD i = true → b.getLsbD i = true
theorem leW.rfl' {a : BitVec 16} : leW a a := fun _ h => h
theorem leW.trans {a b c : BitVec 16} (h : leW a b) (k : leW b c) : leW a c := fun i q => k i (h i q)
theorem leW.or {a b c d : BitVec 16} (h : leW a c) (k : leW b d) : leW (a ||| b) (c ||| d) := fun i q => by
  rw [BitVec.getLsbD_or, Bool.or_eq_true] at q ⊢
  exact q.imp (h i) (k i)
theorem leW.and {a c : BitVec 16} (m : BitVec 16) (h : leW a c) : leW (a &&& m) (c &&& m) := fun i q => by
  rw [BitVec.getLsbD_and, Bool.and_eq_true] at q ⊢
  exact ⟨h i q.1, q.2⟩
theorem leW.or_eq {a b : BitVec 16} (h : leW a b) : a ||| b = b := by
  apply BitVec.eq_of_getLsbD_eq
  intro i hi
  rw [BitVec.getLsbD_or]
  cases e : a.getLsbD i
  · rfl
  · rw [h i e]; rfl
theorem leW.lt {a b : BitVec 16} (h : leW a b) (hne : b ≠ a) : a.toNat < b.toNat := by
  have h1 : (a ||| b).toNat = b.toNat := by rw [h.or_eq]
  rw [BitVec.toNat_or] at h1
  have h2 : a.toNat ≤ a.toNat ||| b.toNat := Nat.left_le_or
  have h3 : a.toNat ≠ b.toNat := fun e => hne (BitVec.eq_of_toNat_eq e.symm)
  omega
theorem leW.zero {a : BitVec 16} : leW 0#16 a := fun i h => by simp at h
/-- What is live at the first so many of a list. -/
def orB (lv : Nat → BitVec 16) (L : Nat → Int) : Nat → BitVec 16
  | 0 => 0#16
  | i + 1 => orB lv L i ||| lv (L i).toNat
theorem zxf {lv : Nat → BitVec 16} {L L' : Nat → Int} : ∀ {m}, (∀ i, i < m → L i = L' i) → orB lv L m = orB lv L' m
  | 0, _ => rfl
  | m + 1, h => by
    show orB lv L m ||| _ = orB lv L' m ||| _
    rw [zxf (m := m) fun i hi => h i (by omega), h m (by omega)]
theorem zAa {lv lv' : Nat → BitVec 16} {L : Nat → Int} (h : ∀ k, leW (lv k) (lv' k)) : ∀ m, leW (orB lv L m) (orB lv' L m)
  | 0 => leW.rfl'
  | m + 1 => (zAa h m).or (h _)
noncomputable def bh (A : Nat → Insn) (lv : Nat → BitVec 16) (k : Nat) : BitVec 16 := orB lv (nxL A k) (nxN A k)
theorem Fine.sec_op {n N : Nat} {A : Nat → Insn} {P : Nat → Part} (h : Fine n A N P) {k : Nat} (hk : k < n) (hs : sec A k = true) : (A k).fOp = 0#8 ∧ ∃ j, k = j + 1 ∧ zgG (A j) = true ∧ sec A j = false := by
  cases k with
  | zero => cases hs
  | succ j =>
    have hs2 : zgG (A j) = true ∧ sec A j = false := by
      have : (zgG (A j) && !sec A j) = true := hs
      simpa using this
    exact ⟨zBP (zyT (h.ok j (by omega) (by omega) hs2.2) hs2.1), j, rfl, hs2⟩
/-- The rows that the rounds begin with. -/
structure Rows (n : Nat) (A : Nat → Insn) (R W : Nat → BitVec 16) (X : Nat → Nat × (Nat → Int)) : Prop where
  second : ∀ k, k < n → sec A k = true → R k = 0#16 ∧ W k = 0#16 ∧ (X k).1 = 0
  reads : ∀ k, k < n → sec A k = false → ∃ b, zcS (A k) = some (R k, b)
  writes : ∀ k, k < n → sec A k = false → ∃ b, zcZ (A k) = some (W k, b)
  next : ∀ k, k < n → sec A k = false → zxy A k (X k).1 (X k).2
section
variable {n N : Nat} {A : Nat → Insn} {P : Nat → Part}
theorem zAQ (h : Fine n A N P) {k : Nat} (hk : k < n) : zdH n A (k : Int) = some (sec A k) := by
  have hm := h.most
  unfold zdH
  cases k with
  | zero => rw [cf (d_f (by omega))]; rfl
  | succ j =>
    have e1 : IntKind.i64.wrap (((j + 1 : Nat) : Int) - 1) = (j : Int) := by rw [wr] <;> omega
    rw [ct (d_t (by omega)), e1, ct (zt (by omega)), Int.toNat_natCast]
    congr 1
    show zgG (A j) = (zgG (A j) && !sec A j)
    cases hw : zgG (A j)
    · rfl
    · cases hs : sec A j
      · rfl
      · have := (h.sec_op (show j < n by omega) hs).1
        unfold zgG at hw
        rw [this] at hw
        cases hw
theorem zCm (h : Fine n A N P) {w : Int × Int} (hc : zb0 n A = some w) (hw : w.2 = 0) {k : Nat} (hk : k < n) : (sec A k = true ∧ zgA n A (k : Int) = some (.e0 150)) ∨ (sec A k = false ∧ nxN A k = 0 ∧ zgA n A (k : Int) = some (.e0 0)) ∨
    (sec A k = false ∧ ∃ m L, 0 < m ∧ m ≤ 2 ∧ zgA n A (k : Int) = some (.e1 m L) ∧ zxy A k m L) := by
  unfold zgA
  rw [hc, Option.bind_some, ct (by rw [hw]; rfl), cf (d_f (by omega)), cf (d_f (by omega)), zAQ h hk, Option.bind_some]
  cases hs : sec A k
  · rw [cf rfl]
    rcases zzB h ⟨hk, hs⟩ with ⟨h0, e⟩ | ⟨m, L, h0, h2, e, hL⟩
    · exact .inr (.inl ⟨rfl, h0, by rw [e]; rfl⟩)
    · exact .inr (.inr ⟨rfl, m, L, h0, h2, by rw [e]; rfl, hL⟩)
  · exact .inl ⟨rfl, rfl⟩
theorem zDy (h : Fine n A N P) {w : Int × Int} (hc : zb0 n A = some w) (hw : w.2 = 0) : ∃ R W X, lpO (zdl n A) (.c0 (fun _ => 0#16) (fun _ => 0#16) (fun _ => (0, fun _ => 0)) 0) = some (.e0 R W (fun _ => 0#16) X) ∧ Rows n A R W X := by
  have hm := h.most
  obtain ⟨r, h1, h2⟩ := zgD (st := zdl n A) (fun s => match s with | .c0 R W X y => ∃ k : Nat, y = (k : Int) ∧ k ≤ n ∧ Rows k A R W X ∧ ∀ j, k ≤ j → R j = 0#16 ∧ W j = 0#16 ∧ (X j).1 = 0) (fun s => match s with | .c0 R W X y => n - y.toNat)
    (fun _ r => ∃ R W X, r = .e0 R W (fun _ => 0#16) X ∧ Rows n A R W X) (fun s hs => by
      obtain ⟨R, W, X, y⟩ := s
      obtain ⟨k, rfl, hk, hI, hz⟩ := hs
      by_cases q : k < n
      · have hμ : n - ((k + 1 : Nat) : Int).toNat < n - (k : Int).toNat := by omega
        obtain ⟨a, b, hra, _⟩ := zvh (A k)
        obtain ⟨c, d, hwa⟩ := zxv (A k)
        have put : ∀ m L, sec A k = false → zxy A k m L → Rows (k + 1) A (updF R k a) (updF W k c) (updF X k (m, L)) ∧ ∀ j, k + 1 ≤ j → updF R k a j = 0#16 ∧ updF W k c j = 0#16 ∧ (updF X k (m, L) j).1 = 0 := fun m L hs hL => by
          refine ⟨⟨fun j hj hsj => ?_, fun j hj hsj => ?_, fun j hj hsj => ?_, fun j hj hsj => ?_⟩, fun j hj => ?_⟩
          · by_cases e : j = k
            · subst e; rw [hs] at hsj; cases hsj
            · rw [zbW _ _ e, zbW _ _ e, zbW _ _ e]; exact hI.second j (by omega) hsj
          · by_cases e : j = k
            · subst e; exact ⟨b, by rw [zcM]; exact hra⟩
            · rw [zbW _ _ e]; exact hI.reads j (by omega) hsj
          · by_cases e : j = k
            · subst e; exact ⟨d, by rw [zcM]; exact hwa⟩
            · rw [zbW _ _ e]; exact hI.writes j (by omega) hsj
          · by_cases e : j = k
            · subst e; rw [zcM]; exact hL
            · rw [zbW _ _ e]; exact hI.next j (by omega) hsj
          · have e : j ≠ k := by omega
            rw [zbW _ _ e, zbW _ _ e, zbW _ _ e]
            exact hz j (by omega)
        rcases zCm h hc hw q with ⟨hs, e⟩ | ⟨hs, h0, e⟩ | ⟨hs, m, L, h0, hm2, e, hL⟩
        · refine .inl ⟨.c0 R W X ((k + 1 : Nat) : Int), ?_, ⟨k + 1, rfl, by omega, ⟨fun j hj hsj => ?_, fun j hj hsj => ?_, fun j hj hsj => ?_, fun j hj hsj => ?_⟩, fun j hj => hz j (by omega)⟩, hμ, fun r hr => hr⟩
          · unfold zdl
            simp only
            rw [ct (d_t (by omega)), ct (zt q), e, Option.bind_some]
            simp only
            rw [cf (by rfl), zjU (by omega)]
          · by_cases c : j = k
            · subst c; exact hz j (Nat.le_refl _)
            · exact hI.second j (by omega) hsj
          all_goals
            have hne : j ≠ k := fun c => by subst c; rw [hs] at hsj; cases hsj
          · exact hI.reads j (by omega) hsj
          · exact hI.writes j (by omega) hsj
          · exact hI.next j (by omega) hsj
        · obtain ⟨p1, p2⟩ := put 0 (fun _ => 0) hs ⟨h0.symm, fun i hi => by omega⟩
          refine .inl ⟨.c0 (updF R k a) (updF W k c) (updF X k (0, fun _ => 0)) ((k + 1 : Nat) : Int), ?_, ⟨k + 1, rfl, by omega, p1, p2⟩, hμ, fun r hr => hr⟩
          unfold zdl
          simp only
          rw [ct (d_t (by omega)), ct (zt q), e, Option.bind_some]
          simp only [Int.toNat_natCast]
          rw [ct (by rfl), hra, Option.bind_some, hwa, Option.bind_some, zjU (by omega)]
        · obtain ⟨p1, p2⟩ := put m L hs hL
          refine .inl ⟨.c0 (updF R k a) (updF W k c) (updF X k (m, L)) ((k + 1 : Nat) : Int), ?_, ⟨k + 1, rfl, by omega, p1, p2⟩, hμ, fun r hr => hr⟩
          unfold zdl
          simp only
          rw [ct (d_t (by omega)), ct (zt q), e, Option.bind_some]
          simp only [Int.toNat_natCast]
          rw [ct (d_t h0), ct (d_t (by omega)), hra, Option.bind_some, hwa, Option.bind_some, zjU (by omega)]
      · obtain rfl : k = n := by omega
        refine .inr ⟨_, ?_, R, W, X, rfl, hI⟩
        unfold zdl
        simp only
        rw [cf (d_f (by omega))]) (.c0 (fun _ => 0#16) (fun _ => 0#16) (fun _ => (0, fun _ => 0)) 0) ⟨0, rfl, by omega, ⟨fun j hj => by omega, fun j hj => by omega, fun j hj => by omega, fun j hj => by omega⟩, fun j _ => ⟨rfl, rfl, rfl⟩⟩
  obtain ⟨R, W, X, rfl, h3⟩ := h2
  exact ⟨R, W, X, h1, h3⟩
/-! ### Behind a slot -/
theorem zyS {lv : Nat → BitVec 16} {X : Nat → Nat × (Nat → Int)} {k : Nat} (hk : k < n) (hm : (X k).1 ≤ 2) (hv : ∀ i, i < (X k).1 → ∃ t : Nat, (X k).2 i = (t : Int) ∧ t < n) : ∀ d j, j + d = (X k).1 →
    lpO (zb8 (k : Int) n lv X) (.c0 (orB lv (X k).2 j) (j : Int)) = some (.e0 (orB lv (X k).2 (X k).1))
  | 0, j, h => by
    obtain rfl : j = (X k).1 := by omega
    exact zfz (by
      unfold zb8
      simp only [Int.toNat_natCast]
      rw [cf (d_f (by omega))])
  | d + 1, j, h => by
    rw [← zyS hk hm hv d (j + 1) (by omega)]
    obtain ⟨t, et, ht⟩ := hv j (by omega)
    refine zdd ?_
    unfold zb8
    simp only [Int.toNat_natCast]
    rw [ct (d_t (by omega)), ct (zt (by omega)), ct (zt hk), ct (by rw [et]; exact zt ht), zjU (by omega)]
    rfl
theorem Rows.behind (h : Fine n A N P) {R W : Nat → BitVec 16} {X : Nat → Nat × (Nat → Int)} (hX : Rows n A R W X) {lv : Nat → BitVec 16} {k : Nat} (hk : k < n) :
    zdJ (k : Int) n R W lv X = some (.e0 (if sec A k = true then 0#16 else bh A lv k)) := by
  unfold zdJ
  rw [ct (zt hk), Int.toNat_natCast]
  cases hs : sec A k
  · obtain ⟨e1, e2⟩ := hX.next k hk hs
    have hb : bh A lv k = orB lv (X k).2 (X k).1 := by
      unfold bh
      rw [← e1]
      exact (zxf fun i hi => e2 i hi).symm
    have hm2 : nxN A k ≤ 2 := by
      rcases zzB h ⟨hk, hs⟩ with ⟨h0, _⟩ | ⟨m, L, _, h2, _, hL⟩
      · omega
      · rw [← hL.1]; exact h2
    rw [if_neg (by simp), hb]
    by_cases c : 0 < (X k).1
    · have hg := zyS (lv := lv) (X := X) hk (by omega) (fun i hi => by
        obtain ⟨t, et, ht⟩ := zCX h ⟨hk, hs⟩ (i := i) (by omega)
        exact ⟨t, by rw [e2 i hi]; exact et, ht⟩) (X k).1 0 (by omega)
      have hg : lpO (zb8 (k : Int) n lv X) (.c0 (0#16) 0) = _ := hg
      rw [ct (d_t c), hg]
      rfl
    · rw [cf (d_f c), show (X k).1 = 0 by omega]
      rfl
  · rw [cf (d_f (by rw [(hX.second k hk hs).2.2]; omega)), if_pos rfl]
theorem zvS {lv : Nat → BitVec 16} {m : Nat} {L : Nat → Int} (hm : m ≤ 2) (hv : ∀ i, i < m → ∃ t : Nat, L i = (t : Int) ∧ t < n) : ∀ d j, j + d = m →
    lpO (zbv n lv m L) (.c0 (orB lv L j) (j : Int)) = some (.e0 (orB lv L m))
  | 0, j, h => by
    obtain rfl : j = m := by omega
    exact zfz (by
      unfold zbv
      simp only
      rw [cf (d_f (by omega))])
  | d + 1, j, h => by
    rw [← zvS hm hv d (j + 1) (by omega)]
    obtain ⟨t, et, ht⟩ := hv j (by omega)
    refine zdd ?_
    unfold zbv
    simp only [Int.toNat_natCast]
    rw [ct (d_t (by omega)), ct (zt (by omega)), ct (by rw [et]; exact zt ht), zjU (by omega)]
    rfl
theorem zw4 (h : Fine n A N P) {lv : Nat → BitVec 16} {k : Nat} (hk : k < n) (hs : sec A k = false) : zbe n A n lv (k : Int) = some (bh A lv k) := by
  unfold zbe bh
  rcases zAo h ⟨hk, hs⟩ with ⟨h0, e⟩ | ⟨m, L, h0, h2, e, hL⟩
  · rw [e, Option.bind_some, h0]
    rfl
  · have hg := zvS (n := n) (lv := lv) (L := L) h2 (fun i hi => by
      obtain ⟨t, et, ht⟩ := zCX h ⟨hk, hs⟩ (i := i) (by rw [← hL.1]; exact hi)
      exact ⟨t, by rw [hL.2 i hi]; exact et, ht⟩) m 0 (by omega)
    have hg : lpO (zbv n lv m L) (.c0 (0#16) 0) = _ := hg
    rw [e, Option.bind_some]
    simp only
    rw [hg, Option.bind_some, ← hL.1]
    simp only
    congr 1
    exact zxf hL.2
end
/-! ### Rounds -/
noncomputable def Fv (A : Nat → Insn) (R W lv : Nat → BitVec 16) (k : Nat) : BitVec 16 := R k ||| (bh A lv k &&& ~~~(W k))
theorem zCA {A : Nat → Insn} {R W lv lv' : Nat → BitVec 16} (h : ∀ k, leW (lv k) (lv' k)) (k : Nat) : leW (Fv A R W lv k) (Fv A R W lv' k) := leW.or leW.rfl' (leW.and _ (zAa h _))
open Classical in
/-- One slot's turn. -/
noncomputable def oneS (A : Nat → Insn) (R W : Nat → BitVec 16) (k : Nat) (p : (Nat → BitVec 16) × Bool) : (Nat → BitVec 16) × Bool :=
  if sec A k = true then p else if Fv A R W p.1 k = p.1 k then p else (updF p.1 k (Fv A R W p.1 k), true)
noncomputable def rnd (A : Nat → Insn) (R W : Nat → BitVec 16) : Nat → (Nat → BitVec 16) × Bool → (Nat → BitVec 16) × Bool
  | 0, p => p
  | s + 1, p => rnd A R W s (oneS A R W s p)
/-- What is live only grows. -/
def Inv (n : Nat) (A : Nat → Insn) (R W lv : Nat → BitVec 16) : Prop := ∀ k, k < n → sec A k = false → leW (lv k) (Fv A R W lv k)
def mu (lv : Nat → BitVec 16) : Nat → Nat
  | 0 => 0
  | k + 1 => mu lv k + (65536 - (lv k).toNat)
theorem zAz {lv lv' : Nat → BitVec 16} : ∀ {n}, (∀ k, k < n → lv k = lv' k) → mu lv n = mu lv' n
  | 0, _ => rfl
  | n + 1, h => by unfold mu; rw [zAz (n := n) fun k hk => h k (by omega), h n (by omega)]
theorem zB9 {lv : Nat → BitVec 16} {k : Nat} {v : BitVec 16} (h : (lv k).toNat < v.toNat) : ∀ {n}, k < n → mu (updF lv k v) n < mu lv n
  | 0, q => by omega
  | n + 1, q => by
    have hv := v.isLt
    unfold mu
    by_cases e : k = n
    · subst e
      rw [zcM, zAz (lv' := lv) fun j hj => zbW lv v (by omega)]
      omega
    · rw [zbW lv v (show n ≠ k by omega)]
      have := zB9 (lv := lv) (v := v) h (show k < n by omega)
      omega
section
variable {n N : Nat} {A : Nat → Insn} {P : Nat → Part} {R W : Nat → BitVec 16}
theorem zAI {p : (Nat → BitVec 16) × Bool} (hI : Inv n A R W p.1) {k : Nat} (hk : k < n) : Inv n A R W (oneS A R W k p).1 ∧ mu (oneS A R W k p).1 n ≤ mu p.1 n ∧ ((oneS A R W k p).2 = true → p.2 = true ∨ mu (oneS A R W k p).1 n < mu p.1 n) := by
  unfold oneS
  split
  · exact ⟨hI, Nat.le_refl _, fun h => .inl h⟩
  · rename_i hs
    have hs : sec A k = false := by simpa using hs
    split
    · exact ⟨hI, Nat.le_refl _, fun h => .inl h⟩
    · rename_i hne
      have hle := hI k hk hs
      have hlt := zB9 (lv := p.1) (hle.lt hne) hk
      refine ⟨fun j hj hsj => ?_, Nat.le_of_lt hlt, fun _ => .inr hlt⟩
      have hup : ∀ i, leW (p.1 i) (updF p.1 k (Fv A R W p.1 k) i) := fun i => by
        by_cases e : i = k
        · subst e; rw [zcM]; exact hle
        · rw [zbW _ _ e]; exact leW.rfl'
      have hm := zCA (A := A) (R := R) (W := W) hup j
      show leW (updF p.1 k (Fv A R W p.1 k) j) _
      by_cases e : j = k
      · subst e; rw [zcM]; exact hm
      · rw [zbW _ _ e]; exact (hI j hj hsj).trans hm
theorem zBi : ∀ {s}, s ≤ n → ∀ {p : (Nat → BitVec 16) × Bool}, Inv n A R W p.1 → Inv n A R W (rnd A R W s p).1 ∧ mu (rnd A R W s p).1 n ≤ mu p.1 n ∧ ((rnd A R W s p).2 = true → p.2 = true ∨ mu (rnd A R W s p).1 n < mu p.1 n)
  | 0, _, p, hI => ⟨hI, Nat.le_refl _, fun h => .inl h⟩
  | s + 1, hs, p, hI => by
    obtain ⟨a1, a2, a3⟩ := zAI hI (show s < n by omega)
    obtain ⟨b1, b2, b3⟩ := zBi (show s ≤ n by omega) a1
    refine ⟨b1, Nat.le_trans b2 a2, fun h => ?_⟩
    have h : (rnd A R W s (oneS A R W s p)).2 = true := h
    show p.2 = true ∨ mu (rnd A R W s (oneS A R W s p)).1 n < mu p.1 n
    rcases b3 h with q | q
    · rcases a3 q with q | q
      · exact .inl q
      · exact .inr (by omega)
    · exact .inr (by omega)
theorem zAD {p : (Nat → BitVec 16) × Bool} {k : Nat} (h : (oneS A R W k p).2 = false) : oneS A R W k p = p ∧ (sec A k = false → Fv A R W p.1 k = p.1 k) := by
  unfold oneS at h ⊢
  split
  · rename_i hs; exact ⟨rfl, fun c => by rw [hs] at c; cases c⟩
  · rename_i hs
    split
    · rename_i e; exact ⟨rfl, fun _ => e⟩
    · rename_i e
      rw [if_neg hs, if_neg e] at h
      cases h
theorem zyZ : ∀ {s} {p : (Nat → BitVec 16) × Bool}, (rnd A R W s p).2 = false → rnd A R W s p = p ∧ ∀ k, k < s → sec A k = false → Fv A R W p.1 k = p.1 k
  | 0, p, _ => ⟨rfl, fun k hk => by omega⟩
  | s + 1, p, h => by
    obtain ⟨a1, a2⟩ := zyZ (s := s) (p := oneS A R W s p) h
    have h2 : (oneS A R W s p).2 = false := by rw [← a1]; exact h
    obtain ⟨b1, b2⟩ := zAD h2
    rw [b1] at a1 a2
    refine ⟨by show rnd A R W s (oneS A R W s p) = p; rw [b1, a1], fun k hk hs => ?_⟩
    by_cases e : k = s
    · subst e; exact b2 hs
    · exact a2 k (by omega) hs
variable {X : Nat → Nat × (Nat → Int)}
theorem zz9 {α : Type} (f : Nat → α) (k : Nat) : updF f k (f k) = f := by
  funext j
  unfold updF
  split
  · rename_i e; rw [e]
  · rfl
theorem zCp (h : Fine n A N P) (hX : Rows n A R W X) {lv : Nat → BitVec 16} (hI : Inv n A R W lv) {k : Nat} (hk : k < n) (ch : Bool) : ∃ u c, zgM (k : Int) n R W lv X = some (.e0 u c) ∧ oneS A R W k (lv, ch) = (u, c || ch) := by
  unfold zgM oneS
  rw [ct (zt hk), hX.behind h hk, Option.bind_some]
  simp only [zv, Int.toNat_natCast]
  cases hs : sec A k
  · rw [if_neg (by simp), if_neg (by simp)]
    have hle := hI k hk hs
    have e : lv k ||| (R k ||| bh A lv k &&& ~~~W k) = Fv A R W lv k := hle.or_eq
    rw [e]
    refine ⟨_, _, rfl, ?_⟩
    rw [zcM]
    by_cases c : Fv A R W lv k = lv k
    · rw [if_pos c, c, zz9]
      simp
    · have : (Fv A R W lv k == lv k) = false := by simpa using c
      rw [if_neg c, this]
      rfl
  · obtain ⟨h1, h2, _⟩ := hX.second k hk hs
    rw [if_pos rfl, if_pos rfl, h1, h2]
    have e : lv k ||| (0#16 ||| 0#16 &&& ~~~0#16) = lv k := by simp
    rw [e, zz9]
    exact ⟨_, _, rfl, by simp⟩
theorem zxX (h : Fine n A N P) (hX : Rows n A R W X) : ∀ s, s ≤ n → ∀ lv ch, Inv n A R W lv → lpO (zdG n R W X) (.c0 lv ch ((s : Int) - 1)) = some (.e0 (rnd A R W s (lv, ch)).1 (rnd A R W s (lv, ch)).2)
  | 0, _, lv, ch, _ => zfz (by
    unfold zdG
    simp only
    rw [cf (d_f (by omega))]
    rfl)
  | s + 1, hs, lv, ch, hI => by
    have hm := h.most
    obtain ⟨u, c, h1, h2⟩ := zCp h hX hI (show s < n by omega) ch
    have hI2 := (zAI (p := (lv, ch)) hI (show s < n by omega)).1
    rw [h2] at hI2
    have ih := zxX h hX s (by omega) u (c || ch) hI2
    have e0 : ((s + 1 : Nat) : Int) - 1 = (s : Int) := by omega
    have e1 : IntKind.i64.wrap ((s : Int) - 1) = (s : Int) - 1 := by rw [wr] <;> omega
    show _ = some (zdj.e0 (rnd A R W s (oneS A R W s (lv, ch))).1 (rnd A R W s (oneS A R W s (lv, ch))).2)
    rw [h2, ← ih]
    refine zdd ?_
    unfold zdG
    simp only
    rw [e0, ct (d_t (by omega)), h1, Option.bind_some, e1]
    cases c <;> rfl
theorem zCc (h : Fine n A N P) (hX : Rows n A R W X) {g : Nat → Bool} (hg : ∀ k, k < n → g k = sec A k) : ∀ s, s ≤ n → ∀ lv ch, lpO (zbr n A g) (.c0 lv ch ((s : Int) - 1)) = some (.e0 (rnd A R W s (lv, ch)).1 (rnd A R W s (lv, ch)).2 (-1) (-1))
  | 0, _, lv, ch => zfz (by
    unfold zbr
    simp only
    rw [cf (d_f (by omega))]
    rfl)
  | s + 1, hs, lv, ch => by
    have hm := h.most
    have e0 : ((s + 1 : Nat) : Int) - 1 = (s : Int) := by omega
    have e1 : IntKind.i64.wrap ((s : Int) - 1) = (s : Int) - 1 := by rw [wr] <;> omega
    have ih := zCc h hX hg s (by omega) (oneS A R W s (lv, ch)).1 (oneS A R W s (lv, ch)).2
    show _ = some (z5.e0 (rnd A R W s (oneS A R W s (lv, ch))).1 (rnd A R W s (oneS A R W s (lv, ch))).2 (-1) (-1))
    have e2 : ((oneS A R W s (lv, ch)).1, (oneS A R W s (lv, ch)).2) = oneS A R W s (lv, ch) := rfl
    rw [e2] at ih
    rw [← ih]
    refine zdd ?_
    unfold zbr
    simp only [Int.toNat_natCast]
    rw [e0, ct (d_t (by omega)), ct (zt (by omega)), Int.toNat_natCast, hg s (by omega), e1]
    unfold oneS
    cases hsc : sec A s
    · obtain ⟨b, hr⟩ := hX.reads s (by omega) hsc
      obtain ⟨d, hw⟩ := hX.writes s (by omega) hsc
      rw [zz3] at hr
      rw [zx2] at hw
      rw [cf rfl, ct (zt (by omega)), hr, Option.bind_some, hw, Option.bind_some, zw4 h (by omega) hsc, Option.bind_some, if_neg (by simp)]
      show (bif Fv A R W lv s == lv s then _ else some (Sum.inl (z3.c0 (updF lv s (Fv A R W lv s)) true _))) = _
      by_cases c : Fv A R W lv s = lv s
      · rw [if_pos c, ct (by rw [c]; simp)]
      · rw [if_neg c, cf (by simpa using c)]
    · rw [ct rfl, if_pos rfl]
/-- The rounds go side by side. -/
theorem rounds (h : Fine n A N P) (hX : Rows n A R W X) {g : Nat → Bool} (hg : ∀ k, k < n → g k = sec A k) : ∀ m lv, mu lv n < m → Inv n A R W lv → ∃ v, lpO (zeU n R W X) (.c0 lv) = some (.e0 v) ∧ lpO (zbo n A g) (.c0 lv true) = some (.e0 v) ∧ ∀ k, k < n → sec A k = false → Fv A R W v k = v k
  | 0, lv, hm, _ => by omega
  | m + 1, lv, hm, hI => by
    have hn := h.most
    have e1 : IntKind.i64.wrap ((n : Int) - 1) = (n : Int) - 1 := by rw [wr] <;> omega
    have c1 := zxX h hX n (Nat.le_refl _) lv false hI
    have c2 := zCc h hX hg n (Nat.le_refl _) lv false
    obtain ⟨i1, i2, i3⟩ := zBi (Nat.le_refl n) (p := (lv, false)) hI
    have hk := fun q => zyZ (A := A) (R := R) (W := W) (s := n) (p := (lv, false)) q
    generalize rnd A R W n (lv, false) = p at c1 c2 i1 i2 i3 hk
    obtain ⟨u, c⟩ := p
    have s1 : zeU n R W X (.c0 lv) = bif c then some (.inl (.c0 u)) else some (.inr (.e0 u)) := by
      unfold zeU zkx
      simp only
      rw [e1, c1]
      rfl
    have s2 : lpO (zbo n A g) (.c0 lv true) = lpO (zbo n A g) (.c0 u c) := zdd (by
      unfold zbo
      simp only
      rw [ct rfl, e1, c2]
      rfl)
    rw [s2]
    cases c
    · obtain ⟨k1, k2⟩ := hk rfl
      have hu : u = lv := congrArg Prod.fst k1
      subst hu
      refine ⟨u, zfz (by rw [s1]; rfl), zfz (by
        unfold zbo
        simp only
        rw [cf rfl]), k2⟩
    · have hlt : mu u n < mu lv n := by
        rcases i3 rfl with q | q
        · cases q
        · exact q
      obtain ⟨v, v1, v2, v3⟩ := rounds h hX hg m u (by omega) i1
      exact ⟨v, by rw [zdd (s' := .c0 u) (by rw [s1]; rfl)]; exact v1, v2, v3⟩
end
end Go.Proofs.Ytliijnpblddjfaa

