/-
  Regions that draw their order (3): each operation's step, and all of them. Nothing of the program stands here.
-/
import Derived.Test.YtoapdkcokemieaaGreatEuU
namespace Go.Proofs.YtoapdkcokemieaaGreat.Ev
open Go.RowKit
noncomputable section
set_option linter.unusedVariables false
set_option linter.unusedSimpArgs false
set_option linter.unusedSectionVars false
variable [Fs] [En] [FsOk]
set_option linter.unusedSectionVars false
section
variable {P : Program} {ops : Array Oper} {T0 : Tr PV} {D : DL} {n0 : Nat} {cl : Nat → Nat → Prop} {val : Nat → PV} {kd : Nat → K} {E : Nat → Tr PV} {want : Nat → Bool} {core : List Nat} {hs : Nat → Hp} {ab : Nat → Nat → Prop} {vp : PV} {Hp' : Hp} {N : Nat} {F : Fr}
variable (dr : Dr P ops T0 n0 cl val kd E want core hs ab vp Hp') (hN : ∀ i d, dstOf ops i = some d → d < N)
include dr
theorem Inv.part {L : Nat → Prop} {J : Nat} {b : Bm} {a : Act} {w : World} (iv : Inv P ops T0 D n0 cl val kd core hs ab N F L J b a w) {i : Nat} (hb : ∀ j, cl i j → L j) {A : Hp} (hn : A.n = (hs J).n) (hA : ∀ idx, A.t.at idx = HL kd hs ab n0 (cl i) J idx) : HR F b A w := by
  refine HRf.of ?_
  rw [hn]
  exact iv.heap.sub (fun k o hk => by rw [hA] at hk; exact dr.sub iv.jl hb hk)
/-- Those that stand beside operation i. -/
def aside (kd : Nat → K) (ab : Nat → Nat → Prop) (cl : Nat → Nat → Prop) (n0 : Nat) (L : Nat → Prop) (J i : Nat) (idx : Nat) : Prop := n0 ≤ idx ∧ L (idx - n0) ∧ ¬ ab J (idx - n0) ∧ isM (kd (idx - n0)) ∧ ¬ cl i (idx - n0)
theorem Inv.aside {L : Nat → Prop} {J : Nat} {b : Bm} {a : Act} {w : World} (iv : Inv P ops T0 D n0 cl val kd core hs ab N F L J b a w) {i : Nat} (hb : ∀ j, cl i j → L j) {A : Hp} (hn : A.n = (hs J).n) (hA : ∀ idx, A.t.at idx = HL kd hs ab n0 (cl i) J idx) :
    HR ⟨fun k => F.f k ∨ side b (Ev.aside kd ab cl n0 L J i) k, (hs J).n, b⟩ b A w ∧ ∀ idx, Ev.aside kd ab cl n0 L J i idx → idx < (hs J).n ∧ ∃ o, HL kd hs ab n0 L J idx = some o := by
  have hX : ∀ idx, Ev.aside kd ab cl n0 L J i idx → ∃ o, HL kd hs ab n0 L J idx = some o := by
    rintro idx ⟨h1, h2, h3, h4, h5⟩
    obtain ⟨ob, hob⟩ := isM_m h4
    exact ⟨ob, HL_some h1 h2 h3 hob⟩
  refine ⟨?_, ?_⟩
  · refine HRf.of ?_
    rw [hn]
    refine iv.heap.aside _ (Nat.le_refl _) (fun _ _ => rfl) hX ?_
    intro k o hk
    rw [hA] at hk
    refine ⟨dr.sub iv.jl hb hk, ?_⟩
    rintro ⟨h1, h2, h3, h4, h5⟩
    rcases HL_cases hk with ⟨_, h6, _⟩ | ⟨h6, _⟩
    · exact h5 h6
    · have := dr.a3 J (k - n0) iv.jl h4 h3
      rw [show n0 + (k - n0) = k from by omega, h6] at this
      cases this
  · intro idx hidx
    refine ⟨?_, hX idx hidx⟩
    have h1 := iv.rm (idx - n0) (iv.lt _ hidx.2.1)
    have := hidx.1
    omega
theorem Inv.window {L : Nat → Prop} {J : Nat} {b : Bm} {a : Act} {w : World} (iv : Inv P ops T0 D n0 cl val kd core hs ab N F L J b a w) {i : Nat} (hL : ¬ L i) (hb : ∀ j, cl i j → L j) :
    (∀ k c, core[k]? = some c → cl i c → k < J) ∧ (∀ k c, core[k]? = some c → cl c i → J ≤ k) := by
  refine ⟨fun k c hk hc => (iv.jc k c hk).1 (hb c hc), fun k c hk hc => ?_⟩
  by_cases h : k < J
  · exact absurd (iv.cls c ((iv.jc k c hk).2 h) i hc) hL
  · omega
include hN
/-- An operation that may come up. -/
theorem Inv.step {L : Nat → Prop} {J : Nat} {b : Bm} {a : Act} {w : World} (iv : Inv P ops T0 D n0 cl val kd core hs ab N F L J b a w) {i : Nat} {o : Oper} (ho : ops[i]? = some o) (hL : ¬ L i) (hb : ∀ j, cl i j → L j) {K : Act → World → Prop} {Q : Exit → Act → World → Prop}
    (hnext : ∀ J' b' a' w', b.le b' → Keep F w w' → Inv P ops T0 D n0 cl val kd core hs ab N F (fun k => L k ∨ k = i) J' b' a' w' → K a' w')
    (hpan : ∀ b' v' w', kd i = .p → b.le b' → Keep F w w' → V b' vp v' → HR F b' Hp' w' → Q (.panic [{ v := v', recovered := false }]) a w') : wpOp P ops Q i K a w := by
  have hi : i < ops.size := (Array.getElem?_eq_some_iff.1 ho).1
  have hx : kd i ≠ .x := by
    intro hk
    obtain ⟨p, h1, h2⟩ := dr.c9 i hi hk
    exact (iv.nop p (hb p h2)).1 h1
  have henv := iv.env dr hi hL hx hb
  have hwant := evWant_ok (dr.c4 i o ho hx) henv
  have hjq : (∀ j, kd i ≠ .c j) → ∀ k c, core[k]? = some c → ((L c ∨ c = i) ↔ k < J) := by
    intro hq k c hk
    rw [← iv.jc k c hk]
    constructor
    · rintro (h | rfl)
      · exact h
      · exact absurd (dr.c7' k c hk).1 (hq k)
    · exact .inl
  unfold wpOp
  simp only [ho]
  cases hwi : want i with
  | false =>
    obtain ⟨hk, hval⟩ := dr.c4' i hi hx hwi
    rw [hwi] at hwant
    simp only [hwant, Bool.false_eq_true, if_false]
    refine hnext J b _ w b.le_rfl (.rfl' F w) ?_
    refine iv.next dr hN ho hL hb ⟨by rw [hk]; simp, by rw [hk]; simp⟩ b.le_rfl (by rw [hval]; exact undef_V b) (hjq (fun j => by rw [hk]; simp)) iv.jl ?_ (fun k hk1 hk2 => iv.res k hk1 (fun e => hk2 (.inl e))) iv.rm
    rw [HL_q (by rw [hk]; exact id)]; exact iv.heap
  | true =>
    rw [hwi] at hwant
    simp only [hwant, if_true]
    left
    cases hk : kd i with
    | q =>
      obtain ⟨hw1, hw2⟩ := iv.window dr hL hb
      obtain ⟨A, hn, hA, hQ⟩ := dr.c5 i o ho hk hwi J iv.jl hw1 hw2
      have hr := iv.part dr hb hn hA
      obtain ⟨v', h1, h2⟩ := hQ F b a w henv hr
      refine upon_of h1 (.inl rfl) (hnext J b _ w b.le_rfl (.rfl' F w) ?_)
      refine iv.next dr hN ho hL hb ⟨by rw [hk]; simp, by rw [hk]; simp⟩ b.le_rfl h2 (hjq (fun j => by rw [hk]; simp)) iv.jl ?_ (fun k hk1 hk2 => iv.res k hk1 (fun e => hk2 (.inl e))) iv.rm
      rw [HL_q (by rw [hk]; exact id)]; exact iv.heap
    | m ob =>
      have hM := dr.c6 i o ob ho hk
      -- all that is there stands beside
      have hr0 : HR ⟨fun k => F.f k ∨ side b (fun idx => ∃ o, HL kd hs ab n0 L J idx = some o) k, F.n0, F.b0⟩ b ⟨.lf, (hs J).n⟩ w := by
        refine HRf.of ?_
        refine iv.heap.aside _ iv.heap.low iv.heap.ag (fun _ h => h) ?_
        intro k o hk; rw [Tr.at_lf] at hk; cases hk
      have hnone : b (n0 + i) = none := iv.res i (by rw [hk]; trivial) hL
      refine hM _ _ b a w _ Q henv hr0 (Nat.le_trans iv.low (Nat.le_add_right _ _)) (iv.rm i hi) hnone ?_
      intro b' v' w' hle hne hv hr' hkp
      refine hnext J b' _ w' hle hkp.less ?_
      have hXm : ∀ o, HL kd hs ab n0 L J (n0 + i) ≠ some o := by
        intro o ho2
        obtain ⟨x, ob2, h1, _⟩ := iv.heap.live _ _ ho2
        rw [hnone] at h1; cases h1
      refine iv.next dr hN ho hL hb ⟨by rw [hk]; simp, by rw [hk]; simp⟩ hle hv (hjq (fun j => by rw [hk]; simp)) iv.jl ?_ ?_ iv.rm
      · refine iv.heap.back (X := fun idx => ∃ o, HL kd hs ab n0 L J idx = some o) ?_ ?_ (Nat.le_refl _) hr'.toF hle hkp ?_
        · rintro idx ⟨o, ho2⟩
          refine ⟨hne idx (fun e => ?_), o, ho2⟩
          subst e; exact hXm o ho2
        · intro k hk2; exact hne k (by have := iv.low; omega)
        · intro idx o ho2
          by_cases hidx : ∃ o, HL kd hs ab n0 L J idx = some o
          · refine .inl ⟨hidx, ?_⟩
            obtain ⟨o3, ho3⟩ := hidx
            have := HL_mono (Y := fun k => L k ∨ k = i) (fun k hk => .inl hk) ho3 (fun k hk _ _ hab => dr.a3 J k iv.jl hk hab)
            rw [ho2] at this; simp at this; subst this; exact ho3
          · refine .inr ⟨hidx, ?_⟩
            rcases HL_cases ho2 with ⟨h1, h2, h3, h4⟩ | ⟨h1, h2⟩
            · rcases h2 with h2 | h2
              · exact absurd ⟨o, HL_some h1 h2 h3 h4⟩ hidx
              · rw [h2, hk] at h4
                simp at h4; subst h4
                rw [Tr.at_put, if_pos (by omega)]
            · exfalso
              apply hidx
              by_cases hL2 : n0 ≤ idx ∧ L (idx - n0) ∧ ¬ ab J (idx - n0)
              · by_cases hm : isM (kd (idx - n0))
                · exact absurd ⟨hL2.1, .inl hL2.2.1, hL2.2.2, hm⟩ h2
                · refine ⟨o, ?_⟩
                  unfold HL
                  rw [if_pos hL2]
                  cases hkk : kd (idx - n0) with
                  | m ob => rw [hkk] at hm; exact absurd trivial hm
                  | _ => exact h1
              · exact ⟨o, by unfold HL; rw [if_neg hL2]; exact h1⟩
      · intro k hk1 hk2
        rw [hne (n0 + k) (fun e => hk2 (.inr (by omega)))]
        exact iv.res k hk1 (fun e => hk2 (.inl e))
    | c j =>
      obtain ⟨hcj, A, hn, hA, hV⟩ := dr.c7 i o j ho hk
      have hjJ : j = J := by
        have h1 : ¬ j < J := fun h => hL ((iv.jc j i hcj).2 h)
        cases j with
        | zero => omega
        | succ j =>
          have hjl : j < core.length := by have := (List.getElem?_eq_some_iff.1 hcj).1; omega
          obtain ⟨c, hc⟩ : ∃ c, core[j]? = some c := ⟨core[j], List.getElem?_eq_getElem hjl⟩
          have h2 := (iv.jc j c hc).1 (hb c (dr.c7'' j c i hc hcj))
          omega
      subst hjJ
      have hjl : j < core.length := (List.getElem?_eq_some_iff.1 hcj).1
      obtain ⟨hr, hX⟩ := iv.aside dr hb hn hA
      refine hV _ b a w _ Q henv hr ?_
      intro b' v' w' hle hv hr' hkp
      refine hnext (j + 1) b' _ w' hle hkp.less ?_
      have hag : ∀ k, k < (hs j).n → b' k = b k := fun k hk2 => hr'.ag k hk2
      have hlow : (hs j).n ≤ (hs (j + 1)).n := hr'.low
      refine iv.next dr hN ho hL hb ⟨by rw [hk]; simp, by rw [hk]; simp⟩ hle hv ?_ hjl ?_ ?_ (fun k hk2 => Nat.lt_of_lt_of_le (iv.rm k hk2) hlow)
      · intro k c hkc
        constructor
        · rintro (h | rfl)
          · have := (iv.jc k c hkc).1 h; omega
          · have := (dr.c7' k c hkc).1
            rw [hk] at this
            injection this with this
            omega
        · intro h
          by_cases hkj : k < j
          · exact .inl ((iv.jc k c hkc).2 hkj)
          · have : k = j := by omega
            subst this
            rw [hcj] at hkc; simp at hkc
            exact .inr hkc.symm
      · refine iv.heap.back (X := Ev.aside kd ab cl n0 L j i) (fun idx hidx => ⟨hag idx (hX idx hidx).1, (hX idx hidx).2⟩) (fun k hk2 => hag k (Nat.lt_of_lt_of_le hk2 iv.heap.low)) hlow hr'.toF hle hkp ?_
        intro idx o2 ho2
        rcases HL_cases ho2 with ⟨h1, h2, h3, h4⟩ | ⟨h1, h2⟩
        · have hm : isM (kd (idx - n0)) := by rw [h4]; trivial
          have hab := dr.a1 j i (idx - n0) hcj hm
          have h5 : ¬ ab j (idx - n0) ∧ ¬ cl i (idx - n0) := ⟨fun e => h3 (hab.2 (.inl e)), fun e => h3 (hab.2 (.inr e))⟩
          have hLk : L (idx - n0) := by
            rcases h2 with h2 | h2
            · exact h2
            · rw [h2, hk] at h4; cases h4
          exact .inl ⟨⟨h1, hLk, h5.1, hm, h5.2⟩, HL_some h1 hLk h5.1 h4⟩
        · refine .inr ⟨?_, h1⟩
          rintro ⟨h3, h4, h5, h6, h7⟩
          apply h2
          refine ⟨h3, .inl h4, ?_, h6⟩
          intro hab
          rcases (dr.a1 j i (idx - n0) hcj h6).1 hab with h8 | h8
          · exact h5 h8
          · exact h7 h8
      · intro k hk1 hk2
        have hk3 : k < ops.size := by
          by_cases hlt : k < ops.size
          · exact hlt
          · have := dr.a2 k (by omega)
            rw [this] at hk1; exact hk1.elim
        rw [hag (n0 + k) (iv.rm k hk3)]
        exact iv.res k hk1 (fun e => hk2 (.inl e))
    | p =>
      obtain ⟨hlast, A, hn, hA, hP⟩ := dr.c8 i o ho hk
      have hJ : J = core.length := by
        have := iv.jl
        by_cases h0 : core.length = 0
        · omega
        · have hjl : core.length - 1 < core.length := by omega
          have hc : core[core.length - 1]? = some core[core.length - 1] := List.getElem?_eq_getElem hjl
          have := (iv.jc _ _ hc).1 (hb _ (hlast _ _ hc (by omega)))
          omega
      rw [← hJ] at hn hA
      obtain ⟨hr, hX⟩ := iv.aside dr hb hn hA
      refine hP _ b a w _ Q henv hr ?_
      intro b' v' w' hle hv hr' hkp
      have hag : ∀ k, k < (hs J).n → b' k = b k := fun k hk2 => hr'.ag k hk2
      have hlow : (hs J).n ≤ Hp'.n := hr'.low
      exact hpan b' v' w' hk hle hkp.less hv (HRf.of (iv.heap.drop (fun k hk2 => hag k (Nat.lt_of_lt_of_le hk2 iv.heap.low)) hlow hr'.toF hkp))
    | x => exact absurd hk hx
/-! ### Whatever order -/
def left (n : Nat) (listed : Array Bool) : Nat := ((List.range n).filter fun i => !listed.getD i true).length
omit dr hN in
theorem left_set {n : Nat} {listed : Array Bool} {i : Nat} (hi : i < n) (hs : i < listed.size) (h : listed.getD i true = false) : left n (listed.setIfInBounds i true) + 1 = left n listed := by
  unfold left
  have key : ∀ (l : List Nat), l.Nodup → (if i ∈ l then (l.filter fun k => !(listed.setIfInBounds i true).getD k true).length + 1 else (l.filter fun k => !(listed.setIfInBounds i true).getD k true).length) = (l.filter fun k => !listed.getD k true).length := by
    intro l hl
    induction l with
    | nil => simp
    | cons k l ih =>
      have hk := List.nodup_cons.1 hl
      have ih := ih hk.2
      by_cases hki : k = i
      · subst hki
        have h1 : (listed.setIfInBounds k true).getD k true = true := by simp
        rw [if_neg hk.1] at ih
        rw [if_pos (by simp), List.filter_cons, List.filter_cons]
        simp only [h1, h, Bool.not_true, Bool.not_false, Bool.false_eq_true, if_false, if_true, List.length_cons, ih]
      · have h1 : (listed.setIfInBounds i true).getD k true = listed.getD k true := getD_set_ne true (fun e => hki e.symm)
        have hmem : (i ∈ k :: l) ↔ i ∈ l := by
          constructor
          · intro h; rcases List.mem_cons.1 h with h | h
            · exact absurd h.symm hki
            · exact h
          · exact List.mem_cons_of_mem k
        rw [List.filter_cons, List.filter_cons, h1]
        by_cases him : i ∈ l
        · rw [if_pos (hmem.2 him)]; rw [if_pos him] at ih
          split <;> (try simp only [List.length_cons]) <;> omega
        · rw [if_neg (fun e => him (hmem.1 e))]; rw [if_neg him] at ih
          split <;> (try simp only [List.length_cons]) <;> omega
  have := key (List.range n) List.nodup_range
  rw [if_pos (List.mem_range.2 hi)] at this
  exact this
theorem Dr.any (hm : P.follows .mixedOrders = true) {Q : Exit → Act → World → Prop} {w0 : World} {b0 : Bm}
    (hend : ∀ L J b a w, (∀ i, i < ops.size → L i) → b0.le b → Keep F w0 w → Inv P ops T0 D n0 cl val kd core hs ab N F L J b a w → Q .normal a w)
    (hpan : ∀ L J b a w i, kd i = .p → b0.le b → Keep F w0 w → Inv P ops T0 D n0 cl val kd core hs ab N F L J b a w → ∀ b' v' w', b.le b' → Keep F w w' → V b' vp v' → HR F b' Hp' w' → Q (.panic [{ v := v', recovered := false }]) a w') :
    ∀ (fuel : Nat) (listed : Array Bool) (J : Nat) (b : Bm) (a : Act) (w : World), listed.size = ops.size → left ops.size listed ≤ fuel → b0.le b → Keep F w0 w → Inv P ops T0 D n0 cl val kd core hs ab N F (fun i => listed.getD i false = true) J b a w → wpAny P .any ops Q fuel listed a w := by
  have hfin : ∀ (listed : Array Bool) (J : Nat) (b : Bm) (a : Act) (w : World), listed.size = ops.size → b0.le b → Keep F w0 w → Inv P ops T0 D n0 cl val kd core hs ab N F (fun i => listed.getD i false = true) J b a w → Region.ready .any ops listed = [] → Q .normal a w := by
    intro listed J b a w hsz hle hk iv hre
    refine hend _ J b a w ?_ hle hk iv
    intro i
    induction i using Nat.strongRecOn with
    | _ i ih =>
      intro hi
      cases hli : listed.getD i false with
      | true => rfl
      | false =>
        exfalso
        have hmem : i ∈ Region.ready .any ops listed := by
          rw [mem_ready]
          have hlt : i < listed.size := by omega
          refine ⟨?_, ops[i], Array.getElem?_eq_getElem hi, ?_⟩
          · simpa [hlt] using hli
          · intro e he hb
            have := dr.c10 i _ e (Array.getElem?_eq_getElem hi) he hb
            exact ih e.on this (by omega)
        rw [hre] at hmem; cases hmem
  intro fuel
  induction fuel with
  | zero =>
    intro listed J b a w hsz hl hle hk iv
    have hre : Region.ready .any ops listed = [] := by
      cases hr : Region.ready .any ops listed with
      | nil => rfl
      | cons i rs =>
        exfalso
        have hmem : i ∈ Region.ready .any ops listed := by rw [hr]; simp
        obtain ⟨h1, o, ho, _⟩ := mem_ready.1 hmem
        have hi : i < ops.size := (Array.getElem?_eq_some_iff.1 ho).1
        have := left_set hi (by omega) h1
        omega
    exact ⟨hre, hfin listed J b a w hsz hle hk iv hre⟩
  | succ fuel ih =>
    intro listed J b a w hsz hl hle hk iv
    refine ⟨hfin listed J b a w hsz hle hk iv, ?_⟩
    intro i hi
    obtain ⟨h1, o, ho, hall⟩ := mem_ready.1 hi
    have hi' : i < ops.size := (Array.getElem?_eq_some_iff.1 ho).1
    have hnl : ¬ (listed.getD i false = true) := by
      have hlt : i < listed.size := by omega
      simp [hlt] at h1 ⊢; exact h1
    have hb : ∀ j, cl i j → listed.getD j false = true := dr.before iv.cls ho hall
    refine iv.step dr hN ho hnl hb ?_ ?_
    · intro J' b' a' w' hle' hk' iv'
      refine ih (listed.setIfInBounds i true) J' b' a' w' (by simpa using hsz) ?_ (hle.trans hle') (hk.trans hk') ?_
      · have := left_set hi' (by omega) h1; omega
      · have : (fun k => (listed.setIfInBounds i true).getD k false = true) = fun k => listed.getD k false = true ∨ k = i := by
          funext k
          by_cases hki : i = k
          · subst hki
            have hlt : i < listed.size := by omega
            simp [hlt]
          · rw [getD_set_ne false hki]
            exact propext ⟨.inl, fun h => h.resolve_right (fun e => hki e.symm)⟩
        rw [this]; exact iv'
    · intro b' v' w' hkp hle' hk' hv hr
      exact hpan _ J b a w i hkp hle hk iv b' v' w' hle' hk' hv hr
end
end
end Go.Proofs.YtoapdkcokemieaaGreat.Ev
