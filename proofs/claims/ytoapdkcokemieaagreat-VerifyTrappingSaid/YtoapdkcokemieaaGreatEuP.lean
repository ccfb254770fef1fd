/-
  The reckoning is right (2): an operation; the operations of a region. Nothing of the program stands here.
-/
import Derived.Test.YtoapdkcokemieaaGreatEuO
namespace Go.Proofs.YtoapdkcokemieaaGreat.Ev
open Go.RowKit
noncomputable section
set_option linter.unusedVariables false
set_option linter.unusedSimpArgs false
set_option linter.unusedSectionVars false
variable [Fs] [En] [FsOk]
section
variable {α : Type} {P : Program}
/-- A call comes back with v; memory is then as H' says. -/
def FunRet (P : Program) (f : FuncId) (args : List PV) (H : Hp) (v : PV) (H' : Hp) : Prop := ∀ (F : Fr) (b : Bm) (w : World) (l : List Value), VL b args l → HR F b H w →
  ∀ (R : Ending → World → Prop), (∀ b' v' w', b.le b' → V b' v v' → HR F b' H' w' → Keep F w w' → R (.returned v') w') → Calls P f ⟨l⟩ w R
def FunPan (P : Program) (f : FuncId) (args : List PV) (H : Hp) (v : PV) (H' : Hp) : Prop := ∀ (F : Fr) (b : Bm) (w : World) (l : List Value), VL b args l → HR F b H w →
  ∀ (R : Ending → World → Prop), (∀ b' v' w', b.le b' → V b' v v' → HR F b' H' w' → Keep F w w' → R (.panicked [{ v := v', recovered := false }]) w') → Calls P f ⟨l⟩ w R
/-- Each call that is told is so. -/
class HkOk [Hk] (P : Program) : Prop where
  ok : ∀ t, t ∈ Hk.l → FunRet P t.f t.args ⟨putO t.q, t.m⟩ t.v ⟨putO (t.q ++ t.r), t.m + t.n⟩
theorem tell_ok {t : Told} (ht : FunRet P t.f t.args ⟨putO t.q, t.m⟩ t.v ⟨putO (t.q ++ t.r), t.m + t.n⟩) {args : List PV} {H H' : Hp} {olds : List Nat} (ha : matchT t args H = some olds) {v : PV} (h : tell t olds H = some (v, H')) : FunRet P t.f args H v H' := by
  obtain ⟨nd, hlt, hlen, hargs, hq⟩ := matchT_ok ha
  obtain ⟨hql, hqs⟩ := chkQs_ok hq
  have hqm : t.q.length = t.m := by have := hql (by omega); omega
  have hqids : ∀ j, j < t.m → ∃ i c n T sz g d, olds[j]? = some i ∧ H.t.at i = some (.row c n T sz g) ∧ (putO t.q).at j = some (.row (Tr.fill .lf 0 d) n T sz g) ∧ d.length = n ∧ c.run 0 n = some d ∧ ∀ v, v ∈ d → renG (fun _ => none) 8 v = some v := fun j hj => hqs j (by omega) (by omega)
  have hqmem : ∀ j, j < t.m → j ∈ t.q.map (·.1) := by
    intro j hj
    obtain ⟨i, c, n, T, sz, g, d, _, _, h3, _⟩ := hqids j hj
    exact putO_mem h3
  have hqnot : ∀ j o, (putO t.q).at j = some o → j < t.m := by
    intro j o hj
    have : ∀ (l : List (Nat × AO)) (k : Nat), chkQs olds H.t k l = true → ∀ x, x ∈ l → x.1 < k + l.length := by
      intro l
      induction l with
      | nil => intro k _ x hx; cases hx
      | cons r l ih =>
        intro k hk x hx
        unfold chkQs at hk
        split at hk
        · split at hk
          · split at hk
            · split at hk
              · simp only [Bool.and_eq_true] at hk
                have h1 := Nat.eq_of_beq_eq_true hk.1.1.1.1.1.1
                rcases List.mem_cons.1 hx with rfl | hx
                · simp only [List.length_cons]; omega
                · have := ih _ hk.2 x hx
                  simp only [List.length_cons]; omega
              · cases hk
            · cases hk
          · cases hk
        · cases hk
    have hm := putO_mem hj
    obtain ⟨x, hx, rfl⟩ := List.mem_map.1 hm
    have := this t.q 0 hq x hx
    omega
  unfold tell at h
  split at h
  · rename_i v1 hv1
    split at h
    · rename_i tr htr
      simp at h
      obtain ⟨rfl, rfl⟩ := h
      intro F b w l hl hr R hR
      let b0 : Bm := fun j => match olds[j]? with
        | some i => b i
        | none => none
      have hb0 : ∀ j i, olds[j]? = some i → b0 j = b i := by
        intro j i hj
        show (match olds[j]? with
          | some i => b i
          | none => none) = b i
        rw [hj]
      have hb0n : ∀ j, t.m ≤ j → b0 j = none := by
        intro j hj
        show (match olds[j]? with
          | some i => b i
          | none => none) = none
        rw [List.getElem?_eq_none (by omega)]
      let F' : Fr := ⟨fun k => k < w.heap.size ∧ ¬ ∃ j x, b0 j = some x ∧ x.n = k, t.m, b0⟩
      have hqlive : ∀ j, j < t.m → ∃ x ob, b0 j = some x ∧ w.heap[x.n]? = some ob ∧ ∃ i, olds[j]? = some i ∧ b i = some x ∧ ∃ p, H.t.at i = some p ∧ OR b x p ob := by
        intro j hj
        obtain ⟨i, c, n, T, sz, g, d, h1, h2, _⟩ := hqids j hj
        obtain ⟨x, ob, h3, h4, h5, h6⟩ := hr.live i _ h2
        exact ⟨x, ob, by rw [hb0 j i h1]; exact h3, h4, i, h1, h3, _, h2, h5⟩
      have hr0 : HR F' b0 ⟨putO t.q, t.m⟩ w := by
        refine ⟨fun k hk => hk.1, fun i hi => hb0n i hi, Nat.le_refl _, fun _ _ => rfl, ?_, ?_⟩
        · intro j o hj
          have hjm := hqnot j o hj
          obtain ⟨i, c, n, T, sz, g, d, h1, h2, h3, h4, h5, h6⟩ := hqids j hjm
          obtain ⟨x, ob, h7, h8, h9, h10⟩ := hr.live i _ h2
          have hj : (putO t.q).at j = some o := hj
          rw [h3] at hj
          simp only [Option.some.injEq] at hj; subst hj
          refine ⟨x, ob, by rw [hb0 j i h1]; exact h7, h8, ?_, fun hF => hF.2 ⟨j, x, by rw [hb0 j i h1]; exact h7, rfl⟩⟩
          obtain ⟨a, fz, e1, e2, e3, e4, e5⟩ := h9
          obtain ⟨r1, r2⟩ := Tr.run_spec h5
          refine ⟨a, fz, e1, e2, ?_, ?_, e5⟩
          · intro k hk
            rw [Tr.at_fill, if_neg (by omega), Tr.at_lf]
          · intro k v hk
            rw [Tr.at_fill] at hk
            split at hk
            · rename_i hb
              have h11 := r2 k (by omega)
              rw [show 0 + k = k from by omega] at h11
              rw [Nat.sub_zero] at hk
              rw [hk] at h11
              obtain ⟨v', h12, h13⟩ := e4 k v h11
              exact ⟨v', h12, renG_ok (fun i j h => by cases h) 8 _ _ _ (h6 v (List.mem_of_getElem? hk)) h13⟩
            · rw [Tr.at_lf] at hk; cases hk
        · intro i j o p x y hi hj hx hy hxy
          have hi := hqnot i o hi
          have hj := hqnot j p hj
          obtain ⟨i1, c, n, T, sz, g, d, h1, h2, _⟩ := hqids i hi
          obtain ⟨j1, c', n', T', sz', g', d', h3, h4, _⟩ := hqids j hj
          rw [hb0 i i1 h1] at hx
          rw [hb0 j j1 h3] at hy
          have := hr.inj i1 j1 _ _ x y h2 h4 hx hy hxy
          subst this
          exact nd i j _ h1 h3
      have hl0 : VL b0 t.args l := mapO_ren (renG_ok (σ := fun i => idxL i olds 0) (fun i j h => by
        obtain ⟨_, h2⟩ := idxL_ok h
        exact hb0 j i (by simpa using h2)) 8) _ _ _ hargs hl
      refine ht F' b0 w l hl0 hr0 R ?_
      intro b1 v' w' hle hv hr1 hk
      let c : Bm := fun i => if i < H.n then b i else b1 (t.m + (i - H.n))
      have hb1 : ∀ j, j < t.m → b1 j = b0 j := fun j hj => hr1.ag j hj
      have hlo : ∀ i, i < H.n → c i = b i := fun i hi => if_pos hi
      have hhi : ∀ j, c (H.n + j) = b1 (t.m + j) := by
        intro j
        show (if H.n + j < H.n then b (H.n + j) else b1 (t.m + (H.n + j - H.n))) = b1 (t.m + j)
        rw [if_neg (by omega), show H.n + j - H.n = j from by omega]
      have hs : ∀ i j, up olds t.m H.n i = some j → c j = b1 i := by
        intro i j hij
        unfold up at hij
        split at hij
        · rename_i hm
          rw [Nat.ble_eq] at hm
          simp at hij; subst hij
          rw [hhi, show t.m + (i - t.m) = i from by omega]
        · rename_i hm
          have hm : i < t.m := by
            apply Nat.lt_of_not_le
            intro hge
            have : Nat.ble t.m i = true := by rw [Nat.ble_eq]; exact hge
            rw [this] at hm; cases hm
          rw [hlo j (hlt j (List.mem_of_getElem? hij)), hb1 i hm, hb0 i j hij]
      have hbc : b.le c := by
        intro i x hi
        have : i < H.n := by
          apply Nat.lt_of_not_le
          intro hge
          rw [hr.nx i hge] at hi; cases hi
        rw [hlo i this]; exact hi
      have hold : ∀ i o, H.t.at i = some o → i < H.n := by
        intro i o hi
        obtain ⟨x, ob, h1, _⟩ := hr.live i o hi
        apply Nat.lt_of_not_le
        intro hge
        rw [hr.nx i hge] at h1; cases h1
      have hsame : ∀ k, k < w.heap.size → (¬ ∃ j x, b0 j = some x ∧ x.n = k) → w'.heap[k]? = w.heap[k]? := fun k hk1 hk2 => hk.block k ⟨hk1, hk2⟩
      have hFk : ∀ k, F.f k → F'.f k := by
        intro k hF
        refine ⟨hr.fo k hF, ?_⟩
        rintro ⟨j, x, hj, hx⟩
        by_cases hjm : j < t.m
        · obtain ⟨i, c0, n, T, sz, g, d, h1, h2, _⟩ := hqids j hjm
          obtain ⟨y, ob, h3, h4, h5, h6⟩ := hr.live i _ h2
          rw [hb0 j i h1, h3] at hj
          simp at hj; subst hj
          rw [hx] at h6; exact h6 hF
        · rw [hb0n j (by omega)] at hj; cases hj
      refine hR c v' w' hbc (renG_ok hs 8 _ _ _ hv1 hv) ?_ ⟨hk.os, hk.tape, hk.output, hk.size, fun k hF => hk.block k (hFk k hF)⟩
      have live1 : ∀ i o, (putO t.r).at i = some o → t.m ≤ i → (putO (t.q ++ t.r)).at i = some o := by
        intro i o hi hm
        rw [putO_app, if_neg]
        · exact hi
        · intro hmem
          obtain ⟨o2, ho2⟩ := putO_some hmem
          have := hqnot i o2 ho2
          omega
      have liveq : ∀ j, j < t.m → (putO (t.q ++ t.r)).at j = (putO t.q).at j := by
        intro j hj
        rw [putO_app, if_pos (hqmem j hj)]
      refine ⟨fun k hF => Nat.lt_of_lt_of_le (hr.fo k hF) hk.size, ?_, ?_, ?_, ?_, ?_⟩
      · intro i hi
        have hi : H.n + t.n ≤ i := hi
        have := hhi (i - H.n)
        rw [show H.n + (i - H.n) = i from by omega] at this
        rw [this]
        exact hr1.nx (t.m + (i - H.n)) (by show t.m + t.n ≤ t.m + (i - H.n); omega)
      · have := hr.low
        show F.n0 ≤ H.n + t.n
        omega
      · intro i hi
        have := hr.low
        rw [hlo i (by omega)]; exact hr.ag i hi
      · intro i o hi
        rcases addS_ok htr i o hi with h1 | ⟨o1, h1, h2, h3⟩
        · obtain ⟨x, ob, h4, h5, h6, h7⟩ := hr.live i o h1
          by_cases hx : ∃ j y, b0 j = some y ∧ y.n = x.n
          · obtain ⟨j, y, hj, hyx⟩ := hx
            have hjm : j < t.m := by
              apply Nat.lt_of_not_le
              intro hge
              rw [hb0n j hge] at hj; cases hj
            obtain ⟨i2, c2, n, T, sz, g, d, e1, e2, e3, e4, e5, e6⟩ := hqids j hjm
            rw [hb0 j i2 e1] at hj
            have := hr.inj i i2 _ _ x y h1 e2 h4 hj hyx.symm
            subst this
            rw [h4] at hj; simp at hj; subst hj
            rw [h1] at e2; simp at e2; subst e2
            obtain ⟨x2, ob2, g1, g2, g3, g4⟩ := hr1.live j _ (by show (putO (t.q ++ t.r)).at j = _; rw [liveq j hjm]; exact e3)
            rw [hb1 j hjm, hb0 j i e1, h4] at g1
            simp at g1; subst g1
            refine ⟨x, ob2, hbc i x h4, g2, ?_, h7⟩
            obtain ⟨a0, fz0, p1, p2, p3, p4, p5⟩ := h6
            obtain ⟨a, fz, q1, q2, q3, q4, q5⟩ := g3
            obtain ⟨r1, r2⟩ := Tr.run_spec e5
            refine ⟨a, fz, q1, q2, p3, ?_, q5⟩
            intro k v hkv
            have hkn : k < n := by
              apply Nat.lt_of_not_le
              intro hge
              rw [p3 k hge] at hkv; cases hkv
            have h11 := r2 k hkn
            rw [show 0 + k = k from by omega, hkv] at h11
            obtain ⟨v', h12, h13⟩ := q4 k v (by rw [Tr.at_fill, if_pos ⟨by omega, by omega⟩, Nat.sub_zero]; exact h11.symm)
            exact ⟨v', h12, renG_ok (fun i j h => by cases h) 8 _ _ _ (e6 v (List.mem_of_getElem? h11.symm)) h13⟩
          · refine ⟨x, ob, hbc i x h4, ?_, h6.mono hbc, h7⟩
            rw [hsame x.n (heap_lt h5) hx]; exact h5
        · obtain ⟨x, ob, h4, h5, h6, h7⟩ := hr1.live (t.m + (i - H.n)) o1 (live1 _ _ h2 (by omega))
          refine ⟨x, ob, ?_, h5, h3 b1 c x ob hs h6, fun hF => h7 (hFk x.n hF)⟩
          have := hhi (i - H.n)
          rw [show H.n + (i - H.n) = i from by omega] at this
          rw [this]; exact h4
      · intro i j o p x y hi hj hx hy hxy
        have cls : ∀ i o x, tr.at i = some o → c i = some x → (H.t.at i = some o ∧ b i = some x ∧ x.n < w.heap.size) ∨ (H.n ≤ i ∧ ∃ o1, (putO (t.q ++ t.r)).at (t.m + (i - H.n)) = some o1 ∧ b1 (t.m + (i - H.n)) = some x ∧ ¬ x.n < w.heap.size) := by
          intro i o x hi hx
          rcases addS_ok htr i o hi with h1 | ⟨o1, h1, h2, h3⟩
          · have hlt := hold i o h1
            rw [hlo i hlt] at hx
            obtain ⟨x2, ob, h4, h5, _⟩ := hr.live i o h1
            rw [hx] at h4; simp at h4; subst h4
            exact .inl ⟨h1, hx, heap_lt h5⟩
          · have := hhi (i - H.n)
            rw [show H.n + (i - H.n) = i from by omega] at this
            rw [this] at hx
            have h2' := live1 _ _ h2 (by omega)
            obtain ⟨x2, ob, h4, h5, h6, h7⟩ := hr1.live _ o1 h2'
            rw [hx] at h4; simp at h4; subst h4
            refine .inr ⟨h1, o1, h2', hx, fun hsz => h7 ⟨hsz, ?_⟩⟩
            rintro ⟨j, z, hj, hz⟩
            have hjm : j < t.m := by
              apply Nat.lt_of_not_le
              intro hge
              rw [hb0n j hge] at hj; cases hj
            obtain ⟨i2, c2, n, T, sz, g, d, e1, e2, e3, _⟩ := hqids j hjm
            have := hr1.inj j (t.m + (i - H.n)) _ o1 z x (by show (putO (t.q ++ t.r)).at j = _; rw [liveq j hjm]; exact e3) h2' (by rw [hb1 j hjm]; exact hj) hx hz
            omega
        rcases cls i o x hi hx with ⟨h1, h2, h3⟩ | ⟨h1, o1, h2, h3, h4⟩
        · rcases cls j p y hj hy with ⟨h5, h6, h7⟩ | ⟨h5, p1, h6, h7, h8⟩
          · exact hr.inj i j o p x y h1 h5 h2 h6 hxy
          · rw [hxy] at h3; exact absurd h3 h8
        · rcases cls j p y hj hy with ⟨h5, h6, h7⟩ | ⟨h5, p1, h6, h7, h8⟩
          · rw [hxy] at h4; exact absurd h7 h4
          · have := hr1.inj _ _ o1 p1 x y h2 h6 h3 h7 hxy
            omega
    · cases h
  · cases h
def CallOk (P : Program) (call : CallT α) : Prop := ∀ (f : FuncId) (args : List PV) (H : Hp) (k pk : PV → Hp → Option α) (r : α), callable P f = true → call f args H k pk = some r →
  (∃ v H', k v H' = some r ∧ FunRet P f args H v H') ∨ ∃ v H', pk v H' = some r ∧ FunPan P f args H v H'
/-- What it means that an operation is done so. -/
def OpOk (P : Program) (o : Oper) (N : Nat) (T : Tr PV) (D : DL) (H : Hp) (e : AE) (T' : Tr PV) (D' : DL) (H' : Hp) : Prop :=
  ∀ (F : Fr) (b : Bm) (a : Act) (w : World) (next : Act → World → Prop) (Q : Exit → Act → World → Prop), AR P b N T D a → HR F b H w →
    (e = .normal → ∀ b' a' w', b.le b' → AR P b' N T' D' a' → HR F b' H' w' → Keep F w w' → next a' w') →
    (∀ v, e = .panic v → ∀ b' v' a' w', b.le b' → V b' v v' → AR P b' N T' D' a' → HR F b' H' w' → Keep F w w' → Q (.panic [{ v := v', recovered := false }]) a' w') → o.wp P a w next Q
theorem upon_of {o : Oper} {a : Act} {w w' : World} {next : Act → World → Prop} {Q : Exit → Act → World → Prop} {x : Next} {v' : Value} (h : (execOp a.eval o).run P w = .ok x w') (hx : x = .value v' ∨ x = .skip ∧ v' = undef) (hn : next (a.put o.dst v') w') : o.wp P a w next Q := by
  unfold Oper.wp
  rw [h]
  rcases hx with rfl | ⟨rfl, rfl⟩
  · exact hn
  · exact hn
theorem quiet_ok {o : Oper} {N : Nat} {T T' : Tr PV} {D : DL} {H : Hp} {v : PV} (hq : ∀ (F : Fr) (b : Bm) (w : World) (a : Act), HR F b H w → TR b T a.tmps → ∃ v', (execOp a.eval o).run P w = .ok (.value v') w ∧ V b v v')
    (hT : ∀ (b : Bm) (D : DL) (a : Act) (v' : Value), AR P b N T D a → V b v v' → AR P b N T' D (a.put o.dst v')) : OpOk P o N T D H .normal T' D H := by
  intro F b a w next Q ha hr hn hp
  obtain ⟨v', h1, h2⟩ := hq F b w a hr ha.t
  exact upon_of h1 (.inl rfl) (hn rfl b _ w b.le_rfl (hT b D a v' ha h2) hr (.rfl' F w))
theorem evOp_ok {call : CallT α} (hcall : CallOk P call) {N : Nat} {o : Oper} {T : Tr PV} {D : DL} {H : Hp} {k : AE → Tr PV → DL → Hp → Option α} {r : α} (h : evOp P call N o T D H k = some r) :
    ∃ e T' D' H', k e T' D' H' = some r ∧ (e = .normal ∨ ∃ v, e = .panic v) ∧ OpOk P o N T D H e T' D' H' := by
  have pl : (match evPl P T o with
      | some v => evPut N o.dst v T fun T => k .normal T D H
      | none => none) = some r → ∃ e T' D' H', k e T' D' H' = some r ∧ (e = .normal ∨ ∃ v, e = .panic v) ∧ OpOk P o N T D H e T' D' H' := by
    intro h
    split at h
    · rename_i v hv
      obtain ⟨T', h1, h2⟩ := evPut_ok (P := P) h
      exact ⟨_, _, _, _, h1, .inl rfl, quiet_ok (fun F b w a hr ht => evPl_ok ht hv) h2⟩
    · cases h
  unfold evOp at h
  split at h
  · rename_i v hv
    rw [evPutM_eq] at h
    obtain ⟨T', h1, h2⟩ := evPut_ok (P := P) h
    exact ⟨_, _, _, _, h1, .inl rfl, quiet_ok (fun F b w a hr ht => evQ1_ok hr ht hv) h2⟩
  · split at h
    · rename_i v ef hv
      rw [Ef.apK_eq] at h
      obtain ⟨T', h1, h2⟩ := evPut_ok (P := P) h
      refine ⟨_, _, _, _, h1, .inl rfl, ?_⟩
      intro F b a w next Q ha hr hn hp
      obtain ⟨x, v', b', w', h3, h4, h5, h6, h7, h8, h9⟩ := evA_ok hr hr.low (hr.nx H.n (Nat.le_refl _)) (show H.n < H.n + 1 by omega) (show H.n ≤ H.n + 1 by omega) ha.t hv
      exact upon_of h3 h4 (hn rfl b' _ w' h6 (h2 b' D a v' (ha.mono h6) h5) h8 h9)
    · split at h
      · rename_i c hop
        split at h
        · rename_i f args htg
          split at h
          · rename_i hc
            have run : ∀ (b : Bm) (a : Act) (w : World), TR b T a.tmps → ∃ l', (execOp a.eval o).run P w = .ok (.enter f ⟨l'⟩) w ∧ VL b args l' := by
              intro b a w ht
              obtain ⟨l', h1, h2, _⟩ := evTarget_ok (P := P) (w := w) ht htg hc o.type
              refine ⟨l', ?_, h2⟩
              obtain ⟨dst, op, ty, pos, after, gd⟩ := o
              subst hop
              exact h1
            rcases hcall f args H _ _ r hc h with ⟨v, H', h1, h2⟩ | ⟨v, H', h1, h2⟩
            · obtain ⟨T', h3, h4⟩ := evPut_ok (P := P) h1
              refine ⟨_, _, _, _, h3, .inl rfl, ?_⟩
              intro F b a w next Q ha hr hn hp
              obtain ⟨l', h5, h6⟩ := run b a w ha.t
              unfold Oper.wp
              rw [h5]
              refine h2 F b w l' h6 hr _ ?_
              intro b' v' w' hle hv' hr' hk
              exact hn rfl b' _ w' hle (h4 b' D a v' (ha.mono hle) hv') hr' hk
            · refine ⟨_, _, _, _, h1, .inr ⟨v, rfl⟩, ?_⟩
              intro F b a w next Q ha hr hn hp
              obtain ⟨l', h5, h6⟩ := run b a w ha.t
              unfold Oper.wp
              rw [h5]
              refine h2 F b w l' h6 hr _ ?_
              intro b' v' w' hle hv' hr' hk
              exact hp v rfl b' v' a w' hle hv' (ha.mono hle) hr' hk
          · exact pl h
        · exact pl h
      · rename_i x hop
        split at h
        · rename_i t v hx
          refine ⟨_, _, _, _, h, .inr ⟨_, rfl⟩, ?_⟩
          intro F b a w next Q ha hr hn hp
          have h1 := evO_V (a := a) ha.t hx
          generalize hu : a.eval x = u at h1
          cases h1 with
          | ic _ _ v' hv' =>
            unfold Oper.wp
            have : (execOp a.eval o).run P w = .halt (.panic (.iface t v')) w := by
              obtain ⟨dst, op, ty, pos, after, gd⟩ := o
              subst hop
              simp [execOp, hu, Instr.panic]
            rw [this]
            exact hp _ rfl b (.iface t v') a w b.le_rfl (.ic _ _ _ hv') ha hr (.rfl' F w)
        · cases h
      · rename_i c hop
        split at h
        · rename_i f args htg
          split at h
          · rename_i hc
            split at h
            · rename_i fo hfo
              split at h
              case h_2 => cases h
              rename_i g x y hg
              obtain ⟨T', h3, h4⟩ := evPut_ok (P := P) h
              refine ⟨_, _, _, _, h3, .inl rfl, ?_⟩
              intro F b a w next Q ha hr hn hp
              have hex : ∃ g x y, evO T fo = some (.fn (.func g) x y) := ⟨g, x, y, hg⟩
              obtain ⟨l', h5, h6, h7⟩ := evTarget_ok (P := P) (w := w) ha.t htg hc o.type
              obtain ⟨cap, as, h8, h9⟩ := h7 fo hfo hex
              have hrun : (execOp a.eval o).run P w = .ok (.defer { target := .fn (.func f) cap, args := as }) w := by
                obtain ⟨dst, op, ty, pos, after, gd⟩ := o
                subst hop
                simp [execOp, h8]
              unfold Oper.wp
              rw [hrun]
              have ha2 : AR P b N T ((f, args) :: D) { a with defers := { target := .fn (.func f) cap, args := as } :: a.defers } :=
                ⟨ha.t, ha.n, .cons f args cap as D a.defers hc (by rw [← h9]; exact h6) ha.d⟩
              exact hn rfl b _ w b.le_rfl (h4 b _ _ undef ha2 (undef_V b)) hr (.rfl' F w)
            · cases h
          · cases h
        · cases h
      · exact pl h
/-! ### The operations of a region -/
/-- What it means that code goes so. -/
def Goes (P : Program) (wp : (Exit → Act → World → Prop) → Act → World → Prop) (N : Nat) (T : Tr PV) (D : DL) (H : Hp) (e : AE) (T' : Tr PV) (D' : DL) (H' : Hp) : Prop :=
  ∀ (F : Fr) (b : Bm) (a : Act) (w : World) (Q : Exit → Act → World → Prop), AR P b N T D a → HR F b H w →
    (∀ b' e' a' w', b.le b' → ER b' e e' → AR P b' N T' D' a' → HR F b' H' w' → Keep F w w' → Q e' a' w') → wp Q a w
theorem evOps_ok {call : CallT α} (hcall : CallOk P call) {N : Nat} {ops : Array Oper} : ∀ (l : List Oper) (i : Nat), (∀ j, l[j]? = ops[i + j]?) → ∀ {T : Tr PV} {D : DL} {H : Hp} {k : AE → Tr PV → DL → Hp → Option α} {r : α}, evOps P call N ops l T D H k = some r →
    ∃ e T' D' H', k e T' D' H' = some r ∧ Goes P (fun Q a w => wpOps P ops Q (List.range' i l.length) a w) N T D H e T' D' H'
  | [], i, hl, T, D, H, k, r, h => by
    simp only [evOps] at h
    refine ⟨_, _, _, _, h, ?_⟩
    intro F b a w Q ha hr hQ
    simp only [List.length_nil, List.range'_zero, wpOps]
    exact hQ b .normal a w b.le_rfl .normal ha hr (.rfl' F w)
  | o :: l, i, hl, T, D, H, k, r, h => by
    have ho : ops[i]? = some o := by have := hl 0; simpa using this.symm
    have hl' : ∀ j, l[j]? = ops[i + 1 + j]? := by intro j; have := hl (j + 1); rw [show i + 1 + j = i + (j + 1) from by omega, ← this]; simp
    simp only [evOps] at h
    split at h
    · rename_i hw
      obtain ⟨e, T1, D1, H1, h1, h2, h3⟩ := evOp_ok hcall h
      rcases h2 with rfl | ⟨v, rfl⟩
      · simp only at h1
        obtain ⟨e2, T2, D2, H2, h4, h5⟩ := evOps_ok hcall l (i + 1) hl' h1
        refine ⟨e2, T2, D2, H2, h4, ?_⟩
        intro F b a w Q ha hr hQ
        have hwant := evWant_ok hw ha.t
        simp only [List.length_cons, List.range'_succ, wpOps, ho, hwant, if_true]
        left
        refine h3 F b a w _ Q ha hr ?_ (fun v hv => by cases hv)
        intro _ b' a' w' hle ha' hr' hk
        exact h5 F b' a' w' Q ha' hr' (fun b2 e' a2 w2 hle2 her ha2 hr2 hk2 => hQ b2 e' a2 w2 (hle.trans hle2) her ha2 hr2 (hk.trans hk2))
      · simp only at h1
        refine ⟨_, _, _, _, h1, ?_⟩
        intro F b a w Q ha hr hQ
        have hwant := evWant_ok hw ha.t
        simp only [List.length_cons, List.range'_succ, wpOps, ho, hwant, if_true]
        left
        refine h3 F b a w _ Q ha hr (fun hn => by cases hn) ?_
        intro v2 hv2 b' v' a' w' hle hv' ha' hr' hk
        simp at hv2; subst hv2
        exact hQ b' _ a' w' hle (.panic _ _ hv') ha' hr' hk
    · rename_i hw
      obtain ⟨T1, h1, h2⟩ := evPut_ok (P := P) h
      obtain ⟨e2, T2, D2, H2, h4, h5⟩ := evOps_ok hcall l (i + 1) hl' h1
      refine ⟨e2, T2, D2, H2, h4, ?_⟩
      intro F b a w Q ha hr hQ
      have hwant := evWant_ok hw ha.t
      simp only [List.length_cons, List.range'_succ, wpOps, ho, hwant]
      exact h5 F b _ w Q (h2 b D a undef ha (undef_V b)) hr hQ
    · cases h
theorem region_ok {call : CallT α} (hcall : CallOk P call) {N id : Nat} {ops : Array Oper} {T : Tr PV} {D : DL} {H : Hp} {k : AE → Tr PV → DL → Hp → Option α} {r : α} (h : evOps P call N ops ops.toList T D H k = some r) :
    ∃ e T' D' H', k e T' D' H' = some r ∧ Goes P (fun Q a w => (Code.region id ops false).wp P Q a w) N T D H e T' D' H' := by
  obtain ⟨e, T', D', H', h1, h2⟩ := evOps_ok hcall ops.toList 0 (by intro j; simp) h
  refine ⟨e, T', D', H', h1, ?_⟩
  intro F b a w Q ha hr hQ
  refine wp_region ?_
  have := h2 F b a w Q ha hr hQ
  rw [List.range_eq_range']
  simpa using this
end
end
end Go.Proofs.YtoapdkcokemieaaGreat.Ev
