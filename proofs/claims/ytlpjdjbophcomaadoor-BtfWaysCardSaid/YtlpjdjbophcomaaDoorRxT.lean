/-
  Regions that draw their order, third part: the end. Nothing of the program stands here.
-/
import Derived.Test.YtlpjdjbophcomaaDoorRxS
namespace Go.Proofs.YtlpjdjbophcomaaDoor
open Go.RowKit
set_option linter.unusedVariables false
set_option linter.unusedSimpArgs false
theorem runsTo_wp {P : Program} {o : Oper} {a : Act} {w : World} {v : Value} {K : Act → World → Prop} {Q : Exit → Act → World → Prop} (h : RunsTo P o a w v) (hK : ∀ w', Below w.heap.size w w' → K (a.put o.dst v) w') : o.wp P a w K Q := by
  unfold RunsTo at h
  unfold Oper.wp
  generalize (execOp a.eval o).run P w = r at *
  cases r with
  | ok n w' =>
    cases n <;> simp only [Oper.upon] at h ⊢
    case value u => obtain ⟨hb, rfl⟩ := h; exact hK _ hb
    case skip => obtain ⟨hb, rfl⟩ := h; exact hK _ hb
    case enter f args =>
      obtain ⟨rfl, hc⟩ := h
      exact hc.mono fun e w'' ⟨he, hb⟩ => by subst he; exact hK _ hb
  | halt x w' => exact h.elim
theorem allocObj_pend {P : Program} {ops : Array Oper} {mk : Nat → Option Mk} (hmk : ∀ k M, mk k = some M → MkOk P M) {k : Nat} {ob : ((Nat → Value) → Obj) × (L1 → Value)} (h : allocObj P ops mk k = some ob) (u : Nat → Value) : isPend (ob.1 u) = false := by
  unfold allocObj at h
  split at h
  · split at h
    · split at h
      · split at h
        · simp at h; subst h; rfl
        · cases h
      · cases h
    · split at h
      · rename_i M hM
        simp at h
        subst h
        exact (hmk _ _ hM).1 u
      · cases h
    · cases h
  · cases h
theorem run_alloc {P : Program} {ops : Array Oper} {mk : Nat → Option Mk} (hmk : ∀ k M, mk k = some M → MkOk P M) {k : Nat} {ob : ((Nat → Value) → Obj) × (L1 → Value)} (h : allocObj P ops mk k = some ob) (o : Oper) (ho : ops[k]? = some o) (a : Act) {t : List Value}
    (hok : okL (allocObl ops mk t k)) (hev : ∀ x ∈ o.op.operands, a.eval x = evL t x) (w : World) : (execOp a.eval o).run P w = .ok (.value (ob.2 ⟨w.heap.size, plainU⟩)) (w.alloc (ob.1 plainU)) := by
  unfold allocObj at h
  unfold allocObl at hok
  rw [ho] at h hok
  simp only at h hok
  split at h
  · rename_i e he
    split at h
    · rename_i i hi
      split at h
      · rename_i z hz
        simp at h
        subst h
        unfold execOp
        rw [he]
        show ((Instr.alloc e true (.tuple #[])) >>= fun x => pure (Next.value x)).run P w = _
        simp only [Instr.alloc, zeroValue, typeInfo, program, newVar, newRow, newObj, Sem.run_bind, Sem.run, hi, hz, Result.andThen_ok, Sem.run_pure]
        rfl
      · cases h
    · cases h
  · rename_i T l c he
    split at h
    · rename_i M hM
      simp at h
      subst h
      rw [he] at hok hev
      simp only [hM] at hok
      have h1 := okL_cons.1 hok
      have h2 := okL_cons.1 h1.2
      have h3 := okL_cons.1 h2.2
      have e1 : T = M.T := by simpa using h1.1
      have e2 : evL t l = M.n := by simpa using h2.1
      have e3 : evL t c = M.m := by simpa using h3.1
      have q := (hmk _ _ hM).2 w
      unfold execOp
      rw [he]
      rw [← e1, ← e2, ← e3, ← hev l (by simp [Op.operands]), ← hev c (by simp [Op.operands])] at q
      exact q
    · cases h
  · cases h
theorem Fr.make (ops : Array Oper) (t0 : List Value) (done : Nat → Bool) (val : Nat → Value) : ∃ t, Fr ops t0 done val t := by
  refine ⟨t0.mapIdx fun x y => match writer ops x with | some e => if done e = true then val e else y | none => y, by simp, fun x => ?_⟩
  simp only [List.getD, List.getElem?_mapIdx]
  rcases Nat.lt_or_ge x t0.length with h | h
  · rw [List.getElem?_eq_getElem h]
    simp only [Option.map_some, Option.getD_some]
    cases hw : writer ops x with
    | none => rfl
    | some e => by_cases hd : done e = true <;> simp [hd, h]
  · rw [List.getElem?_eq_none h]
    simp only [Option.map_none, Option.getD_none]
    cases hw : writer ops x with
    | none => rfl
    | some e =>
      have : ¬ x < t0.length := Nat.not_lt.2 h
      simp [this]
def ls (listed : Array Bool) (i : Nat) : Bool := listed.getD i false
theorem ls_set {listed : Array Bool} {i : Nat} (hi : i < listed.size) (j : Nat) : ls (listed.setIfInBounds i true) j = (ls listed j || j == i) := by
  unfold ls
  by_cases hij : i = j
  · subst hij; simp [hi]
  · rw [getD_set_ne false hij]
    have : (j == i) = false := by simp; exact fun e => hij e.symm
    simp [this]
theorem ls_true {listed : Array Bool} {i : Nat} (hi : i < listed.size) : listed.getD i true = ls listed i := by
  unfold ls; simp [hi]
/-- The entries of allocs that haven't run. -/
def Uof (n : Nat) (A : List Nat) (listed : Array Bool) : List Nat := (A.filter fun k => !ls listed k).map (idxA n A)
theorem mem_Uof {n : Nat} {A : List Nat} {listed : Array Bool} {m : Nat} : m ∈ Uof n A listed ↔ ∃ k ∈ A, ls listed k = false ∧ idxA n A k = m := by
  simp only [Uof, List.mem_map, List.mem_filter, Bool.not_eq_true']
  constructor
  · rintro ⟨k, ⟨h1, h2⟩, h3⟩; exact ⟨k, h1, h2, h3⟩
  · rintro ⟨k, h1, h2, h3⟩; exact ⟨k, ⟨h1, h2⟩, h3⟩
theorem mask_congr {U U' : List Nat} {H : List Obj} {j : Nat} (h : j ∈ U ↔ j ∈ U') : (mask U H)[j]? = (mask U' H)[j]? := by
  simp only [mask, List.getElem?_mapIdx]
  by_cases hj : j ∈ U
  · simp [hj, h.1 hj]
  · have : j ∉ U' := fun hh => hj (h.2 hh)
    simp [hj, this]
theorem idxOf_nodup : ∀ {A : List Nat} (h : A.Nodup) {k : Nat} (hk : k < A.length), A.idxOf A[k] = k
  | a :: A, h, 0, hk => by simp
  | a :: A, h, k + 1, hk => by
    have h1 := List.nodup_cons.1 h
    have hk' : k < A.length := by simpa using hk
    have hne : a ≠ A[k] := fun e => h1.1 (e ▸ List.getElem_mem hk')
    simp only [List.getElem_cons_succ]
    have hb : (a == A[k]) = false := by simpa using hne
    rw [List.idxOf_cons, hb]
    simp [idxOf_nodup h1.2 hk']
section
variable (P : Program) (X : Nat → Prop) (B : Nat) (S : World → Prop) (ops : Array Oper) (V A T : List Nat) (H0 : List Obj) (t0 : List Value) (b0 : Lt) (w0 : World) (v : Nat → Value) (kap : Nat → Option Nat) (scA : List It) (mk : Nat → Option Mk)
def cval (c : Lt) (val : Nat → Value) (e : Nat) : Value := if e ∈ V then v e else if e ∈ A then mkV P ops mk e (c (idxA H0.length A e)) else val e
/-- Letters that are the same but for blocks that aren't made yet, of which nothing is told. -/
def AgU (U : List Nat) (n : Nat) (c' c : Lt) : Prop := (∀ m, m < n → m ∉ U → c' m = c m) ∧ ∀ m ∈ U, (c' m).u = plainU
/-- The run with letters, from here on. -/
def Can (c : Lt) (Tr : List Nat) (scT : List It) (val : Nat → Value) (Hc : List Obj) : Prop :=
  ∀ tc, Fr ops t0 (fun e => !Tr.contains e) (cval P ops V A H0 v mk c val) tc → ∃ tf scf wrs Hf o obx, symT P c ops Tr scT tc Hc = some ((tf, scf, wrs), Hf, o) ∧ okL o ∧
    symReg P c ops true scA t0 H0 = some ((tf, scf), Hf, obx) ∧ okL obx ∧ kapB ops H0.length V A (V.map kap) Tr wrs = true
structure RInv (listed : Array Bool) (ta : List Value) (Hc : List Obj) (c : Lt) (Tr : List Nat) (scT : List It) (val : Nat → Value) (w : World) : Prop where
  size : listed.size = ops.size
  closed : ∀ j oj, ops[j]? = some oj → ls listed j = true → ∀ e ∈ oj.after, Region.binds .any e = true → ls listed e.on = true
  tdone : ∃ Td, T = Td ++ Tr ∧ ∀ j ∈ Td, ls listed j = true
  trun : ∀ j ∈ Tr, ls listed j = false
  fr : Fr ops t0 (ls listed) val ta
  vval : ∀ i ∈ V, ls listed i = true → val i = v i
  aval : ∀ k ∈ A, ls listed k = true → val k = mkV P ops mk k (c (idxA H0.length A k))
  ag : agree H0.length c b0
  len : H0.length + A.length ≤ Hc.length
  hA : ∀ k ∈ A, ls listed k = false → ∃ ob, allocObj P ops mk k = some ob ∧ Hc[idxA H0.length A k]? = some (ob.1 plainU)
  hV : ∀ i ∈ V, ls listed i = false → ∀ m, kap i = some m → (mask (Uof H0.length A listed) Hc)[m]? = H0[m]?
  sat : Sat X B c (mask (Uof H0.length A listed) Hc) w
  s : S w
  ch : Chg X B w0 w
  sub : ∀ it ∈ scT, it ∈ scA
  plu : ∀ m ∈ Uof H0.length A listed, (c m).u = plainU
  prom : ∀ c', AgU (Uof H0.length A listed) Hc.length c' c → Can P ops V A H0 t0 v kap scA mk c' Tr scT val Hc
end
section
variable {P : Program} {X : Nat → Prop} {B : Nat} {S : World → Prop} {ops : Array Oper} {V A T : List Nat} {H0 : List Obj} {t0 : List Value} {b0 : Lt} {w0 : World} {v : Nat → Value} {kap : Nat → Option Nat} {scA : List It} {mk : Nat → Option Mk}
theorem ready_ls {listed : Array Bool} (hz : listed.size = ops.size) {i : Nat} : i ∈ Region.ready .any ops listed ↔ ls listed i = false ∧ ∃ o, ops[i]? = some o ∧ ∀ e ∈ o.after, Region.binds .any e = true → ls listed e.on = true := by
  rw [mem_ready]
  constructor
  · rintro ⟨h0, o, ho, hall⟩
    have hi : i < listed.size := by rw [hz]; exact (Array.getElem?_eq_some_iff.1 ho).1
    exact ⟨by rw [← ls_true hi]; exact h0, o, ho, hall⟩
  · rintro ⟨h0, o, ho, hall⟩
    have hi : i < listed.size := by rw [hz]; exact (Array.getElem?_eq_some_iff.1 ho).1
    exact ⟨by rw [ls_true hi]; exact h0, o, ho, hall⟩
theorem region_draws (hUp : ∀ w w', S w → Chg X B w w' → S w') (hm : P.follows .mixedOrders = true) {d : List Deferred} {Q : Exit → Act → World → Prop} (pl : Plan ops t0.length V A T)
    (hit : ∀ it ∈ scA, ItOk P X B S it) (hkl : ∀ i ∈ V, ∀ m, kap i = some m → m < H0.length)
    (hvf : ∀ c, agree H0.length c b0 → ∀ pre i suf, V = pre ++ i :: suf → VFact P X B S ops c H0 t0 v kap (pre.reverse ++ []) i)
    (hmk : ∀ k M, mk k = some M → MkOk P M)
    (haf : ∀ k ∈ A, ∃ tk done2 val2, Fr ops t0 done2 val2 tk ∧ okL (allocObl ops mk tk k) ∧ done2 k = false ∧ (∀ e ∈ V, done2 e = true ∧ val2 e = v e) ∧ ∀ e, done2 e = true → e ∈ V ∨ e ∈ A)
    (K : ∀ c t' sc' H' ob w', agree H0.length c b0 → symReg P c ops true scA t0 H0 = some ((t', sc'), H', ob) → okL ob → Sat X B c H' w' → S w' → Chg X B w0 w' → (∀ it ∈ sc', it ∈ scA) → Q .normal ⟨t'.toArray, d⟩ w') :
    ∀ (fuel : Nat) (listed : Array Bool) (ta : List Value) (Hc : List Obj) (c : Lt) (Tr : List Nat) (scT : List It) (val : Nat → Value) (w : World), ((List.range ops.size).filter fun i => !ls listed i).length ≤ fuel →
      RInv P X B S ops V A T H0 t0 b0 w0 v kap scA mk listed ta Hc c Tr scT val w → wpAny P .any ops Q fuel listed ⟨ta.toArray, d⟩ w := by
  intro fuel
  have nd := pl.nodup
  have dVA : ∀ {x}, x ∈ V → x ∉ A := fun hx ha => by
    have := (List.nodup_append.1 (List.nodup_append.1 nd).1).2.2
    exact this _ hx _ ha rfl
  have dVT : ∀ {x}, x ∈ V → x ∉ T := fun hx ht => (List.nodup_append.1 nd).2.2 _ (List.mem_append_left _ hx) _ ht rfl
  have dAT : ∀ {x}, x ∈ A → x ∉ T := fun hx ht => (List.nodup_append.1 nd).2.2 _ (List.mem_append_right _ hx) _ ht rfl
  have ndV : V.Nodup := (List.nodup_append.1 (List.nodup_append.1 nd).1).1
  have ndA : A.Nodup := (List.nodup_append.1 (List.nodup_append.1 nd).1).2.1
  have ndT : T.Nodup := (List.nodup_append.1 nd).2.1
  -- the end
  have fin : ∀ (listed : Array Bool) (ta : List Value) (Hc : List Obj) (c : Lt) (Tr : List Nat) (scT : List It) (val : Nat → Value) (w : World), (∀ i, i < ops.size → ls listed i = true) →
      RInv P X B S ops V A T H0 t0 b0 w0 v kap scA mk listed ta Hc c Tr scT val w → Q .normal ⟨ta.toArray, d⟩ w := by
    intro listed ta Hc c Tr scT val w hall inv
    obtain ⟨Td, hT, _⟩ := inv.tdone
    have hTr : Tr = [] := by
      cases Tr with
      | nil => rfl
      | cons j Tr =>
        have h1 := inv.trun j (List.mem_cons_self ..)
        rw [hall j (pl.lt j (.inr (.inr (by rw [hT]; simp))))] at h1
        cases h1
    subst hTr
    have hU : Uof H0.length A listed = [] := by
      cases hU : Uof H0.length A listed with
      | nil => rfl
      | cons m r =>
        obtain ⟨k, hk, hl, _⟩ := mem_Uof.1 (show m ∈ Uof H0.length A listed by rw [hU]; exact List.mem_cons_self ..)
        rw [hall k (pl.lt k (.inr (.inl hk)))] at hl
        cases hl
    have hfr : Fr ops t0 (fun e => !([] : List Nat).contains e) (cval P ops V A H0 v mk c val) ta := by
      refine ⟨inv.fr.len, fun x => ?_⟩
      rw [inv.fr.get x]
      split
      · rename_i e he
        have hde := (writer_eq pl.dst).1 he
        have hle := hall e (dstAt_lt hde)
        have hv : val e = cval P ops V A H0 v mk c val e := by
          unfold cval
          by_cases hV : e ∈ V
          · simp only [hV, if_true]; exact inv.vval e hV hle
          · by_cases hA : e ∈ A
            · simp only [hV, hA, if_true, if_false]; exact inv.aval e hA hle
            · simp only [hV, hA, if_false]
        simp [hle, hv]
      · rfl
    obtain ⟨tf, scf, wrs, Hf, o, obx, h1, h2, h3, h4, h5⟩ := inv.prom c ⟨fun _ _ _ => rfl, inv.plu⟩ ta hfr
    simp only [symT] at h1
    simp at h1
    obtain ⟨⟨rfl, rfl, rfl⟩, rfl, rfl⟩ := h1
    have hs := inv.sat
    rw [hU, mask_nil] at hs
    exact K c ta scT Hc obx w inv.ag h3 h4 hs inv.s inv.ch inv.sub
  -- somebody is ready while somebody is out
  have prog : ∀ (listed : Array Bool) (ta : List Value) (Hc : List Obj) (c : Lt) (Tr : List Nat) (scT : List It) (val : Nat → Value) (w : World), (∃ i, i < ops.size ∧ ls listed i = false) →
      RInv P X B S ops V A T H0 t0 b0 w0 v kap scA mk listed ta Hc c Tr scT val w → ∃ i, i ∈ Region.ready .any ops listed := by
    rintro listed ta Hc c Tr scT val w ⟨i, hi, hl⟩ inv
    by_cases hv : ∃ x ∈ V, ¬ ls listed x = true
    · obtain ⟨pre, x, suf, hVe, h1, h2⟩ := first_not V hv
      obtain ⟨o, ho, he⟩ := edgesIn_spec (vOk_spec pl.v hVe)
      exact ⟨x, (ready_ls inv.size).2 ⟨by simpa using h2, o, ho, fun e hm hb => h1 _ (by simpa using he e hm hb)⟩⟩
    · have hv' : ∀ x ∈ V, ls listed x = true := fun x hx => Classical.byContradiction fun h => hv ⟨x, hx, h⟩
      by_cases ha : ∃ x ∈ A, ¬ ls listed x = true
      · obtain ⟨x, hx, h2⟩ := ha
        obtain ⟨o, ho, hed, _⟩ := pl.a x hx
        obtain ⟨o2, ho2, he2⟩ := edgesIn_spec hed
        obtain rfl : o2 = o := Option.some.inj (ho2.symm.trans ho)
        exact ⟨x, (ready_ls inv.size).2 ⟨by simpa using h2, o2, ho, fun e he hb => hv' _ (he2 e he hb)⟩⟩
      · have ha' : ∀ x ∈ A, ls listed x = true := fun x hx => Classical.byContradiction fun h => ha ⟨x, hx, h⟩
        obtain ⟨Td, hT, hTd⟩ := inv.tdone
        cases hTr : Tr with
        | nil =>
          rw [hTr, List.append_nil] at hT
          rcases pl.all i hi with h | h | h
          · rw [hv' i h] at hl; cases hl
          · rw [ha' i h] at hl; cases hl
          · rw [hTd i (hT ▸ h)] at hl; cases hl
        | cons j Tr' =>
          rw [hTr] at hT
          obtain ⟨o, ho, he⟩ := edgesIn_spec (tOk_spec pl.t hT).1
          refine ⟨j, (ready_ls inv.size).2 ⟨inv.trun j (by rw [hTr]; simp), o, ho, fun e hm hb => ?_⟩⟩
          have := he e hm hb
          simp at this
          rcases this with h | h | h
          · exact hTd _ h
          · exact hv' _ h
          · exact ha' _ h
  induction fuel with
  | zero =>
    intro listed ta Hc c Tr scT val w hcnt inv
    have hall : ∀ i, i < ops.size → ls listed i = true := fun i hi => Classical.byContradiction fun h => by
      have h1 : i ∈ (List.range ops.size).filter fun i => !ls listed i := List.mem_filter.2 ⟨List.mem_range.2 hi, by simpa using h⟩
      have := List.length_pos_of_mem h1
      omega
    refine ⟨?_, fin listed ta Hc c Tr scT val w hall inv⟩
    cases hr : Region.ready .any ops listed with
    | nil => rfl
    | cons i r =>
      obtain ⟨h1, o, ho, _⟩ := (ready_ls inv.size).1 (show i ∈ Region.ready .any ops listed by rw [hr]; exact List.mem_cons_self ..)
      rw [hall i (Array.getElem?_eq_some_iff.1 ho).1] at h1
      cases h1
  | succ fuel ih =>
    intro listed ta Hc c Tr scT val w hcnt inv
    refine ⟨fun hr => ?_, fun i hir => ?_⟩
    · refine fin listed ta Hc c Tr scT val w (fun i hi => Classical.byContradiction fun h => ?_) inv
      obtain ⟨j, hj⟩ := prog listed ta Hc c Tr scT val w ⟨i, hi, by simpa using h⟩ inv
      rw [hr] at hj; cases hj
    obtain ⟨hun, o, ho, hw8⟩ := (ready_ls inv.size).1 hir
    have hisz : i < ops.size := (Array.getElem?_eq_some_iff.1 ho).1
    have hils : i < listed.size := by rw [inv.size]; exact hisz
    have hdst : o.dst = dstAt ops i := by simp [dstAt, ho]
    have hls' := ls_set hils
    have hwf : ∀ e, wfo ops i e = true → ls listed e = true := fun e he => by
      obtain ⟨o', ho', x, hx, hb, rfl⟩ := wfo_spec he
      obtain rfl : o' = o := Option.some.inj (ho'.symm.trans ho)
      exact hw8 x hx hb
    have hws : ∀ e, wfs ops i e = true → ls listed e = true := fun e he => by
      simp only [wfs, Bool.or_eq_true, List.contains_eq_mem, decide_eq_true_eq] at he
      rcases he with he | he
      · exact hwf e he
      · refine anc_spec (L := fun k => ls listed k = true) (fun j hj x hx => ?_) 400 _ [] (fun x hx => ?_) (fun x hx => by cases hx) e he
        · unfold edgesOf at hx
          split at hx
          · rename_i o' ho'
            obtain ⟨y, hy, rfl⟩ := List.mem_map.1 hx
            obtain ⟨h1, h2⟩ := List.mem_filter.1 hy
            exact inv.closed j o' ho' hj y (by simpa using h1) h2
          · cases hx
        · unfold edgesOf at hx
          rw [ho] at hx
          obtain ⟨y, hy, rfl⟩ := List.mem_map.1 hx
          obtain ⟨h1, h2⟩ := List.mem_filter.1 hy
          exact hw8 y (by simpa using h1) h2
    have hwc : ∀ e, wfo ops e i = true → ls listed e = false := fun e he => by
      obtain ⟨o', ho', x, hx, hb, hon⟩ := wfo_spec he
      cases hle : ls listed e with
      | false => rfl
      | true =>
        have := inv.closed e o' ho' hle x hx hb
        rw [hon, hun] at this; cases this
    have hblind : ∀ e x, dstAt ops e = some x → x ∈ looks ops i → blind ops i e = true → False := fun e x he hx hb => by
      unfold blind at hb; rw [he] at hb; simp at hb; exact hb hx
    have cnt' : ((List.range ops.size).filter fun j => !ls (listed.setIfInBounds i true) j).length ≤ fuel := by
      have := filter_lt (p := fun j => !ls listed j) (q := fun j => !ls (listed.setIfInBounds i true) j) (fun x hx => by
        simp only [hls', Bool.not_eq_true', Bool.or_eq_false_iff] at hx ⊢; exact hx.1) (List.range ops.size) i (List.mem_range.2 hisz) (by simp [hun]) (by simp [hls'])
      omega
    have closed' : ∀ j oj, ops[j]? = some oj → ls (listed.setIfInBounds i true) j = true → ∀ e ∈ oj.after, Region.binds .any e = true → ls (listed.setIfInBounds i true) e.on = true := by
      intro j oj hj hl e he hb
      rw [hls'] at hl ⊢
      simp only [Bool.or_eq_true, beq_iff_eq] at hl ⊢
      rcases hl with hl | rfl
      · exact .inl (inv.closed j oj hj hl e he hb)
      · obtain rfl : oj = o := Option.some.inj (hj.symm.trans ho)
        exact .inl (hw8 e he hb)
    have size' : (listed.setIfInBounds i true).size = ops.size := by simp [inv.size]
    have iTr : ∀ {l : List Nat}, (∀ j ∈ l, ls listed j = false) → i ∉ l → ∀ j ∈ l, ls (listed.setIfInBounds i true) j = false := fun h hn j hj => by
      rw [hls']; have : j ≠ i := fun e => hn (e ▸ hj)
      simp [h j hj, this]
    obtain ⟨Td, hT, hTd⟩ := inv.tdone
    -- the next frame
    have fr' : ∀ u, Fr ops t0 (ls (listed.setIfInBounds i true)) (fun e => if e = i then u else val e) (putL ta (dstAt ops i) u) := fun u =>
      Fr.put pl.dst inv.fr (e := i) hls' (fun j _ hj => by simp [hj]) (by simp)
    rcases pl.all i hisz with hiV | hiA | hiT
    · -- it only reads
      have hiA := dVA hiV
      have hiT := dVT hiV
      have hUeq : ∀ m, m ∈ Uof H0.length A (listed.setIfInBounds i true) ↔ m ∈ Uof H0.length A listed := fun m => by
        rw [mem_Uof, mem_Uof]
        constructor
        · rintro ⟨k, hk, hl, rfl⟩; rw [hls'] at hl; simp at hl; exact ⟨k, hk, hl.1, rfl⟩
        · rintro ⟨k, hk, hl, rfl⟩; exact ⟨k, hk, by rw [hls']; simp [hl]; exact fun e => hiA (e ▸ hk), rfl⟩
      have hmk' : mask (Uof H0.length A (listed.setIfInBounds i true)) Hc = mask (Uof H0.length A listed) Hc := List.ext_getElem? fun m => mask_congr (hUeq m)
      obtain ⟨pre, suf, hVe⟩ := List.append_of_mem hiV
      obtain ⟨ti, o', ho', hfr, hcase⟩ := hvf c inv.ag pre i suf hVe
      obtain rfl : o' = o := Option.some.inj (ho'.symm.trans ho)
      have hipre : i ∉ pre := fun hm => by
        rw [hVe] at ndV
        exact (List.nodup_append.1 ndV).2.2 _ hm _ (List.mem_cons_self ..) rfl
      have hsame : ∀ x ∈ looks ops i, ta.getD x undef = ti.getD x undef := by
        intro x hx
        refine Fr.same inv.fr hfr (fun e he => ?_)
        have hde := (writer_eq pl.dst).1 he
        by_cases hei : e = i
        · subst hei
          have : (pre.reverse ++ []).contains e = false := by simpa using hipre
          rw [hun, this]
          exact ⟨rfl, fun h => by cases h⟩
        · rcases pl.lv i hiV e (pl.all e (dstAt_lt hde)) with h | h | h | h
          · exact absurd h hei
          · have hep : e ∈ pre := by
              have := wfo_in h (vOk_spec pl.v hVe)
              simpa using this
            have hle := hwf e h
            have : (pre.reverse ++ []).contains e = true := by simpa using hep
            rw [hle, this]
            exact ⟨rfl, fun _ => inv.vval e (by rw [hVe]; simp [hep]) hle⟩
          · have hle := hwc e h
            have : (pre.reverse ++ []).contains e = false := by
              simp only [List.append_nil, List.contains_reverse]
              cases hc : pre.contains e with
              | false => rfl
              | true =>
                have hep : e ∈ pre := by simpa using hc
                obtain ⟨p1, p2, hp⟩ := List.append_of_mem hep
                have hVe2 : V = p1 ++ e :: (p2 ++ i :: suf) := by rw [hVe, hp]; simp
                have := wfo_in h (vOk_spec pl.v hVe2)
                have hi1 : i ∈ p1 := by simpa using this
                exact absurd (by rw [hp]; simp [hi1]) hipre
            rw [hle, this]
            exact ⟨rfl, fun h => by cases h⟩
          · exact (hblind e x hde hx h).elim
      obtain ⟨hops, hwt⟩ := looks_congr ho (inv.fr.len.trans hfr.len.symm) hsame
      -- the next state
      have next : ∀ w', Below w.heap.size w w' → wpAny P .any ops Q fuel (listed.setIfInBounds i true) ⟨(putL ta (dstAt ops i) (v i)).toArray, d⟩ w' := by
        intro w' hb
        have hch : Chg X B w w' := .of_below hb inv.sat.base
        have hcv : ∀ c', cval P ops V A H0 v mk c' (fun e => if e = i then v i else val e) = cval P ops V A H0 v mk c' val := fun c' => by
          funext e
          unfold cval
          by_cases hei : e = i
          · subst hei; simp [hiV]
          · simp [hei]
        refine ih _ _ Hc c Tr scT (fun e => if e = i then v i else val e) w' cnt' ⟨size', closed', ⟨Td, hT, fun j hj => by rw [hls']; simp [hTd j hj]⟩, iTr inv.trun (fun h => hiT (by rw [hT]; simp [h])), fr' (v i), ?_, ?_, inv.ag, inv.len, ?_, ?_, by rw [hmk']; exact inv.sat.below hb, hUp _ _ inv.s hch, inv.ch.trans hch, inv.sub, fun m hm => inv.plu m ((hUeq m).1 hm), ?_⟩
        · intro j hj hl
          by_cases hji : j = i
          · subst hji; simp
          · simp only [hji, if_false]; rw [hls'] at hl; simp [hji] at hl; exact inv.vval j hj hl
        · intro k hk hl
          have hki : k ≠ i := fun e => hiA (e ▸ hk)
          simp only [hki, if_false]; rw [hls'] at hl; simp [hki] at hl; exact inv.aval k hk hl
        · intro k hk hl
          rw [hls'] at hl; simp at hl; exact inv.hA k hk hl.1
        · intro j hj hl m hm
          rw [hmk']
          rw [hls'] at hl; simp at hl; exact inv.hV j hj hl.1 m hm
        · intro c' hc' tc htc
          rw [hcv] at htc
          exact inv.prom c' ⟨fun m hm hn => hc'.1 m hm (fun h => hn ((hUeq m).1 h)), fun m hm => hc'.2 m ((hUeq m).2 hm)⟩ tc htc
      unfold wpOp
      simp only [ho]
      rcases hcase with ⟨hw, hvi, _⟩ | ⟨hw, it, ob, hitok, hro, hob⟩
      · rw [hwt, hw]
        simp only [Bool.false_eq_true, if_false]
        rw [putL_eq, hdst, ← hvi]
        exact next w (.refl ..)
      · rw [hwt, hw]
        simp only [if_true]
        refine .inl (runsTo_wp (v := v i) ?_ (fun w' hb => by rw [putL_eq, hdst]; exact next w' hb))
        have hro' : roOp P c it o' (evL ta) H0 = some (v i, kap i, ob) := by
          rw [roOp_congr (pl.nosel i o' · · ho) hops]; exact hro
        exact roOp_sound inv.sat inv.s hitok (fun m hm => inv.hV i hiV hun m hm) hro' hob
    · -- an alloc
      have hiV : i ∉ V := fun h => dVA h hiA
      have hiT := dAT hiA
      obtain ⟨ob, hob, hHi⟩ := inv.hA i hiA hun
      obtain ⟨o', ho', haf', hgu⟩ := pl.a i hiA
      obtain rfl : o' = o := Option.some.inj (ho'.symm.trans ho)
      have hwt : Region.wanted o' (yielded ops ta.toArray) = true := by unfold Region.wanted; rw [hgu]
      have hidx := idxA_lt (n := H0.length) hiA
      have hUmem : ∀ m, m ∈ Uof H0.length A (listed.setIfInBounds i true) ↔ (m ∈ Uof H0.length A listed ∧ m ≠ idxA H0.length A i) := fun m => by
        rw [mem_Uof, mem_Uof]
        constructor
        · rintro ⟨k, hk, hl, rfl⟩
          rw [hls'] at hl; simp at hl
          exact ⟨⟨k, hk, hl.1, rfl⟩, fun e => hl.2 (idxA_inj hk hiA e)⟩
        · rintro ⟨⟨k, hk, hl, rfl⟩, hne⟩
          exact ⟨k, hk, by rw [hls']; simp [hl]; exact fun e => hne (by rw [e]), rfl⟩
      have hiU : idxA H0.length A i ∈ Uof H0.length A listed := mem_Uof.2 ⟨i, hiA, hun, rfl⟩
      have hiU' : idxA H0.length A i ∉ Uof H0.length A (listed.setIfInBounds i true) := fun h => ((hUmem _).1 h).2 rfl
      have hmkU : ∀ m, m ≠ idxA H0.length A i → (mask (Uof H0.length A (listed.setIfInBounds i true)) Hc)[m]? = (mask (Uof H0.length A listed) Hc)[m]? := fun m hm =>
        mask_congr ⟨fun h => ((hUmem m).1 h).1, fun h => (hUmem m).2 ⟨h, hm⟩⟩
      obtain ⟨tk, done2, val2, hfk, hobl, hd0, hV2, hD2⟩ := haf i hiA
      have hsame : ∀ x ∈ looks ops i, ta.getD x undef = tk.getD x undef := by
        intro x hx
        refine Fr.same inv.fr hfk (fun e he => ?_)
        have hde := (writer_eq pl.dst).1 he
        rcases pl.la i hiA e (pl.all e (dstAt_lt hde)) with h | h | h | h
        · subst h
          rw [hun, hd0]
          exact ⟨rfl, fun h => by cases h⟩
        · have heV : e ∈ V := wfo_in h haf'
          rw [hwf e h, (hV2 e heV).1]
          exact ⟨rfl, fun _ => (inv.vval e heV (hwf e h)).trans (hV2 e heV).2.symm⟩
        · have hdf : done2 e = false := by
            cases hd : done2 e with
            | false => rfl
            | true =>
              rcases hD2 e hd with h1 | h1
              · obtain ⟨p1, p2, hp⟩ := List.append_of_mem h1
                have := wfo_in h (vOk_spec pl.v hp)
                have : i ∈ p1 := by simpa using this
                exact absurd (show i ∈ V by rw [hp]; simp [this]) hiV
              · obtain ⟨_, _, h2, _⟩ := pl.a e h1
                exact absurd (wfo_in h h2) hiV
          rw [hwc e h, hdf]
          exact ⟨rfl, fun h => by cases h⟩
        · exact (hblind e x hde hx h).elim
      obtain ⟨hops, _⟩ := looks_congr ho (inv.fr.len.trans hfk.len.symm) hsame
      unfold wpOp
      simp only [ho]
      rw [hwt]
      simp only [if_true]
      refine .inl ?_
      unfold Oper.wp
      rw [run_alloc hmk hob o' ho ⟨ta.toArray, d⟩ hobl (fun x hx => by rw [evL_eq]; exact hops x hx) w]
      simp only [Oper.upon]
      rw [putL_eq, hdst]
      have hb : Below w.heap.size w (w.alloc (ob.1 plainU)) := (Below.refl _ _).alloc (Nat.le_refl _) (ob.1 plainU)
      have hch : Chg X B w (w.alloc (ob.1 plainU)) := .of_below hb inv.sat.base
      have hsat : Sat X B (upd c (idxA H0.length A i) w.heap.size) (mask (Uof H0.length A (listed.setIfInBounds i true)) Hc) (w.alloc (ob.1 plainU)) :=
        (inv.sat.below hb).born (fun m hm => hmkU m hm) (by rw [mask_get hiU']; exact hHi) (allocObj_pend hmk hob _) (heap_alloc_new w (ob.1 plainU)) (.inr inv.sat.base) (fun m i' p y q hm hp hr e => by have := inv.sat.lt_ hp hr; omega)
      have hcv : ∀ c', cval P ops V A H0 v mk c' (fun e => if e = i then ob.2 ⟨w.heap.size, plainU⟩ else val e) = cval P ops V A H0 v mk c' val := fun c' => by
        funext e
        unfold cval
        by_cases hei : e = i
        · subst hei; simp [hiV, hiA]
        · simp [hei]
      refine ih _ _ Hc (upd c (idxA H0.length A i) w.heap.size) Tr scT (fun e => if e = i then ob.2 ⟨w.heap.size, plainU⟩ else val e) (w.alloc (ob.1 plainU)) cnt' ⟨size', closed', ⟨Td, hT, fun j hj => by rw [hls']; simp [hTd j hj]⟩, iTr inv.trun (fun h => hiT (by rw [hT]; simp [h])), fr' _, ?_, ?_, ?_, inv.len, ?_, ?_, hsat, hUp _ _ inv.s hch, inv.ch.trans hch, inv.sub, ?_, ?_⟩
      · intro j hj hl
        have hji : j ≠ i := fun e => hiV (e ▸ hj)
        simp only [hji, if_false]; rw [hls'] at hl; simp [hji] at hl; exact inv.vval j hj hl
      · intro k hk hl
        by_cases hki : k = i
        · subst hki
          have e1 : upd c (idxA H0.length A k) w.heap.size (idxA H0.length A k) = ⟨w.heap.size, plainU⟩ := by simp [upd]; rfl
          rw [e1]
          simp [mkV, hob]
        · simp only [hki, if_false]
          rw [hls'] at hl; simp [hki] at hl
          rw [upd_ne c (fun e => hki (idxA_inj hk hiA e))]
          exact inv.aval k hk hl
      · exact fun m hm => (upd_ne c (by omega)).trans (inv.ag m hm)
      · intro k hk hl
        rw [hls'] at hl; simp at hl; exact inv.hA k hk hl.1
      · intro j hj hl m hm
        rw [hls'] at hl; simp at hl
        have h1 := inv.hV j hj hl.1 m hm
        by_cases hme : m = idxA H0.length A i
        · -- it would look at a block that isn't there
          rw [hme, mask_at hiU (by have := inv.len; omega)] at h1
          have : idxA H0.length A i < H0.length := (List.getElem?_eq_some_iff.1 h1.symm).1
          omega
        · rw [hmkU m hme]; exact h1
      · intro m hm
        have h1 := (hUmem m).1 hm
        rw [upd_ne c h1.2]
        exact inv.plu m h1.1
      · intro c' hc' tc htc
        rw [hcv] at htc
        refine inv.prom c' ⟨fun m hm hn => ?_, fun m hm => ?_⟩ tc htc
        · have hne : m ≠ idxA H0.length A i := fun e => hn (e ▸ hiU)
          have := hc'.1 m hm (fun h => hn ((hUmem m).1 h).1)
          rw [this, upd_ne c hne]
        · by_cases hme : m = idxA H0.length A i
          · rw [hme, hc'.1 _ (by have := inv.len; omega) hiU']
            simp [upd]; rfl
          · exact hc'.2 m ((hUmem m).2 ⟨hm, hme⟩)
    · -- one of the row
      have hiV : i ∉ V := fun h => dVT h hiT
      have hiA : i ∉ A := fun h => dAT h hiT
      have hiTr : i ∈ Tr := by
        rw [hT] at hiT
        rcases List.mem_append.1 hiT with h | h
        · rw [hTd i h] at hun; cases hun
        · exact h
      -- it is the next one
      obtain ⟨Tr', hTr⟩ : ∃ Tr', Tr = i :: Tr' := by
        obtain ⟨pre, suf, hpre⟩ := List.append_of_mem hiTr
        cases hp : pre.getLast? with
        | none =>
          have : pre = [] := by simpa using hp
          exact ⟨suf, by rw [hpre, this]; rfl⟩
        | some p =>
          have hTe : T = (Td ++ pre) ++ i :: suf := by rw [hT, hpre]; simp
          have hwp := (tOk_spec pl.t hTe).2 p (by
            have : (Td ++ pre).getLast? = some p := by
              rw [List.getLast?_append, hp]; rfl
            rw [this])
          have hpm : p ∈ pre := List.mem_of_getLast? hp
          have := hwf p hwp
          rw [inv.trun p (by rw [hpre]; simp [hpm])] at this
          cases this
      subst hTr
      have hiTr' : i ∉ Tr' := fun h => by
        rw [hT] at ndT
        have := (List.nodup_append.1 ndT).2.1
        exact (List.nodup_cons.1 this).1 h
      have hUeq : ∀ m, m ∈ Uof H0.length A (listed.setIfInBounds i true) ↔ m ∈ Uof H0.length A listed := fun m => by
        rw [mem_Uof, mem_Uof]
        constructor
        · rintro ⟨k, hk, hl, rfl⟩; rw [hls'] at hl; simp at hl; exact ⟨k, hk, hl.1, rfl⟩
        · rintro ⟨k, hk, hl, rfl⟩; exact ⟨k, hk, by rw [hls']; simp [hl]; exact fun e => hiA (e ▸ hk), rfl⟩
      have hUl : ∀ m ∈ Uof H0.length A listed, m < Hc.length := fun m hm => by
        obtain ⟨k, hk, _, rfl⟩ := mem_Uof.1 hm
        have := idxA_lt (n := H0.length) hk
        have := inv.len
        omega
      have hmkH : ∀ H, mask (Uof H0.length A (listed.setIfInBounds i true)) H = mask (Uof H0.length A listed) H := fun H => List.ext_getElem? fun m => mask_congr (hUeq m)
      have hsame : ∀ c', AgU (Uof H0.length A listed) Hc.length c' c → ∀ tc, Fr ops t0 (fun e => !(i :: Tr').contains e) (cval P ops V A H0 v mk c' val) tc → ∀ x ∈ looks ops i, ta.getD x undef = tc.getD x undef := by
        intro c' hc' tc htc x hx
        refine Fr.same inv.fr htc (fun e he => ?_)
        have hde := (writer_eq pl.dst).1 he
        have key : e ∉ (i :: Tr') → ls listed e = true → ls listed e = (!(i :: Tr').contains e) ∧ (ls listed e = true → val e = cval P ops V A H0 v mk c' val e) := by
          intro hn hle
          refine ⟨by rw [hle]; simp at hn; simp [hn], fun _ => ?_⟩
          unfold cval
          by_cases hV : e ∈ V
          · simp only [hV, if_true]; exact inv.vval e hV hle
          · by_cases hA : e ∈ A
            · simp only [hV, hA, if_true, if_false]
              rw [inv.aval e hA hle, hc'.1 _ (by have := idxA_lt (n := H0.length) hA; have := inv.len; omega) (fun hm => ?_)]
              obtain ⟨k, hk, hl, hkk⟩ := mem_Uof.1 hm
              rw [idxA_inj hk hA hkk, hle] at hl
              cases hl
            · simp only [hV, hA, if_false]
        have notTr : ∀ e, (e ∈ V ∨ e ∈ A) → e ∉ (i :: Tr') := fun e he hm => by
          have : e ∈ T := by rw [hT]; exact List.mem_append_right _ hm
          rcases he with h | h
          · exact dVT h this
          · exact dAT h this
        rcases pl.all e (dstAt_lt hde) with hV | hA | hTe
        · rcases pl.lt' i hiT e (.inl hV) with h | h
          · exact key (notTr e (.inl hV)) (hwf e h)
          · exact (hblind e x hde hx h).elim
        · rcases pl.lt' i hiT e (.inr hA) with h | h
          · exact key (notTr e (.inr hA)) (hwf e h)
          · exact (hblind e x hde hx h).elim
        · rw [hT] at hTe
          rcases List.mem_append.1 hTe with h | h
          · refine key (fun hm => ?_) (hTd e h)
            rw [hT] at ndT
            exact (List.nodup_append.1 ndT).2.2 _ h _ hm rfl
          · have hle := inv.trun e h
            rw [hle]
            have hc : (i :: Tr').contains e = true := by simpa using h
            rw [hc]
            exact ⟨rfl, fun h => by cases h⟩
      -- the next promise, whatever this one leaves
      have hcvn : ∀ c' u, cval P ops V A H0 v mk c' (fun e => if e = i then u else val e) = fun e => if e = i then u else cval P ops V A H0 v mk c' val e := fun c' u => by
        funext e
        unfold cval
        by_cases hei : e = i
        · subst hei; simp [hiV, hiA]
        · simp [hei]
      have frn : ∀ c' u tc, Fr ops t0 (fun e => !(i :: Tr').contains e) (cval P ops V A H0 v mk c' val) tc → Fr ops t0 (fun e => !Tr'.contains e) (cval P ops V A H0 v mk c' (fun e => if e = i then u else val e)) (putL tc (dstAt ops i) u) := fun c' u tc h => by
        rw [hcvn]
        refine Fr.put pl.dst h (e := i) (fun j => ?_) (fun j _ hj => by simp [hj]) (by simp)
        by_cases hji : j = i
        · subst hji; simp [hiTr']
        · simp [hji]
      have uniq : ∀ c' u tc tc', Fr ops t0 (fun e => !Tr'.contains e) (cval P ops V A H0 v mk c' (fun e => if e = i then u else val e)) tc' → Fr ops t0 (fun e => !(i :: Tr').contains e) (cval P ops V A H0 v mk c' val) tc → tc' = putL tc (dstAt ops i) u := fun c' u tc tc' h h0 =>
        Fr.ext h (frn c' u tc h0) (fun _ _ _ => ⟨rfl, fun _ => rfl⟩) pl.dst
      -- the next state
      have next : ∀ (c1 : Lt) (H1 : List Obj) (sc1 : List It) (u : Value) (w' : World), agree Hc.length c1 c → Hc.length ≤ H1.length → (∀ it ∈ sc1, it ∈ scT) →
          (∀ k ∈ A, ls listed k = false → H1[idxA H0.length A k]? = Hc[idxA H0.length A k]?) → (∀ j ∈ V, ls listed j = false → ∀ m, kap j = some m → m < H0.length → H1[m]? = Hc[m]?) →
          (∀ c', AgU (Uof H0.length A listed) H1.length c' c1 → Can P ops V A H0 t0 v kap scA mk c' Tr' sc1 (fun e => if e = i then u else val e) H1) →
          Sat X B c1 (mask (Uof H0.length A listed) H1) w' → S w' → Chg X B w w' → wpAny P .any ops Q fuel (listed.setIfInBounds i true) ⟨(putL ta (dstAt ops i) u).toArray, d⟩ w' := by
        intro c1 H1 sc1 u w' hag hl1 hsub hA1 hV1 hcan hs1 hS1 hch1
        refine ih _ _ H1 c1 Tr' sc1 (fun e => if e = i then u else val e) w' cnt' ⟨size', closed', ⟨Td ++ [i], by rw [hT]; simp, fun j hj => by
          rw [hls']
          rcases List.mem_append.1 hj with h | h
          · simp [hTd j h]
          · simp at h; simp [h]⟩, iTr (fun j hj => inv.trun j (List.mem_cons_of_mem _ hj)) hiTr', fr' u, ?_, ?_, ?_, by have := inv.len; omega, ?_, ?_, by rw [hmkH]; exact hs1, hS1, inv.ch.trans hch1, fun it hm => inv.sub it (hsub it hm), fun m hm => by rw [hag m (hUl m ((hUeq m).1 hm))]; exact inv.plu m ((hUeq m).1 hm), ?_⟩
        · intro j hj hl
          have hji : j ≠ i := fun e => hiV (e ▸ hj)
          simp only [hji, if_false]; rw [hls'] at hl; simp [hji] at hl; exact inv.vval j hj hl
        · intro k hk hl
          have hki : k ≠ i := fun e => hiA (e ▸ hk)
          simp only [hki, if_false]; rw [hls'] at hl; simp [hki] at hl
          rw [hag _ (by have := idxA_lt (n := H0.length) hk; have := inv.len; omega)]
          exact inv.aval k hk hl
        · exact (hag.mono (by have := inv.len; omega)).trans inv.ag
        · intro k hk hl
          rw [hls'] at hl; simp at hl
          obtain ⟨ob, h1, h2⟩ := inv.hA k hk hl.1
          exact ⟨ob, h1, (hA1 k hk hl.1).trans h2⟩
        · intro j hj hl m hm
          rw [hls'] at hl; simp at hl
          have h1 := inv.hV j hj hl.1 m hm
          rw [hmkH]
          have hmU : m ∉ Uof H0.length A listed ∧ m < H0.length := by
            by_cases hmu : m ∈ Uof H0.length A listed
            · rw [mask_at hmu (hUl m hmu)] at h1
              have h2 := (List.getElem?_eq_some_iff.1 h1.symm).1
              obtain ⟨k, hk, _, rfl⟩ := mem_Uof.1 hmu
              have := idxA_lt (n := H0.length) hk
              omega
            · refine ⟨hmu, ?_⟩
              exact hkl j hj m hm
          rw [mask_get hmU.1, hV1 j hj hl.1 m hm hmU.2, ← h1, mask_get hmU.1]
        · intro c' hc'
          exact hcan c' ⟨fun m hm hn => hc'.1 m hm (fun h => hn ((hUeq m).1 h)), fun m hm => hc'.2 m ((hUeq m).2 hm)⟩
      -- what the promise says of this operation
      have hwtc : ∀ c', AgU (Uof H0.length A listed) Hc.length c' c → ∀ tc, Fr ops t0 (fun e => !(i :: Tr').contains e) (cval P ops V A H0 v mk c' val) tc → (∀ x ∈ o.op.operands, evL ta x = evL tc x) ∧ Region.wanted o (yielded ops ta.toArray) = Region.wanted o (yielded ops tc.toArray) := fun c' hc' tc htc =>
        looks_congr ho (inv.fr.len.trans htc.len.symm) (hsame c' hc' tc htc)
      unfold wpOp
      simp only [ho]
      by_cases hw : Region.wanted o (yielded ops ta.toArray) = true
      · rw [hw]
        simp only [if_true]
        refine .inl ?_
        -- its item
        obtain ⟨tcc, htcc⟩ := Fr.make ops t0 (fun e => !(i :: Tr').contains e) (cval P ops V A H0 v mk c val)
        obtain ⟨tf0, scf0, wrs0, Hf0, o0, obx0, h01, _, _, _, h05⟩ := inv.prom c ⟨fun _ _ _ => rfl, inv.plu⟩ tcc htcc
        simp only [symT, ho] at h01
        rw [← (hwtc c ⟨fun _ _ _ => rfl, inv.plu⟩ tcc htcc).2, hw] at h01
        cases hsc : scT with
        | nil => rw [hsc] at h01; cases h01
        | cons it sc1 =>
          have hitA : it ∈ scA := inv.sub it (by rw [hsc]; exact List.mem_cons_self ..)
          -- at all letters
          have at_ : ∀ c', AgU (Uof H0.length A listed) Hc.length c' c → ∀ tc, Fr ops t0 (fun e => !(i :: Tr').contains e) (cval P ops V A H0 v mk c' val) tc →
              ∃ u H1 o1, symOp P c' it o (evL ta) Hc = some (u, H1, o1) ∧ okL o1 ∧ ∃ tf scf wrs Hf o2 obx, symT P c' ops Tr' sc1 (putL tc (dstAt ops i) u) H1 = some ((tf, scf, wrs), Hf, o2) ∧ okL o2 ∧
                symReg P c' ops true scA t0 H0 = some ((tf, scf), Hf, obx) ∧ okL obx ∧ kapB ops H0.length V A (V.map kap) (i :: Tr') ((it.blks, it.wrs) :: wrs) = true := by
            intro c' hc' tc htc
            obtain ⟨tf, scf, wrs, Hf, o', obx, h1, h2, h3, h4, h5⟩ := inv.prom c' hc' tc htc
            obtain ⟨hops, hwt⟩ := hwtc c' hc' tc htc
            rw [hsc] at h1
            simp only [symT, ho] at h1
            rw [← hwt, hw] at h1
            simp only at h1
            obtain ⟨u, H1, o1, o2, h6, h7, rfl⟩ := bnd_some.1 h1
            obtain ⟨y, Hy, o3, o4, h8, h9, rfl⟩ := bnd_some.1 h7
            simp at h9
            obtain ⟨⟨rfl, rfl, rfl⟩, rfl, rfl⟩ := h9
            obtain ⟨ho1, ho2⟩ := okL_app.1 h2
            rw [symOp_congr (pl.nosel i o · · ho) (fun x hx => (hops x hx).symm)] at h6
            rw [hdst] at h8
            exact ⟨u, H1, o1, h6, ho1, y.1, y.2.1, y.2.2, Hy, o3, obx, h8, (okL_app.1 ho2).1, h3, h4, h5⟩
          -- the blocks that it turns
          obtain ⟨_, _, _, _, _, _, _, wrs1, _, _, _, _, _, _, _, hkap⟩ := at_ c ⟨fun _ _ _ => rfl, inv.plu⟩ tcc htcc
          simp only [kapB, Bool.and_eq_true] at hkap
          have hkap1 := fun m hm => List.all_eq_true.1 hkap.1.1 m hm
          have hkap2 := fun m hm => List.all_eq_true.1 hkap.1.2 m hm
          have blkU : ∀ m ∈ it.blks, m ∉ Uof H0.length A listed := fun m hm hu => by
            obtain ⟨k, hk, hl, rfl⟩ := mem_Uof.1 hu
            have := hkap1 _ hm
            have h2 := List.all_eq_true.1 this k hk
            simp only [Bool.or_eq_true, bne_self_eq_false, Bool.false_eq_true, false_or] at h2
            rw [hws k h2] at hl; cases hl
          have blkV : ∀ j ∈ V, ls listed j = false → ∀ m, kap j = some m → m ∉ it.wrs := fun j hj hl m hm hb => by
            have := hkap2 _ hb
            have hz : (j, kap j) ∈ V.zip (V.map kap) := by
              rw [List.zip_map_right]
              exact List.mem_map.2 ⟨(j, j), by
                rw [List.zip_eq_zipWith, List.zipWith_self]
                exact List.mem_map.2 ⟨j, hj, rfl⟩, rfl⟩
            have h2 := List.all_eq_true.1 this _ hz
            simp only [hm, Bool.or_eq_true, bne_self_eq_false, Bool.false_eq_true, false_or] at h2
            rw [hws j h2] at hl; cases hl
          have hmo : ∀ c' u H1 o1, symOp P c' it o (evL ta) Hc = some (u, H1, o1) → symOp P c' it o (evL ta) (mask (Uof H0.length A listed) Hc) = some (u, mask (Uof H0.length A listed) H1, o1) ∧ ∀ k, k < Hc.length → k ∉ it.blks → H1[k]? = Hc[k]? :=
            fun c' u H1 o1 h => symOp_mask blkU hUl h
          have hR : Ran (mask (Uof H0.length A listed) Hc).length c (fun c' => symOp P c' it o (evL ta) (mask (Uof H0.length A listed) Hc)) := fun c' hc' => by
            rw [mask_len] at hc'
            obtain ⟨tc, htc⟩ := Fr.make ops t0 (fun e => !(i :: Tr').contains e) (cval P ops V A H0 v mk c' val)
            obtain ⟨u, H1, o1, h1, h2, _⟩ := at_ c' ⟨fun m hm _ => hc' m hm, fun m hm => by rw [hc' m (hUl m hm)]; exact inv.plu m hm⟩ tc htc
            exact ⟨u, _, o1, (hmo c' u H1 o1 h1).1, h2⟩
          refine symOp_sound hUp inv.sat inv.s (hit it hitA) hR (fun c1 v1 H1a ob w' ag1 hr1 hob1 hs1 hS1 hch1 => ?_)
          rw [mask_len] at ag1
          rw [putL_eq, hdst]
          obtain ⟨tc1, htc1⟩ := Fr.make ops t0 (fun e => !(i :: Tr').contains e) (cval P ops V A H0 v mk c1 val)
          obtain ⟨u, H1, o1, h1, h2, _⟩ := at_ c1 ⟨fun m hm _ => ag1 m hm, fun m hm => by rw [ag1 m (hUl m hm)]; exact inv.plu m hm⟩ tc1 htc1
          obtain ⟨hm1, hm2⟩ := hmo c1 u H1 o1 h1
          have := hm1.symm.trans hr1
          simp at this
          obtain ⟨rfl, rfl, rfl⟩ := this
          have hlen := (symOp_blks h1).1
          refine next c1 H1 sc1 u w' ag1 hlen (fun x hx => by rw [hsc]; exact List.mem_cons_of_mem _ hx) (fun k hk hl => ?_) (fun j hj hl m hm hmn => ?_) ?_ hs1 hS1 hch1
          · exact hm2 _ (by have := idxA_lt (n := H0.length) hk; have := inv.len; omega) (fun hb => blkU _ hb (mem_Uof.2 ⟨k, hk, hl, rfl⟩))
          · exact symOp_wrs (hit it hitA) h1 h2 m (by have := inv.len; omega) (blkV j hj hl m hm)
          · intro c' hc' tc' htc'
            have hcons : AgU (Uof H0.length A listed) Hc.length c' c := ⟨fun m hm hn => (hc'.1 m (by omega) hn).trans (ag1 m hm), hc'.2⟩
            obtain ⟨tc, htc⟩ := Fr.make ops t0 (fun e => !(i :: Tr').contains e) (cval P ops V A H0 v mk c' val)
            obtain ⟨u', H1', o1', h1', h2', tf, scf, wrs, Hf, o2, obx, h3, h4, h5, h6, h7⟩ := at_ c' hcons tc htc
            obtain ⟨o1'', h8⟩ := (symOp_blks h1).2 c' (fun m hm => by
              rcases hm with ⟨hm, hm'⟩ | ⟨hm, hm'⟩
              · exact hc'.1 m (by omega) (blkU m hm)
              · exact hc'.1 m hm' (fun hu => by have := hUl m hu; omega))
            have := h1'.symm.trans h8
            simp at this
            obtain ⟨rfl, rfl, rfl⟩ := this
            rw [uniq c' u' tc tc' htc' htc]
            simp only [kapB, Bool.and_eq_true] at h7
            exact ⟨tf, scf, wrs, Hf, o2, obx, h3, h4, h5, h6, h7.2⟩
      · have hwf0 : Region.wanted o (yielded ops ta.toArray) = false := by simpa using hw
        rw [hwf0]
        simp only [Bool.false_eq_true, if_false]
        rw [putL_eq, hdst]
        refine next c Hc scT undef w agree.rfl' (Nat.le_refl _) (fun _ h => h) (fun _ _ _ => rfl) (fun _ _ _ _ _ _ => rfl) ?_ inv.sat inv.s (.refl ..)
        intro c' hc' tc' htc'
        obtain ⟨tc, htc⟩ := Fr.make ops t0 (fun e => !(i :: Tr').contains e) (cval P ops V A H0 v mk c' val)
        obtain ⟨tf, scf, wrs, Hf, o', obx, h1, h2, h3, h4, h5⟩ := inv.prom c' hc' tc htc
        simp only [symT, ho] at h1
        rw [← (hwtc c' hc' tc htc).2, hwf0] at h1
        simp only at h1
        obtain ⟨_, H1, o1, o2, h6, h7, rfl⟩ := bnd_some.1 h1
        simp at h6
        obtain ⟨rfl, rfl⟩ := h6
        obtain ⟨y, Hy, o3, o4, h8, h9, rfl⟩ := bnd_some.1 h7
        simp at h9
        obtain ⟨⟨rfl, rfl, rfl⟩, rfl, rfl⟩ := h9
        rw [hdst] at h8
        rw [uniq c' undef tc tc' htc' htc]
        simp only [kapB, Bool.and_eq_true] at h5
        exact ⟨y.1, y.2.1, y.2.2, Hy, o3, obx, h8, (okL_app.1 (okL_app.1 h2).2).1, h3, h4, h5.2⟩
theorem symAny_sound (hUp : ∀ w w', S w → Chg X B w w' → S w') {A T : List Nat} {its : List It} (hit : ∀ it ∈ its, ItOk P X B S it) {d : List Deferred} {Q : Exit → Act → World → Prop} : ∀ (fuel : Nat) (listed : Array Bool) (t : List Value) (H : List Obj) (w : World) (b : Lt),
    Sat X B b H w → S w → Ran H.length b (fun b => symAny P b ops A T its fuel listed t H) →
    (∀ c t' H' ob w', agree H.length c b → symAny P c ops A T its fuel listed t H = some (t', H', ob) → okL ob → Sat X B c H' w' → S w' → Chg X B w w' → Q .normal ⟨t'.toArray, d⟩ w') →
    wpAny P .any ops Q fuel listed ⟨t.toArray, d⟩ w
  | 0, listed, t, H, w, b, hs, hS, h, K => by
    obtain ⟨x, Hx, ox, hx, hox⟩ := h.self
    simp only [symAny] at hx
    split at hx
    · rename_i hr
      exact ⟨hr, K b t H [] w agree.rfl' (by simp only [symAny, hr]) rfl hs hS (.refl ..)⟩
    · cases hx
  | fuel + 1, listed, t, H, w, b, hs, hS, h, K => by
    refine ⟨fun hr => K b t H [] w agree.rfl' (by simp only [symAny, hr]) rfl hs hS (.refl ..), fun i hi => ?_⟩
    have one : ∀ c, agree H.length c b → ∃ t' H' o o1, symAny P c ops A T its (fuel + 1) listed t H = some (t', H', o) ∧ okL o ∧ symOne P c ops A T its (symAny P c ops A T its fuel) listed t H i = some (t', H', o1) ∧ okL o1 := fun c hc => by
      obtain ⟨x, Hx, ox, hx, hox⟩ := h c hc
      have hx0 := hx
      simp only [symAny] at hx
      split at hx
      · rename_i hr
        rw [hr] at hi
        cases hi
      · rename_i i0 rs hr
        rw [hr] at hi
        obtain ⟨o1, h1, ho1⟩ := joinAll_spec hx hox _ (List.mem_map.2 ⟨i, hi, rfl⟩)
        exact ⟨x, Hx, ox, o1, hx0, hox, h1, ho1⟩
    unfold wpOp
    cases ho : ops[i]? with
    | none =>
      obtain ⟨_, _, _, _, _, _, h1, _⟩ := one b agree.rfl'
      simp only [symOne, ho] at h1
      cases h1
    | some o =>
      simp only
      cases hw : Region.wanted o (yielded ops t.toArray) with
      | false =>
        simp only [Bool.false_eq_true, if_false]
        rw [putL_eq]
        refine symAny_sound (A := A) (T := T) hUp hit fuel _ _ H w b hs hS (fun c hc => ?_) (fun c t' H' ob w' ag hr hob hs' hS' hch => ?_)
        · obtain ⟨t', H', _, o1, _, _, h1, h2⟩ := one c hc
          simp only [symOne, ho, hw] at h1
          exact ⟨_, _, _, h1, h2⟩
        · obtain ⟨t2, H2, o2, o1, h0, h0o, h1, h2⟩ := one c ag
          simp only [symOne, ho, hw] at h1
          have := h1.symm.trans hr
          simp at this
          obtain ⟨rfl, rfl, rfl⟩ := this
          exact K c _ _ o2 w' ag h0 h0o hs' hS' hch
      | true =>
        simp only [if_true]
        refine .inl ?_
        cases hit' : pickI ops.size A T its listed i with
        | none =>
          obtain ⟨_, _, _, _, _, _, h1, _⟩ := one b agree.rfl'
          simp only [symOne, ho, hw, hit'] at h1
          cases h1
        | some it =>
          have parts : ∀ c, agree H.length c b → ∃ v H1 oa, symOp P c it o (evL t) H = some (v, H1, oa) ∧ okL oa ∧ ∃ t' H' ob, symAny P c ops A T its fuel (listed.setIfInBounds i true) (putL t o.dst v) H1 = some (t', H', ob) ∧ okL ob ∧ ∃ oc, symAny P c ops A T its (fuel + 1) listed t H = some (t', H', oc) ∧ okL oc := fun c hc => by
            obtain ⟨t', H', o0, o1, h0, h0o, h1, h2⟩ := one c hc
            simp only [symOne, ho, hw, hit'] at h1
            obtain ⟨v, H1, oa, ob, h3, h4, rfl⟩ := bnd_some.1 h1
            exact ⟨v, H1, oa, h3, (okL_app.1 h2).1, t', H', ob, h4, (okL_app.1 h2).2, o0, h0, h0o⟩
          refine symOp_sound hUp hs hS (hit it (pickI_mem hit')) (fun c hc => ?_) (fun c1 v1 H1 ob w' ag1 hr1 hob1 hs1 hS1 hch1 => ?_)
          · obtain ⟨v, H1, oa, h1, h2, _⟩ := parts c hc
            exact ⟨v, H1, oa, h1, h2⟩
          rw [putL_eq]
          obtain ⟨hlen, hdep⟩ := symOp_Dep it o (evL t) H c1 c1 v1 H1 ob hr1 hob1
          have same : ∀ c, agree H1.length c c1 → ∃ o', symOp P c it o (evL t) H = some (v1, H1, o') := fun c hc => (symOp_Dep it o (evL t) H c1 c v1 H1 ob hr1 hob1).2 hc
          refine symAny_sound (A := A) (T := T) hUp hit fuel _ _ H1 w' c1 hs1 hS1 (fun c hc => ?_) (fun c t' H' ob2 w2 ag2 hr2 hob2 hs2 hS2 hch2 => ?_)
          · obtain ⟨v, H2, oa, h1, h2, t', H', ob3, h3, h4, _⟩ := parts c ((hc.mono hlen).trans ag1)
            obtain ⟨o', h5⟩ := same c hc
            have := h1.symm.trans h5
            simp at this
            obtain ⟨rfl, rfl, rfl⟩ := this
            exact ⟨t', H', ob3, h3, h4⟩
          · obtain ⟨v, H2, oa, h1, h2, t3, H3, ob3, h3, h4, oc, h6, h7⟩ := parts c ((ag2.mono hlen).trans ag1)
            obtain ⟨o', h5⟩ := same c ag2
            have := h1.symm.trans h5
            simp at this
            obtain ⟨rfl, rfl, rfl⟩ := this
            have := h3.symm.trans hr2
            simp at this
            obtain ⟨rfl, rfl, rfl⟩ := this
            exact K c _ _ oc w2 ((ag2.mono hlen).trans ag1) h6 h7 hs2 hS2 (hch1.trans hch2)
/-- What the run with letters says of a region, holds. -/
theorem symReg_sound (hUp : ∀ w w', S w → Chg X B w w' → S w') (id : Nat) (ops : Array Oper) (draw : Bool) {Q : Exit → Act → World → Prop} {d : List Deferred} (sc : List It) (t : List Value) (H : List Obj) (w : World) (b : Lt)
    (hs : Sat X B b H w) (hS : S w) (hit : ∀ it ∈ sc, ItOk P X B S it) (h : Ran H.length b (fun b => symReg P b ops draw sc t H))
    (K : ∀ c t' sc' H' ob w', agree H.length c b → symReg P c ops draw sc t H = some ((t', sc'), H', ob) → okL ob → Sat X B c H' w' → S w' → Chg X B w w' → (∀ it ∈ sc', it ∈ sc) → Q .normal ⟨t'.toArray, d⟩ w') :
    (Code.region id ops draw).wp P Q ⟨t.toArray, d⟩ w := by
  cases draw with
  | false => exact wp_region_list (symOps_sound hUp ops _ sc t H w b hs hS hit h K)
  | true =>
    obtain ⟨x, Hx, obx, hx, hox⟩ := h.self
    rcases sc with _ | ⟨it, sc⟩
    · simp [symReg] at hx
    cases it
    case r V A T mk =>
      have hx' := hx
      simp only [symReg] at hx'
      split at hx'
      · rename_i hpl
        simp only [Bool.and_eq_true] at hpl
        obtain ⟨hm, hpb⟩ := hpl
        have pl := planB_spec hpb
        have heq : ∀ c, symReg P c ops true (.r V A T mk :: sc) t H = symDraw P c ops V A T mk sc t H := fun c => by simp only [symReg, hm, hpb, Bool.and_self]
        -- the operations that only read
        have nd := pl.nodup
        have ndV : (V ++ []).Nodup := by simpa using (List.nodup_append.1 (List.nodup_append.1 nd).1).1
        have ndA : A.Nodup := (List.nodup_append.1 (List.nodup_append.1 nd).1).2.1
        have dVA : ∀ {x}, x ∈ V → x ∉ A := fun hx ha => by
          have := (List.nodup_append.1 (List.nodup_append.1 nd).1).2.2
          exact this _ hx _ ha rfl
        have parts : ∀ c, agree H.length c b → ∃ t1 sc1 l ob1 t2 H2 o2 tf scf wrs Hf o3 obx, symV P c ops H V sc t = some ((t1, sc1, l), ob1) ∧ okL ob1 ∧ symAl P c ops mk A t1 H = some (t2, H2, o2) ∧ okL o2 ∧ symT P c ops T sc1 t2 H2 = some ((tf, scf, wrs), Hf, o3) ∧ okL o3 ∧
            symReg P c ops true (.r V A T mk :: sc) t H = some ((tf, scf), Hf, obx) ∧ okL obx ∧ kapB ops H.length V A (l.map Prod.snd) T wrs = true ∧ kapLt H.length (l.map Prod.snd) = true := by
          intro c hc
          obtain ⟨y, Hy, oy, hy, hoy⟩ := h c hc
          have hy0 := hy
          simp only [heq, symDraw] at hy
          split at hy
          · rename_i x1 ob1 hv
            obtain ⟨t1, sc1, l⟩ := x1
            obtain ⟨t2, H2, o1, o2, h1, h2, rfl⟩ := bnd_some.1 hy
            obtain ⟨_, H3, o3, o4, h3, h4, rfl⟩ := bnd_some.1 h1
            simp at h3
            obtain ⟨rfl, rfl⟩ := h3
            obtain ⟨z, Hz, o5, o6, h5, h6, rfl⟩ := bnd_some.1 h2
            split at h6
            · rename_i hk
              simp only [Bool.and_eq_true] at hk
              simp at h6
              obtain ⟨rfl, rfl, rfl⟩ := h6
              obtain ⟨ho1, ho2⟩ := okL_app.1 hoy
              exact ⟨t1, sc1, l, ob1, t2, H2, o4, z.1, z.2.1, z.2.2, Hz, o5, _, hv, (okL_app.1 ho1).1, h4, (okL_app.1 ho1).2, h5, (okL_app.1 ho2).1, hy0, hoy, hk.1, hk.2⟩
            · cases h6
          · cases hy
        have fr0 : ∀ val, Fr ops t (fun e => ([] : List Nat).contains e) val t := fun val => Fr.start ops t _ val (fun e => rfl)
        have hit1 : ∀ it ∈ sc, ItOk P X B S it := fun i hi => hit i (List.mem_cons_of_mem _ hi)
        obtain ⟨c0, hc0, hc0u⟩ : ∃ c0 : Lt, agree H.length c0 b ∧ ∀ m, H.length ≤ m → (c0 m).u = plainU := ⟨fun i => if H.length ≤ i then ⟨(b i).n, plainU⟩ else b i, fun i hi => by simp [Nat.not_le.2 hi], fun m hm => by simp [hm]⟩
        obtain ⟨t1, sc1, l, ob1, t2, H2, o2, _, _, _, _, _, _, hv0, hob0, hal0, hoa0, _, _, _, _, _, hkl0⟩ := parts c0 hc0
        obtain ⟨v, kap, hl, _, hfr1, hsub1, _⟩ := symV_facts (P := P) (X := X) (B := B) (S := S) (c := c0) (H0 := H) pl.dst V [] sc t t1 sc1 l ob1 (fun _ => undef) (fr0 _) ndV hit1 hv0 hob0
        have hkm : l.map Prod.snd = V.map kap := by rw [hl, List.map_map]; rfl
        -- the same values at all letters
        have hvf : ∀ c, agree H.length c b → ∀ pre i suf, V = pre ++ i :: suf → VFact P X B S ops c H t v kap (pre.reverse ++ []) i := by
          intro c hc pre i suf hVe
          obtain ⟨t1', sc1', l', ob1', _, _, _, _, _, _, _, _, _, hv', hob', _, _⟩ := parts c hc
          obtain ⟨obc, hvc⟩ := symV_dep (c := c) V sc t _ _ hv0
          have := hvc.symm.trans hv'
          simp at this
          obtain ⟨⟨rfl, rfl, rfl⟩, rfl⟩ := this
          obtain ⟨v', kap', hl', _, _, _, hf'⟩ := symV_facts (P := P) (X := X) (B := B) (S := S) (c := c) (H0 := H) pl.dst V [] sc t t1 sc1 l obc (fun _ => undef) (fr0 _) ndV hit1 hv' hob'
          have hvv : ∀ j ∈ V, v' j = v j ∧ kap' j = kap j := by
            have h1 := hl'.symm.trans hl
            intro j hj
            have := List.map_inj_left.1 h1 j hj
            simpa using this
          obtain ⟨ti, o, ho, hfr, hcase⟩ := hf' pre i suf hVe
          have hiV : i ∈ V := by rw [hVe]; simp
          refine ⟨ti, o, ho, ⟨hfr.len, fun x => ?_⟩, by rw [← (hvv i hiV).1, ← (hvv i hiV).2]; exact hcase⟩
          rw [hfr.get x]
          split
          · rename_i e he
            by_cases hce : (pre.reverse ++ []).contains e = true
            · have : e ∈ V := by rw [hVe]; simp at hce; simp [hce]
              simp only [hce, true_and]; rw [(hvv e this).1]
            · have : (pre.reverse ++ []).contains e = false := by simpa using hce
              simp only [this, Bool.false_eq_true, false_and, if_false]
          · rfl
        obtain ⟨_, hlA, holdA, hobA, hAf⟩ := symAl_facts (P := P) (c := c0) pl.dst A t1 t2 H H2 o2 (fun e => (V.reverse ++ []).contains e) v ndA (fun k hk => by
          have : k ∉ V := fun h => dVA h hk
          simpa using this) hfr1 hal0
        refine wp_region_any hm ?_
        have hl0 : ∀ i, ls (Array.replicate ops.size false) i = false := fun i => getD_replicate_false _ _
        have hU0 : ∀ m, m ∈ Uof H.length A (Array.replicate ops.size false) ↔ ∃ k ∈ A, idxA H.length A k = m := fun m => by
          rw [mem_Uof]
          exact ⟨fun ⟨k, hk, _, e⟩ => ⟨k, hk, e⟩, fun ⟨k, hk, e⟩ => ⟨k, hk, hl0 k, e⟩⟩
        have hUin : ∀ m, H.length ≤ m → m < H2.length → m ∈ Uof H.length A (Array.replicate ops.size false) := fun m h1 h2 => by
          rw [hU0]
          have hlt : m - H.length < A.length := by omega
          refine ⟨A[m - H.length], List.getElem_mem hlt, ?_⟩
          rw [idxA, idxOf_nodup ndA]; omega
        have hUge : ∀ m ∈ Uof H.length A (Array.replicate ops.size false), H.length ≤ m := fun m hm => by
          obtain ⟨k, hk, rfl⟩ := (hU0 m).1 hm
          exact (idxA_lt hk).1
        have hmk0 : ∀ m, m < H.length → (mask (Uof H.length A (Array.replicate ops.size false)) H2)[m]? = H[m]? := fun m hm => by
          rw [mask_get (fun hu => by have := hUge m hu; omega)]
          exact holdA m hm
        have hsat0 : Sat X B c0 (mask (Uof H.length A (Array.replicate ops.size false)) H2) w.drew := by
          have hd : Sat X B c0 H w.drew := hs.drew.of_agree hc0
          have real_lt : ∀ (m k : Nat) (o : Obj) (l : L1) (x : Nat) (p : Obj), (mask (Uof H.length A (Array.replicate ops.size false)) H2)[m]? = some o → own o l k = some (x, p) → H[m]? = some o := by
            intro m k o l x p hm hr
            have hlt := (List.getElem?_eq_some_iff.1 hm).1
            rw [mask_len] at hlt
            rcases Nat.lt_or_ge m H.length with h1 | h1
            · rw [← hmk0 m h1]; exact hm
            · rw [mask_at (hUin m h1 hlt) hlt] at hm
              cases hm
              simp [own, unb] at hr
          exact ⟨fun m k o x p hm hr => hd.hold_ m k o x p (real_lt m k o _ x p hm hr) hr, fun m k o x p hm hr => hd.mine_ m k o x p (real_lt m k o _ x p hm hr) hr, fun m m' k k' o o' x p p' hm hr hm' hr' => hd.inj_ m m' k k' o o' x p p' (real_lt m k o _ x p hm hr) hr (real_lt m' k' o' _ x p' hm' hr') hr', hd.base⟩
        refine region_draws (P := P) (ops := ops) (V := V) (A := A) (T := T) (H0 := H) (t0 := t) (b0 := b) (w0 := w) (v := v) (kap := kap) (scA := .r V A T mk :: sc) (mk := mk) hUp hm pl hit ?_ hvf (hit _ (List.mem_cons_self ..)) ?_ K ops.size (Array.replicate ops.size false) t H2 c0 T sc1 (fun _ => undef) w.drew
          (by refine Nat.le_trans (List.length_filter_le _ _) (by simp)) ?_
        · intro i hi m hm2
          rw [hkm] at hkl0
          have := List.all_eq_true.1 hkl0 (kap i) (List.mem_map.2 ⟨i, hi, rfl⟩)
          rw [hm2] at this
          simpa using this
        · intro k hk
          obtain ⟨tk, done2, val2, g1, g2, g0, g3, g4⟩ := hAf hoa0 k hk
          refine ⟨tk, done2, val2, g1, g2, g0, fun e he => ?_, fun e he => ?_⟩
          · obtain ⟨g5, g6⟩ := g3 e (by simp [he])
            exact ⟨g5, g6 (dVA he)⟩
          · rcases g4 e he with h | h
            · simp at h; exact .inl h
            · exact .inr h
        · refine ⟨by simp, fun j oj _ hl => (by rw [hl0] at hl; cases hl), ⟨[], rfl, fun j hj => by cases hj⟩, fun j _ => hl0 j, Fr.start ops t _ _ hl0, fun i _ hl => (by rw [hl0] at hl; cases hl), fun k _ hl => (by rw [hl0] at hl; cases hl), hc0, by omega, fun k hk _ => by
            obtain ⟨ob, h1, h2⟩ := hobA k hk
            rw [hc0u _ (idxA_lt hk).1] at h2
            exact ⟨ob, h1, h2⟩, ?_, hsat0, hUp _ _ hS (.drew ..), .drew .., fun it hm => List.mem_cons_of_mem _ (hsub1 it hm), fun m hm => hc0u m (hUge m hm), ?_⟩
          · intro i hi _ m hm2
            rw [hkm] at hkl0
            have := List.all_eq_true.1 hkl0 (kap i) (List.mem_map.2 ⟨i, hi, rfl⟩)
            rw [hm2] at this
            exact hmk0 m (by simpa using this)
          · intro c' hc' tc htc
            have hag : agree H.length c' b := fun m hm2 => (hc'.1 m (by omega) (fun hu => by have := hUge m hu; omega)).trans (hc0 m hm2)
            obtain ⟨t1', sc1', l', ob1', t2', H2', o2', tf, scf, wrs, Hf, o3, obx2, hv', hob', hal', _, hT', hoT', hreg', hoR', hkB', _⟩ := parts c' hag
            obtain ⟨obc, hvc⟩ := symV_dep (c := c') V sc t _ _ hv0
            have := hvc.symm.trans hv'
            simp at this
            obtain ⟨⟨rfl, rfl, rfl⟩, rfl⟩ := this
            obtain ⟨hfrA', hlA', holdA', hobA', _⟩ := symAl_facts (P := P) (c := c') pl.dst A t1 t2' H H2' o2' (fun e => (V.reverse ++ []).contains e) v ndA (fun k hk => by
              have : k ∉ V := fun h => dVA h hk
              simpa using this) hfr1 hal'
            -- the blocks made are the same
            have hH2 : H2' = H2 := by
              apply List.ext_getElem?
              intro m
              rcases Nat.lt_or_ge m H.length with h1 | h1
              · rw [holdA' m h1, holdA m h1]
              · rcases Nat.lt_or_ge m H2.length with h2 | h2
                · obtain ⟨k, hk, rfl⟩ := (hU0 m).1 (hUin m h1 h2)
                  obtain ⟨ob, h3, h4⟩ := hobA k hk
                  obtain ⟨ob', h5, h6⟩ := hobA' k hk
                  rw [h3] at h5
                  cases h5
                  have hu := hUin _ h1 h2
                  rw [h4, h6, hc'.2 _ hu, hc0u _ h1]
                · rw [List.getElem?_eq_none h2, List.getElem?_eq_none (by omega)]
            subst hH2
            have htc2 : tc = t2' := by
              refine Fr.ext htc hfrA' (fun e d hde => ?_) pl.dst
              have hmem := pl.all e (dstAt_lt hde)
              have dT : ∀ {x}, x ∈ V ∨ x ∈ A → x ∉ T := fun hx ht => by
                refine (List.nodup_append.1 nd).2.2 _ (List.mem_append.2 hx) _ ht rfl
              unfold cval
              rcases hmem with h1 | h1 | h1
              · have h2 := dT (.inl h1)
                have h3 := dVA h1
                simp [h1, h2, h3]
              · have h2 := dT (.inr h1)
                have h3 : e ∉ V := fun h => dVA h h1
                simp [h1, h2, h3]
              · have h2 : e ∉ V := fun h => dT (.inl h) h1
                have h3 : e ∉ A := fun h => dT (.inr h) h1
                simp [h1, h2, h3]
            rw [htc2]
            rw [hkm] at hkB'
            exact ⟨tf, scf, wrs, Hf, o3, obx2, hT', hoT', hreg', hoR', hkB'⟩
      · rename_i hpl
        split at hx'
        · split at hx'
          · rename_i hm
            have heq : ∀ c, symReg P c ops true (.r [] A T mk :: sc) t H = symAnyR P c ops A T sc t H := fun c => by
              simp only [symReg, hpl]
              simp only [hm]
            refine wp_region_any hm (symAny_sound hUp (A := A) (T := T) (its := sc.take (ops.size + A.length)) (fun it hm => hit it (List.mem_cons_of_mem _ (List.mem_of_mem_take hm))) ops.size _ t H w.drew b hs.drew (hUp _ _ hS (.drew ..)) (fun c hc => ?_) (fun c t' H' ob w' ag hr hob hs' hS' hch => ?_))
            · obtain ⟨y, Hy, oy, hy, hoy⟩ := h c hc
              simp only [heq, symAnyR] at hy
              split at hy
              · rename_i t1 H1 o1 h1
                simp at hy
                obtain ⟨rfl, rfl, rfl⟩ := hy
                exact ⟨_, _, _, h1, hoy⟩
              · cases hy
            · exact K c t' (sc.drop (ops.size + A.length)) H' ob w' ag (by rw [heq]; unfold symAnyR; simp only [hr]) hob hs' hS' (Chg.trans (.drew ..) hch) (fun it hm => List.mem_cons_of_mem _ (List.mem_of_mem_drop hm))
          · cases hx'
        · cases hx'
    all_goals (simp [symReg] at hx)
end
end Go.Proofs.YtlpjdjbophcomaaDoor

