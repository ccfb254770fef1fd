/-
  Regions that draw their order: operations that only read, allocs, and a row of others that come one behind the other; whatever order is drawn, the end is one. Nothing of the program stands here.
-/
import Derived.Test.YtlpjdjbophcomaaDoorRxC
namespace Go.Proofs.YtlpjdjbophcomaaDoor
open Go.RowKit
set_option linter.unusedVariables false
set_option linter.unusedSimpArgs false
/-! ### The plan of a region -/
/-- Number j waits for number i. -/
def wfo (ops : Array Oper) (j i : Nat) : Bool := Region.waitsFor .any ops j i
def dstAt (ops : Array Oper) (i : Nat) : Option Tmp := (ops[i]?).bind (·.dst)
def looks (ops : Array Oper) (i : Nat) : List Tmp := match ops[i]? with | some o => o.looksAt ops | none => []
/-- What number i does not look at, number e leaves. -/
def blind (ops : Array Oper) (i e : Nat) : Bool := match dstAt ops e with | some d => !(looks ops i).contains d | none => true
def edgesIn (ops : Array Oper) (i : Nat) (l : List Nat) : Bool := match ops[i]? with | some o => o.after.all fun e => !Region.binds .any e || l.contains e.on | none => false
def vOk (ops : Array Oper) : List Nat → List Nat → Bool
  | _, [] => true
  | seen, i :: V => edgesIn ops i seen && vOk ops (i :: seen) V
def tOk (ops : Array Oper) : Option Nat → List Nat → List Nat → Bool
  | _, _, [] => true
  | prev, seen, j :: T => edgesIn ops j seen && (match prev with | some p => wfo ops j p | none => true) && tOk ops (some j) (j :: seen) T
/-- It waits for nothing but what only reads, and looks at nothing else. -/
def looseA (ops : Array Oper) (V all : List Nat) (k : Nat) : Bool := match ops[k]? with | some o => edgesIn ops k V && o.guard.isNone && all.all (fun e => e == k || wfo ops k e || wfo ops e k || blind ops k e) | none => false
def dstsOk (ops : Array Oper) (N : Nat) : Bool := (List.range ops.size).all fun i => match dstAt ops i with
  | some d => decide (d < N) && (List.range ops.size).all fun j => j == i || dstAt ops j != some d
  | none => true
def planB (ops : Array Oper) (N : Nat) (V A T : List Nat) : Bool :=
  Region.noSelect ops && decide (V ++ A ++ T).Nodup && (List.range ops.size).all (fun i => (V ++ A ++ T).contains i) && (V ++ A ++ T).all (fun i => decide (i < ops.size)) && dstsOk ops N &&
  vOk ops [] V && A.all (looseA ops V (V ++ A ++ T)) && tOk ops none (V ++ A) T &&
  V.all (fun i => (V ++ A ++ T).all fun e => e == i || wfo ops i e || wfo ops e i || blind ops i e) &&
  T.all (fun j => (V ++ A).all fun e => wfo ops j e || blind ops j e)
def idxA (n : Nat) (A : List Nat) (k : Nat) : Nat := n + A.idxOf k
/-- What number j waits for, at once or through others. -/
def edgesOf (ops : Array Oper) (j : Nat) : List Nat := match ops[j]? with | some o => (o.after.toList.filter fun e => Region.binds .any e).map (·.on) | none => []
def anc (ops : Array Oper) : Nat → List Nat → List Nat → List Nat
  | 0, _, seen => seen
  | _ + 1, [], seen => seen
  | n + 1, j :: todo, seen => match seen.contains j with
    | true => anc ops n todo seen
    | false => anc ops n (edgesOf ops j ++ todo) (j :: seen)
def wfs (ops : Array Oper) (j p : Nat) : Bool := wfo ops j p || (anc ops 400 (edgesOf ops j) []).contains p
theorem anc_spec {ops : Array Oper} {L : Nat → Prop} (hc : ∀ j, L j → ∀ e ∈ edgesOf ops j, L e) : ∀ (n : Nat) (todo seen : List Nat), (∀ x ∈ todo, L x) → (∀ x ∈ seen, L x) → ∀ p ∈ anc ops n todo seen, L p
  | 0, _, seen, _, hs, p, hp => hs p (by simpa [anc] using hp)
  | n + 1, [], seen, _, hs, p, hp => hs p (by simpa [anc] using hp)
  | n + 1, j :: todo, seen, ht, hs, p, hp => by
    have hj := ht j (List.mem_cons_self ..)
    have ht' : ∀ x ∈ todo, L x := fun x hx => ht x (List.mem_cons_of_mem _ hx)
    simp only [anc] at hp
    split at hp
    · exact anc_spec hc n todo seen ht' hs p hp
    · refine anc_spec hc n _ _ (fun x hx => ?_) (fun x hx => ?_) p hp
      · rcases List.mem_append.1 hx with h | h
        · exact hc j hj x h
        · exact ht' x h
      · rcases List.mem_cons.1 hx with rfl | h
        · exact hj
        · exact hs x h
def kapB (ops : Array Oper) (n : Nat) (V A : List Nat) (kap : List (Option Nat)) : List Nat → List (List Nat × List Nat) → Bool
  | j :: T, l :: ls => (l.1.all (fun m => A.all (fun k => m != idxA n A k || wfs ops j k)) && l.2.all (fun m => (V.zip kap).all (fun p => p.2 != some m || wfs ops j p.1))) && kapB ops n V A kap T ls
  | [], [] => true
  | _, _ => false
def kapLt (n : Nat) (l : List (Option Nat)) : Bool := l.all fun k => match k with | some m => decide (m < n) | none => true
def symDraw (P : Program) (b : Lt) (ops : Array Oper) (V A T : List Nat) (mk : Nat → Option Mk) (sc : List It) (t : List Value) (H : List Obj) : Option ((List Value × List It) × List Obj × Obl) :=
  match symV P b ops H V sc t with
  | some (x, ob) => bnd (bnd (some ((), H, ob)) fun _ H => symAl P b ops mk A x.1 H) fun t2 H2 => bnd (symT P b ops T x.2.1 t2 H2) fun y H3 =>
    match kapB ops H.length V A (x.2.2.map Prod.snd) T y.2.2 && kapLt H.length (x.2.2.map Prod.snd) with
    | true => some ((y.1, y.2.1), H3, [])
    | false => none
  | none => none
/-! ### All orders, one by one -/
def joinAll : List (Option (List Value × List Obj × Obl)) → Option (List Value × List Obj × Obl)
  | [] => none
  | [r] => r
  | r :: r2 :: rs => match r, joinAll (r2 :: rs) with
    | some (t, H, o), some (t', H', o') => some (t, H, (.vs t, .vs t') :: (.hs H, .hs H') :: (o ++ o'))
    | _, _ => none
theorem joinAll_spec : ∀ {l : List (Option (List Value × List Obj × Obl))} {t : List Value} {H : List Obj} {o : Obl}, joinAll l = some (t, H, o) → okL o → ∀ r ∈ l, ∃ o1, r = some (t, H, o1) ∧ okL o1
  | [], _, _, _, h, _, _, _ => by cases h
  | [r], t, H, o, h, ho, x, hx => by
    obtain rfl : x = r := by simpa using hx
    exact ⟨o, h, ho⟩
  | r :: r2 :: rs, t, H, o, h, ho, x, hx => by
    simp only [joinAll] at h
    split at h
    · rename_i t1 H1 o1 t2 H2 o2 h2
      simp only [Option.some.injEq, Prod.mk.injEq] at h
      obtain ⟨rfl, rfl, rfl⟩ := h
      obtain ⟨e1, hb⟩ := okL_cons.1 ho
      obtain ⟨e2, hc⟩ := okL_cons.1 hb
      simp only [Tok.vs.injEq, Tok.hs.injEq] at e1 e2
      obtain ⟨ho1, ho2⟩ := okL_app.1 hc
      subst e1 e2
      rcases List.mem_cons.1 hx with rfl | hx
      · exact ⟨_, rfl, ho1⟩
      · exact joinAll_spec h2 ho2 x hx
    · cases h
theorem joinAll_make : ∀ {l : List (Option (List Value × List Obj × Obl))} {t : List Value} {H : List Obj}, l ≠ [] → (∀ r ∈ l, ∃ o, r = some (t, H, o)) → ∃ o, joinAll l = some (t, H, o)
  | [], _, _, h, _ => absurd rfl h
  | [r], _, _, _, h => h r (by simp)
  | r :: r2 :: rs, t, H, _, h => by
    obtain ⟨o1, rfl⟩ := h r (by simp)
    obtain ⟨o2, h2⟩ := joinAll_make (l := r2 :: rs) (by simp) (fun x hx => h x (List.mem_cons_of_mem _ hx))
    exact ⟨_, by simp only [joinAll, h2]; rfl⟩
/-- The item of an operation: another one, where it has one for the time behind some other operation. -/
def pickI (n : Nat) (A T : List Nat) (its : List It) (listed : Array Bool) (i : Nat) : Option It :=
  match A.idxOf? i with
  | none => its[i]?
  | some k => match T[k]? with
    | none => its[i]?
    | some j => match listed.getD j false with
      | true => its[n + k]?
      | false => its[i]?
theorem pickI_mem {n : Nat} {A T : List Nat} {its : List It} {listed : Array Bool} {i : Nat} {it : It} (h : pickI n A T its listed i = some it) : it ∈ its := by
  unfold pickI at h
  split at h
  · exact List.mem_of_getElem? h
  · split at h
    · exact List.mem_of_getElem? h
    · split at h <;> exact List.mem_of_getElem? h
def symOne (P : Program) (b : Lt) (ops : Array Oper) (A T : List Nat) (its : List It) (k : Array Bool → List Value → List Obj → Option (List Value × List Obj × Obl)) (listed : Array Bool) (t : List Value) (H : List Obj) (i : Nat) : Option (List Value × List Obj × Obl) :=
  match ops[i]? with
  | none => none
  | some o => match Region.wanted o (yielded ops t.toArray) with
    | false => k (listed.setIfInBounds i true) (putL t o.dst undef) H
    | true => match pickI ops.size A T its listed i with
      | none => none
      | some it => bnd (symOp P b it o (evL t) H) fun v H => k (listed.setIfInBounds i true) (putL t o.dst v) H
def symAny (P : Program) (b : Lt) (ops : Array Oper) (A T : List Nat) (its : List It) : Nat → Array Bool → List Value → List Obj → Option (List Value × List Obj × Obl)
  | 0, listed, t, H => match Region.ready .any ops listed with
    | [] => some (t, H, [])
    | _ :: _ => none
  | fuel + 1, listed, t, H => match Region.ready .any ops listed with
    | [] => some (t, H, [])
    | i :: rs => joinAll ((i :: rs).map (symOne P b ops A T its (symAny P b ops A T its fuel) listed t H))
def symAnyR (P : Program) (b : Lt) (ops : Array Oper) (A T : List Nat) (sc : List It) (t : List Value) (H : List Obj) : Option ((List Value × List It) × List Obj × Obl) :=
  match symAny P b ops A T (sc.take (ops.size + A.length)) ops.size (Array.replicate ops.size false) t H with
  | some (t', H', o) => some ((t', sc.drop (ops.size + A.length)), H', o)
  | none => none
def symReg (P : Program) (b : Lt) (ops : Array Oper) (draw : Bool) (sc : List It) (t : List Value) (H : List Obj) : Option ((List Value × List It) × List Obj × Obl) :=
  match draw with
  | false => symOps P b ops ops.toList sc t H
  | true => match sc with
    | .r V A T mk :: sc => match P.follows .mixedOrders && planB ops t.length V A T with
      | true => symDraw P b ops V A T mk sc t H
      | false => match V with
        | [] => match P.follows .mixedOrders with
          | true => symAnyR P b ops A T sc t H
          | false => none
        | _ :: _ => none
    | _ => none
theorem edgesIn_spec {ops : Array Oper} {i : Nat} {l : List Nat} (h : edgesIn ops i l = true) : ∃ o, ops[i]? = some o ∧ ∀ e ∈ o.after, Region.binds .any e = true → e.on ∈ l := by
  unfold edgesIn at h
  split at h
  · rename_i o ho
    refine ⟨o, ho, fun e he hb => ?_⟩
    have := Array.all_eq_true'.1 h e he
    simpa [hb] using this
  · cases h
theorem wfo_spec {ops : Array Oper} {j i : Nat} (h : wfo ops j i = true) : ∃ o, ops[j]? = some o ∧ ∃ e ∈ o.after, Region.binds .any e = true ∧ e.on = i := Region.waitsFor_spec h
theorem wfo_in {ops : Array Oper} {j i : Nat} {l : List Nat} (h : wfo ops j i = true) (he : edgesIn ops j l = true) : i ∈ l := by
  obtain ⟨o, ho, e, hm, hb, rfl⟩ := wfo_spec h
  obtain ⟨o', ho', hall⟩ := edgesIn_spec he
  obtain rfl : o = o' := Option.some.inj (ho.symm.trans ho')
  exact hall e hm hb
/-! ### Frames by their writers -/
def writer (ops : Array Oper) (x : Tmp) : Option Nat := (List.range ops.size).find? fun e => dstAt ops e == some x
/-- The frame in which the operations of 'done' have left their values. -/
structure Fr (ops : Array Oper) (t0 : List Value) (done : Nat → Bool) (val : Nat → Value) (t : List Value) : Prop where
  len : t.length = t0.length
  get : ∀ x, t.getD x undef = match writer ops x with
    | some e => if done e = true ∧ x < t0.length then val e else t0.getD x undef
    | none => t0.getD x undef
theorem dstAt_lt {ops : Array Oper} {i d : Nat} (h : dstAt ops i = some d) : i < ops.size := by
  unfold dstAt at h
  cases ho : ops[i]? with
  | none => rw [ho] at h; cases h
  | some o => exact (Array.getElem?_eq_some_iff.1 ho).1
theorem dstsOk_spec {ops : Array Oper} {N : Nat} (h : dstsOk ops N = true) {i d : Nat} (hi : dstAt ops i = some d) : d < N ∧ ∀ j, dstAt ops j = some d → j = i := by
  have h1 := List.all_eq_true.1 h i (List.mem_range.2 (dstAt_lt hi))
  rw [hi] at h1
  simp only [Bool.and_eq_true, decide_eq_true_eq] at h1
  refine ⟨h1.1, fun j hj => ?_⟩
  have h2 := List.all_eq_true.1 h1.2 j (List.mem_range.2 (dstAt_lt hj))
  simp only [Bool.or_eq_true, beq_iff_eq, hj, bne_self_eq_false, Bool.false_eq_true, or_false] at h2
  exact h2
theorem writer_eq {ops : Array Oper} {N : Nat} (h : dstsOk ops N = true) {e x : Nat} : writer ops x = some e ↔ dstAt ops e = some x := by
  unfold writer
  constructor
  · intro hw
    have := List.find?_some hw
    simpa using this
  · intro hd
    cases hf : (List.range ops.size).find? fun e => dstAt ops e == some x with
    | none =>
      have := List.find?_eq_none.1 hf e (List.mem_range.2 (dstAt_lt hd))
      simp [hd] at this
    | some e' =>
      have h1 := List.find?_some hf
      simp at h1
      rw [(dstsOk_spec h hd).2 e' h1]
theorem Fr.start (ops : Array Oper) (t0 : List Value) (done : Nat → Bool) (val : Nat → Value) (h : ∀ e, done e = false) : Fr ops t0 done val t0 :=
  ⟨rfl, fun x => by
    split
    · rename_i e _; simp [h e]
    · rfl⟩
theorem Fr.put {ops : Array Oper} {t0 t : List Value} {done done' : Nat → Bool} {val val' : Nat → Value} (hd : dstsOk ops t0.length = true) (h : Fr ops t0 done val t) {e : Nat} {v : Value} (hdone : ∀ j, done' j = (done j || j == e)) (hval : ∀ j, done j = true → j ≠ e → val' j = val j) (hv : val' e = v) :
    Fr ops t0 done' val' (putL t (dstAt ops e) v) := by
  cases hde : dstAt ops e with
  | none =>
    refine ⟨h.len, fun x => ?_⟩
    show t.getD x undef = _
    rw [h.get x]
    split
    · rename_i j hj
      have hj' := (writer_eq hd).1 hj
      have hje : j ≠ e := fun e' => by subst e'; rw [hde] at hj'; cases hj'
      rw [hdone j]
      by_cases hdj : done j = true
      · simp [hdj, hval j hdj hje]
      · simp [hdj, hje]
    · rfl
  | some d =>
    obtain ⟨hlt, huniq⟩ := dstsOk_spec hd hde
    refine ⟨by simp [putL, h.len], fun x => ?_⟩
    show (t.set d v).getD x undef = _
    by_cases hx : x = d
    · subst hx
      rw [(writer_eq hd).2 hde]
      have : (t.set x v).getD x undef = v := by simp [List.getD, List.getElem?_set_self (show x < t.length by rw [h.len]; exact hlt)]
      rw [this]
      simp [hdone e, hlt, hv]
    · have : (t.set d v).getD x undef = t.getD x undef := by simp [List.getD, List.getElem?_set_ne (fun e => hx e.symm)]
      rw [this, h.get x]
      split
      · rename_i j hj
        have hj' := (writer_eq hd).1 hj
        have hje : j ≠ e := fun e' => by subst e'; rw [hde] at hj'; exact hx (Option.some.inj hj').symm
        rw [hdone j]
        by_cases hdj : done j = true
        · simp [hdj, hval j hdj hje]
        · simp [hdj, hje]
      · rfl
theorem Fr.same {ops : Array Oper} {t0 t t' : List Value} {done done' : Nat → Bool} {val val' : Nat → Value} (h : Fr ops t0 done val t) (h' : Fr ops t0 done' val' t') {x : Tmp}
    (hx : ∀ e, writer ops x = some e → done e = done' e ∧ (done e = true → val e = val' e)) : t.getD x undef = t'.getD x undef := by
  rw [h.get x, h'.get x]
  split
  · rename_i e he
    obtain ⟨h1, h2⟩ := hx e he
    rw [← h1]
    by_cases hd : done e = true
    · rw [h2 hd]
    · simp [hd]
  · rfl
theorem Fr.ext {ops : Array Oper} {t0 t t' : List Value} {done done' : Nat → Bool} {val val' : Nat → Value} (h : Fr ops t0 done val t) (h' : Fr ops t0 done' val' t')
    (hx : ∀ e d, dstAt ops e = some d → done e = done' e ∧ (done e = true → val e = val' e)) (hd : dstsOk ops t0.length = true) : t = t' := by
  apply List.ext_getElem (h.len.trans h'.len.symm)
  intro x h1 h2
  have := Fr.same h h' (x := x) (fun e he => hx e x ((writer_eq hd).1 he))
  simpa [List.getD, List.getElem?_eq_getElem h1, List.getElem?_eq_getElem h2] using this
/-- What an operation does hangs on what it looks at. -/
theorem looks_congr {ops : Array Oper} {i : Nat} {o : Oper} (ho : ops[i]? = some o) {t t' : List Value} (hl : t.length = t'.length) (h : ∀ d ∈ looks ops i, t.getD d undef = t'.getD d undef) :
    (∀ x ∈ o.op.operands, evL t x = evL t' x) ∧ Region.wanted o (yielded ops t.toArray) = Region.wanted o (yielded ops t'.toArray) := by
  have hlk : looks ops i = o.looksAt ops := by simp [looks, ho]
  rw [hlk] at h
  refine ⟨fun x hx => ?_, ?_⟩
  · cases x with
    | tmp d => exact h d (List.mem_append_left _ (List.mem_filterMap.2 ⟨.tmp d, by simpa using hx, rfl⟩))
    | _ => rfl
  · unfold Region.wanted
    cases hg : o.guard with
    | none => rfl
    | some g =>
      obtain ⟨j, want⟩ := g
      simp only
      have : yielded ops t.toArray j = yielded ops t'.toArray j := by
        unfold yielded
        cases hd : (ops[j]?).bind (·.dst) with
        | none => rfl
        | some d =>
          have hm : d ∈ o.looksAt ops := by
            unfold Oper.looksAt
            rw [hg]
            exact List.mem_append_right _ (by simp [hd])
          have h1 := h d hm
          simp only [Option.bind_some, List.getElem?_toArray]
          rcases Nat.lt_or_ge d t.length with hlt | hlt
          · have hlt' : d < t'.length := Nat.lt_of_lt_of_eq hlt hl
            rw [List.getElem?_eq_getElem hlt, List.getElem?_eq_getElem hlt']
            simp only [List.getD, List.getElem?_eq_getElem hlt, List.getElem?_eq_getElem hlt', Option.getD_some] at h1
            rw [h1]
          · rw [List.getElem?_eq_none hlt, List.getElem?_eq_none (Nat.le_trans (Nat.le_of_eq hl.symm) hlt)]
      rw [this]
theorem Q_of_congr {ρ ρ' : Operand → Value} (o : Oper) (h : ∀ x ∈ o.op.operands, ρ x = ρ' x) : Q.of ρ o = Q.of ρ' o := by
  obtain ⟨dst, op, type, pos, after, guard⟩ := o
  simp only [Q.of]
  cases op <;> simp only [Op.operands] at h <;> try rfl
  case binOp op T x y yt => simp only [h x (by simp), h y (by simp)]
  case indexAddr T x i => simp only [h x (by simp), h i (by simp)]
  case index T x i => simp only [h x (by simp), h i (by simp)]
  case convert s d x => simp only [h x (by simp)]
  case lookup T x i ok => simp only [h x (by simp), h i (by simp)]
  case store T a x => simp only [h a (by simp), h x (by simp)]
  case makeSlice T l c => simp only [h l (by simp), h c (by simp)]
  case sliceToArrayPointer T x => simp only [h x (by simp)]
  case makeMap T r => cases r <;> simp_all
  case mapUpdate T m k v => simp only [h m (by simp), h k (by simp), h v (by simp)]
  case insert T m k v => simp only [h m (by simp), h k (by simp), h v (by simp)]
  case mapEntry T m k => simp only [h m (by simp), h k (by simp)]
  case entryStore T m k v => simp only [h m (by simp), h k (by simp), h v (by simp)]
  case typeAssert x T A ok => simp only [h x (by simp)]
  case range T x => simp only [h x (by simp)]
  case next x s => simp only [h x (by simp)]
  case entry x => simp only [h x (by simp)]
  case load T x => simp only [h x (by simp)]
  case assign x => simp only [h x (by simp)]
  case slice T x lo hi mx =>
    cases lo <;> cases hi <;> cases mx <;> simp_all
  case call c =>
    have hargs : c.args.map ρ = c.args.map ρ' := Array.map_congr_left fun x hx => h x (by simp [Call.operands, hx])
    dsimp only
    rw [hargs]
theorem Q_ofc_congr {ρ ρ' : Operand → Value} (o : Oper) (h : ∀ x ∈ o.op.operands, ρ x = ρ' x) : Q.ofc ρ o = Q.ofc ρ' o := by
  unfold Q.ofc
  rw [Q_of_congr o h]
  cases hq : Q.of ρ' o with
  | some q' => rfl
  | none =>
    clear hq
    obtain ⟨dst, op, type, pos, after, guard⟩ := o
    cases op <;> try rfl
    case call c =>
      have hargs : c.args.map ρ = c.args.map ρ' := Array.map_congr_left fun x hx => h x (by simp [Op.operands, Call.operands, hx])
      obtain ⟨cl, args, ats⟩ := c
      cases cl <;> try rfl
      case value f =>
        dsimp only at hargs ⊢
        rw [hargs, h f (by simp [Op.operands, Call.operands, Array.mem_append])]
theorem whOf_congr {P : Program} {ρ ρ' : Operand → Value} (o : Oper) (h : ∀ x ∈ o.op.operands, ρ x = ρ' x) : whOf P ρ o = whOf P ρ' o := by
  unfold whOf
  rw [Q_of_congr o h]
  split
  · rfl
  · cases ho : o.op <;> try rfl
    rename_i cl
    simp only
    rw [resolve_congr cl o.type (fun x hx => h x (by rw [ho]; exact hx))]
theorem symOp_congr {P : Program} {b : Lt} {it : It} {o : Oper} {ρ ρ' : Operand → Value} {H : List Obj} (hs : ∀ cs b, o.op ≠ .select cs b) (h : ∀ x ∈ o.op.operands, ρ x = ρ' x) : symOp P b it o ρ H = symOp P b it o ρ' H := by
  cases it <;> simp only [symOp, execOp_congr o hs h, Q_of_congr o h, Q_ofc_congr o h, whOf_congr o h]
  case c f args v =>
    cases ho : o.op <;> try rfl
    rename_i cl
    simp only
    rw [resolve_congr cl o.type (fun x hx => h x (by rw [ho]; exact hx))]
theorem roOp_congr {P : Program} {b : Lt} {it : It} {o : Oper} {ρ ρ' : Operand → Value} {H : List Obj} (hs : ∀ cs b, o.op ≠ .select cs b) (h : ∀ x ∈ o.op.operands, ρ x = ρ' x) : roOp P b it o ρ H = roOp P b it o ρ' H := by
  cases it <;> simp only [roOp, execOp_congr o hs h, Q_of_congr o h, Q_ofc_congr o h]
  case c f args v =>
    cases ho : o.op <;> try rfl
    rename_i cl
    simp only
    rw [resolve_congr cl o.type (fun x hx => h x (by rw [ho]; exact hx))]
/-! ### Entries that stand for no block yet -/
/-- The entries of U left out. -/
def mask (U : List Nat) (H : List Obj) : List Obj := H.mapIdx fun i o => if i ∈ U then unb else o
theorem mask_len (U : List Nat) (H : List Obj) : (mask U H).length = H.length := by simp [mask]
theorem mask_get {U : List Nat} {H : List Obj} {i : Nat} (h : i ∉ U) : (mask U H)[i]? = H[i]? := by
  simp only [mask, List.getElem?_mapIdx]
  cases H[i]? <;> simp [h]
theorem mask_at {U : List Nat} {H : List Obj} {i : Nat} (h : i ∈ U) (hi : i < H.length) : (mask U H)[i]? = some unb := by
  simp only [mask, List.getElem?_mapIdx, List.getElem?_eq_getElem hi]
  simp [h]
theorem mask_app {U : List Nat} {H : List Obj} {o : Obj} (hU : ∀ i ∈ U, i < H.length) : mask U (H ++ [o]) = mask U H ++ [o] := by
  simp only [mask, List.mapIdx_append, List.mapIdx_cons, List.mapIdx_nil]
  have : H.length ∉ U := fun h => Nat.lt_irrefl _ (hU _ h)
  simp [this]
theorem mask_set {U : List Nat} {H : List Obj} {i : Nat} {o : Obj} (h : i ∉ U) : mask U (H.set i o) = (mask U H).set i o := by
  apply List.ext_getElem?
  intro j
  by_cases hij : i = j
  · subst hij
    rw [mask_get h]
    by_cases hl : i < H.length
    · rw [List.getElem?_set_self hl, List.getElem?_set_self (by rw [mask_len]; exact hl)]
    · rw [List.getElem?_eq_none (by simp; omega), List.getElem?_eq_none (by simp [mask_len]; omega)]
  · rw [List.getElem?_set_ne hij]
    simp only [mask, List.getElem?_mapIdx, List.getElem?_set_ne hij]
theorem mask_nil (H : List Obj) : mask [] H = H := by
  apply List.ext_getElem?
  intro j
  exact mask_get (by simp)
def accBlks (acc : List Acc) : List Nat := acc.filterMap Acc.blkOf
theorem accBlks_nx {acc : List Acc} {i : Nat} (h : i ∈ accBlks (nx acc)) : i ∈ accBlks acc := by
  unfold accBlks at *
  obtain ⟨a, ha, hb⟩ := List.mem_filterMap.1 h
  exact List.mem_filterMap.2 ⟨a, nx_sub ha, hb⟩
theorem cellsAt_mask {U : List Nat} {H : List Obj} {acc : List Acc} (h : ∀ i ∈ accBlks acc, i ∉ U) : cellsAt acc (mask U H) = cellsAt acc H := by
  unfold cellsAt
  split
  · rename_i x rest
    split
    · rename_i i hx
      rw [mask_get (h i (by simp [accBlks, hx]))]
    · rfl
  · rfl
theorem objAt_mask {U : List Nat} {H : List Obj} {acc : List Acc} (h : ∀ i ∈ accBlks acc, i ∉ U) : objAt acc (mask U H) = objAt acc H := by
  unfold objAt
  split
  · rename_i i rest
    rw [mask_get (h i (by simp [accBlks, Acc.blkOf]))]
  · rfl
theorem cellsAt_in {acc : List Acc} {H : List Obj} {i : Nat} {c : Array Value} {T : TypeId} {fz : Nat × Nat} (h : cellsAt acc H = some (i, c, T, fz)) : i ∈ accBlks acc := by
  unfold cellsAt at h
  split at h
  · split at h
    · rename_i j hx
      split at h
      · simp at h; simp [accBlks, hx, h.1]
      · cases h
    · cases h
  · cases h
theorem objAt_in {acc : List Acc} {H : List Obj} {i : Nat} {o : Obj} (h : objAt acc H = some (i, o)) : i ∈ accBlks acc := by
  unfold objAt at h
  split at h
  · split at h
    · cases h
    · split at h
      · simp at h; simp [accBlks, Acc.blkOf, h.1]
      · cases h
    · cases h
  · cases h
theorem rdCell_mask {U : List Nat} {H : List Obj} {acc : List Acc} {a : Addr} (h : ∀ i ∈ accBlks acc, i ∉ U) : rdCell acc (mask U H) a = rdCell acc H a := by
  unfold rdCell
  rw [cellsAt_mask h]
theorem wrCell_mask {U : List Nat} {H H1 : List Obj} {acc : List Acc} {a : Addr} {v : Value} {p : Src} (h : ∀ i ∈ accBlks acc, i ∉ U) (hw : wrCell acc H a v = some (H1, p)) : wrCell acc (mask U H) a v = some (mask U H1, p) := by
  unfold wrCell at hw ⊢
  rw [cellsAt_mask h]
  split at hw
  · split at hw
    · rename_i i c T fz hc
      have hi := h i (cellsAt_in hc)
      split at hw
      · split at hw
        · split at hw
          · simp at hw
            obtain ⟨rfl, rfl⟩ := hw
            simp [*, mask_set hi]
          · cases hw
        · cases hw
      · cases hw
    · cases hw
  · split at hw
    · rename_i i c T fz hc
      have hi := h i (cellsAt_in hc)
      split at hw
      · split at hw
        · split at hw
          · split at hw
            · simp at hw
              obtain ⟨rfl, rfl⟩ := hw
              simp [*, mask_set hi]
            · cases hw
          · cases hw
        · cases hw
      · cases hw
    · cases hw
theorem wrCell_frame {H H1 : List Obj} {acc : List Acc} {a : Addr} {v : Value} {p : Src} (hw : wrCell acc H a v = some (H1, p)) {k : Nat} (hk : k ∉ accBlks acc) : H1[k]? = H[k]? := by
  unfold wrCell at hw
  split at hw
  · split at hw
    · rename_i i c T fz hc
      have hi := cellsAt_in hc
      split at hw
      · split at hw
        · split at hw
          · simp at hw
            obtain ⟨rfl, rfl⟩ := hw
            exact List.getElem?_set_ne (fun e : i = k => hk (by rw [← e]; exact hi))
          · cases hw
        · cases hw
      · cases hw
    · cases hw
  · split at hw
    · rename_i i c T fz hc
      have hi := cellsAt_in hc
      split at hw
      · split at hw
        · split at hw
          · split at hw
            · simp at hw
              obtain ⟨rfl, rfl⟩ := hw
              exact List.getElem?_set_ne (fun e : i = k => hk (by rw [← e]; exact hi))
            · cases hw
          · cases hw
        · cases hw
      · cases hw
    · cases hw
section
variable {P : Program}
theorem symRun_mask {α : Type} {b : Lt} {U : List Nat} : ∀ (t : Sem α) (acc : List Acc) (H : List Obj) (x : α) (H' : List Obj) (o : Obl), (∀ i ∈ accBlks acc, i ∉ U) → (∀ i ∈ U, i < H.length) → symRun P b t acc H = some (x, H', o) →
    symRun P b t acc (mask U H) = some (x, mask U H', o) ∧ ∀ k, k < H.length → k ∉ accBlks acc → H'[k]? = H[k]? := by
  intro t
  induction t with
  | pure y => intro acc H x H' o _ _ h; simp [symRun] at h; obtain ⟨rfl, rfl, rfl⟩ := h; exact ⟨by simp [symRun], fun _ _ _ => rfl⟩
  | load m a k ih =>
    intro acc H x H' o ha hU h
    simp only [symRun, rdCell_mask ha] at h ⊢
    split at h
    · obtain ⟨o1, h1, rfl⟩ := pushO_some.1 h
      obtain ⟨h2, h3⟩ := ih _ _ _ _ _ _ (fun i hi => ha i (accBlks_nx hi)) hU h1
      exact ⟨pushO_some.2 ⟨o1, h2, rfl⟩, fun k hk hn => h3 k hk (fun hm => hn (accBlks_nx hm))⟩
    · cases h
  | store m a v k ih =>
    intro acc H x H' o ha hU h
    simp only [symRun] at h ⊢
    split at h
    · rename_i Hm p hr
      rw [wrCell_mask ha hr]
      obtain ⟨o1, h1, rfl⟩ := pushO_some.1 h
      have hl := wrCell_len hr
      obtain ⟨h2, h3⟩ := ih _ _ _ _ _ (fun i hi => ha i (accBlks_nx hi)) (fun i hi => by rw [hl]; exact hU i hi) h1
      exact ⟨pushO_some.2 ⟨o1, h2, rfl⟩, fun k hk hn => (h3 k (by rw [hl]; exact hk) (fun hm => hn (accBlks_nx hm))).trans (wrCell_frame hr hn)⟩
    · cases h
  | new ob k ih =>
    intro acc H x H' o ha hU h
    simp only [symRun, mask_len] at h ⊢
    split at h
    · obtain ⟨h2, h3⟩ := ih _ _ _ _ _ _ ha (fun i hi => by simp; exact Nat.lt_succ_of_lt (hU i hi)) h
      rw [mask_app hU] at h2
      refine ⟨h2, fun k hk hn => (h3 k (by simp; omega) hn).trans (append_ne (by omega))⟩
    · cases h
  | shape r k ih =>
    intro acc H x H' o ha hU h
    simp only [symRun, cellsAt_mask ha] at h ⊢
    split at h
    · obtain ⟨o1, h1, rfl⟩ := pushO_some.1 h
      obtain ⟨h2, h3⟩ := ih _ _ _ _ _ _ (fun i hi => ha i (accBlks_nx hi)) hU h1
      exact ⟨pushO_some.2 ⟨o1, h2, rfl⟩, fun k hk hn => h3 k hk (fun hm => hn (accBlks_nx hm))⟩
    · cases h
  | freeze a n k ih =>
    intro acc H x H' o ha hU h
    cases n with
    | zero =>
      simp only [symRun] at h ⊢
      exact ih _ _ _ _ _ ha hU h
    | succ n =>
      simp only [symRun, cellsAt_mask ha] at h ⊢
      split at h
      · rename_i i c T fz hc
        have hi := cellsAt_in hc
        obtain ⟨o1, h1, rfl⟩ := pushO_some.1 h
        obtain ⟨h2, h3⟩ := ih _ _ _ _ _ (fun i hi => ha i (accBlks_nx hi)) (fun i hi => by simpa using hU i hi) h1
        rw [mask_set (ha i hi)] at h2
        exact ⟨pushO_some.2 ⟨o1, h2, rfl⟩, fun k hk hn => (h3 k (by simpa using hk) (fun hm => hn (accBlks_nx hm))).trans (List.getElem?_set_ne (fun e : i = k => hn (by rw [← e]; exact hi)))⟩
      · cases h
  | frozen a k ih =>
    intro acc H x H' o ha hU h
    simp only [symRun, cellsAt_mask ha] at h ⊢
    split at h
    · obtain ⟨o1, h1, rfl⟩ := pushO_some.1 h
      obtain ⟨h2, h3⟩ := ih _ _ _ _ _ _ (fun i hi => ha i (accBlks_nx hi)) hU h1
      exact ⟨pushO_some.2 ⟨o1, h2, rfl⟩, fun k hk hn => h3 k hk (fun hm => hn (accBlks_nx hm))⟩
    · cases h
  | getObj r k ih =>
    intro acc H x H' o ha hU h
    simp only [symRun, objAt_mask ha] at h ⊢
    split at h
    · obtain ⟨o1, h1, rfl⟩ := pushO_some.1 h
      obtain ⟨h2, h3⟩ := ih _ _ _ _ _ _ (fun i hi => ha i (accBlks_nx hi)) hU h1
      exact ⟨pushO_some.2 ⟨o1, h2, rfl⟩, fun k hk hn => h3 k hk (fun hm => hn (accBlks_nx hm))⟩
    · cases h
  | setObj r ob k ih =>
    intro acc H x H' o ha hU h
    simp only [symRun, objAt_mask ha] at h ⊢
    split at h
    · rename_i i o2 hc
      have hi := objAt_in hc
      split at h
      case h_2 => cases h
      obtain ⟨o1, h1, rfl⟩ := pushO_some.1 h
      obtain ⟨h2, h3⟩ := ih _ _ _ _ _ (fun i hi => ha i (accBlks_nx hi)) (fun i hi => by simpa using hU i hi) h1
      rw [mask_set (ha i hi)] at h2
      exact ⟨pushO_some.2 ⟨o1, h2, rfl⟩, fun k hk hn => (h3 k (by simpa using hk) (fun hm => hn (accBlks_nx hm))).trans (List.getElem?_set_ne (fun e : i = k => hn (by rw [← e]; exact hi)))⟩
    · cases h
  | choose q k ih =>
    intro acc H x H' o ha hU h
    simp only [symRun] at h ⊢
    split at h
    · exact ih _ _ _ _ _ _ ha hU h
    · cases h
  | sys cl k ih => intro acc H x H' o _ _ h; simp [symRun] at h
  | program k ih => intro acc H x H' o ha hU h; simp only [symRun] at h ⊢; exact ih _ _ _ _ _ _ ha hU h
  | mark m k ih => intro acc H x H' o ha hU h; simp only [symRun] at h ⊢; exact ih _ _ _ _ _ ha hU h
  | halt hl => intro acc H x H' o _ _ h; simp [symRun] at h
theorem bnd_mask {ρ σ : Type} {U : List Nat} {r r' : Option (ρ × List Obj × Obl)} {k : ρ → List Obj → Option (σ × List Obj × Obl)} {y : σ} {H' : List Obj} {o : Obl} (h : bnd r k = some (y, H', o))
    (h1 : ∀ x H o1, r = some (x, H, o1) → r' = some (x, mask U H, o1)) (h2 : ∀ x H o2, k x H = some (y, H', o2) → k x (mask U H) = some (y, mask U H', o2)) : bnd r' k = some (y, mask U H', o) := by
  obtain ⟨x, H, o1, o2, h3, h4, rfl⟩ := bnd_some.1 h
  exact bnd_some.2 ⟨x, mask U H, o1, o2, h1 _ _ _ h3, h2 _ _ _ h4, rfl⟩
theorem nextVal_mask {U : List Nat} {n : Next} {H H' : List Obj} {v : Value} {o : Obl} (h : nextVal n H = some (v, H', o)) : nextVal n (mask U H) = some (v, mask U H', o) ∧ H' = H := by
  unfold nextVal at h ⊢
  split at h <;> simp at h
  · obtain ⟨rfl, rfl, rfl⟩ := h; exact ⟨rfl, rfl⟩
  · obtain ⟨rfl, rfl, rfl⟩ := h; exact ⟨rfl, rfl⟩
theorem mask_putSel {U : List Nat} : ∀ (sel : List Nat) (l H : List Obj), (∀ i ∈ sel, i ∉ U) → mask U (putSel H sel l) = putSel (mask U H) sel l
  | [], _, H, _ => by simp [putSel]
  | _ :: _, [], H, _ => by simp [putSel]
  | i :: r, o :: l, H, h => by
    simp only [putSel]
    rw [mask_putSel r l _ (fun j hj => h j (List.mem_cons_of_mem _ hj)), mask_set (h i (List.mem_cons_self ..))]
theorem mask_apps {U : List Nat} {H : List Obj} (hU : ∀ i ∈ U, i < H.length) : ∀ (l : List Obj), mask U (H ++ l) = mask U H ++ l := fun l => by
  apply List.ext_getElem?
  intro j
  by_cases hj : j < H.length
  · rw [List.getElem?_append_left (by rw [mask_len]; exact hj)]
    by_cases hu : j ∈ U
    · rw [mask_at hu (by simp; omega), mask_at hu hj]
    · rw [mask_get hu, mask_get hu, List.getElem?_append_left hj]
  · rw [mask_get (fun hu => hj (hU j hu)), List.getElem?_append_right (by omega), List.getElem?_append_right (by rw [mask_len]; omega), mask_len]
theorem symX_mask {f : Bool} {b : Lt} {U : List Nat} {wh : Wh} {sp : Spc} {sel : List Nat} {H : List Obj} {v : List Value} {H' : List Obj} {ob : Obl} (ha : ∀ i ∈ sel, i ∉ U) (hU : ∀ i ∈ U, i < H.length) (h : symX f b wh sp sel H = some (v, H', ob)) :
    symX f b wh sp sel (mask U H) = some (v, mask U H', ob) ∧ ∀ k, k < H.length → k ∉ sel → H'[k]? = H[k]? := by
  unfold symX at h ⊢
  rw [pick_congr (H' := mask U H) (H := H) fun i hi => mask_get (ha i hi)]
  rw [mask_len]
  split at h
  · split at h
    · simp at h
      obtain ⟨rfl, rfl, rfl⟩ := h
      refine ⟨by rw [mask_apps (fun i hi => by rw [putSel_len]; exact hU i hi), mask_putSel _ _ _ ha], fun k hk hn => ?_⟩
      rw [List.getElem?_append_left (by rw [putSel_len]; exact hk), putSel_out _ _ _ _ hn]
    · cases h
  · cases h
theorem symOp_mask {b : Lt} {U : List Nat} {it : It} {o : Oper} {ρ : Operand → Value} {H : List Obj} {v : Value} {H' : List Obj} {ob : Obl} (ha : ∀ i ∈ it.blks, i ∉ U) (hU : ∀ i ∈ U, i < H.length) (h : symOp P b it o ρ H = some (v, H', ob)) :
    symOp P b it o ρ (mask U H) = some (v, mask U H', ob) ∧ ∀ k, k < H.length → k ∉ it.blks → H'[k]? = H[k]? := by
  have plain : ∀ acc, (∀ i ∈ accBlks acc, i ∉ U) → ∀ v H' ob, bnd (symRun P b (execOp ρ o) acc H) nextVal = some (v, H', ob) →
      bnd (symRun P b (execOp ρ o) acc (mask U H)) nextVal = some (v, mask U H', ob) ∧ ∀ k, k < H.length → k ∉ accBlks acc → H'[k]? = H[k]? := by
    intro acc hac v H' ob hb
    refine ⟨bnd_mask hb (fun x H1 o1 h1 => (symRun_mask _ _ _ _ _ _ hac hU h1).1) (fun x H1 o2 h2 => (nextVal_mask h2).1), fun k hk hn => ?_⟩
    obtain ⟨x, H1, o1, o2, h1, h2, rfl⟩ := bnd_some.1 hb
    rw [(nextVal_mask (U := U) h2).2]
    exact (symRun_mask _ _ _ _ _ _ hac hU h1).2 k hk hn
  cases it with
  | o => exact plain [] (fun i hi => by simp [accBlks] at hi) v H' ob h |>.imp id (fun g k hk _ => g k hk (by simp [accBlks]))
  | a i => exact plain [.blk i] (fun j hj => ha j (by simpa [accBlks, It.blks, Acc.blkOf] using hj)) v H' ob h |>.imp id (fun g k hk hn => g k hk (by simpa [accBlks, It.blks, Acc.blkOf] using hn))
  | l acc => exact plain acc ha v H' ob h
  | w u u' =>
    simp only [symOp] at h ⊢
    refine ⟨bnd_mask h (fun x H1 o1 h1 => (symRun_mask _ _ _ _ _ _ (fun i hi => by simp [accBlks] at hi) hU h1).1) (fun x H1 o2 h2 => ?_), fun k hk hn => ?_⟩
    · split at h2 <;> simp at h2
      obtain ⟨rfl, rfl, rfl⟩ := h2
      rfl
    · obtain ⟨x, H1, o1, o2, h1, h2, rfl⟩ := bnd_some.1 h
      split at h2 <;> simp at h2
      obtain ⟨rfl, rfl, rfl⟩ := h2
      exact (symRun_mask _ _ _ _ _ _ (U := U) (fun i hi => by simp [accBlks] at hi) hU h1).2 k hk (by simp [accBlks])
  | c f args u =>
    simp only [symOp] at h ⊢
    split at h
    · refine ⟨bnd_mask h (fun x H1 o1 h1 => (symRun_mask _ _ _ _ _ _ (fun i hi => by simp [accBlks] at hi) hU h1).1) (fun x H1 o2 h2 => ?_), fun k hk hn => ?_⟩
      · split at h2 <;> simp at h2
        obtain ⟨rfl, rfl, rfl⟩ := h2
        rfl
      · obtain ⟨x, H1, o1, o2, h1, h2, rfl⟩ := bnd_some.1 h
        split at h2 <;> simp at h2
        obtain ⟨rfl, rfl, rfl⟩ := h2
        exact (symRun_mask _ _ _ _ _ _ (U := U) (fun i hi => by simp [accBlks] at hi) hU h1).2 k hk (by simp [accBlks])
    · cases h
  | ov q u =>
    simp only [symOp] at h ⊢
    split at h
    · simp at h
      obtain ⟨rfl, rfl, rfl⟩ := h
      exact ⟨rfl, fun _ _ _ => rfl⟩
    · cases h
  | q f =>
    simp only [symOp] at h ⊢
    split at h
    · split at h
      · simp at h
        obtain ⟨rfl, rfl, rfl⟩ := h
        exact ⟨rfl, fun _ _ _ => rfl⟩
      · cases h
    · cases h
  | qb f i' =>
    simp only [symOp] at h ⊢
    split at h
    · split at h
      · simp at h
        obtain ⟨rfl, rfl, rfl⟩ := h
        exact ⟨rfl, fun _ _ _ => rfl⟩
      · cases h
    · cases h
  | r V A T mk => simp [symOp] at h
  | cx sp sel => simp [symOp] at h
  | cp => simp [symOp] at h
  | x f sp sel rd =>
    simp only [symOp] at h ⊢
    split at h
    · rename_i wh hwh
      split at h
      · rename_i u H1 ob1 hsx
        simp at h
        obtain ⟨rfl, rfl, rfl⟩ := h
        obtain ⟨h1, h2⟩ := symX_mask (sel := sel) ha hU hsx
        rw [h1]
        exact ⟨rfl, h2⟩
      · cases h
    · cases h
/-- What it may not change stays. -/
theorem symOp_wrs {X : Nat → Prop} {B : Nat} {S : World → Prop} {b : Lt} {it : It} {o : Oper} {ρ : Operand → Value} {H : List Obj} {v : Value} {H' : List Obj} {ob : Obl} (hit : ItOk P X B S it) (h : symOp P b it o ρ H = some (v, H', ob)) (hob : okL ob) :
    ∀ k, k < H.length → k ∉ it.wrs → H'[k]? = H[k]? := by
  have h0 := (symOp_mask (U := []) (fun i _ h => by cases h) (fun i h => by cases h) h).2
  cases it with
  | x f sp sel rd =>
    intro k hk hw
    by_cases hs : k ∈ sel
    · obtain ⟨j, hj⟩ := List.getElem?_of_mem hs
      have hjk : j ∈ rd := by have := wrAt_not hw j hj; rwa [Nat.zero_add] at this
      simp only [symOp] at h
      split at h
      · split at h
        · rename_i u H1 ob1 hsx
          simp at h
          obtain ⟨rfl, rfl, rfl⟩ := h
          unfold symX at hsx
          split at hsx
          · rename_i hs hp
            split at hsx
            · rename_i hc
              simp only [Option.some.injEq, Prod.mk.injEq] at hsx
              obtain ⟨_, rfl, rfl⟩ := hsx
              have h2 := (okL_cons.1 (okL_cons.1 hob).2).1
              simp at h2
              simp only [Bool.and_eq_true] at hc
              have hnd := nodupB_spec hc.1.1
              have hlen : (sp.post (sel.map b ++ (List.range' H.length sp.m).map b)).length = sel.length := by
                have hc2 := hc.1.2
                cases f with
                | true => simpa using hc2
                | false =>
                  have hc3 : chkX hs (sp.post (sel.map b ++ (List.range' H.length sp.m).map b)) (sp.new (sel.map b ++ (List.range' H.length sp.m).map b)) = true := hc2
                  unfold chkX at hc3
                  simp only [Bool.and_eq_true] at hc3
                  rw [keepsReal_len hc3.1, pick_len hp]
              have hkeep := (hit.2 (sel.map b) ((List.range' H.length sp.m).map b) (by simp) (by simp)).at_ j hjk
              rw [List.getElem?_append_left (by rw [putSel_len]; exact hk), putSel_in sel _ H hnd (pick_lt hp) hlen j k hj, hkeep, ← h2]
              exact pick_get hp j k hj
            · cases hsx
          · cases hsx
        · cases h
      · cases h
    · exact h0 k hk hs
  | _ => exact h0
end
end Go.Proofs.YtlpjdjbophcomaaDoor

