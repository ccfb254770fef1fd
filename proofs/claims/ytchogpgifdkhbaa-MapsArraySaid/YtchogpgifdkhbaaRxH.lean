/-
  Blocks of several arrays; parts of a call's own rows and arrays, which a callee may write. Nothing of the program stands here.
-/
import Derived.Test.YtchogpgifdkhbaaRxM
namespace Go.Proofs.Ytchogpgifdkhbaa
open Go.RowKit
set_option linter.unusedVariables false
set_option linter.unusedSimpArgs false
/-! ### A block of several arrays -/
def segs : List (List Value) → List Value
  | [] => []
  | s :: r => s ++ segs r
theorem segs_app : ∀ (L M : List (List Value)), segs (L ++ M) = segs L ++ segs M
  | [], M => rfl
  | s :: r, M => by
    show s ++ segs (r ++ M) = s ++ segs r ++ segs M
    rw [segs_app r M, List.append_assoc]
theorem segs_mid (pre : List (List Value)) (s : List Value) (post : List (List Value)) : segs (pre ++ s :: post) = segs pre ++ (s ++ segs post) := segs_app _ _
theorem sg0 : (segs []).length = 0 := rfl
theorem sgc {s : List Value} {r : List (List Value)} {n m : Nat} (h : s.length = n) (k : (segs r).length = m) : (segs (s :: r)).length = n + m := by
  show (s ++ segs r).length = _
  rw [List.length_append, h, k]
section
variable {P : Program} {S : World → Prop} {T e : TypeId}
/-- A store of a value (of several cells) somewhere into a block. -/
theorem spc_store {c c2 : L1 → Array Value} {p : Nat} (u : Value) (hz : ∀ w, (sizeOf T).run P w = .ok u.cells.size w) (hone : ∀ x ∈ u.cells.toList, x.oneCell' = true)
    (hfit : ∀ l, p + u.cells.toList.length ≤ (c l).size) (hset : ∀ l, (List.take p (c l).toList ++ u.cells.toList ++ List.drop (p + u.cells.toList.length) (c l).toList).toArray = c2 l) :
    SpcOk P S ⟨fun ls => .op (.st T (.pointer (some ⟨(lget ls 0).n, p, none⟩)) u), fun ls => [.cells (c (lget ls 0)) e], 0, .normal, fun _ => [undef], fun ls => [.cells (c2 (lget ls 0)) e], fun _ => []⟩ := by
  intro ls w hlen hsat hS
  match ls, hlen with
  | [l], _ =>
    have hg : w.heap[l.n]? = some (.cells (c l) e (0, 0)) := hsat.holds 0 _ l rfl rfl rfl
    have hst := run_storeCells_at P l.n p e u.cells.toList 0 (c l) w hg (hfit l) hone
    rw [show p + 0 = p from rfl, hset l] at hst
    have hr : (Instr.storeAt T (.pointer (some ⟨l.n, p, none⟩)) u).run P w = .ok () (w.setRow l.n (c2 l)) := by
      simp [Instr.storeAt, Instr.sureAddr, storeVar, hz, hst]
    refine ⟨undef, w.setRow l.n (c2 l), .inr ⟨?_, rfl⟩, [], rfl, rfl, ⟨?_, ?_⟩, ?_, ?_⟩
    · show (Q.sem (.st T (.pointer (some ⟨l.n, p, none⟩)) u)).run P w = _
      simp only [Q.sem, Sem.run_bind, hr, Result.andThen_ok, Sem.run_pure]
    · intro i o x hj hreal hx
      match i, hj, hx with
      | 0, hj, hx =>
        obtain rfl : Obj.cells (c2 l) e = o := by simpa [lget] using hj
        obtain rfl : l = x := by simpa using hx
        exact setRow_heap w l.n _ _ e (0, 0) hg
      | i + 1, hj, _ => simp at hj
    · intro a b o p x y ha har hb hbr hx hy hxy
      match a, b, hx, hy with
      | 0, 0, _, _ => rfl
      | k + 1, _, hx, _ => simp at hx
      | 0, k + 1, _, hy => simp at hy
    · intro j o x hj hreal hx
      simp at hj
    · refine ⟨rfl, rfl, rfl, by simp, fun k hk ht => setRow_other _ _ _ _ fun q => ht ⟨0, _, l, rfl, rfl, rfl, q.symm⟩⟩
variable {τ : Type} {f : τ → List Value} {N k sz o off : Nat} {A A1 : Nat → τ} {v : τ} {pre post : List (List Value)}
/-- Loaded out of one of a block's arrays. -/
theorem accSg {i : Nat} (ho : (segs pre).length = o) (hof : o = off) (j : Nat) (vs : List Value) (hf : ∀ x, (f x).length = sz) (hk : k < N) (hv : ((f (A k)).drop j).take vs.length = vs) :
    AccOk S (saidG i (fun _ => ⟨segs (pre ++ esG f N A :: post)⟩) (off + k * sz + j) vs) := by
  subst hof
  refine saidG_ok fun l n hn => ?_
  have hlen : vs.length ≤ (f (A k)).length - j := by
    have := congrArg List.length hv
    rw [List.length_take, List.length_drop] at this
    omega
  rw [hf] at hlen
  have hjn : j + n < sz := by omega
  have hlt : k * sz + (j + n) < (esG f N A).length := by
    rw [esG_len hf]
    have := Nat.mul_le_mul_right sz (show k + 1 ≤ N by omega)
    rw [Nat.succ_mul] at this
    omega
  show (⟨segs (pre ++ esG f N A :: post)⟩ : Array Value)[o + k * sz + j + n]? = _
  rw [segs_mid, List.getElem?_toArray, List.getElem?_append_right (by omega), ho, show o + k * sz + j + n - o = k * sz + (j + n) by omega, List.getElem?_append_left hlt, esG_get hf hjn hk]
  conv => rhs; rw [← hv]
  rw [List.getElem?_take_of_lt hn, List.getElem?_drop]
/-- Stored into one of a block's arrays. -/
theorem sqSg_ok (ho : (segs pre).length = o) (hof : o = off) (j : Nat) (u : Value) (hf : ∀ x, (f x).length = sz) (h1 : ∀ x, ((f x).all fun u => u.oneCell') = true)
    (hj : Nat.ble (j + u.cells.toList.length) sz = true) (hv : (f (A k)).take j ++ u.cells.toList ++ (f (A k)).drop (j + u.cells.toList.length) = f v) (hz : ∀ w, (sizeOf T).run P w = .ok u.cells.size w) (hk : k < N) (he : updF A k v = A1) :
    SpcOk P S ⟨fun ls => .op (.st T (.pointer (some ⟨(lget ls 0).n, off + k * sz + j, none⟩)) u), fun ls => [.cells ⟨segs (pre ++ esG f N A :: post)⟩ e], 0, .normal, fun _ => [undef], fun ls => [.cells ⟨segs (pre ++ esG f N A1 :: post)⟩ e], fun _ => []⟩ := by
  subst hof he
  have hj := ble_le' hj
  have hset := esG_set hf hk v j u.cells.toList hj hv
  have hfit : k * sz + j + u.cells.toList.length ≤ (esG f N A).length := by
    rw [esG_len hf]
    have := Nat.mul_le_mul_right sz (show k + 1 ≤ N by omega)
    rw [Nat.succ_mul] at this
    omega
  refine spc_store (c := fun _ => ⟨segs (pre ++ esG f N A :: post)⟩) (c2 := fun _ => ⟨segs (pre ++ esG f N (updF A k v) :: post)⟩) u hz (fun x hx => ?_) (fun l => ?_) (fun l => ?_)
  · exact List.all_eq_true.1 (h1 v) x (by rw [← hv]; exact List.mem_append_left _ (List.mem_append_right _ hx))
  · show _ ≤ (segs (pre ++ esG f N A :: post)).length
    rw [segs_mid, List.length_append, List.length_append, ho]
    omega
  · rw [segs_mid, segs_mid, ← hset]
    show (List.take _ (segs pre ++ (esG f N A ++ segs post)) ++ _ ++ List.drop _ (segs pre ++ (esG f N A ++ segs post))).toArray = _
    rw [List.take_append, List.drop_append, ho, List.take_of_length_le (by rw [ho]; omega), List.drop_of_length_le (by rw [ho]; omega),
      show o + k * sz + j - o = k * sz + j by omega, show o + k * sz + j + u.cells.toList.length - o = k * sz + j + u.cells.toList.length by omega,
      List.take_append_of_le_length (by omega), List.drop_append_of_le_length (by omega)]
    simp
end
/-! ### A part of a row or of an array -/
section
variable {P : Program} {T e : TypeId} {sz : Nat}
theorem addr_add (b m j : Nat) : (⟨b, m, none⟩ : Addr).add j = ⟨b, m + j, none⟩ := by unfold Addr.add; split <;> simp_all
/-- A place behind the beginning of an array. -/
def offAt : Nat → Nat → Nat
  | 0, y => y
  | k + 1, y => k + 1 + y
theorem offAt_eq (k y : Nat) : offAt k y = k + y := by cases k with
  | zero => exact (Nat.zero_add y).symm
  | succ k => rfl
theorem psl_lt {i len off N : Nat} (h : i < len) (hle : off + len ≤ N) : off + i < N := by omega
theorem arr_le {x y : Option Int} {n : Nat} (h : inR (x.getD 0) n = true) (hy : inR (y.getD n) (n + 1) = true) (hxy : decide (x.getD 0 ≤ y.getD n) = true) : (x.getD 0).toNat + ((y.getD n).toNat - (x.getD 0).toNat) ≤ n := part_le h hy hxy
theorem inR_lo0 {y : Int} {n : Nat} (h : inR y n = true) : decide ((0 : Int) ≤ y) = true := decide_eq_true (inR_iff.1 h).1
theorem inR_hi0 {x : Int} {n : Nat} (h : inR x n = true) : decide (x ≤ (n : Int)) = true := decide_eq_true (Int.le_of_lt (inR_iff.1 h).2)
/-- The room behind a place: of a row, of an array. -/
def slPart (ck : CK) (T : TypeId) (N sz : Nat) (x y : Int) : Q → Option (Value × (L1 → Obl))
  | .slc T' (.slice (some ⟨b, m, none⟩) n c) (some i) (some j) none => some (.slice (some ⟨b, x.toNat * sz, none⟩) (y.toNat - x.toNat) (y.toNat - x.toNat + (c - y.toNat)), fun l => [(.n T', .n T), (.v (.slice (some ⟨b, m, none⟩) n c), .v (rowCV ck l N sz)), (.v i, .v (.int .i64 x)), (.v j, .v (.int .i64 y))])
  | _ => none
theorem slPart_ok (ck : CK) {N : Nat} (hT : P.underlying T = some (.slice e)) (hs : ∀ w, (sizeOf e).run P w = .ok sz w) {x y : Int} (h : inR x N = true) (hy : inR y (N + 1) = true) (hxy : decide (x ≤ y) = true) :
    ∀ q v g l, slPart ck T N sz x y q = some (v, g) → okL (g l) → ∀ w, q.sem.run P w = .ok (.value v) w := by
  intro q v g l hq ho w
  obtain ⟨h0, h1⟩ := inR_iff.1 h
  obtain ⟨h2, h3⟩ := inR_iff.1 hy
  have h4 := of_decide_eq_true hxy
  unfold slPart at hq
  split at hq
  · simp only [Option.some.injEq, Prod.mk.injEq] at hq
    obtain ⟨rfl, rfl⟩ := hq
    obtain ⟨e1, ho⟩ := okL_cons.1 ho
    obtain ⟨e2, ho⟩ := okL_cons.1 ho
    obtain ⟨e3, ho⟩ := okL_cons.1 ho
    obtain ⟨e4, ho⟩ := okL_cons.1 ho
    simp only [Tok.n.injEq, Tok.v.injEq, rowCV, Value.slice.injEq, Option.some.injEq, Addr.mk.injEq, and_true] at e1 e2 e3 e4
    obtain ⟨⟨rfl, rfl⟩, hn, rfl⟩ := e2
    have hn := hn.symm
    subst hn
    subst e1 e3 e4
    have hc := le_capC ck l N sz
    obtain ⟨x, rfl⟩ := Int.eq_ofNat_of_zero_le h0
    obtain ⟨y, rfl⟩ := Int.eq_ofNat_of_zero_le h2
    have hne : ¬ (capC ck l N sz = x) := by omega
    have hle : y ≤ capC ck l N sz := by omega
    have hxy' : x ≤ y := by omega
    have hcc : y - x + (capC ck l N sz - y) = capC ck l N sz - x := by omega
    simp [Q.sem, Instr.sliceAt, Instr.slice, Instr.sliceBounds, Instr.sliceBound, run_underlying hT, hs, asIntOf, hne, hle, hxy', hcc, Sem.run_bind, Result.andThen_ok, add_off]
  · cases hq
/-- Of an array behind an address. -/
def slArr (T : TypeId) (N sz off : Nat) (x y : Option Int) : Q → Option (Value × Obl)
  | .slc T' (.pointer (some ⟨b, m, none⟩)) i j none => some (.slice (some ⟨b, offAt off ((x.getD 0).toNat * sz), none⟩) ((y.getD N).toNat - (x.getD 0).toNat) ((y.getD N).toNat - (x.getD 0).toNat + (N - (y.getD N).toNat)),
      [(.n T', .n T), (.n m, .n off), (.vs i.toList, .vs (x.toList.map fun x => .int .i64 x)), (.vs j.toList, .vs (y.toList.map fun y => .int .i64 y))])
  | _ => none
theorem slArr_ok {N off : Nat} (hT : P.underlying T = some (.array N e)) (hs : ∀ w, (sizeOf e).run P w = .ok sz w) {x y : Option Int} (h : inR (x.getD 0) N = true) (hy : inR (y.getD N) (N + 1) = true) (hxy : decide (x.getD 0 ≤ y.getD N) = true) :
    ∀ q v ob, slArr T N sz off x y q = some (v, ob) → okL ob → ∀ w, q.sem.run P w = .ok (.value v) w := by
  intro q v ob hq ho w
  obtain ⟨h0, h1⟩ := inR_iff.1 h
  obtain ⟨h2, h3⟩ := inR_iff.1 hy
  have h4 := of_decide_eq_true hxy
  unfold slArr at hq
  split at hq
  · rename_i T' b m i j
    simp only [Option.some.injEq, Prod.mk.injEq] at hq
    obtain ⟨rfl, rfl⟩ := hq
    obtain ⟨e1, ho⟩ := okL_cons.1 ho
    obtain ⟨e2, ho⟩ := okL_cons.1 ho
    obtain ⟨e3, ho⟩ := okL_cons.1 ho
    obtain ⟨e4, ho⟩ := okL_cons.1 ho
    simp only [Tok.n.injEq, Tok.vs.injEq] at e1 e2 e3 e4
    subst e1 e2
    have e3 : i = x.map fun x => .int .i64 x := by cases i <;> cases x <;> simp_all
    have e4 : j = y.map fun x => .int .i64 x := by cases j <;> cases y <;> simp_all
    subst e3 e4
    cases x with
    | none =>
      simp only [Option.getD_none] at h0 h1 h4
      have hN : ¬ (N = 0) := by omega
      cases y with
      | none =>
        simp [Q.sem, Instr.sliceAt, Instr.sureAddr, Instr.sliceBounds, Instr.sliceBound, run_underlying hT, hs, asIntOf, Sem.run_bind, Result.andThen_ok, addr_add, offAt_eq, hN]
        try rfl
      | some y =>
        simp only [Option.getD_some] at h2 h3
        obtain ⟨y, rfl⟩ := Int.eq_ofNat_of_zero_le h2
        have hle : y ≤ N := by omega
        have hcc : y + (N - y) = N := by omega
        simp [Q.sem, Instr.sliceAt, Instr.sureAddr, Instr.sliceBounds, Instr.sliceBound, run_underlying hT, hs, asIntOf, Sem.run_bind, Result.andThen_ok, addr_add, offAt_eq, hN, hle, hcc]
        try rfl
    | some x =>
      simp only [Option.getD_some] at h0 h1 h4
      obtain ⟨x, rfl⟩ := Int.eq_ofNat_of_zero_le h0
      have hN : ¬ (N = x) := by omega
      cases y with
      | none =>
        have hle : x ≤ N := by omega
        simp [Q.sem, Instr.sliceAt, Instr.sureAddr, Instr.sliceBounds, Instr.sliceBound, run_underlying hT, hs, asIntOf, Sem.run_bind, Result.andThen_ok, addr_add, offAt_eq, hN, hle]
      | some y =>
        simp only [Option.getD_some] at h2 h3 h4
        obtain ⟨y, rfl⟩ := Int.eq_ofNat_of_zero_le h2
        have hle : y ≤ N := by omega
        have hxy' : x ≤ y := by omega
        have hcc : y - x + (N - y) = N - x := by omega
        simp [Q.sem, Instr.sliceAt, Instr.sureAddr, Instr.sliceBounds, Instr.sliceBound, run_underlying hT, hs, asIntOf, Sem.run_bind, Result.andThen_ok, addr_add, offAt_eq, hN, hle, hxy', hcc]
  · cases hq
/-- An element's place in a part. -/
def ixP (T : TypeId) (iv : Value) (n k off sz base : Nat) : Q → Option (Value × Obl)
  | .idxA T' (.slice (some ⟨b, m, none⟩) n' c) i => some (.pointer (some ⟨b, base + (off + k) * sz, none⟩), [(.n T', .n T), (.n m, .n (offAt base (off * sz))), (.n n', .n n), (.v i, .v iv)])
  | _ => none
theorem ixP_ok {kd : IntKind} {x : Int} {n off base : Nat} (hT : P.underlying T = some (.slice (P.elem T))) (hs : ∀ w, (sizeOf (P.elem T)).run P w = .ok sz w) (h : inR x n = true) :
    ∀ q v ob, ixP T (.int kd x) n x.toNat off sz base q = some (v, ob) → okL ob → ∀ w, q.sem.run P w = .ok (.value v) w := by
  intro q v ob hq ho w
  obtain ⟨h0, h1⟩ := inR_iff.1 h
  unfold ixP at hq
  split at hq
  · rename_i T' b m n' c i
    simp only [Option.some.injEq, Prod.mk.injEq] at hq
    obtain ⟨rfl, rfl⟩ := hq
    obtain ⟨e1, ho⟩ := okL_cons.1 ho
    obtain ⟨e2, ho⟩ := okL_cons.1 ho
    obtain ⟨e3, ho⟩ := okL_cons.1 ho
    obtain ⟨e4, ho⟩ := okL_cons.1 ho
    simp only [Tok.n.injEq, Tok.v.injEq] at e1 e2 e3 e4
    subst e1 e2 e3 e4
    obtain ⟨x, rfl⟩ := Int.eq_ofNat_of_zero_le h0
    have hx : x < n' := by omega
    have e : offAt base (off * sz) + x * sz = base + (off + x) * sz := by rw [offAt_eq, Nat.add_mul, Nat.add_assoc]
    simp [Q.sem, Instr.indexAt, run_underlying hT, hs, asIntOf, hx, Sem.run_bind, Result.andThen_ok, addr_add, e]
  · cases hq
end
end Go.Proofs.Ytchogpgifdkhbaa
