/-
  Regions by one list, as rx5 uses them: a number that is told as a key, callees that only read, s[0:], bytes of one's own as a string. Nothing of the program stands here.
-/
import Derived.Test.YtchogpgifdkhbaaRyU
import Derived.Test.YtchogpgifdkhbaaRxM
namespace Go.Proofs.Ytchogpgifdkhbaa
open Go.RowKit Go.MapKept
set_option linter.unusedVariables false
set_option linter.unusedSimpArgs false
section
variable {P : Program} {M : Nat → Prop} {B0 : Nat} {S : World → Prop} {Tm I T TB kt el : TypeId} {τ σ : Type} {f : τ → List Value} {g : σ → List Value} {N m : Nat} {X : Nat → σ × (Nat × (Nat → τ))} {B : Nat → τ} {a : σ}
/-- s[0:] is s. -/
def slc0 (T : TypeId) : Q → Option (Value × Obl)
  | .slc T' (.slice a n c) (some i) none none => some (.slice a n c, [(.n T', .n T), (.v i, .v (.int .i64 0))])
  | _ => none
theorem slc0_ok {T e : TypeId} {sz : Nat} (hT : P.underlying T = some (.slice e)) (hs : ∀ w, (sizeOf e).run P w = .ok sz w) :
    ∀ q v ob, slc0 T q = some (v, ob) → okL ob → ∀ w, q.sem.run P w = .ok (.value v) w := by
  intro q v ob hq ho w
  unfold slc0 at hq
  split at hq
  · rename_i T' a n c i
    simp only [Option.some.injEq, Prod.mk.injEq] at hq
    obtain ⟨rfl, rfl⟩ := hq
    obtain ⟨e1, ho⟩ := okL_cons.1 ho
    obtain ⟨e2, ho⟩ := okL_cons.1 ho
    simp only [Tok.n.injEq, Tok.v.injEq] at e1 e2
    subst e1; subst e2
    have ha : (a.map fun x : Addr => x.add (0 * sz)) = a := by cases a <;> simp [Addr.add]
    have hn : ¬ ((n : Int) < 0) := by omega
    simp [Q.sem, Instr.sliceAt, Instr.slice, Instr.sliceBounds, Instr.sliceBound, run_underlying hT, hs, asIntOf, Sem.run_bind, Result.andThen_ok, hn, ha]
    intro _
    have ha2 : (a.map fun x : Addr => x.add 0) = a := by cases a <;> simp [Addr.add]
    exact ha2
  · cases hq
/-- Bytes of one's own as a string. -/
theorem sqStrO_ok (hU : Up M B0 S) {s d e T : TypeId} {f : BitVec 8 → List Value} {N : Nat} {A : Nat → BitVec 8} (hs : P.underlying s = some (.slice e)) (he : P.underlying e = some (.int .u8)) (hd : P.underlying d = some .string) (hl : ∀ x, (f x).length = 1) (hf : ∀ x, f x = [.int .u8 (nn x)])
    (pad : L1 → List Value) (cap : L1 → Nat) : SpcG P M B0 S (ownSp f N A T pad cap (fun a c => sqStrV s d a N (N + c) A) 0 .normal) :=
  SpcG.own hU hl N A T pad cap (fun a c => sqStrV s d a N (N + c) A) 0 .normal (by intros; rfl) (by intros; rfl) (by intros; rfl) (fun _ _ _ a p q c hU0 _ hr0 => SpcGf.t (sqStrV_ok hs he hd hf hr0).g (fun _ _ => rfl))
/-- A region more, by a number that is the next one. -/
theorem adXk_ok (dk : DK) (X : Nat → σ × (Nat × (Nat → τ))) (a : σ) (B : Nat → τ) {x : Int} (hT : P.underlying Tm = some (.map kt el)) (hk : P.underlying kt = some (.int .i64)) (hx : (x == ((N + 1 : Nat) : Int)) = true) (h0 : decide (0 < m) = true) (hm : decide (m ≤ 1000000) = true) :
    SpcG P M B0 S ⟨fun ls => .op (.mup Tm (.map (some (lget ls 0).n)) (.int .i64 x) (.iface I (.pointer (some ⟨(lget ls 3).n, 0, none⟩)))),
      fun ls => [mapP I (lget ls 1) N, arX T (lget ls 2) N g X, byX TB f N X, .cells ⟨rowW dk (lget ls 4) m 1 :: g a⟩ T, rowD dk (lget ls 4) (esG f m B) TB m 1], 2, .normal,
      fun _ => [undef], fun ls => [mapP I (lget ls 5) (N + 1), unb, unb, unb, unb], fun ls => [arX T (lget ls 6) (N + 1) g (updF X N (a, m, B)), byX TB f (N + 1) (updF X N (a, m, B))]⟩ := by
  obtain rfl := eq_of_beq hx
  exact adX_ok dk X a B hT hk h0 hm
/-- A callee that only reads one region. -/
theorem memX0_ok {sp : Spc} {k : Nat} {R R' : List L1 → List Obj} (hpre : ∀ ls, sp.pre ls = .cells ⟨rowV (lget ls 1) (X k).2.1 1 :: g (X k).1⟩ T :: rowO (lget ls 1) (esG f (X k).2.1 (X k).2.2) TB (X k).2.1 1 :: R ls)
    (hpost : ∀ ls, sp.post ls = .cells ⟨rowV (lget ls 1) (X k).2.1 1 :: g (X k).1⟩ T :: rowO (lget ls 1) (esG f (X k).2.1 (X k).2.2) TB (X k).2.1 1 :: R' ls) (hk : k < N) (h0 : decide (0 < (X k).2.1) = true) (h : SpcG P M B0 S sp) :
    SpcG P M B0 S ⟨fun ls => sp.wh (mfl (lget ls 0) k :: mfl (lget ls 1) k :: ls.drop 2), fun ls => arX T (lget ls 1) N g X :: byX TB f N X :: R (mfl (lget ls 0) k :: mfl (lget ls 1) k :: ls.drop 2), sp.m, sp.ex, fun ls => sp.val (mfl (lget ls 0) k :: mfl (lget ls 1) k :: ls.drop 2),
      fun ls => arX T (lget ls 1) N g X :: byX TB f N X :: R' (mfl (lget ls 0) k :: mfl (lget ls 1) k :: ls.drop 2), fun ls => sp.new (mfl (lget ls 0) k :: mfl (lget ls 1) k :: ls.drop 2)⟩ := by
  have h1 := memX_ok (a' := (X k).1) (B' := (X k).2.2) hpre hpost hk h0 h
  rw [show updF X k ((X k).1, (X k).2.1, (X k).2.2) = X from updF_self X k] at h1
  exact h1
theorem memXB0_ok {sp : Spc} {k : Nat} (hpre : ∀ ls, sp.pre ls = [rowO (lget ls 0) (esG f (X k).2.1 (X k).2.2) TB (X k).2.1 1]) (hpost : ∀ ls, sp.post ls = [rowO (lget ls 0) (esG f (X k).2.1 (X k).2.2) TB (X k).2.1 1])
    (hk : k < N) (h0 : decide (0 < (X k).2.1) = true) (h : SpcG P M B0 S sp) :
    SpcG P M B0 S ⟨fun ls => sp.wh [mfl (lget ls 0) k], fun ls => [byX TB f N X], sp.m, sp.ex, fun ls => sp.val (mfl (lget ls 0) k :: ls.drop 1), fun ls => [byX TB f N X], fun ls => sp.new (mfl (lget ls 0) k :: ls.drop 1)⟩ := by
  have h1 := memXB_ok (B' := (X k).2.2) hpre hpost hk h0 h
  rw [show updF X k ((X k).1, (X k).2.1, (X k).2.2) = X from updF_self X k] at h1
  exact h1
/-! The same with the callee's contract ahead. -/
theorem memXh_ok {sp : Spc} {k : Nat} {B' : Nat → τ} {a' : σ} {R R' : List L1 → List Obj} (h : SpcG P M B0 S sp) (hpre : ∀ ls, sp.pre ls = .cells ⟨rowV (lget ls 1) (X k).2.1 1 :: g (X k).1⟩ T :: rowO (lget ls 1) (esG f (X k).2.1 (X k).2.2) TB (X k).2.1 1 :: R ls)
    (hpost : ∀ ls, sp.post ls = .cells ⟨rowV (lget ls 1) (X k).2.1 1 :: g a'⟩ T :: rowO (lget ls 1) (esG f (X k).2.1 B') TB (X k).2.1 1 :: R' ls) (hk : k < N) (h0 : decide (0 < (X k).2.1) = true) :
    SpcG P M B0 S ⟨fun ls => sp.wh (mfl (lget ls 0) k :: mfl (lget ls 1) k :: ls.drop 2), fun ls => arX T (lget ls 1) N g X :: byX TB f N X :: R (mfl (lget ls 0) k :: mfl (lget ls 1) k :: ls.drop 2), sp.m, sp.ex, fun ls => sp.val (mfl (lget ls 0) k :: mfl (lget ls 1) k :: ls.drop 2),
      fun ls => arX T (lget ls 1) N g (updF X k (a', (X k).2.1, B')) :: byX TB f N (updF X k (a', (X k).2.1, B')) :: R' (mfl (lget ls 0) k :: mfl (lget ls 1) k :: ls.drop 2), fun ls => sp.new (mfl (lget ls 0) k :: mfl (lget ls 1) k :: ls.drop 2)⟩ := memX_ok hpre hpost hk h0 h
theorem memXh0_ok {sp : Spc} {k : Nat} {R R' : List L1 → List Obj} (h : SpcG P M B0 S sp) (hpre : ∀ ls, sp.pre ls = .cells ⟨rowV (lget ls 1) (X k).2.1 1 :: g (X k).1⟩ T :: rowO (lget ls 1) (esG f (X k).2.1 (X k).2.2) TB (X k).2.1 1 :: R ls)
    (hpost : ∀ ls, sp.post ls = .cells ⟨rowV (lget ls 1) (X k).2.1 1 :: g (X k).1⟩ T :: rowO (lget ls 1) (esG f (X k).2.1 (X k).2.2) TB (X k).2.1 1 :: R' ls) (hk : k < N) (h0 : decide (0 < (X k).2.1) = true) :
    SpcG P M B0 S ⟨fun ls => sp.wh (mfl (lget ls 0) k :: mfl (lget ls 1) k :: ls.drop 2), fun ls => arX T (lget ls 1) N g X :: byX TB f N X :: R (mfl (lget ls 0) k :: mfl (lget ls 1) k :: ls.drop 2), sp.m, sp.ex, fun ls => sp.val (mfl (lget ls 0) k :: mfl (lget ls 1) k :: ls.drop 2),
      fun ls => arX T (lget ls 1) N g X :: byX TB f N X :: R' (mfl (lget ls 0) k :: mfl (lget ls 1) k :: ls.drop 2), fun ls => sp.new (mfl (lget ls 0) k :: mfl (lget ls 1) k :: ls.drop 2)⟩ := memX0_ok hpre hpost hk h0 h
theorem memXBh_ok {sp : Spc} {k : Nat} {B' : Nat → τ} (h : SpcG P M B0 S sp) (hpre : ∀ ls, sp.pre ls = [rowO (lget ls 0) (esG f (X k).2.1 (X k).2.2) TB (X k).2.1 1]) (hpost : ∀ ls, sp.post ls = [rowO (lget ls 0) (esG f (X k).2.1 B') TB (X k).2.1 1])
    (hk : k < N) (h0 : decide (0 < (X k).2.1) = true) :
    SpcG P M B0 S ⟨fun ls => sp.wh [mfl (lget ls 0) k], fun ls => [byX TB f N X], sp.m, sp.ex, fun ls => sp.val (mfl (lget ls 0) k :: ls.drop 1), fun ls => [byX TB f N (updF X k ((X k).1, (X k).2.1, B'))], fun ls => sp.new (mfl (lget ls 0) k :: ls.drop 1)⟩ := memXB_ok hpre hpost hk h0 h
theorem memXBh0_ok {sp : Spc} {k : Nat} (h : SpcG P M B0 S sp) (hpre : ∀ ls, sp.pre ls = [rowO (lget ls 0) (esG f (X k).2.1 (X k).2.2) TB (X k).2.1 1]) (hpost : ∀ ls, sp.post ls = [rowO (lget ls 0) (esG f (X k).2.1 (X k).2.2) TB (X k).2.1 1])
    (hk : k < N) (h0 : decide (0 < (X k).2.1) = true) :
    SpcG P M B0 S ⟨fun ls => sp.wh [mfl (lget ls 0) k], fun ls => [byX TB f N X], sp.m, sp.ex, fun ls => sp.val (mfl (lget ls 0) k :: ls.drop 1), fun ls => [byX TB f N X], fun ls => sp.new (mfl (lget ls 0) k :: ls.drop 1)⟩ := memXB0_ok hpre hpost hk h0 h
/-- A slice of bytes that is only read, as a string: a value. -/
def strRo (s d : TypeId) (a : Option Addr) (n c : Nat) (A : Nat → BitVec 8) : Q → Option (Value × Obl)
  | .cnv s' d' x => some (.string (bstr n A), [(.n s', .n s), (.n d', .n d), (.v x, .v (.slice a n c))])
  | _ => none
theorem strRo_ok {s d e : TypeId} {f : BitVec 8 → List Value} {a : Option Addr} {p q n c : Nat} {A : Nat → BitVec 8} (hs : P.underlying s = some (.slice e)) (he : P.underlying e = some (.int .u8)) (hd : P.underlying d = some .string) (hf : ∀ x, f x = [.int .u8 (nn x)]) (hR : Ro S f 1 a p q n A) :
    ∀ q v ob, strRo s d a n c A q = some (v, ob) → okL ob → ∀ w, S w → q.sem.run P w = .ok (.value v) w := by
  intro q v ob hq ho w hS
  unfold strRo at hq
  split at hq
  · simp only [Option.some.injEq, Prod.mk.injEq] at hq
    obtain ⟨rfl, rfl⟩ := hq
    obtain ⟨e1, ho⟩ := okL_cons.1 ho
    obtain ⟨e2, ho⟩ := okL_cons.1 ho
    obtain ⟨e3, ho⟩ := okL_cons.1 ho
    simp only [Tok.n.injEq, Tok.v.injEq] at e1 e2 e3
    subst e3
    rw [e1, e2]
    have h : (convert s d (.slice a n c)).run P w = .ok (.string (bstr n A)) w := by
      by_cases h0 : 0 < n
      · rw [hR.at_ h0]
        exact run_convert_bytes_arg w s e hs he p _ n c _ (by simp) (fun i hi => by
          have := hR.cell w hS i hi 0 (by omega)
          rw [hf] at this
          simp only [Nat.mul_one, Nat.add_zero] at this
          rw [this]
          simp [List.getD, hi]) d hd
      · obtain rfl : n = 0 := by omega
        rw [run_convert_bytes_string w s d e _ 0 c hs he hd]
        cases a <;> simp [Conv.bytesToString, loadCells, loadCellsFrom, bstr, strOfNums] <;> rfl
    simp only [Q.sem, Sem.run_bind, h, Result.andThen_ok, Sem.run_pure]
  · cases hq
/-! ### copy into a part of a row -/
/-- A with B's first n elements from p on. -/
def cpF {α : Type} (A : Nat → α) (p n : Nat) (B : Nat → α) : Nat → α := fun k => if p ≤ k ∧ k < p + n then B (k - p) else A k
theorem esG_cp {α : Type} {f : α → List Value} {A B : Nat → α} {N p n : Nat} (h : p + n ≤ N) : esG f N (cpF A p n B) = esG f p A ++ esG f n B ++ esG f (N - (p + n)) (fun k => A (p + n + k)) := by
  have e : N = p + n + (N - (p + n)) := by omega
  conv => lhs; rw [e, esG_split, esG_split]
  congr 1
  · congr 1
    · exact esG_congr fun k hk => by unfold cpF; rw [if_neg (by omega)]
    · exact esG_congr fun k hk => by unfold cpF; rw [if_pos (by omega), show p + k - p = k by omega]
  · exact esG_congr fun k hk => by unfold cpF; rw [if_neg (by omega)]
/-- copy of a slice that is only read into a part of a row. -/
theorem sqCpA_ok {t e : TypeId} {i : TypeInfo} {zz : Value} {sz bytes : Nat} {S : World → Prop} (R : RowT P t e i zz sz bytes) (ty : TypeId) (consts : Array Bool) {α : Type} {f : α → List Value} {N n p c x q : Nat} {a : Option Addr} {A B : Nat → α} {dv : L1 → Value} {cv : L1 → Nat} (hR : Ro S f sz a x q n B)
    (hf : ∀ x, (f x).length = sz) (h1 : ∀ x, ((f x).all fun u => u.oneCell') = true) (hd : ∀ l, dv l = .slice (some ⟨l.n, p * sz, none⟩) (N - p) (cv l)) (hp : decide (p + n ≤ N) = true) :
    SpcOk P S ⟨fun ls => .op (.blt .copy #[t, t] ty consts #[dv (lget ls 0), .slice a n c]), fun ls => [rowO (lget ls 0) (esG f N A) e N sz], 0, .normal,
      fun _ => [.int .i64 (n : Int)], fun ls => [rowO (lget ls 0) (esG f N (cpF A p n B)) e N sz], fun _ => []⟩ := by
  have hp := of_decide_eq_true hp
  intro ls w hlen hsat hS
  match ls, hlen with
  | [r], _ =>
    have hgr : w.heap[r.n]? = some (.cells ⟨esG f N A ++ padL r N sz⟩ e (0, 0)) := hsat.holds 0 _ r rfl rfl rfl
    have hln : n * sz + p * sz ≤ N * sz := by rw [← Nat.add_mul]; exact Nat.mul_le_mul_right _ (by omega)
    have hst := run_storeCells_at P r.n (p * sz) e (esG f n B) 0 ⟨esG f N A ++ padL r N sz⟩ w hgr (by
      show _ ≤ (esG f N A ++ padL r N sz).length
      rw [List.length_append, esG_len hf, esG_len hf]; omega) (esG_one h1)
    have hcs : (List.take (p * sz + 0) (⟨esG f N A ++ padL r N sz⟩ : Array Value).toList ++ esG f n B ++ List.drop (p * sz + 0 + (esG f n B).length) (⟨esG f N A ++ padL r N sz⟩ : Array Value).toList).toArray = ⟨esG f N (cpF A p n B) ++ padL r N sz⟩ := by
      have eN : esG f N A = esG f p A ++ esG f n (fun k => A (p + k)) ++ esG f (N - (p + n)) (fun k => A (p + n + k)) := by
        conv => lhs; rw [show N = p + n + (N - (p + n)) by omega, esG_split, esG_split]
      have l1 : (esG f p A).length = p * sz := esG_len hf
      have l2 : (esG f n (fun k => A (p + k))).length = n * sz := esG_len hf
      have l3 : (esG f n B).length = n * sz := esG_len hf
      rw [esG_cp hp]
      show (List.take (p * sz + 0) (esG f N A ++ padL r N sz) ++ esG f n B ++ List.drop (p * sz + 0 + (esG f n B).length) (esG f N A ++ padL r N sz)).toArray = _
      rw [eN, l3, Nat.add_zero]
      have t1 : List.take (p * sz) (esG f p A ++ esG f n (fun k => A (p + k)) ++ esG f (N - (p + n)) (fun k => A (p + n + k)) ++ padL r N sz) = esG f p A := by
        rw [List.append_assoc, List.append_assoc, ← l1, List.take_left]
      have t2 : List.drop (p * sz + n * sz) (esG f p A ++ esG f n (fun k => A (p + k)) ++ esG f (N - (p + n)) (fun k => A (p + n + k)) ++ padL r N sz) = esG f (N - (p + n)) (fun k => A (p + n + k)) ++ padL r N sz := by
        rw [List.append_assoc, show p * sz + n * sz = (esG f p A ++ esG f n (fun k => A (p + k))).length by rw [List.length_append, l1, l2], List.drop_left]
      rw [t1, t2]
      simp only [List.append_assoc]
    rw [hcs] at hst
    have hr : (Builtin.copy_ #[t, t] ty #[dv r, .slice a n c]).run P w = .ok (goInt n) (w.setRow r.n ⟨esG f N (cpF A p n B) ++ padL r N sz⟩) := by
      rw [hd]
      by_cases hN : 0 < n
      · obtain ⟨ad, rfl, hcell⟩ := ro_news hf R.hsz hR hS hN
        have hfc := run_firstCells_some (P := P) w sz n ad n c (esG f n B) (esG_len hf) hcell
        have hmn : n.min (N - p) = n := by show min n (N - p) = n; omega
        simp [Builtin.copy_, run_underlying R.ht, Builtin.lenOf, sizeOf, typeInfo, R.hi, R.hsize, hmn, hfc, hst]
      · obtain rfl : n = 0 := by omega
        have hself : esG f N (cpF A p 0 B) = esG f N A := esG_congr fun k hk => by unfold cpF; rw [if_neg (by omega)]
        have e0 : w.setRow r.n ⟨esG f N (cpF A p 0 B) ++ padL r N sz⟩ = w := by
          rw [hself]
          exact setRow_self _ _ _ _ _ hgr
        rw [e0]
        cases a <;> simp [Builtin.copy_, run_underlying R.ht, Builtin.lenOf, sizeOf, typeInfo, R.hi, R.hsize, Builtin.firstCells, storeCells, loadCells, loadCellsFrom]
    refine ⟨.int .i64 (n : Int), w.setRow r.n ⟨esG f N (cpF A p n B) ++ padL r N sz⟩, .inl ?_, [], rfl, rfl, ⟨?_, ?_⟩, ?_, ?_⟩
    · show (Q.sem (.blt .copy #[t, t] ty consts #[dv r, .slice a n c])).run P w = _
      simp only [Q.sem, builtin, Sem.run_bind, hr, Result.andThen_ok, Sem.run_pure]
      rfl
    · intro j o x hj hreal hx
      match j, hj, hx with
      | 0, hj, hx =>
        obtain rfl : rowO r (esG f N (cpF A p n B)) e N sz = o := by simpa [lget] using hj
        obtain rfl : r = x := by simpa using hx
        exact setRow_heap w r.n _ _ e (0, 0) hgr
      | k + 1, hj, _ => simp at hj
    · intro a b o p x y ha har hb hbr hx hy hxy
      match a, b, hx, hy with
      | 0, 0, _, _ => rfl
      | k + 1, _, hx, _ => simp at hx
      | _, k + 1, _, hy => simp at hy
    · intro j o x hj hreal hx
      simp at hj
    · refine ⟨rfl, rfl, rfl, by simp, fun k hk ht => setRow_other _ _ _ _ fun q => ht ⟨0, _, r, rfl, rfl, rfl, q.symm⟩⟩
end
end Go.Proofs.Ytchogpgifdkhbaa
