/-
  The regions of a memory told by one list: number k has the fields (X k).1 and the bytes (X k).2. Nothing of the program stands here.
-/
import Derived.Test.YtchogpgifdkhbaaRyT
namespace Go.Proofs.Ytchogpgifdkhbaa
open Go.RowKit Go.MapKept
set_option linter.unusedVariables false
set_option linter.unusedSimpArgs false
section
variable {P : Program} {M : Nat → Prop} {B0 : Nat} {S : World → Prop} {Tm I T TB kt el : TypeId} {τ σ : Type} {f : τ → List Value} {g : σ → List Value} {N m : Nat} {X : Nat → σ × (Nat × (Nat → τ))} {B : Nat → τ} {a : σ}
theorem fst_updF {α β : Type} (X : Nat → α × β) (k : Nat) (v : α × β) : (fun i => (updF X k v i).1) = updF (fun i => (X i).1) k v.1 := by
  funext i
  by_cases h : i = k
  · subst h; rw [updF_at, updF_at]
  · rw [updF_ne _ _ h, updF_ne _ _ h]
theorem snd_updF {α β : Type} (X : Nat → α × β) (k : Nat) (v : α × β) : (fun i => (updF X k v i).2) = updF (fun i => (X i).2) k v.2 := by
  funext i
  by_cases h : i = k
  · subst h; rw [updF_at, updF_at]
  · rw [updF_ne _ _ h, updF_ne _ _ h]
theorem updF_self {α : Type} (X : Nat → α) (k : Nat) : updF X k (X k) = X := by
  funext i
  by_cases h : i = k
  · subst h; rw [updF_at]
  · rw [updF_ne _ _ h]
def arX (T : TypeId) (l2 : L1) (N : Nat) (g : σ → List Value) (X : Nat → σ × (Nat × (Nat → τ))) : Obj := arO T l2 N (fun i => (X i).2) g (fun i => (X i).1)
def byX (TB : TypeId) (f : τ → List Value) (N : Nat) (X : Nat → σ × (Nat × (Nat → τ))) : Obj := rfO TB f 1 N (fun i => (X i).2)
theorem mkX_ok (Tm I T TB : TypeId) (f : τ → List Value) (g : σ → List Value) (X : Nat → σ × (Nat × (Nat → τ))) :
    SpcG P M B0 S ⟨fun _ => .op (.mkm Tm none), fun _ => [], 3, .normal, fun ls => [.map (some (lget ls 0).n)], fun _ => [], fun ls => [mapP I (lget ls 1) 0, arX T (lget ls 2) 0 g X, byX TB f 0 X]⟩ := mkP_ok Tm I T TB f g _ _
theorem adX_ok (dk : DK) (X : Nat → σ × (Nat × (Nat → τ))) (a : σ) (B : Nat → τ) (hT : P.underlying Tm = some (.map kt el)) (hk : P.underlying kt = some (.int .i64)) (h0 : decide (0 < m) = true) (hm : decide (m ≤ 1000000) = true) :
    SpcG P M B0 S ⟨fun ls => .op (.mup Tm (.map (some (lget ls 0).n)) (kfP N) (.iface I (.pointer (some ⟨(lget ls 3).n, 0, none⟩)))),
      fun ls => [mapP I (lget ls 1) N, arX T (lget ls 2) N g X, byX TB f N X, .cells ⟨rowW dk (lget ls 4) m 1 :: g a⟩ T, rowD dk (lget ls 4) (esG f m B) TB m 1], 2, .normal,
      fun _ => [undef], fun ls => [mapP I (lget ls 5) (N + 1), unb, unb, unb, unb], fun ls => [arX T (lget ls 6) (N + 1) g (updF X N (a, m, B)), byX TB f (N + 1) (updF X N (a, m, B))]⟩ := by
  have h := adP_ok (P := P) (M := M) (B0 := B0) (S := S) (Tm := Tm) (I := I) (T := T) (TB := TB) (f := f) (g := g) (N := N) (m := m) (D := fun i => (X i).2) (A := fun i => (X i).1) (B := B) (a := a) dk hT hk h0 hm
  simp only [arX, byX, fst_updF, snd_updF]
  exact h
theorem lkX_has (ok : Bool) {x : Int} (hT : P.underlying Tm = some (.map kt el)) (hk : P.underlying kt = some (.int .i64)) (h : inR (x - 1) N = true) :
    SpcG P M B0 S ⟨fun ls => .op (.lkp Tm (.map (some (lget ls 0).n)) (.int .i64 x) ok), fun ls => [mapP I (lget ls 1) N, arX T (lget ls 2) N g X, byX TB f N X], 0, .normal, fun ls => [lkV ok (vfP I (lget ls 1) (x - 1).toNat) true], fun ls => [mapP I (lget ls 1) N, arX T (lget ls 2) N g X, byX TB f N X], fun _ => []⟩ := lkP_has ok hT hk h
theorem lkX_none (ok : Bool) (z : Value) {x : Int} (hT : P.underlying Tm = some (.map kt el)) (hk : P.underlying kt = some (.int .i64)) (hz : ∀ w, (zeroValue el).run P w = .ok z w) (h : inR (x - 1) N = false) :
    SpcG P M B0 S ⟨fun ls => .op (.lkp Tm (.map (some (lget ls 0).n)) (.int .i64 x) ok), fun ls => [mapP I (lget ls 1) N, arX T (lget ls 2) N g X, byX TB f N X], 0, .normal, fun ls => [lkV ok z false], fun ls => [mapP I (lget ls 1) N, arX T (lget ls 2) N g X, byX TB f N X], fun _ => []⟩ := lkP_none ok z hT hk hz h
theorem ldXS_ok {T1 : TypeId} {k : Nat} (hA : ∀ w, (isAgg T1).run P w = .ok false w) (hk : k < N) (h0 : decide (0 < (X k).2.1) = true) :
    SpcG P M B0 S ⟨fun ls => .op (.ld T1 (.pointer (some ⟨(mfl (lget ls 0) k).n, 0, none⟩))), fun ls => [arX T (lget ls 1) N g X, byX TB f N X], 0, .normal, fun ls => [rowV (mfl (lget ls 1) k) (X k).2.1 1], fun ls => [arX T (lget ls 1) N g X, byX TB f N X], fun _ => []⟩ := ldAS_ok hA hk h0
theorem ldXS0_ok {T1 : TypeId} {k : Nat} (hA : ∀ w, (isAgg T1).run P w = .ok false w) (hk : k < N) (h0 : decide (0 < (X k).2.1) = false) :
    SpcG P M B0 S ⟨fun ls => .op (.ld T1 (.pointer (some ⟨(mfl (lget ls 0) k).n, 0, none⟩))), fun ls => [arX T (lget ls 1) N g X, byX TB f N X], 0, .normal, fun ls => [.slice none 0 0], fun ls => [arX T (lget ls 1) N g X, byX TB f N X], fun _ => []⟩ := ldAS0_ok hA hk h0
theorem ldX_ok {T1 : TypeId} {k : Nat} (j : Nat) {v : Value} (hA : ∀ w, (isAgg T1).run P w = .ok false w) (hk : k < N) (hv : (g (X k).1)[j]? = some v) :
    SpcG P M B0 S ⟨fun ls => .op (.ld T1 (.pointer (some ⟨(mfl (lget ls 0) k).n, j + 1, none⟩))), fun ls => [arX T (lget ls 1) N g X, byX TB f N X], 0, .normal, fun ls => [v], fun ls => [arX T (lget ls 1) N g X, byX TB f N X], fun _ => []⟩ := ldAR_ok j hA hk hv
theorem stX_ok {T1 : TypeId} {k sz : Nat} (j : Nat) {u : Value} {a' : σ} (hg : ∀ x, (g x).length + 1 = sz) (h1 : ∀ x, ((g x).all fun u => u.oneCell') = true) (hu : u.cells.toList.length = 1) (hj : j + 1 < sz) (hv : (g (X k).1).set j u = g a') (huc : u.cells.toList = [u])
    (hz : ∀ w, (sizeOf T1).run P w = .ok u.cells.size w) (hk : k < N) :
    SpcG P M B0 S ⟨fun ls => .op (.st T1 (.pointer (some ⟨(mfl (lget ls 0) k).n, j + 1, none⟩)) u), fun ls => [arX T (lget ls 1) N g X, byX TB f N X], 0, .normal, fun _ => [undef], fun ls => [arX T (lget ls 1) N g (updF X k (a', (X k).2)), byX TB f N (updF X k (a', (X k).2))], fun _ => []⟩ := by
  have h := stAR_ok (P := P) (M := M) (B0 := B0) (S := S) (T := T) (TB := TB) (T1 := T1) (f := f) (g := g) (N := N) (D := fun i => (X i).2) (A := fun i => (X i).1) (k := k) (sz := sz) (a' := a') j hg h1 hu hj hv huc hz hk
  have e : updF (fun i => (X i).2) k (X k).2 = fun i => (X i).2 := updF_self (fun i => (X i).2) k
  simp only [arX, byX, fst_updF, snd_updF, e]
  exact h
theorem memX_ok {sp : Spc} {k : Nat} {B' : Nat → τ} {a' : σ} {R R' : List L1 → List Obj} (hpre : ∀ ls, sp.pre ls = .cells ⟨rowV (lget ls 1) (X k).2.1 1 :: g (X k).1⟩ T :: rowO (lget ls 1) (esG f (X k).2.1 (X k).2.2) TB (X k).2.1 1 :: R ls)
    (hpost : ∀ ls, sp.post ls = .cells ⟨rowV (lget ls 1) (X k).2.1 1 :: g a'⟩ T :: rowO (lget ls 1) (esG f (X k).2.1 B') TB (X k).2.1 1 :: R' ls) (hk : k < N) (h0 : decide (0 < (X k).2.1) = true) (h : SpcG P M B0 S sp) :
    SpcG P M B0 S ⟨fun ls => sp.wh (mfl (lget ls 0) k :: mfl (lget ls 1) k :: ls.drop 2), fun ls => arX T (lget ls 1) N g X :: byX TB f N X :: R (mfl (lget ls 0) k :: mfl (lget ls 1) k :: ls.drop 2), sp.m, sp.ex, fun ls => sp.val (mfl (lget ls 0) k :: mfl (lget ls 1) k :: ls.drop 2),
      fun ls => arX T (lget ls 1) N g (updF X k (a', (X k).2.1, B')) :: byX TB f N (updF X k (a', (X k).2.1, B')) :: R' (mfl (lget ls 0) k :: mfl (lget ls 1) k :: ls.drop 2), fun ls => sp.new (mfl (lget ls 0) k :: mfl (lget ls 1) k :: ls.drop 2)⟩ := by
  have h := memAR'_ok (P := P) (M := M) (B0 := B0) (S := S) (T := T) (TB := TB) (f := f) (g := g) (N := N) (D := fun i => (X i).2) (A := fun i => (X i).1) (k := k) (B' := B') (a' := a') (R := R) (R' := R') hpre hpost hk h0 h
  simp only [arX, byX, fst_updF, snd_updF]
  exact h
theorem memXB_ok {sp : Spc} {k : Nat} {B' : Nat → τ} (hpre : ∀ ls, sp.pre ls = [rowO (lget ls 0) (esG f (X k).2.1 (X k).2.2) TB (X k).2.1 1]) (hpost : ∀ ls, sp.post ls = [rowO (lget ls 0) (esG f (X k).2.1 B') TB (X k).2.1 1])
    (hk : k < N) (h0 : decide (0 < (X k).2.1) = true) (h : SpcG P M B0 S sp) :
    SpcG P M B0 S ⟨fun ls => sp.wh [mfl (lget ls 0) k], fun ls => [byX TB f N X], sp.m, sp.ex, fun ls => sp.val (mfl (lget ls 0) k :: ls.drop 1), fun ls => [byX TB f N (updF X k ((X k).1, (X k).2.1, B'))], fun ls => sp.new (mfl (lget ls 0) k :: ls.drop 1)⟩ := by
  have h := memBY_ok (P := P) (M := M) (B0 := B0) (S := S) (TB := TB) (f := f) (N := N) (D := fun i => (X i).2) (k := k) (B' := B') hpre hpost hk h0 h
  simp only [byX, snd_updF]
  exact h
end
end Go.Proofs.Ytchogpgifdkhbaa
