/-
  Makes among other makes, an entry for blocks that aren't there yet, a row of nothing in another's place. Nothing of the program stands here.
-/
import Derived.Test.YtnlnldpolaodbaaDoorRyF
namespace Go.Proofs.YtnlnldpolaodbaaDoor
open Go.RowKit
set_option linter.unusedVariables false
set_option linter.unusedSimpArgs false
section
variable {P : Program} {t e : TypeId} {i : TypeInfo} {z : Value} {sz bytes : Nat}
/-- A make of so many elements. -/
def mkRow {α : Type} (t e : TypeId) (f : α → List Value) (N : Nat) (a0 : α) (sz : Nat) : Mk :=
  ⟨t, .int .i64 (N : Int), .int .i64 (N : Int), fun u => rowO ⟨0, u⟩ (esG f N fun _ => a0) e N sz, fun l => rowV l N sz⟩
theorem padL_plain (x N sz : Nat) : padL ⟨x, plainU⟩ N sz = [] := by
  have : padR ⟨x, plainU⟩ = [] := rfl
  unfold padL
  rw [this]
  split <;> rfl
theorem mkRow_ok (R : RowT P t e i z sz bytes) {α : Type} {f : α → List Value} {N : Nat} {a0 : α} (hf : ∀ x, (f x).length = sz) (hz : z.cells.toList = f a0) (h : decide (N ≤ 1000000) = true) (hb : bytes ≤ 1000000) : MkOk P (mkRow t e f N a0 sz) := by
  have h := of_decide_eq_true h
  have h63 : N ≤ maxLen := by simp only [maxLen]; omega
  have hb2 : N * bytes ≤ 140737488355328 := Nat.le_trans (Nat.mul_le_mul h hb) (by decide)
  refine ⟨fun u => rfl, fun w => ?_⟩
  have hmax : (N : Int) ≤ 9223372036854775807 := by simp only [maxLen] at h63; omega
  have hby : (i.bytes : Int) * (N : Int) ≤ 281474976710656 := by
    have : ((bytes * N : Nat) : Int) ≤ 281474976710656 := by rw [Nat.mul_comm]; omega
    rw [R.hby]; rwa [Int.natCast_mul] at this
  have hr := run_make (P := P) w t e i z R.ht R.hi R.hz .i64 .i64 N N (by omega) (Int.le_refl _) hby hmax
  simp only [Int.toNat_natCast, R.hsize] at hr
  have hc : (madeCells z.cells (N * sz)) = ⟨esG f N (fun _ => a0) ++ padL ⟨0, plainU⟩ N sz⟩ := by
    rw [padL_plain, List.append_nil]
    exact Array.ext' (made_esG hf hz R.hsz)
  show (Q.sem (.mks t (.int .i64 (N : Int)) (.int .i64 (N : Int)))).run P w = .ok (.value (rowV ⟨w.heap.size, plainU⟩ N sz)) (w.alloc (rowO ⟨0, plainU⟩ (esG f N fun _ => a0) e N sz))
  have hv : rowV ⟨w.heap.size, plainU⟩ N sz = .slice (some ⟨w.heap.size, 0, none⟩) N N := by
    unfold rowV
    rw [padL_plain]
    simp
  rw [hv]
  simp only [Q.sem, Sem.run_bind, hr, Result.andThen_ok, Sem.run_pure, hc]
  first | done | rfl
/-- A make of a known number of elements. -/
theorem mkLit_ok (R : RowT P t e i z sz bytes) {n : Nat} {c : Array Value} (h : n ≤ 1000000) (hb : bytes ≤ 1000000) (hc : madeCells z.cells (n * sz) = c) :
    MkOk P ⟨t, .int .i64 (n : Int), .int .i64 (n : Int), fun _ => .cells c e, fun l => .slice (some ⟨l.n, 0, none⟩) n n⟩ := by
  have h63 : n ≤ maxLen := by simp only [maxLen]; omega
  have hb2 : n * bytes ≤ 140737488355328 := Nat.le_trans (Nat.mul_le_mul h hb) (by decide)
  refine ⟨fun u => rfl, fun w => ?_⟩
  have hmax : (n : Int) ≤ 9223372036854775807 := by simp only [maxLen] at h63; omega
  have hby : (i.bytes : Int) * (n : Int) ≤ 281474976710656 := by
    have : ((bytes * n : Nat) : Int) ≤ 281474976710656 := by rw [Nat.mul_comm]; omega
    rw [R.hby]; rwa [Int.natCast_mul] at this
  have hr := run_make (P := P) w t e i z R.ht R.hi R.hz .i64 .i64 n n (by omega) (Int.le_refl _) hby hmax
  simp only [Int.toNat_natCast, R.hsize] at hr
  rw [hc] at hr
  simp only [Q.sem, Sem.run_bind, hr, Result.andThen_ok, Sem.run_pure]
/-- A make of so many rows of nothing: what they point to has no entry yet. -/
def noL : L1 := ⟨0, plainU⟩
def mkRR {τ : Type} (t e : TypeId) (sz N : Nat) (g0 : Nat → τ) : Mk :=
  ⟨t, .int .i64 (N : Int), .int .i64 (N : Int), fun u => rfR ⟨0, u⟩ noL e sz N (fun _ => (0, g0)), fun l => rowV l N 1⟩
theorem rfR_nil {τ : Type} (q l : L1) (e : TypeId) (sz N : Nat) (g0 : Nat → τ) : rfR q l e sz N (fun _ => (0, g0)) = rowO q (esG (fun _ : Unit => [.slice none 0 0]) N fun _ => ()) e N 1 := by
  unfold rfR
  congr 1
theorem mkRR_ok (R : RowT P t e i z 1 bytes) {τ : Type} {sz N : Nat} {g0 : Nat → τ} (hz : z.cells.toList = [.slice none 0 0]) (h : decide (N ≤ 1000000) = true) (hb : bytes ≤ 1000000) : MkOk P (mkRR t e sz N g0) := by
  have hk := mkRow_ok R (f := fun _ : Unit => [.slice none 0 0]) (N := N) (a0 := ()) (fun _ => rfl) hz h hb
  refine ⟨fun u => rfl, fun w => ?_⟩
  have := hk.2 w
  show _ = Result.ok _ (w.alloc (rfR ⟨0, plainU⟩ noL e sz N (fun _ => (0, g0))))
  rw [rfR_nil]
  exact this
end
section
variable {P : Program} {M : Nat → Prop} {B0 : Nat} {S : World → Prop} {e T2 T : TypeId}
/-- At an assignment: an entry for what a row of rows of nothing points to. -/
def ghRF {τ : Type} (X : List L1 → Value) (R : List L1 → List Obj) (n : Nat) (e T2 : TypeId) (f : τ → List Value) (sz N : Nat) (g0 : Nat → τ) : Spc :=
  ⟨fun ls => .op (.mv (X ls)), fun ls => rfR (lget ls 0) noL e sz N (fun _ => (0, g0)) :: R ls, 1, .normal, fun ls => [X ls], fun ls => rfR (lget ls 0) (lget ls n) e sz N (fun _ => (0, g0)) :: R ls, fun _ => [rfO T2 f sz N (fun _ => (0, g0))]⟩
theorem ghRF_ok {τ : Type} {X : List L1 → Value} {R : List L1 → List Obj} {n : Nat} {f : τ → List Value} {sz N : Nat} {g0 : Nat → τ} (hn : 0 < n) (hR : ∀ ls, (R ls).length + 1 = n) (hX : ∀ ls m, ls.length = n → X (ls ++ [m]) = X ls ∧ R (ls ++ [m]) = R ls) :
    SpcG P M B0 S (ghRF X R n e T2 f sz N g0) := by
  intro ls w hlen hsat htb hS
  have hl : ls.length = n := by
    have : (rfR (lget ls 0) noL e sz N (fun _ => (0, g0)) :: R ls).length = ls.length := hlen
    rw [← this, ← hR ls]; rfl
  obtain ⟨eX, eR⟩ := hX ls noL hl
  have g0' : lget (ls ++ [noL]) 0 = lget ls 0 := by
    match ls, hl with
    | [], hl => simp at hl; omega
    | a :: r, _ => rfl
  have gn : lget (ls ++ [noL]) n = noL := by simp [lget, ← hl]
  have hpost : (ghRF X R n e T2 f sz N g0).post (ls ++ [noL]) = (ghRF X R n e T2 f sz N g0).pre ls := by
    show rfR (lget (ls ++ [noL]) 0) (lget (ls ++ [noL]) n) e sz N (fun _ => (0, g0)) :: R (ls ++ [noL]) = _
    rw [g0', gn, eR]
    rfl
  have hpl : ((ghRF X R n e T2 f sz N g0).pre ls).length = n := hlen.trans hl
  have at_ : ∀ (j k : Nat) (o : Obj) (l : L1) (x : Nat) (p : Obj), ((ghRF X R n e T2 f sz N g0).post (ls ++ [noL]) ++ (ghRF X R n e T2 f sz N g0).new (ls ++ [noL]))[j]? = some o → (ls ++ [noL])[j]? = some l → own o l k = some (x, p) →
      ((ghRF X R n e T2 f sz N g0).pre ls)[j]? = some o ∧ ls[j]? = some l := by
    intro j k o l x p hj hll ho
    rw [hpost] at hj
    rcases Nat.lt_or_ge j n with h | h
    · rw [List.getElem?_append_left (by omega)] at hj
      rw [List.getElem?_append_left (by omega)] at hll
      exact ⟨hj, hll⟩
    · rw [List.getElem?_append_right (by omega)] at hj
      rw [List.getElem?_append_right (by omega)] at hll
      rw [hpl] at hj
      rw [hl] at hll
      match hd : j - n, hj, hll with
      | 0, hj, hll =>
        obtain rfl : rfO T2 f sz N (fun _ => (0, g0)) = o := by simpa [ghRF] using hj
        exact absurd rfl (own_rf2 ho).2.1
      | c + 1, hj, _ => simp [ghRF] at hj
  refine ⟨X ls, w, .inl rfl, [noL], rfl, ?_, ⟨rfl, rfl, rfl, Nat.le_refl _, fun _ _ _ => rfl⟩, fun _ => ⟨⟨fun j k o l x p hj hll ho => ?_, fun j j' k k' o o' l l' x p p' hj hll ho hj' hll' ho' => ?_⟩, fun j k o l x p hj hll ho => ?_⟩⟩
  · show [X ls] = [X (ls ++ [noL])]
    rw [eX]
  · obtain ⟨h1, h2⟩ := at_ j k o l x p hj hll ho
    exact hsat.hold j k o l x p h1 h2 ho
  · obtain ⟨h1, h2⟩ := at_ j k o l x p hj hll ho
    obtain ⟨h3, h4⟩ := at_ j' k' o' l' x p' hj' hll' ho'
    exact hsat.inj j j' k k' o o' l l' x p p' h1 h2 ho h3 h4 ho'
  · obtain ⟨h1, h2⟩ := at_ j k o l x p hj hll ho
    exact .inr ⟨j, k, o, l, p, h1, h2, ho⟩
/-- Nothing in a row's place. -/
def sqStRFn {τ : Type} (T e T2 : TypeId) (f : τ → List Value) (sz N k : Nat) (D : Nat → Nat × (Nat → τ)) (g : Nat → τ) : Spc :=
  ⟨fun ls => .op (.st T (.pointer (some ⟨(lget ls 0).n, 0 + k * 1, none⟩)) (.slice none 0 0)), fun ls => [rfR (lget ls 0) (lget ls 1) e sz N D, rfO T2 f sz N D], 0, .normal,
   fun _ => [undef], fun ls => [rfR (lget ls 0) (lget ls 1) e sz N (updF D k (0, g)), rfO T2 f sz N (updF D k (0, g))], fun _ => []⟩
theorem sqStRFn_ok {τ : Type} {f : τ → List Value} {sz N k : Nat} {D : Nat → Nat × (Nat → τ)} {g : Nat → τ} (hz : ∀ w, (sizeOf T).run P w = .ok 1 w) (hk : k < N) : SpcG P M B0 S (sqStRFn T e T2 f sz N k D g) := by
  intro ls w hlen hsat htb hS
  match ls, hlen with
  | [q, l], _ =>
    have hg : w.heap[q.n]? = some (rfR q l e sz N D) := hsat.hold 0 0 _ q _ _ rfl rfl rfl
    have hmem : ∀ i, i < N → (D i).1 ≠ 0 → w.heap[(mfl l i).n]? = some (rowO (mfl l i) (esG f (D i).1 (D i).2) T2 (D i).1 sz) := fun i hi h => hsat.hold 1 i _ l _ _ rfl rfl (own_rf1 hi h)
    have a4 : ∀ i, i < N → (D i).1 ≠ 0 → (mfl l i).n ≠ q.n := fun i hi h c => by
      have := (hsat.inj 1 0 i 0 _ _ l q q.n _ (rfR q l e sz N D) rfl rfl (by rw [← c]; exact own_rf1 hi h) rfl rfl rfl).1
      omega
    have a5 : ∀ i j, i < N → j < N → (D i).1 ≠ 0 → (D j).1 ≠ 0 → (mfl l i).n = (mfl l j).n → i = j := fun i j hi hj h h' c =>
      (hsat.inj 1 1 i j _ _ l l (mfl l j).n _ _ rfl rfl (by rw [← c]; exact own_rf1 hi h) rfl rfl (own_rf1 hj h')).2
    have lt : ∀ {x : Nat} {p : Obj}, w.heap[x]? = some p → x < w.heap.size := fun h => (Array.getElem?_eq_some_iff.1 h).1
    have es0 : esG (rfC l sz D) N (fun i => i) = esG fSl N (rfS1 l sz D) := esG_map fun j hj => rfC_S l sz D j
    let v0 : Option Addr × Nat × Nat := (none, 0, 0)
    have hst := sqStG_ok (P := P) (S := S) (T := T) (e := e) (f := fSl) (N := N) (k := k) (sz := 1) (A := rfS1 l sz D) (v := v0) 0 (.slice none 0 0) fSl_len fSl_one rfl rfl hz hk
    have hd := hst [q] w rfl ⟨fun j o x hj hr hx => by
      match j, hj, hx with
      | 0, hj, hx =>
        obtain rfl : Obj.cells ⟨esG fSl N (rfS1 l sz D) ++ padL q N 1⟩ e = o := by simpa [sqSt, lget] using hj
        obtain rfl : q = x := by simpa using hx
        rw [← es0]
        exact hg
      | c + 1, hj, _ => simp [sqSt] at hj, fun i j o p x y hi _ hj _ hx hy _ => by
      match i, j, hx, hy with
      | 0, 0, _, _ => rfl
      | c + 1, _, hx, _ => simp at hx
      | 0, c + 1, _, hy => simp at hy⟩ hS
    obtain ⟨v, w', hr, ms, hms, hv, hsl, hnew, hch⟩ := hd
    obtain rfl : ms = [] := List.eq_nil_of_length_eq_zero hms
    have hh : w'.heap[q.n]? = some (.cells ⟨esG fSl N (updF (rfS1 l sz D) k v0) ++ padL q N 1⟩ e) := hsl.holds 0 _ q rfl rfl rfl
    have blk : ∀ x, x < w.heap.size → x ≠ q.n → w'.heap[x]? = w.heap[x]? := fun x hx hne => hch.block x hx fun ⟨j, o, y, h1, h2, h3, h4⟩ => by
      match j, h3 with
      | 0, h3 =>
        obtain rfl : q = y := by simpa using h3
        exact hne h4.symm
      | c + 1, h3 => simp at h3
    have dK : updF D k (0, g) k = (0, g) := updF_at ..
    have dM : ∀ i, i ≠ k → updF D k (0, g) i = D i := fun i h => updF_ne _ _ h
    have es : esG (rfC l sz (updF D k (0, g))) N (fun i => i) = esG fSl N (updF (rfS1 l sz D) k v0) := esG_map fun j hj => by
      by_cases hjk : j = k
      · subst hjk
        rw [updF_at]
        unfold rfC
        rw [dK, if_pos rfl]
        rfl
      · rw [updF_ne _ _ hjk, ← rfC_S]
        unfold rfC
        rw [dM j hjk]
    have hq : w'.heap[q.n]? = some (rfR q l e sz N (updF D k (0, g))) := by
      unfold rfR
      rw [es]
      exact hh
    have key : ∀ i x p, own (rfO T2 f sz N (updF D k (0, g))) l i = some (x, p) → w'.heap[x]? = some p ∧ i < N ∧ (D i).1 ≠ 0 ∧ x = (mfl l i).n := fun i x p h => by
      obtain ⟨hi, hn, rfl, rfl⟩ := own_rf2 h
      by_cases hik : i = k
      · subst hik
        rw [dK] at hn
        exact absurd rfl hn
      · rw [dM i hik] at hn
        refine ⟨?_, hi, hn, rfl⟩
        rw [dM i hik]
        exact (blk _ (lt (hmem i hi hn)) (a4 i hi hn)).trans (hmem i hi hn)
    have at_ : ∀ (j c : Nat) (o : Obj) (y : L1) (x : Nat) (p : Obj), ([rfR q l e sz N (updF D k (0, g)), rfO T2 f sz N (updF D k (0, g))] ++ ([] : List Obj))[j]? = some o → ([q, l] ++ ([] : List L1))[j]? = some y → own o y c = some (x, p) →
        (j = 0 ∧ c = 0 ∧ x = q.n ∧ p = rfR q l e sz N (updF D k (0, g))) ∨ (j = 1 ∧ own (rfO T2 f sz N (updF D k (0, g))) l c = some (x, p)) := fun j c o y x p hj hl ho => by
      match j, hj, hl with
      | 0, hj, hl =>
        obtain rfl : rfR q l e sz N (updF D k (0, g)) = o := by simpa using hj
        obtain rfl : q = y := by simpa using hl
        obtain ⟨h1, h2, h3, _⟩ := own_plain (rfl : isPend (rfR q l e sz N (updF D k (0, g))) = false) ho
        exact .inl ⟨rfl, h1, h2, h3⟩
      | 1, hj, hl =>
        obtain rfl : rfO T2 f sz N (updF D k (0, g)) = o := by simpa using hj
        obtain rfl : l = y := by simpa using hl
        exact .inr ⟨rfl, ho⟩
      | c + 2, hj, _ => simp at hj
    have hr' : (Q.sem (.st T (.pointer (some ⟨q.n, 0 + k * 1, none⟩)) (.slice none 0 0))).run P w = .ok (.value v) w' ∨ (Q.sem (.st T (.pointer (some ⟨q.n, 0 + k * 1, none⟩)) (.slice none 0 0))).run P w = .ok .skip w' ∧ v = undef := hr
    refine ⟨v, w', hr', [], rfl, hv, ⟨hch.os, hch.tape, hch.output, hch.size, fun x hx ht => blk x hx fun c => ht (c ▸ ⟨0, 0, _, q, _, rfl, rfl, rfl⟩)⟩, fun _ => ⟨⟨fun j c o y x p hj hl ho => ?_, fun j j' c c' o o' y y' x p p' hj hl ho hj' hl' ho' => ?_⟩, fun j c o y x p hj hl ho => ?_⟩⟩
    · rcases at_ j c o y x p hj hl ho with ⟨_, _, rfl, rfl⟩ | ⟨_, h1⟩
      · exact hq
      · exact (key c x p h1).1
    · rcases at_ j c o y x p hj hl ho with ⟨rfl, rfl, rfl, rfl⟩ | ⟨rfl, h1⟩ <;> rcases at_ j' c' o' y' _ p' hj' hl' ho' with ⟨rfl, rfl, e2, rfl⟩ | ⟨rfl, h2⟩
      · exact ⟨rfl, rfl⟩
      · obtain ⟨_, hi, hn, e3⟩ := key _ _ _ h2
        exact absurd e3.symm (a4 c' hi hn)
      · obtain ⟨_, hi, hn, e3⟩ := key _ _ _ h1
        exact absurd (e3.symm.trans e2) (a4 c hi hn)
      · obtain ⟨_, hi, hn, e3⟩ := key _ _ _ h1
        obtain ⟨_, hi', hn', e4⟩ := key _ _ _ h2
        exact ⟨rfl, a5 c c' hi hi' hn hn' (e3.symm.trans e4)⟩
    · rcases at_ j c o y x p hj hl ho with ⟨_, _, rfl, rfl⟩ | ⟨_, h1⟩
      · exact .inr ⟨0, 0, _, q, _, rfl, rfl, rfl⟩
      · obtain ⟨_, hi, hn, rfl⟩ := key c x p h1
        exact .inr ⟨1, c, _, l, _, rfl, rfl, own_rf1 hi hn⟩
end
/-- An element of an array that is a value, at an unknown place. -/
theorem idxV_ok {P : Program} {T e : TypeId} {n sz : Nat} {cs : Array Value} {kd : IntKind} {x : Int} {v : Value} (hT : P.underlying T = some (.array n e)) (hA : ∀ w, (isAgg e).run P w = .ok true w) (hs : ∀ w, (sizeOf e).run P w = .ok sz w) (h : inR x n = true)
    (hv : Value.agg (cs.extract (x.toNat * sz) (x.toNat * sz + sz)) = v) : ∀ w, (Q.idx T (.agg cs) (.int kd x)).sem.run P w = .ok (.value v) w := by
  intro w
  have h1 := inR_lo h
  have h2 := inR_hi h
  simp only [Q.sem, Instr.index, asIntOf, Sem.run_bind, Sem.run_pure, Result.andThen_ok, run_underlying hT, if_pos (And.intro h1 h2), hs, part, hA, if_true, hv]
theorem idxC_ok {P : Program} {T e : TypeId} {n : Nat} {cs : Array Value} {kd : IntKind} {x : Int} {v : Value} (hT : P.underlying T = some (.array n e)) (hA : ∀ w, (isAgg e).run P w = .ok false w) (hs : ∀ w, (sizeOf e).run P w = .ok 1 w) (h : inR x n = true)
    (hv : cs[x.toNat * 1]? = some v) : ∀ w, (Q.idx T (.agg cs) (.int kd x)).sem.run P w = .ok (.value v) w := by
  intro w
  have h1 := inR_lo h
  have h2 := inR_hi h
  simp only [Q.sem, Instr.index, asIntOf, Sem.run_bind, Sem.run_pure, Result.andThen_ok, run_underlying hT, if_pos (And.intro h1 h2), hs, part, hA, hv]
  rfl
theorem drop_get {l : List Value} {j : Nat} {v : Value} (h : (l.drop j).take 1 = [v]) : (⟨l⟩ : Array Value)[j]? = some v := by
  rw [List.getElem?_toArray]
  have : ((l.drop j).take 1)[0]? = some v := by rw [h]; rfl
  rw [List.getElem?_take_of_lt (by omega), List.getElem?_drop] at this
  simpa using this
end Go.Proofs.YtnlnldpolaodbaaDoor
