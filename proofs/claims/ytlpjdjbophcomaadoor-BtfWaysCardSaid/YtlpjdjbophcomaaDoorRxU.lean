/-
  Rows told by elements; arrays in memory; numbers of a sort, further ones. Nothing of the program stands here.
-/
import Derived.Test.YtlpjdjbophcomaaDoorRxQ
import Derived.Laws.MakeOwn
namespace Go.Proofs.YtlpjdjbophcomaaDoor
open Go.RowKit
set_option linter.unusedVariables false
set_option linter.unusedSimpArgs false
/-! ### Places -/
theorem ixM_ok {P : Program} {T : TypeId} {kd : IntKind} {x : Int} {N sz : Nat} (hT : P.underlying T = some (.slice (P.elem T))) (hs : ∀ w, (sizeOf (P.elem T)).run P w = .ok sz w) (h : inR x N = true) :
    ∀ q v ob, ixS T (.int kd x) N x.toNat sz q = some (v, ob) → okL ob → ∀ w, q.sem.run P w = .ok (.value v) w := ixS_ok hT hs (inR_lo h) (inR_hi h) rfl
theorem ixA_ok {P : Program} {T : TypeId} {kd : IntKind} {x : Int} {N sz : Nat} (hT : P.underlying T = some (.array (P.arrayLen T) (P.elem T))) (hN : P.arrayLen T = N) (hs : ∀ w, (sizeOf (P.elem T)).run P w = .ok sz w) (h : inR x N = true) :
    ∀ q v ob, ixQ T (.int kd x) (x.toNat * sz) q = some (v, ob) → okL ob → ∀ w, q.sem.run P w = .ok (.value v) w :=
  ixQ_ok fun a w => by
    rw [run_indexAt_array w T a kd x hT, hN, if_pos (inR_iff.1 h), hs]
    simp
theorem accKn {S : World → Prop} {i : Nat} {c : Array Value} (off : Nat) {v : Value} (h : c[off]? = some v) : AccOk S [.saidF i (fun _ => c) off v] := fun x hx => by
  obtain rfl : x = .saidF i (fun _ => c) off v := by simpa using hx
  exact fun _ => h
theorem accF {S : World → Prop} {i : Nat} {α : Type} {f : α → List Value} {N sz : Nat} {A : Nat → α} {k : Nat} (j : Nat) (vs : List Value) (hf : ∀ x, (f x).length = sz) (hk : k < N) (hv : ((f (A k)).drop j).take vs.length = vs) :
    AccOk S (saidG i (fun _ => ⟨esG f N A⟩) (0 + k * sz + j) vs) := by
  refine saidG_ok fun l n hn => ?_
  have hlen : vs.length ≤ (f (A k)).length - j := by
    have := congrArg List.length hv
    rw [List.length_take, List.length_drop] at this
    omega
  rw [hf] at hlen
  have hjn : j + n < sz := by omega
  show (⟨esG f N A⟩ : Array Value)[0 + k * sz + j + n]? = _
  rw [List.getElem?_toArray, show 0 + k * sz + j + n = k * sz + (j + n) by omega, esG_get hf hjn hk]
  conv => rhs; rw [← hv]
  rw [List.getElem?_take_of_lt hn, List.getElem?_drop]
/-! ### Stores into rows -/
theorem ble_le' {a b : Nat} (h : Nat.ble a b = true) : a ≤ b := Nat.le_of_ble_eq_true h
theorem esG_set {α : Type} {f : α → List Value} {N sz : Nat} {A : Nat → α} (hf : ∀ x, (f x).length = sz) {k : Nat} (hk : k < N) (v : α) (j : Nat) (vs : List Value) (hle : j + vs.length ≤ sz) (hv : (f (A k)).take j ++ vs ++ (f (A k)).drop (j + vs.length) = f v) :
    (esG f N A).take (k * sz + j) ++ vs ++ (esG f N A).drop (k * sz + j + vs.length) = esG f N (updF A k v) := by
  have hN : N = k + 1 + (N - (k + 1)) := by omega
  have h1 : esG f N A = esG f k A ++ f (A k) ++ esG f (N - (k + 1)) (fun i => A (k + 1 + i)) := by
    conv => lhs; rw [hN, esG_split, esG_succ]
  have h2 : esG f N (updF A k v) = esG f k A ++ f v ++ esG f (N - (k + 1)) (fun i => A (k + 1 + i)) := by
    conv => lhs; rw [hN, esG_split, esG_succ, updF_at]
    rw [esG_congr (A := updF A k v) (B := A) (fun i hi => updF_ne A v (by omega)), esG_congr (A := fun i => updF A k v (k + 1 + i)) (B := fun i => A (k + 1 + i)) (fun i hi => updF_ne A v (by omega))]
  have hl : (esG f k A).length = k * sz := esG_len hf
  have h3 : (esG f N A).take (k * sz + j) = esG f k A ++ (f (A k)).take j := by
    rw [h1, List.append_assoc, List.take_append, hl, List.take_of_length_le (by rw [hl]; omega), show k * sz + j - k * sz = j by omega, List.take_append_of_le_length (by rw [hf]; omega)]
  have h4 : (esG f N A).drop (k * sz + j + vs.length) = (f (A k)).drop (j + vs.length) ++ esG f (N - (k + 1)) (fun i => A (k + 1 + i)) := by
    rw [h1, List.append_assoc, List.drop_append, hl, List.drop_of_length_le (by rw [hl]; omega), List.nil_append, show k * sz + j + vs.length - k * sz = j + vs.length by omega, List.drop_append_of_le_length (by rw [hf]; omega)]
  rw [h3, h4, h2, ← hv]
  simp [List.append_assoc]
/-- A store of a value (of several cells) into element k, from its cell j on. -/
def sqSt {α : Type} (T e : TypeId) (f : α → List Value) (N k sz : Nat) (A : Nat → α) (v : α) (j : Nat) (u : Value) (pad : L1 → List Value) : Spc :=
  ⟨fun ls => .op (.st T (.pointer (some ⟨(lget ls 0).n, 0 + k * sz + j, none⟩)) u), fun ls => [.cells ⟨esG f N A ++ pad (lget ls 0)⟩ e], 0, .normal,
   fun ls => [undef], fun ls => [.cells ⟨esG f N (updF A k v) ++ pad (lget ls 0)⟩ e], fun _ => []⟩
theorem sqSt_ok {P : Program} {S : World → Prop} {α : Type} {T e : TypeId} {f : α → List Value} {N k sz : Nat} {A : Nat → α} {v : α} (j : Nat) (u : Value) {pad : L1 → List Value} (hf : ∀ x, (f x).length = sz) (h1 : ∀ x, ((f x).all fun u => u.oneCell') = true)
    (hj : Nat.ble (j + u.cells.toList.length) sz = true) (hv : (f (A k)).take j ++ u.cells.toList ++ (f (A k)).drop (j + u.cells.toList.length) = f v) (hz : ∀ w, (sizeOf T).run P w = .ok u.cells.size w) (hk : k < N) :
    SpcOk P S (sqSt T e f N k sz A v j u pad) := by
  intro ls w hlen hsat hS
  match ls, hlen with
  | [l], _ =>
    have hg : w.heap[l.n]? = some (.cells ⟨esG f N A ++ pad l⟩ e (0, 0)) := hsat.holds 0 _ l rfl rfl rfl
    have hj := ble_le' hj
    have hset := esG_set hf hk v j u.cells.toList hj hv
    have hfit : k * sz + j + u.cells.toList.length ≤ (esG f N A).length := by
      rw [esG_len hf]
      have := Nat.mul_le_mul_right sz (show k + 1 ≤ N by omega)
      rw [Nat.succ_mul] at this
      omega
    have hone : ∀ x ∈ u.cells.toList, x.oneCell' = true := fun x hx => by
      have h2 := List.all_eq_true.1 (h1 v) x (by rw [← hv]; exact List.mem_append_left _ (List.mem_append_right _ hx))
      exact h2
    have hst := run_storeCells_at P l.n (0 + k * sz + j) e u.cells.toList 0 ⟨esG f N A ++ pad l⟩ w hg (by
      show _ ≤ (esG f N A ++ pad l).length
      rw [List.length_append]; omega) hone
    have hcs : (List.take (0 + k * sz + j + 0) (⟨esG f N A ++ pad l⟩ : Array Value).toList ++ u.cells.toList ++ List.drop (0 + k * sz + j + 0 + u.cells.toList.length) (⟨esG f N A ++ pad l⟩ : Array Value).toList).toArray = ⟨esG f N (updF A k v) ++ pad l⟩ := by
      rw [← hset]
      show (List.take _ (esG f N A ++ pad l) ++ _ ++ List.drop _ (esG f N A ++ pad l)).toArray = _
      rw [show 0 + k * sz + j + 0 = k * sz + j by omega, List.take_append_of_le_length (by omega), List.drop_append_of_le_length (by omega)]
      simp
    rw [hcs] at hst
    have hr : (Instr.storeAt T (.pointer (some ⟨l.n, 0 + k * sz + j, none⟩)) u).run P w = .ok () (w.setRow l.n ⟨esG f N (updF A k v) ++ pad l⟩) := by
      have e0 : 0 + k * sz + j = k * sz + j := by omega
      rw [e0] at hst ⊢
      simp [Instr.storeAt, Instr.sureAddr, storeVar, hz, hst]
    refine ⟨undef, w.setRow l.n ⟨esG f N (updF A k v) ++ pad l⟩, .inr ⟨?_, rfl⟩, [], rfl, rfl, ⟨?_, ?_⟩, ?_, ?_⟩
    · show (Q.sem (.st T (.pointer (some ⟨l.n, 0 + k * sz + j, none⟩)) u)).run P w = _
      simp only [Q.sem, Sem.run_bind, hr, Result.andThen_ok, Sem.run_pure]
    · intro i o x hj hreal hx
      match i, hj, hx with
      | 0, hj, hx =>
        obtain rfl : Obj.cells ⟨esG f N (updF A k v) ++ pad l⟩ e = o := by simpa [sqSt, lget] using hj
        obtain rfl : l = x := by simpa using hx
        exact setRow_heap w l.n _ _ e (0, 0) hg
      | i + 1, hj, _ => simp [sqSt] at hj
    · intro a b o p x y ha har hb hbr hx hy hxy
      match a, b, hx, hy with
      | 0, 0, _, _ => rfl
      | k + 1, _, hx, _ => simp at hx
      | 0, k + 1, _, hy => simp at hy
    · intro j o x hj hreal hx
      simp [sqSt] at hj
    · refine ⟨rfl, rfl, rfl, by simp, fun k hk ht => setRow_other _ _ _ _ fun q => ht ⟨0, _, l, rfl, rfl, rfl, q.symm⟩⟩
theorem sqStF_ok {P : Program} {S : World → Prop} {α : Type} {T e : TypeId} {f : α → List Value} {N k sz : Nat} {A : Nat → α} {v : α} (j : Nat) (u : Value) (hf : ∀ x, (f x).length = sz) (h1 : ∀ x, ((f x).all fun u => u.oneCell') = true)
    (hj : Nat.ble (j + u.cells.toList.length) sz = true) (hv : (f (A k)).take j ++ u.cells.toList ++ (f (A k)).drop (j + u.cells.toList.length) = f v) (hz : ∀ w, (sizeOf T).run P w = .ok u.cells.size w) (hk : k < N) :
    SpcOk P S (sqSt T e f N k sz A v j u (fun _ => [])) := sqSt_ok j u hf h1 hj hv hz hk
/-! ### append of elements -/
inductive DK where
  | row
  | plain
def padD (dk : DK) (l : L1) (n sz : Nat) : List Value := match dk with
  | .row => padL l n sz
  | .plain => []
def rowD (dk : DK) (l : L1) (es : List Value) (T : TypeId) (n sz : Nat) : Obj := .cells ⟨es ++ padD dk l n sz⟩ T
def rowW (dk : DK) (l : L1) (n sz : Nat) : Value := .slice (some ⟨l.n, 0, none⟩) n (n + (padD dk l n sz).length / sz)
theorem padD_mod (dk : DK) (l : L1) (n : Nat) {sz : Nat} : (padD dk l n sz).length % sz = 0 := by
  cases dk
  · exact padL_mod l n
  · simp [padD]
theorem padD_max (dk : DK) (l : L1) {n : Nat} (sz : Nat) (h : n ≤ maxLen) : n + (padD dk l n sz).length / sz ≤ maxLen := by
  cases dk
  · exact padL_max l sz h
  · simpa [padD] using h
theorem rowD_owned (dk : DK) {w : World} {base : Nat} {e : TypeId} {size n : Nat} {l : L1} {xs : List Value} (hl : xs.length = n * size) (hb : base ≤ l.n) (hg : w.heap[l.n]? = some (rowD dk l xs e n size)) (hsz : 0 < size) (hm : n ≤ maxLen) :
    w.ownsRow base e size (rowW dk l n size) n xs := by
  have hk := Nat.div_add_mod (padD dk l n size).length size
  rw [padD_mod, Nat.add_zero] at hk
  refine ⟨hl, .inr ⟨l.n, _, _, rfl, hb, hg, Nat.le_add_right _ _, padD_max dk l size hm, ?_, ?_⟩⟩
  · show (xs ++ padD dk l n size).length = _
    rw [List.length_append, hl, Nat.add_mul, Nat.mul_comm (_ / _)]
    omega
  · show (xs ++ padD dk l n size).take (n * size) = xs
    rw [← hl]; exact List.take_left
def sqAppD (dk : DK) (t ty e : TypeId) (consts : Array Bool) (n size : Nat) (es : List Value) (m c : Nat) (news : List Value) (T' : TypeId) : Spc :=
  ⟨fun ls => .op (.blt .append #[t, t] ty consts #[rowW dk (ls.getD 0 ⟨0, fun _ => undef⟩) n size, .slice (some ⟨(ls.getD 1 ⟨0, fun _ => undef⟩).n, 0, none⟩) m c]),
   fun ls => [rowD dk (ls.getD 0 ⟨0, fun _ => undef⟩) es e n size, .cells ⟨news⟩ T'], 1, .normal,
   fun ls => [rowV (ls.getD 2 ⟨0, fun _ => undef⟩) (n + m) size],
   fun ls => [unb, .cells ⟨news⟩ T'], fun ls => [rowO (ls.getD 2 ⟨0, fun _ => undef⟩) (es ++ news) e (n + m) size]⟩
section
variable {P : Program} {t ty e : TypeId} {i : TypeInfo} {z : Value} {size bytes : Nat}
theorem sqAppD_ok {S : World → Prop} (dk : DK) (R : RowT P t e i z size bytes) (consts : Array Bool) (n : Nat) (es : List Value) (m c : Nat) (news : List Value) (T' : TypeId) (he : es.length = n * size) (hl : news.length = m * size) (h1 : (news.all fun u => u.oneCell') = true) (h63 : n + m ≤ maxLen) (hb : (n + m) * bytes ≤ 140737488355328) :
    SpcOk P S (sqAppD dk t ty e consts n size es m c news T') := by
  have h1 := List.all_eq_true.1 h1
  intro ls w hlen hsat hS
  match ls, hlen with
  | [r, l], _ =>
    have hgr : w.heap[r.n]? = some (rowD dk r es e n size) := hsat.holds 0 _ r rfl rfl rfl
    have hg : w.heap[l.n]? = some (.cells ⟨news⟩ T') := hsat.holds 1 _ l rfl rfl rfl
    have hrl : r.n ≠ l.n := fun k => absurd (hsat.inj 0 1 _ _ r l rfl rfl rfl rfl rfl rfl k) (by decide)
    have hrlt := (Array.getElem?_eq_some_iff.1 hgr).1
    have hllt := (Array.getElem?_eq_some_iff.1 hg).1
    obtain ⟨v', w', hr, hown, hgrow, hnil⟩ := run_append_own (P := P) w 0 t ty e i z size bytes R.ht R.hi R.hz R.hsize R.hby R.hzs R.hsz (rowW dk r n size) n es (rowD_owned dk he (Nat.zero_le _) hgr R.hsz (by omega)) ⟨l.n, 0, none⟩ m c news hl
      (fun j u hj => by rw [add_off, cell_of_cells hg]; simpa using hj) h1 h63 hb (Nat.zero_le _)
    obtain ⟨l', hv, hh, hob, _⟩ := owned_row R.hsz hown (fun k => by have := (hnil.1 k).1; simp [rowW] at this)
    have hown2 : (rowW dk r n size).ownBlock = some r.n := rfl
    -- where the row lies now: where it lay, or in a new block
    have hkept : w'.heap[l.n]? = some (.cells ⟨news⟩ T') := by
      rw [hgrow.block _ hllt (by rw [hown2]; intro k; exact hrl (by injection k with k; exact k.symm))]; exact hg
    have hwhere : l'.n = r.n ∨ w.heap.size ≤ l'.n := by
      by_cases hroom : n + m ≤ n + (padD dk r n size).length / size
      · have hk := Nat.div_add_mod (padD dk r n size).length size
        rw [padD_mod, Nat.add_zero] at hk
        have hfit : n * i.size + news.length ≤ (⟨es ++ padD dk r n size⟩ : Array Value).size := by
          show _ ≤ (es ++ padD dk r n size).length
          rw [List.length_append, hl, R.hsize, he, ← hk, Nat.mul_comm size]
          have : m ≤ (padD dk r n size).length / size := by omega
          have := Nat.mul_le_mul_right size this
          omega
        have h2 := run_append_room (P := P) w t ty e i R.ht R.hi r.n n _ _ hgr ⟨l.n, 0, none⟩ m c news (by rw [R.hsize]; exact hl) (fun j u hj => by rw [add_off, cell_of_cells hg]; simpa using hj) h1 hroom hfit
        rw [show (rowW dk r n size) = .slice (some ⟨r.n, 0, none⟩) n (n + (padD dk r n size).length / size) from rfl, h2] at hr
        injection hr with hv2 _
        rw [← hv2] at hob
        simp only [Value.ownBlock, Option.some.injEq] at hob
        exact .inl hob.symm
      · have h2 := run_append_grow (P := P) w t ty e i z R.ht R.hi R.hz ⟨r.n, 0, none⟩ n (n + (padD dk r n size).length / size) es (by rw [R.hsize]; exact he) (fun j u hj => by
            rw [add_off, cell_of_cells hgr]
            have hj' := (List.getElem?_eq_some_iff.1 hj).1
            have e1 : (⟨es ++ padD dk r n size⟩ : Array Value)[j]? = (es ++ padD dk r n size)[j]? := by simp
            rw [e1, List.getElem?_append_left hj']; exact hj) ⟨l.n, 0, none⟩ m c news (by rw [R.hsize]; exact hl) (fun j u hj => by rw [add_off, cell_of_cells hg]; simpa using hj) (by omega) (by simp only [maxLen] at h63; omega) (growslice_fits (by simp only [maxLen] at h63; omega) (by rw [R.hby]; exact hb))
        rw [show (rowW dk r n size) = .slice (some ⟨r.n, 0, none⟩) n (n + (padD dk r n size).length / size) from rfl, h2] at hr
        injection hr with hv2 _
        rw [← hv2] at hob
        simp only [Value.ownBlock, Option.some.injEq] at hob
        exact .inr (by omega)
    have hne : l.n ≠ l'.n := by omega
    refine ⟨v', w', .inl (run_blt_append hr), [l'], rfl, by rw [hv]; rfl, ⟨?_, ?_⟩, ?_, ?_⟩
    · intro j o x hj hreal hx
      match j, hj, hx with
      | 0, hj, hx =>
        obtain rfl : unb = o := by simpa [sqAppD] using hj
        exact absurd hreal (by decide)
      | 1, hj, hx =>
        obtain rfl : Obj.cells ⟨news⟩ T' = o := by simpa [sqAppD] using hj
        obtain rfl : l = x := by simpa using hx
        exact hkept
      | 2, hj, hx =>
        obtain rfl : rowO l' (es ++ news) e (n + m) size = o := by simpa [sqAppD] using hj
        obtain rfl : l' = x := by simpa using hx
        exact hh
      | k + 3, hj, _ => simp [sqAppD] at hj
    · intro a b o p x y ha har hb hbr hx hy hxy
      match a, b, ha, hb, hx, hy with
      | 0, _, ha, _, _, _ =>
        obtain rfl : unb = o := by simpa [sqAppD] using ha
        exact absurd har (by decide)
      | _, 0, _, hb, _, _ =>
        obtain rfl : unb = p := by simpa [sqAppD] using hb
        exact absurd hbr (by decide)
      | 1, 1, _, _, _, _ => rfl
      | 1, 2, _, _, hx, hy =>
        obtain rfl : l = x := by simpa using hx
        obtain rfl : l' = y := by simpa using hy
        exact absurd hxy hne
      | 2, 1, _, _, hx, hy =>
        obtain rfl : l' = x := by simpa using hx
        obtain rfl : l = y := by simpa using hy
        exact absurd hxy.symm hne
      | 2, 2, _, _, _, _ => rfl
      | k + 3, _, _, _, hx, _ => simp at hx
      | _, k + 3, _, _, _, hy => simp at hy
    · intro j o x hj hreal hx
      match j, hx with
      | 0, hx =>
        obtain rfl : l' = x := by simpa using hx
        rcases hwhere with k | k
        · exact .inr ⟨0, _, r, rfl, rfl, rfl, k.symm⟩
        · exact .inl k
      | k + 1, hx => simp at hx
    · refine ⟨hgrow.os, hgrow.tape, hgrow.output, hgrow.size, fun k hk ht => hgrow.block k hk fun q => ht ?_⟩
      rw [hown2] at q
      injection q with q
      exact ⟨0, _, r, rfl, rfl, rfl, q.symm⟩
end
def appL {α : Type} (A : Nat → α) : Nat → List α → Nat → α
  | _, [] => A
  | N, v :: r => appL (updF A N v) (N + 1) r
theorem esG_appL {α : Type} {f : α → List Value} : ∀ {els : List α} {N : Nat} {A : Nat → α}, esG f N A ++ (els.map f).flatten = esG f (N + els.length) (appL A N els)
  | [], N, A => by simp [appL]
  | v :: r, N, A => by
    rw [List.map_cons, List.flatten_cons, ← List.append_assoc, esG_app, esG_appL, List.length_cons]
    show esG f (N + 1 + r.length) (appL (updF A N v) (N + 1) r) = esG f (N + (r.length + 1)) (appL (updF A N v) (N + 1) r)
    rw [show N + 1 + r.length = N + (r.length + 1) by omega]
theorem flat_len {α : Type} {f : α → List Value} {sz : Nat} (hf : ∀ x, (f x).length = sz) : ∀ (els : List α), ((els.map f).flatten).length = els.length * sz
  | [] => by simp
  | v :: r => by rw [List.map_cons, List.flatten_cons, List.length_append, hf, flat_len hf r, List.length_cons, Nat.succ_mul]; omega
theorem flat_one {α : Type} {f : α → List Value} (h1 : ∀ x, ((f x).all fun u => u.oneCell') = true) (els : List α) : (((els.map f).flatten).all fun u => u.oneCell') = true :=
  List.all_eq_true.2 fun u hu => by
    obtain ⟨l, hl, hu⟩ := List.mem_flatten.1 hu
    obtain ⟨k, _, rfl⟩ := List.mem_map.1 hl
    exact List.all_eq_true.1 (h1 _) u hu
def sqAppL {α : Type} (dk : DK) (t ty e : TypeId) (consts : Array Bool) (sz : Nat) (f : α → List Value) (N : Nat) (A : Nat → α) (c : Nat) (els : List α) (T' : TypeId) : Spc :=
  ⟨fun ls => .op (.blt .append #[t, t] ty consts #[rowW dk (ls.getD 0 ⟨0, fun _ => undef⟩) N sz, .slice (some ⟨(ls.getD 1 ⟨0, fun _ => undef⟩).n, 0, none⟩) els.length c]),
   fun ls => [rowD dk (ls.getD 0 ⟨0, fun _ => undef⟩) (esG f N A) e N sz, .cells ⟨(els.map f).flatten⟩ T'], 1, .normal,
   fun ls => [rowV (ls.getD 2 ⟨0, fun _ => undef⟩) (N + els.length) sz],
   fun ls => [unb, .cells ⟨(els.map f).flatten⟩ T'], fun ls => [rowO (ls.getD 2 ⟨0, fun _ => undef⟩) (esG f (N + els.length) (appL A N els)) e (N + els.length) sz]⟩
theorem ble_le {a b : Nat} (h : Nat.ble a b = true) : a ≤ b := Nat.le_of_ble_eq_true h
theorem sqAppL_ok {P : Program} {S : World → Prop} {t ty e : TypeId} {i : TypeInfo} {z : Value} {sz bytes : Nat} (R : RowT P t e i z sz bytes) (consts : Array Bool) {α : Type} {f : α → List Value} {N : Nat} {A : Nat → α} {c : Nat} (els : List α) {T' : TypeId} (dk : DK)
    (hf : ∀ x, (f x).length = sz) (h1 : ∀ x, ((f x).all fun u => u.oneCell') = true) (hN : decide (N ≤ 1000000) = true) (hm : Nat.ble els.length 1000 = true) (hb : bytes ≤ 1000000) : SpcOk P S (sqAppL dk t ty e consts sz f N A c els T') := by
  have hN := of_decide_eq_true hN
  have hm := ble_le hm
  have h := sqAppD_ok (S := S) (ty := ty) dk R consts N (esG f N A) els.length c ((els.map f).flatten) T' (esG_len hf) (flat_len hf els) (flat_one h1 els) (by simp only [maxLen]; omega) (Nat.le_trans (Nat.mul_le_mul (show N + els.length ≤ 1001000 by omega) hb) (by decide))
  unfold sqAppD at h
  rw [esG_appL] at h
  exact h
def sqAppL1 {α : Type} (t ty e : TypeId) (consts : Array Bool) (sz : Nat) (f : α → List Value) (c : Nat) (v : α) (T' : TypeId) : Spc :=
  ⟨fun ls => .op (.blt .append #[t, t] ty consts #[.slice none 0 0, .slice (some ⟨(ls.getD 0 ⟨0, fun _ => undef⟩).n, 0, none⟩) 1 c]),
   fun ls => [.cells ⟨f v⟩ T'], 1, .normal,
   fun ls => [rowV (ls.getD 1 ⟨0, fun _ => undef⟩) 1 sz],
   fun ls => [.cells ⟨f v⟩ T'], fun ls => [rowO (ls.getD 1 ⟨0, fun _ => undef⟩) (esG f 1 (fun _ => v)) e 1 sz]⟩
theorem sqAppL1_ok {P : Program} {S : World → Prop} {t ty e : TypeId} {i : TypeInfo} {z : Value} {sz bytes : Nat} (R : RowT P t e i z sz bytes) (consts : Array Bool) {α : Type} {f : α → List Value} {c : Nat} (v : α) {T' : TypeId}
    (hf : ∀ x, (f x).length = sz) (h1 : ∀ x, ((f x).all fun u => u.oneCell') = true) (hb : bytes ≤ 1000000) : SpcOk P S (sqAppL1 t ty e consts sz f c v T') := by
  have h := sqAppG0_ok (S := S) (ty := ty) (A := fun _ => v) (c := c) (v := v) (T' := T') R consts hf h1 (Nat.le_trans hb (by decide))
  have e1 : esG f 1 (updF (fun _ => v) 0 v) = esG f 1 (fun _ => v) := esG_congr fun k hk => by unfold updF; split <;> rfl
  unfold sqAppG0 at h
  rw [e1] at h
  exact h
/-! ### make -/
/-! ### Numbers -/
def zquo (x y : Int) : Int := IntKind.i64.wrap (x.tdiv y)
def zrem (x y : Int) : Int := x.tmod y
theorem z_nz {x : Int} (h : (x == 0) = false) : x ≠ 0 := by simpa using h
theorem z_quo (P : Program) (T : TypeId) (xo yo : Operand) (x y : Int) (hy : y ≠ 0) (w : World) : (Q.bin .quo T xo yo (.int .i64 x) (.int .i64 y)).sem.run P w = .ok (.value (.int .i64 (zquo x y))) w := by
  simp [Q.sem, eqGuard, binOp, Op.intDiv, hy, zquo, Sem.run]
theorem z_rem (P : Program) (T : TypeId) (xo yo : Operand) (x y : Int) (hy : y ≠ 0) (w : World) : (Q.bin .rem T xo yo (.int .i64 x) (.int .i64 y)).sem.run P w = .ok (.value (.int .i64 (zrem x y))) w := by
  simp [Q.sem, eqGuard, binOp, Op.intDiv, hy, zrem, Sem.run]
end Go.Proofs.YtlpjdjbophcomaaDoor

