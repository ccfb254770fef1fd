/-
  append of a whole row: a slice that is only read, or a row of the call's own, put behind a row of the call's own, or behind nothing. Nothing of the program stands here.
-/
import Derived.Test.YtnlnldpolaodbaaDoorRxU
import Derived.Laws.OwnMore
import Derived.Laws.BytesArg
import Derived.Laws.Strings
namespace Go.Proofs.YtnlnldpolaodbaaDoor
open Go.RowKit
set_option linter.unusedVariables false
set_option linter.unusedSimpArgs false
/-- One row behind the other. -/
def catF {α : Type} (A : Nat → α) (N : Nat) (B : Nat → α) : Nat → α := fun k => if k < N then A k else B (k - N)
theorem catF_lo {α : Type} (A B : Nat → α) {N k : Nat} (h : k < N) : catF A N B k = A k := if_pos h
theorem catF_hi {α : Type} (A B : Nat → α) (N k : Nat) : catF A N B (N + k) = B k := by unfold catF; rw [if_neg (by omega), Nat.add_sub_cancel_left]
theorem esG_cat {α : Type} {f : α → List Value} {A B : Nat → α} {N : Nat} : ∀ {m : Nat}, esG f N A ++ esG f m B = esG f (N + m) (catF A N B)
  | 0 => by
    rw [esG_zero, List.append_nil, Nat.add_zero]
    exact esG_congr fun k hk => (catF_lo A B hk).symm
  | m + 1 => by
    rw [esG_succ, ← List.append_assoc, esG_cat, ← Nat.add_assoc, esG_succ, catF_hi]
section
variable {P : Program} {t ty e : TypeId} {i : TypeInfo} {z : Value} {size bytes : Nat}
/-- append of what can be read anywhere to a row of the call's own. -/
theorem app_core (dk : DK) (R : RowT P t e i z size bytes) (n : Nat) (es : List Value) (m c : Nat) (a : Option Addr) (news : List Value) (w : World) (r : L1) (hgr : w.heap[r.n]? = some (rowD dk r es e n size)) (he : es.length = n * size) (hl : news.length = m * size) (h1 : ∀ u ∈ news, u.oneCell' = true)
    (h63 : n + m ≤ maxLen) (hb : (n + m) * bytes ≤ 140737488355328) (hnews : 0 < m → ∃ ad, a = some ad ∧ ∀ j u, news[j]? = some u → w.cell? (ad.add j) = some u) :
    ∃ v' w' l', (Builtin.append_ #[t, t] ty #[rowW dk r n size, .slice a m c]).run P w = .ok v' w' ∧ v' = rowV l' (n + m) size ∧ w'.heap[l'.n]? = some (rowO l' (es ++ news) e (n + m) size) ∧ (l'.n = r.n ∨ w.heap.size ≤ l'.n) ∧ w.grownBy w' (some r.n) := by
  have hrlt := (Array.getElem?_eq_some_iff.1 hgr).1
  have hown0 := rowD_owned dk he (Nat.zero_le _) hgr R.hsz (show n ≤ maxLen by omega)
  by_cases hm : 0 < m
  · obtain ⟨ad, rfl, hcell⟩ := hnews hm
    obtain ⟨v', w', hr, hown, hgrow, hnil⟩ := run_append_own (P := P) w 0 t ty e i z size bytes R.ht R.hi R.hz R.hsize R.hby R.hzs R.hsz (rowW dk r n size) n es hown0 ad m c news hl hcell h1 h63 hb (Nat.zero_le _)
    obtain ⟨l', hv, hh, hob, _⟩ := owned_row R.hsz hown (fun k => by have := (hnil.1 k).1; simp [rowW] at this)
    refine ⟨v', w', l', hr, hv, hh, ?_, hgrow⟩
    by_cases hroom : n + m ≤ n + (padD dk r n size).length / size
    · have hk := Nat.div_add_mod (padD dk r n size).length size
      rw [padD_mod, Nat.add_zero] at hk
      have hfit : n * i.size + news.length ≤ (⟨es ++ padD dk r n size⟩ : Array Value).size := by
        show _ ≤ (es ++ padD dk r n size).length
        rw [List.length_append, hl, R.hsize, he, ← hk, Nat.mul_comm size]
        have : m ≤ (padD dk r n size).length / size := by omega
        have := Nat.mul_le_mul_right size this
        omega
      have h2 := run_append_room (P := P) w t ty e i R.ht R.hi r.n n _ _ hgr ad m c news (by rw [R.hsize]; exact hl) hcell h1 hroom hfit
      rw [show (rowW dk r n size) = .slice (some ⟨r.n, 0, none⟩) n (n + (padD dk r n size).length / size) from rfl, h2] at hr
      injection hr with hv2 _
      rw [← hv2] at hob
      simp only [Value.ownBlock, Option.some.injEq] at hob
      exact .inl hob.symm
    · have h2 := run_append_grow (P := P) w t ty e i z R.ht R.hi R.hz ⟨r.n, 0, none⟩ n (n + (padD dk r n size).length / size) es (by rw [R.hsize]; exact he) (fun j u hj => by
          rw [add_off, cell_of_cells hgr]
          have hj' := (List.getElem?_eq_some_iff.1 hj).1
          have e1 : (⟨es ++ padD dk r n size⟩ : Array Value)[j]? = (es ++ padD dk r n size)[j]? := by simp
          rw [e1, List.getElem?_append_left hj']; exact hj) ad m c news (by rw [R.hsize]; exact hl) hcell (by omega) (by simp only [maxLen] at h63; omega) (growslice_fits (by simp only [maxLen] at h63; omega) (by rw [R.hby]; exact hb))
      rw [show (rowW dk r n size) = .slice (some ⟨r.n, 0, none⟩) n (n + (padD dk r n size).length / size) from rfl, h2] at hr
      injection hr with hv2 _
      rw [← hv2] at hob
      simp only [Value.ownBlock, Option.some.injEq] at hob
      exact .inr (by omega)
  · obtain rfl : m = 0 := by omega
    obtain rfl : news = [] := List.eq_nil_of_length_eq_zero (by omega)
    obtain ⟨l', hv, hh, hob, _⟩ := owned_row R.hsz hown0 (fun k => by simp [rowW] at k)
    have hob' : some r.n = some l'.n := hob
    injection hob' with hob'
    rw [List.append_nil, Nat.add_zero]
    refine ⟨rowW dk r n size, w, l', ?_, hv, hh, .inl hob'.symm, ⟨rfl, rfl, rfl, Nat.le_refl _, fun _ _ _ => rfl⟩⟩
    have hk := Nat.div_add_mod (padD dk r n size).length size
    cases a <;> simp [rowW, Builtin.append_, run_underlying R.ht, sizeOf, typeInfo, R.hi, Builtin.lenOf, Builtin.firstCells, storeCells, loadCells, loadCellsFrom]
end
section
variable {P : Program} {t ty e : TypeId} {i : TypeInfo} {z : Value} {sz bytes : Nat} {α : Type} {f : α → List Value}
/-- A slice that is only read, behind a row of the call's own. -/
def sqApR (dk : DK) (t ty e : TypeId) (consts : Array Bool) (sz : Nat) (f : α → List Value) (N : Nat) (A : Nat → α) (a : Option Addr) (m c : Nat) (A1 : Nat → α) : Spc :=
  ⟨fun ls => .op (.blt .append #[t, t] ty consts #[rowW dk (lget ls 0) N sz, .slice a m c]),
   fun ls => [rowD dk (lget ls 0) (esG f N A) e N sz], 1, .normal,
   fun ls => [rowV (lget ls 1) (N + m) sz], fun _ => [unb], fun ls => [rowO (lget ls 1) (esG f (N + m) A1) e (N + m) sz]⟩
theorem ro_news {S : World → Prop} (hf : ∀ x, (f x).length = sz) (hsz : 0 < sz) {a : Option Addr} {p q m : Nat} {B : Nat → α} (hR : Ro S f sz a p q m B) {w : World} (hS : S w) : 0 < m → ∃ ad, a = some ad ∧ ∀ j u, (esG f m B)[j]? = some u → w.cell? (ad.add j) = some u := fun hm => by
  refine ⟨⟨p, q, none⟩, hR.at_ hm, fun j u hj => ?_⟩
  have hlt : j < m * sz := by rw [← esG_len hf]; exact (List.getElem?_eq_some_iff.1 hj).1
  have hk : j / sz < m := Nat.div_lt_of_lt_mul (by rw [Nat.mul_comm]; exact hlt)
  have hj2 : j / sz * sz + j % sz = j := by rw [Nat.mul_comm]; exact Nat.div_add_mod j sz
  have h1 := hR.cell w hS (j / sz) hk (j % sz) (Nat.mod_lt _ hsz)
  have h2 := esG_get (A := B) hf (Nat.mod_lt j hsz) hk
  rw [hj2, hj] at h2
  rw [Nat.add_assoc, hj2, ← h2] at h1
  rw [show (⟨p, q, none⟩ : Addr).add j = ⟨p, q + j, none⟩ by unfold Addr.add; split <;> simp_all]
  exact h1
theorem sqApR_ok {S : World → Prop} (R : RowT P t e i z sz bytes) (consts : Array Bool) {N : Nat} {A A1 : Nat → α} {a : Option Addr} {p q m c : Nat} {B : Nat → α} (dk : DK) (hR : Ro S f sz a p q m B) (hf : ∀ x, (f x).length = sz) (h1 : ∀ x, ((f x).all fun u => u.oneCell') = true)
    (hN : decide (N ≤ 1000000) = true) (hm : decide (m ≤ 1000000) = true) (hb : bytes ≤ 1000000) (he : catF A N B = A1) : SpcOk P S (sqApR dk t ty e consts sz f N A a m c A1) := by
  subst he
  have hN := of_decide_eq_true hN
  have hm := of_decide_eq_true hm
  intro ls w hlen hsat hS
  match ls, hlen with
  | [r], _ =>
    have hgr : w.heap[r.n]? = some (rowD dk r (esG f N A) e N sz) := hsat.holds 0 _ r rfl rfl rfl
    obtain ⟨v', w', l', hr, hv, hh, hwhere, hgrow⟩ := app_core (ty := ty) dk R N (esG f N A) m c a (esG f m B) w r hgr (esG_len hf) (esG_len hf) (esG_one h1) (by simp only [maxLen]; omega) (Nat.le_trans (Nat.mul_le_mul (show N + m ≤ 2000000 by omega) hb) (by decide)) (ro_news hf R.hsz hR hS)
    rw [esG_cat] at hh
    refine ⟨v', w', .inl (run_blt_append hr), [l'], rfl, by rw [hv]; rfl, ⟨?_, ?_⟩, ?_, ?_⟩
    · intro j o x hj hreal hx
      match j, hj, hx with
      | 0, hj, hx =>
        obtain rfl : unb = o := by simpa [sqApR] using hj
        exact absurd hreal (by decide)
      | 1, hj, hx =>
        obtain rfl : rowO l' (esG f (N + m) (catF A N B)) e (N + m) sz = o := by simpa [sqApR, lget] using hj
        obtain rfl : l' = x := by simpa using hx
        exact hh
      | k + 2, hj, _ => simp [sqApR] at hj
    · intro a b o p x y ha har hb hbr hx hy hxy
      match a, b, ha, hb, hx, hy with
      | 0, _, ha, _, _, _ =>
        obtain rfl : unb = o := by simpa [sqApR] using ha
        exact absurd har (by decide)
      | _, 0, _, hb, _, _ =>
        obtain rfl : unb = p := by simpa [sqApR] using hb
        exact absurd hbr (by decide)
      | 1, 1, _, _, _, _ => rfl
      | k + 2, _, _, _, hx, _ => simp at hx
      | _, k + 2, _, _, _, hy => simp at hy
    · intro j o x hj hreal hx
      match j, hx with
      | 0, hx =>
        obtain rfl : l' = x := by simpa using hx
        rcases hwhere with k | k
        · exact .inr ⟨0, _, r, rfl, rfl, rfl, k.symm⟩
        · exact .inl k
      | k + 1, hx => simp at hx
    · refine ⟨hgrow.os, hgrow.tape, hgrow.output, hgrow.size, fun k hk ht => hgrow.block k hk fun q => ht ?_⟩
      injection q with q
      exact ⟨0, _, r, rfl, rfl, rfl, q.symm⟩
/-- A row of the call's own, behind another one. -/
def sqApS (dk : DK) (t ty e : TypeId) (consts : Array Bool) (sz : Nat) (f : α → List Value) (N : Nat) (A : Nat → α) (m : Nat) (B : Nat → α) (T' : TypeId) (A1 : Nat → α) : Spc :=
  ⟨fun ls => .op (.blt .append #[t, t] ty consts #[rowW dk (lget ls 0) N sz, rowV (lget ls 1) m sz]),
   fun ls => [rowD dk (lget ls 0) (esG f N A) e N sz, rowO (lget ls 1) (esG f m B) T' m sz], 1, .normal,
   fun ls => [rowV (lget ls 2) (N + m) sz], fun ls => [unb, rowO (lget ls 1) (esG f m B) T' m sz], fun ls => [rowO (lget ls 2) (esG f (N + m) A1) e (N + m) sz]⟩
theorem own_news {T' : TypeId} {m : Nat} {B : Nat → α} {l : L1} {w : World} (hg : w.heap[l.n]? = some (rowO l (esG f m B) T' m sz)) : 0 < m → ∃ ad, (some ⟨l.n, 0, none⟩ : Option Addr) = some ad ∧ ∀ j u, (esG f m B)[j]? = some u → w.cell? (ad.add j) = some u := fun _ => by
  refine ⟨_, rfl, fun j u hj => ?_⟩
  rw [add_off, cell_of_cells hg]
  have hj' := (List.getElem?_eq_some_iff.1 hj).1
  have e1 : (⟨esG f m B ++ padL l m sz⟩ : Array Value)[0 + j]? = (esG f m B ++ padL l m sz)[j]? := by simp
  first
    | (rw [e1, List.getElem?_append_left hj']; exact hj)
    | (simp only [Nat.zero_add] at e1; rw [e1, List.getElem?_append_left hj']; exact hj)
theorem sqApS_ok {S : World → Prop} (R : RowT P t e i z sz bytes) (consts : Array Bool) {N m : Nat} {A A1 B : Nat → α} {T' : TypeId} (dk : DK) (hf : ∀ x, (f x).length = sz) (h1 : ∀ x, ((f x).all fun u => u.oneCell') = true)
    (hN : decide (N ≤ 1000000) = true) (hm : decide (m ≤ 1000000) = true) (hb : bytes ≤ 1000000) (he : catF A N B = A1) : SpcOk P S (sqApS dk t ty e consts sz f N A m B T' A1) := by
  subst he
  have hN := of_decide_eq_true hN
  have hm := of_decide_eq_true hm
  intro ls w hlen hsat hS
  match ls, hlen with
  | [r, l], _ =>
    have hgr : w.heap[r.n]? = some (rowD dk r (esG f N A) e N sz) := hsat.holds 0 _ r rfl rfl rfl
    have hg : w.heap[l.n]? = some (rowO l (esG f m B) T' m sz) := hsat.holds 1 _ l rfl rfl rfl
    have hrl : r.n ≠ l.n := fun k => absurd (hsat.inj 0 1 _ _ r l rfl rfl rfl rfl rfl rfl k) (by decide)
    have hllt := (Array.getElem?_eq_some_iff.1 hg).1
    obtain ⟨v', w', l', hr, hv, hh, hwhere, hgrow⟩ := app_core (ty := ty) dk R N (esG f N A) m (m + (padL l m sz).length / sz) (some ⟨l.n, 0, none⟩) (esG f m B) w r hgr (esG_len hf) (esG_len hf) (esG_one h1) (by simp only [maxLen]; omega) (Nat.le_trans (Nat.mul_le_mul (show N + m ≤ 2000000 by omega) hb) (by decide)) (own_news hg)
    rw [esG_cat] at hh
    have hkept : w'.heap[l.n]? = some (rowO l (esG f m B) T' m sz) := by
      rw [hgrow.block _ hllt (by intro k; exact hrl (by injection k with k; exact k.symm))]; exact hg
    have hne : l.n ≠ l'.n := by omega
    refine ⟨v', w', .inl (run_blt_append hr), [l'], rfl, by rw [hv]; rfl, ⟨?_, ?_⟩, ?_, ?_⟩
    · intro j o x hj hreal hx
      match j, hj, hx with
      | 0, hj, hx =>
        obtain rfl : unb = o := by simpa [sqApS] using hj
        exact absurd hreal (by decide)
      | 1, hj, hx =>
        obtain rfl : rowO l (esG f m B) T' m sz = o := by simpa [sqApS, lget] using hj
        obtain rfl : l = x := by simpa using hx
        exact hkept
      | 2, hj, hx =>
        obtain rfl : rowO l' (esG f (N + m) (catF A N B)) e (N + m) sz = o := by simpa [sqApS, lget] using hj
        obtain rfl : l' = x := by simpa using hx
        exact hh
      | k + 3, hj, _ => simp [sqApS] at hj
    · intro a b o p x y ha har hb hbr hx hy hxy
      match a, b, ha, hb, hx, hy with
      | 0, _, ha, _, _, _ =>
        obtain rfl : unb = o := by simpa [sqApS] using ha
        exact absurd har (by decide)
      | _, 0, _, hb, _, _ =>
        obtain rfl : unb = p := by simpa [sqApS] using hb
        exact absurd hbr (by decide)
      | 1, 1, _, _, _, _ => rfl
      | 1, 2, _, _, hx, hy =>
        obtain rfl : l = x := by simpa using hx
        obtain rfl : l' = y := by simpa using hy
        exact absurd hxy hne
      | 2, 1, _, _, hx, hy =>
        obtain rfl : l' = x := by simpa using hx
        obtain rfl : l = y := by simpa using hy
        exact absurd hxy.symm hne
      | 2, 2, _, _, _, _ => rfl
      | k + 3, _, _, _, hx, _ => simp at hx
      | _, k + 3, _, _, _, hy => simp at hy
    · intro j o x hj hreal hx
      match j, hx with
      | 0, hx =>
        obtain rfl : l' = x := by simpa using hx
        rcases hwhere with k | k
        · exact .inr ⟨0, _, r, rfl, rfl, rfl, k.symm⟩
        · exact .inl k
      | k + 1, hx => simp at hx
    · refine ⟨hgrow.os, hgrow.tape, hgrow.output, hgrow.size, fun k hk ht => hgrow.block k hk fun q => ht ?_⟩
      injection q with q
      exact ⟨0, _, r, rfl, rfl, rfl, q.symm⟩
/-- A slice that is only read and isn't empty, behind nothing. -/
def sqAp0R (t ty e : TypeId) (consts : Array Bool) (sz : Nat) (f : α → List Value) (a : Option Addr) (m c : Nat) (B : Nat → α) : Spc :=
  ⟨fun ls => .op (.blt .append #[t, t] ty consts #[.slice none 0 0, .slice a m c]), fun _ => [], 1, .normal,
   fun ls => [rowV (lget ls 0) m sz], fun _ => [], fun ls => [rowO (lget ls 0) (esG f m B) e m sz]⟩
theorem sqAp0R_ok {S : World → Prop} (R : RowT P t e i z sz bytes) (consts : Array Bool) {a : Option Addr} {p q m c : Nat} {B : Nat → α} (hR : Ro S f sz a p q m B) (hf : ∀ x, (f x).length = sz) (h1 : ∀ x, ((f x).all fun u => u.oneCell') = true)
    (h0 : decide (0 < m) = true) (hm : decide (m ≤ 1000000) = true) (hb : bytes ≤ 1000000) : SpcOk P S (sqAp0R t ty e consts sz f a m c B) := by
  have h0 := of_decide_eq_true h0
  have hm := of_decide_eq_true hm
  intro ls w hlen hsat hS
  match ls, hlen with
  | [], _ =>
    obtain ⟨ad, rfl, hcell⟩ := ro_news hf R.hsz hR hS h0
    obtain ⟨v', w', hr, hown, hgrow, hnil⟩ := run_append_own (P := P) w w.heap.size t ty e i z sz bytes R.ht R.hi R.hz R.hsize R.hby R.hzs R.hsz (.slice none 0 0) 0 [] (World.ownsRow_nil w _ e sz) ad m c (esG f m B) (esG_len hf)
      hcell (esG_one h1) (by simp only [maxLen]; omega) (Nat.le_trans (Nat.mul_le_mul (show 0 + m ≤ 2000000 by omega) hb) (by decide)) (Nat.le_refl _)
    rw [Nat.zero_add, List.nil_append] at hown
    obtain ⟨l', hv, hh, hob, hbase⟩ := owned_row R.hsz hown (fun k => by have := (hnil.1 k).2; omega)
    refine ⟨v', w', .inl (run_blt_append hr), [l'], rfl, by rw [hv]; rfl, ⟨?_, ?_⟩, ?_, ?_⟩
    · intro j o x hj hreal hx
      match j, hj, hx with
      | 0, hj, hx =>
        obtain rfl : rowO l' (esG f m B) e m sz = o := by simpa [sqAp0R, lget] using hj
        obtain rfl : l' = x := by simpa using hx
        exact hh
      | k + 1, hj, _ => simp [sqAp0R] at hj
    · intro a b o p x y ha har hb hbr hx hy hxy
      match a, b, hx, hy with
      | 0, 0, _, _ => rfl
      | k + 1, _, hx, _ => simp at hx
      | _, k + 1, _, hy => simp at hy
    · intro j o x hj hreal hx
      match j, hx with
      | 0, hx =>
        obtain rfl : l' = x := by simpa using hx
        exact .inl hbase
      | k + 1, hx => simp at hx
    · exact ⟨hgrow.os, hgrow.tape, hgrow.output, hgrow.size, fun k hk _ => hgrow.block k hk (by simp [Value.ownBlock])⟩
/-- Nothing behind nothing. -/
theorem run_append_zero (R : RowT P t e i z sz bytes) (a : Option Addr) (c : Nat) (w : World) : (Builtin.append_ #[t, t] ty #[.slice none 0 0, .slice a 0 c]).run P w = .ok (.slice none 0 0) w := by
  cases a <;> simp [Builtin.append_, run_underlying R.ht, sizeOf, typeInfo, R.hi, Builtin.lenOf, Builtin.firstCells, loadCells, loadCellsFrom]
def sqAp0Z (t ty : TypeId) (consts : Array Bool) (a : Option Addr) (m c : Nat) : Spc :=
  ⟨fun _ => .op (.blt .append #[t, t] ty consts #[.slice none 0 0, .slice a m c]), fun _ => [], 0, .normal, fun _ => [.slice none 0 0], fun _ => [], fun _ => []⟩
theorem sqAp0Z_ok {S : World → Prop} (R : RowT P t e i z sz bytes) (consts : Array Bool) {a : Option Addr} {m c : Nat} (h0 : decide (0 < m) = false) : SpcOk P S (sqAp0Z t ty consts a m c) := by
  have h0 := of_decide_eq_false h0
  obtain rfl : m = 0 := by omega
  intro ls w hlen hsat hS
  match ls, hlen with
  | [], _ =>
    refine ⟨.slice none 0 0, w, .inl (run_blt_append (run_append_zero R a c w)), [], rfl, rfl, ⟨?_, ?_⟩, ?_, ⟨rfl, rfl, rfl, Nat.le_refl _, fun _ _ _ => rfl⟩⟩
    · intro j o x hj hreal hx
      simp [sqAp0Z] at hj
    · intro a b o p x y ha har hb hbr hx hy hxy
      simp [sqAp0Z] at ha
    · intro j o x hj hreal hx
      simp [sqAp0Z] at hj
end
/-! ### Bytes as a string -/
def bstr (n : Nat) (A : Nat → BitVec 8) : ByteArray := strOfNums ((List.range n).map fun k => nn (A k))
theorem bstr_congr {n m : Nat} {A B : Nat → BitVec 8} (hn : n = m) (h : ∀ k, k < n → A k = B k) : bstr n A = bstr m B := by
  subst hn
  unfold bstr
  congr 1
  exact List.map_congr_left fun k hk => by rw [h k (List.mem_range.1 hk)]
def sqStrV (s d : TypeId) (a : Option Addr) (n c : Nat) (A : Nat → BitVec 8) : Spc :=
  ⟨fun _ => .op (.cnv s d (.slice a n c)), fun _ => [], 0, .normal, fun _ => [.string (bstr n A)], fun _ => [], fun _ => []⟩
theorem sqStrV_ok {P : Program} {S : World → Prop} {s d e : TypeId} {f : BitVec 8 → List Value} {a : Option Addr} {p q n c : Nat} {A : Nat → BitVec 8} (hs : P.underlying s = some (.slice e)) (he : P.underlying e = some (.int .u8)) (hd : P.underlying d = some .string) (hf : ∀ x, f x = [.int .u8 (nn x)]) (hR : Ro S f 1 a p q n A) : SpcOk P S (sqStrV s d a n c A) := by
  intro ls w hlen hsat hS
  match ls, hlen with
  | [], _ =>
    have h : (convert s d (.slice a n c)).run P w = .ok (.string (bstr n A)) w := by
      by_cases h0 : 0 < n
      · rw [hR.at_ h0]
        exact run_convert_bytes_arg w s e hs he p q n c _ (by simp) (fun i hi => by
          have := hR.cell w hS i hi 0 (by omega)
          rw [hf] at this
          simp only [Nat.mul_one, Nat.add_zero] at this
          rw [this]
          simp [List.getD, hi]) d hd
      · obtain rfl : n = 0 := by omega
        rw [run_convert_bytes_string w s d e _ 0 c hs he hd]
        cases a <;> simp [Conv.bytesToString, loadCells, loadCellsFrom, bstr, strOfNums] <;> rfl
    refine ⟨.string (bstr n A), w, .inl ?_, [], rfl, rfl, ⟨?_, ?_⟩, ?_, ⟨rfl, rfl, rfl, Nat.le_refl _, fun _ _ _ => rfl⟩⟩
    · simp only [Q.sem, Sem.run_bind, h, Result.andThen_ok, Sem.run_pure]
    · intro j o x hj hreal hx
      simp [sqStrV] at hj
    · intro a b o p x y ha har hb hbr hx hy hxy
      simp [sqStrV] at ha
    · intro j o x hj hreal hx
      simp [sqStrV] at hj
theorem str_eql {P : Program} (T : TypeId) (a b : ByteArray) (hg : P.eqGuardType P.depth T = false) (xo yo : Operand) (w : World) : (Q.bin .eql T xo yo (.string a) (.string b)).sem.run P w = .ok (.value (.bool (a == b))) w := by
  simp [Q.sem, eqGuard, binOp_string_eql, Sem.run, hg, beq_toListBytes]
/-! ### A part of a slice that is only read -/
theorem Ro.drop {τ : Type} {S : World → Prop} {f : τ → List Value} {sz : Nat} {a : Option Addr} {p m n : Nat} {A : Nat → τ} (h : Ro S f sz a p m n A) (j : Nat) : Ro S f sz (some ⟨p, m + j * sz, none⟩) p (m + j * sz) (n - j) (fun k => A (j + k)) :=
  ⟨fun _ => rfl, fun w hS k hk i hi => by
    have := h.cell w hS (j + k) (by omega) i hi
    rw [← this, Nat.add_mul, ← Nat.add_assoc]⟩
theorem slcRo_ok {P : Program} {T e : TypeId} {sz n k : Nat} {x : Int} {a : Option Addr} {p q : Nat} {τ : Type} {S : World → Prop} {f : τ → List Value} {A : Nat → τ} (hR : Ro S f sz a p q n A) (hT : P.underlying T = some (.slice e)) (hs : ∀ w, (sizeOf e).run P w = .ok sz w) (h : inR x n = true) :
    ∀ w, (Q.slc T (.slice a n (n + k)) (some (.int .i64 x)) none none).sem.run P w = .ok (.value (.slice (some ⟨p, q + x.toNat * sz, none⟩) (n - x.toNat) (n - x.toNat + k))) w := by
  intro w
  obtain ⟨h0, h1⟩ := inR_iff.1 h
  rw [hR.at_ (by omega)]
  have hne : ¬ (n + k = x.toNat) := by omega
  have hadd : (⟨p, q, none⟩ : Addr).add (x.toNat * sz) = ⟨p, q + x.toNat * sz, none⟩ := by unfold Addr.add; split <;> simp_all
  have hle : ¬ ((n : Int) < x) := by omega
  have hlt : ¬ (x < 0) := by omega
  have hkk : n + k - x.toNat = n - x.toNat + k := by omega
  simp [Q.sem, Instr.sliceAt, Instr.slice, Instr.sliceBounds, Instr.sliceBound, run_underlying hT, hs, asIntOf, hne, hadd, hle, hlt, h0, Sem.run_bind, Result.andThen_ok, hkk]
/-- A part of a slice that is only read, as an array. -/
theorem s2aRo_ok {P : Program} {T e : TypeId} {m n c : Nat} {a : Option Addr} {p q sz : Nat} {τ : Type} {S : World → Prop} {f : τ → List Value} {A : Nat → τ} (hR : Ro S f sz a p q n A) (hT : P.underlying T = some (.array m e)) (hm : 0 < m) (h : decide (m ≤ n) = true) :
    ∀ w, (Q.s2a T (.slice a n c)).sem.run P w = .ok (.value (.pointer (some ⟨p, q, none⟩))) w := by
  intro w
  have h := of_decide_eq_true h
  rw [hR.at_ (by omega)]
  have : ¬ (n < m) := by omega
  simp [Q.sem, Instr.arrayAt, run_underlying hT, this, Sem.run_bind, Result.andThen_ok]
/-- The cells of several elements. -/
theorem accRoN {S : World → Prop} {τ : Type} {f : τ → List Value} {sz : Nat} {a : Option Addr} {p m n : Nat} {A : Nat → τ} (hR : Ro S f sz a p m n A) (hf : ∀ x, (f x).length = sz) (c : Nat) (hc : decide (c ≤ n) = true) (vs : List Value) (hv : esG f c A = vs) :
    AccOk S (oldG p m vs) := by
  have hc := of_decide_eq_true hc
  refine oldG_ok fun w hw i hi => ?_
  subst hv
  rw [esG_len hf] at hi
  have hsz : 0 < sz := by
    rcases Nat.eq_zero_or_pos sz with h | h
    · subst h; omega
    · exact h
  have hk : i / sz < c := Nat.div_lt_of_lt_mul (by rw [Nat.mul_comm]; exact hi)
  have hj2 : i / sz * sz + i % sz = i := by rw [Nat.mul_comm]; exact Nat.div_add_mod i sz
  have h1 := hR.cell w hw (i / sz) (by omega) (i % sz) (Nat.mod_lt _ hsz)
  have h2 := esG_get (A := A) hf (Nat.mod_lt i hsz) hk
  rw [hj2] at h2
  rw [Nat.add_assoc, hj2] at h1
  rw [h1, h2]
end Go.Proofs.YtnlnldpolaodbaaDoor
