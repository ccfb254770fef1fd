/-
  One block out of an entry that stands for many; a struct with a slice out of a row of such. Nothing of the program stands here.
-/
import Derived.Test.YtnlnldpolaodbaaDoorRyN
namespace Go.Proofs.YtnlnldpolaodbaaDoor
open Go.RowKit
set_option linter.unusedVariables false
set_option linter.unusedSimpArgs false
/-- What is told of one block is told of an entry that stands for it among others. -/
def focS (sp : L1 → Spc) (sel : L1 → L1) (O O' : L1 → Obj) (ex : Ex) : Spc :=
  ⟨fun ls => (sp (lget ls 0)).wh [sel (lget ls 0)], fun ls => [O (lget ls 0)], 0, ex, fun ls => (sp (lget ls 0)).val [sel (lget ls 0)], fun ls => [O' (lget ls 0)], fun _ => []⟩
theorem focus_ok {b : Bool} {P : Program} {M : Nat → Prop} {B : Nat} {S : World → Prop} {sp : L1 → Spc} {sel : L1 → L1} {O O' : L1 → Obj} {pl pl' : L1 → L1 → Obj} {idx : Nat} {ex : Ex}
    (h0 : ∀ l, (sp l).m = 0) (hx : ∀ l, (sp l).ex = ex) (hpre : ∀ l ls, (sp l).pre ls = [pl l (lget ls 0)]) (hpost : ∀ l ls, (sp l).post ls = [pl' l (lget ls 0)]) (hnew : ∀ l ls, (sp l).new ls = [])
    (r : ∀ l x, real (pl l x) = true) (r' : ∀ l x, real (pl' l x) = true)
    (ho : ∀ l, own (O l) l idx = some ((sel l).n, pl l (sel l))) (ho' : ∀ l, own (O' l) l idx = some ((sel l).n, pl' l (sel l))) (hk : ∀ l k, k ≠ idx → own (O' l) l k = own (O l) l k)
    (h : ∀ l, SpcGf b P M B S (sp l)) : SpcG P M B S (focS sp sel O O' ex) := by
  intro ls w hlen hsat htb hS
  match ls, hlen with
  | [l], _ =>
    have hg : w.heap[(sel l).n]? = some (pl l (sel l)) := hsat.hold 0 idx _ l _ _ rfl rfl (ho l)
    have one : ∀ (j k : Nat) (o : Obj) (y : L1) (x : Nat) (p : Obj), ((sp l).pre [sel l])[j]? = some o → [sel l][j]? = some y → own o y k = some (x, p) → j = 0 ∧ k = 0 ∧ x = (sel l).n ∧ p = pl l (sel l) := fun j k o y x p hj hy hw => by
      rw [hpre] at hj
      match j, hj, hy with
      | 0, hj, hy =>
        obtain rfl : pl l (sel l) = o := by simpa [lget] using hj
        obtain rfl : sel l = y := by simpa using hy
        obtain ⟨q1, q2, q3, _⟩ := own_plain (real_isPend (r l (sel l))) hw
        exact ⟨rfl, q1, q2, q3⟩
      | j + 1, hj, _ => simp at hj
    have hs1 : SatF [sel l] ((sp l).pre [sel l]) w := ⟨fun j k o y x p hj hy hw => by
      obtain ⟨_, _, rfl, rfl⟩ := one j k o y x p hj hy hw
      exact hg, fun i j k k' o o' y y' x p p' hi hy hw hj hy' hw' => by
      obtain ⟨q1, q2, _⟩ := one i k o y x p hi hy hw
      obtain ⟨q3, q4, _⟩ := one j k' o' y' x p' hj hy' hw'
      exact ⟨by omega, by omega⟩⟩
    have tl : ∀ x, touchF [sel l] ((sp l).pre [sel l]) x → x = (sel l).n := fun x ⟨j, k, o, y, p, q1, q2, q3⟩ => (one j k o y x p q1 q2 q3).2.2.1
    have tO : touchF [l] [O l] (sel l).n := ⟨0, idx, _, l, _, rfl, rfl, ho l⟩
    have hd := h l [sel l] w (by rw [hpre]; rfl) hs1 (fun k hk => htb k (by rw [tl k hk]; exact tO)) hS
    show Does P ((sp l).wh [sel l]) ex w _
    rw [← hx l]
    refine hd.mono fun vs w' ⟨ms, hms, hv, hch, hfs⟩ => ?_
    obtain rfl : ms = [] := by rw [h0] at hms; exact List.length_eq_zero_iff.1 hms
    obtain ⟨hsl, _⟩ := hfs (.inr (by rw [hpre, hpost, hnew]; simp [chkX, keepsReal, noPend, r, r', real_isPend (r' l _)]))
    have hg' : w'.heap[(sel l).n]? = some (pl' l (sel l)) := hsl.hold 0 0 _ (sel l) _ _ (by rw [hpost]; rfl) rfl (own_real (r' l _))
    have sz : ∀ {x : Nat} {p : Obj}, w.heap[x]? = some p → x < w.heap.size := fun h => (Array.getElem?_eq_some_iff.1 h).1
    have ne : ∀ {k x : Nat} {p : Obj}, k ≠ idx → own (O l) l k = some (x, p) → x ≠ (sel l).n := fun {k x p} hki hw e => by
      subst e
      exact hki (hsat.inj 0 0 k idx _ _ l l _ _ _ rfl rfl hw rfl rfl (ho l)).2
    have at_ : ∀ (j k : Nat) (o : Obj) (y : L1) (x : Nat) (p : Obj), ([O' l] ++ ([] : List Obj))[j]? = some o → ([l] ++ ([] : List L1))[j]? = some y → own o y k = some (x, p) → j = 0 ∧ own (O' l) l k = some (x, p) := fun j k o y x p hj hy hw => by
      match j, hj, hy with
      | 0, hj, hy =>
        obtain rfl : O' l = o := by simpa using hj
        obtain rfl : l = y := by simpa using hy
        exact ⟨rfl, hw⟩
      | j + 1, hj, _ => simp at hj
    refine ⟨[], rfl, hv, ⟨hch.os, hch.tape, hch.output, hch.size, fun x hx ht => hch.block x hx fun q => ht (by rw [tl x q]; exact tO)⟩, fun _ => ⟨⟨fun j k o y x p hj hy hw => ?_, fun i j k k' o o' y y' x p p' hi hy hw hj hy' hw' => ?_⟩, fun j k o y x p hj hy hw => ?_⟩⟩
    · obtain ⟨_, hw⟩ := at_ j k o y x p hj hy hw
      by_cases e : k = idx
      · subst e
        rw [ho' l] at hw
        injection hw with hw
        injection hw with q1 q2
        rw [← q1, ← q2]; exact hg'
      · rw [hk l k e] at hw
        have h1 := hsat.hold 0 k _ l x p rfl rfl hw
        exact (hch.block x (sz h1) fun q => ne e hw (tl x q)).trans h1
    · obtain ⟨e1, hw⟩ := at_ i k o y x p hi hy hw
      obtain ⟨e2, hw'⟩ := at_ j k' o' y' x p' hj hy' hw'
      have back : ∀ {k : Nat} {p : Obj}, own (O' l) l k = some (x, p) → ∃ p0, own (O l) l k = some (x, p0) := fun {k p} q => by
        by_cases e : k = idx
        · subst e
          rw [ho' l] at q
          injection q with q
          injection q with q1 q2
          exact ⟨_, by rw [ho l, q1]⟩
        · rw [hk l k e] at q; exact ⟨p, q⟩
      obtain ⟨a1, g1⟩ := back hw
      obtain ⟨a2, g2⟩ := back hw'
      exact ⟨by omega, (hsat.inj 0 0 k k' _ _ l l x _ _ rfl rfl g1 rfl rfl g2).2⟩
    · obtain ⟨_, hw⟩ := at_ j k o y x p hj hy hw
      by_cases e : k = idx
      · subst e
        rw [ho' l] at hw
        injection hw with hw
        injection hw with q1 q2
        exact .inr (by rw [← q1]; exact tO)
      · rw [hk l k e] at hw
        exact .inr ⟨0, k, _, l, p, rfl, rfl, hw⟩
section
variable {P : Program} {M : Nat → Prop} {B0 : Nat} {S : World → Prop} {τ σ : Type} {hd tl : σ → List Value} {zs : Nat} {e T T2 : TypeId} {f : τ → List Value} {sz N k m : Nat} {B : Nat → τ} {E : Nat → σ}
theorem own_rs_E {E E' : Nat → σ} {D : Nat → Nat × (Nat → τ)} {l : L1} {k : Nat} (h : k ≠ 0) : own (rsO hd tl zs l e T2 f sz N D E') l k = own (rsO hd tl zs l e T2 f sz N D E) l k := by
  cases k with
  | zero => exact absurd rfl h
  | succ k => simp [own, rsO]
/-- The row of structs whose slices all have the elements B, as a plain row. -/
def rsF (hd tl : σ → List Value) (l : L1) (m sz : Nat) (x : σ × Nat) : List Value := hd x.1 ++ rowV (rrM l x.2) m sz :: tl x.1
theorem rs_plain (hm : decide (0 < m) = true) (l : L1) : esG (rsC hd tl l sz (fun _ => (m, B)) E) N (fun i => i) = esG (rsF hd tl l m sz) N (fun i => (E i, i)) := by
  have hm := of_decide_eq_true hm
  exact esG_map fun i _ => by
    unfold rsC rsF
    rw [if_neg (by show ¬ m = 0; omega)]
/-- The whole struct. -/
def ldRS (hd tl : σ → List Value) (zs : Nat) (T e T2 : TypeId) (f : τ → List Value) (sz N k m : Nat) (B : Nat → τ) (E : Nat → σ) : Spc :=
  ⟨fun ls => .op (.ld T (.pointer (some ⟨(rrL (lget ls 0)).n, 0 + k * zs, none⟩))), fun ls => [rsO hd tl zs (lget ls 0) e T2 f sz N (fun _ => (m, B)) E], 0, .normal,
   fun ls => [.agg ⟨rsF hd tl (lget ls 0) m sz (E k, k)⟩], fun ls => [rsO hd tl zs (lget ls 0) e T2 f sz N (fun _ => (m, B)) E], fun _ => []⟩
theorem ldRS_ok (hz : ∀ x, (hd x).length + 1 + (tl x).length = zs) (hA : ∀ w, (isAgg T).run P w = .ok true w) (hs : ∀ w, (sizeOf T).run P w = .ok zs w) (hm : decide (0 < m) = true) (hk : k < N) : SpcG P M B0 S (ldRS hd tl zs T e T2 f sz N k m B E) := by
  refine spc_read fun ls w hl hsat hS => ?_
  match ls, hl with
  | [l], _ =>
    have hg : w.heap[(rrL l).n]? = some (rowO (rrL l) (esG (rsC hd tl l sz (fun _ => (m, B)) E) N fun i => i) e N zs) := hsat.hold 0 0 _ l _ _ rfl rfl own_rs0
    rw [rs_plain hm l] at hg
    have hlen : ∀ x, (rsF hd tl l m sz x).length = zs := fun x => by
      unfold rsF
      rw [List.length_append, List.length_cons, ← hz x.1]; omega
    have hg1 : w.heap[(rrL l).n]? = some (.cells ⟨esG (rsF hd tl l m sz) N (fun i => (E i, i)) ++ padL (rrL l) N zs⟩ e) := hg
    have hc : ∀ j v, (rsF hd tl l m sz (E k, k))[j]? = some v → w.cell? ((⟨(rrL l).n, 0 + k * zs, none⟩ : Addr).add j) = some v := fun j v hv => by
      have hj : j < zs := by
        have := (List.getElem?_eq_some_iff.1 hv).1
        rw [hlen] at this; exact this
      have ea : (⟨(rrL l).n, 0 + k * zs, none⟩ : Addr).add j = ⟨(rrL l).n, k * zs + j, none⟩ := by
        unfold Addr.add
        split
        · rename_i h; rw [h]; simp
        · simp
      have := esG_get (A := fun i => (E i, i)) hlen hj hk
      rw [ea, cell_of_cells hg1, List.getElem?_toArray, List.getElem?_append_left ?_, this]
      · exact hv
      · rw [esG_len hlen]
        have := Nat.mul_le_mul_right zs (show k + 1 ≤ N by omega)
        rw [Nat.succ_mul] at this
        omega
    have hr := run_loadCells_list (P := P) w ⟨(rrL l).n, 0 + k * zs, none⟩ (rsF hd tl l m sz (E k, k)) hc
    rw [hlen] at hr
    show (Q.ld T (.pointer (some ⟨(rrL l).n, 0 + k * zs, none⟩))).sem.run P w = .ok (.value (.agg ⟨rsF hd tl l m sz (E k, k)⟩)) w
    rw [Nat.zero_add] at hr
    simp [Q.sem, Instr.loadAt, Instr.sureAddr, loadVar, hA, hs, Sem.run_bind, hr]
/-- One of its cells ahead of the slice, or behind it, is written. -/
theorem stRS_ok {v : σ} (j : Nat) (u : Value) (hz : ∀ x, (hd x).length + 1 + (tl x).length = zs) (hh1 : ∀ x, ∀ u ∈ hd x, u.oneCell' = true) (hh2 : ∀ x, ∀ u ∈ tl x, u.oneCell' = true)
    (hj : Nat.ble (j + u.cells.toList.length) zs = true) (hv : ∀ l, (rsF hd tl l m sz (E k, k)).take j ++ u.cells.toList ++ (rsF hd tl l m sz (E k, k)).drop (j + u.cells.toList.length) = rsF hd tl l m sz (v, k)) (hs : ∀ w, (sizeOf T).run P w = .ok u.cells.size w) (hm : decide (0 < m) = true) (hk : k < N) :
    SpcG P M B0 S (focS (fun l => sqSt T e (rsF hd tl l m sz) N k zs (fun i => (E i, i)) (v, k) j u (fun x => padL x N zs)) rrL (fun l => rsO hd tl zs l e T2 f sz N (fun _ => (m, B)) E) (fun l => rsO hd tl zs l e T2 f sz N (fun _ => (m, B)) (updF E k v)) .normal) := by
  have hlen : ∀ l x, (rsF hd tl l m sz x).length = zs := fun l x => by
    unfold rsF
    rw [List.length_append, List.length_cons, ← hz x.1]; omega
  have hone : ∀ l x, ((rsF hd tl l m sz x).all fun u => u.oneCell') = true := fun l x => by
    rw [List.all_eq_true]
    intro u hu
    rcases List.mem_append.1 hu with q | q
    · exact hh1 _ u q
    · rcases List.mem_cons.1 q with rfl | q
      · rfl
      · exact hh2 _ u q
  have eE : (fun i => (updF E k v i, i)) = updF (fun i => (E i, i)) k (v, k) := by
    funext i
    by_cases h : i = k
    · subst h; rw [updF_at, updF_at]
    · rw [updF_ne _ _ h, updF_ne _ _ h]
  refine focus_ok (idx := 0) (pl := fun l x => rowO x (esG (rsF hd tl l m sz) N fun i => (E i, i)) e N zs) (pl' := fun l x => rowO x (esG (rsF hd tl l m sz) N (updF (fun i => (E i, i)) k (v, k))) e N zs)
    (fun _ => rfl) (fun _ => rfl) (fun _ _ => rfl) (fun _ _ => rfl) (fun _ _ => rfl) (fun _ _ => rfl) (fun _ _ => rfl) (fun l => ?_) (fun l => ?_) (fun l k hk => own_rs_E hk)
    (b := false) (fun l => (sqSt_ok (e := e) (N := N) (A := fun i => (E i, i)) (v := (v, k)) (pad := fun x => padL x N zs) j u (hlen l) (hone l) hj (hv l) hs hk).g)
  · rw [own_rs0, rs_plain hm l]
  · rw [own_rs0, rs_plain hm l, eE]
/-- What a callee does with one of the slices' blocks that stays as it is. -/
theorem memRS_ok {sp : Spc} (h0 : sp.m = 0) (hpre : ∀ ls, sp.pre ls = [rowO (lget ls 0) (esG f m B) T2 m sz]) (hpost : ∀ ls, sp.post ls = [rowO (lget ls 0) (esG f m B) T2 m sz]) (hnew : ∀ ls, sp.new ls = []) (hm : decide (0 < m) = true) (hk : k < N)
    (h : SpcG P M B0 S sp) : SpcG P M B0 S (focS (fun _ => sp) (fun l => rrM l k) (fun l => rsO hd tl zs l e T2 f sz N (fun _ => (m, B)) E) (fun l => rsO hd tl zs l e T2 f sz N (fun _ => (m, B)) E) sp.ex) := by
  have hm := of_decide_eq_true hm
  exact focus_ok (idx := k + 1) (pl := fun _ x => rowO x (esG f m B) T2 m sz) (pl' := fun _ x => rowO x (esG f m B) T2 m sz)
    (fun _ => h0) (fun _ => rfl) (fun _ => hpre) (fun _ => hpost) (fun _ => hnew) (fun _ _ => rfl) (fun _ _ => rfl) (fun l => own_rsS hk (by show m ≠ 0; omega)) (fun l => own_rsS hk (by show m ≠ 0; omega)) (fun _ _ _ => rfl) (fun _ => h)
end
end Go.Proofs.YtnlnldpolaodbaaDoor
