/-
  Bytes of a string behind a row, a row behind a block that bears a mark, parts of known rows, elements that point somewhere. Nothing of the program stands here.
-/
import Derived.Test.YtchogpgifdkhbaaRyG
import Derived.Test.YtchogpgifdkhbaaRxH
import Derived.Lib.AppendStr
namespace Go.Proofs.Ytchogpgifdkhbaa
open Go.RowKit
set_option linter.unusedVariables false
set_option linter.unusedSimpArgs false
/-! ### Parts at known places -/
section
variable {P : Program} {T e : TypeId} {sz n : Nat}
/-- From x on. -/
def slTl (T : TypeId) (sz n x : Nat) (C : L1 → Nat) : Q → Option (Value × (L1 → Obl))
  | .slc T' (.slice (some ⟨b, m, none⟩) n' c) (some i) none none => some (.slice (some ⟨b, m + x * sz, none⟩) (n' - x) (c - x), fun l => [(.n T', .n T), (.v (.slice (some ⟨b, m, none⟩) n' c), .v (.slice (some ⟨b, m, none⟩) n (C l))), (.v i, .v (.int .i64 (x : Int)))])
  | _ => none
theorem slTl_ok {x : Nat} (C : L1 → Nat) (hT : P.underlying T = some (.slice e)) (hs : ∀ w, (sizeOf e).run P w = .ok sz w) (hc : ∀ l, n ≤ C l) (hx : x < n) :
    ∀ q v g l, slTl T sz n x C q = some (v, g) → okL (g l) → ∀ w, q.sem.run P w = .ok (.value v) w := by
  intro q v g l hq ho w
  unfold slTl at hq
  split at hq
  · simp only [Option.some.injEq, Prod.mk.injEq] at hq
    obtain ⟨rfl, rfl⟩ := hq
    obtain ⟨e1, ho⟩ := okL_cons.1 ho
    obtain ⟨e2, ho⟩ := okL_cons.1 ho
    obtain ⟨e3, ho⟩ := okL_cons.1 ho
    simp only [Tok.n.injEq, Tok.v.injEq, Value.slice.injEq] at e1 e2 e3
    obtain ⟨_, rfl, hcc⟩ := e2
    subst e1 e3
    have hc := hc l
    rw [← hcc] at hc
    have hne := Nat.ne_of_gt (Nat.lt_of_lt_of_le hx hc)
    have hle := Nat.le_of_lt hx
    simp [Q.sem, Instr.sliceAt, Instr.slice, Instr.sliceBounds, Instr.sliceBound, run_underlying hT, hs, asIntOf, hne, hle, Sem.run_bind, Result.andThen_ok, add_off, addr_add]
  · cases hq
/-- From its end on. -/
def slEn (T : TypeId) (sz n : Nat) (C : L1 → Nat) : Q → Option (Value × (L1 → Obl))
  | .slc T' (.slice (some ⟨b, m, none⟩) n' c) (some i) none none => some (.slice (some ⟨b, if c = n then m else m + n * sz, none⟩) 0 (c - n), fun l => [(.n T', .n T), (.v (.slice (some ⟨b, m, none⟩) n' c), .v (.slice (some ⟨b, m, none⟩) n (C l))), (.v i, .v (.int .i64 (n : Int)))])
  | _ => none
theorem slEn_ok (C : L1 → Nat) (hT : P.underlying T = some (.slice e)) (hs : ∀ w, (sizeOf e).run P w = .ok sz w) (hc : ∀ l, n ≤ C l) :
    ∀ q v g l, slEn T sz n C q = some (v, g) → okL (g l) → ∀ w, q.sem.run P w = .ok (.value v) w := by
  intro q v g l hq ho w
  unfold slEn at hq
  split at hq
  · simp only [Option.some.injEq, Prod.mk.injEq] at hq
    obtain ⟨rfl, rfl⟩ := hq
    obtain ⟨e1, ho⟩ := okL_cons.1 ho
    obtain ⟨e2, ho⟩ := okL_cons.1 ho
    obtain ⟨e3, ho⟩ := okL_cons.1 ho
    simp only [Tok.n.injEq, Tok.v.injEq, Value.slice.injEq] at e1 e2 e3
    obtain ⟨_, rfl, hcc⟩ := e2
    subst e1 e3
    simp [Q.sem, Instr.sliceAt, Instr.slice, Instr.sliceBounds, Instr.sliceBound, run_underlying hT, hs, asIntOf, Sem.run_bind, Result.andThen_ok, add_off, addr_add]
    split <;> simp [addr_add]
  · cases hq
/-- The first y, without room. -/
def slMx (T : TypeId) (n y : Nat) (C : L1 → Nat) : Q → Option (Value × (L1 → Obl))
  | .slc T' (.slice (some ⟨b, m, none⟩) n' c) none (some i) (some j) => some (.slice (some ⟨b, m, none⟩) y y, fun l => [(.n T', .n T), (.v (.slice (some ⟨b, m, none⟩) n' c), .v (.slice (some ⟨b, m, none⟩) n (C l))), (.v i, .v (.int .i64 (y : Int))), (.v j, .v (.int .i64 (y : Int)))])
  | _ => none
theorem slMx_ok {y : Nat} (C : L1 → Nat) (hT : P.underlying T = some (.slice e)) (hs : ∀ w, (sizeOf e).run P w = .ok sz w) (hc : ∀ l, n ≤ C l) (hy : y ≤ n) :
    ∀ q v g l, slMx T n y C q = some (v, g) → okL (g l) → ∀ w, q.sem.run P w = .ok (.value v) w := by
  intro q v g l hq ho w
  unfold slMx at hq
  split at hq
  · simp only [Option.some.injEq, Prod.mk.injEq] at hq
    obtain ⟨rfl, rfl⟩ := hq
    obtain ⟨e1, ho⟩ := okL_cons.1 ho
    obtain ⟨e2, ho⟩ := okL_cons.1 ho
    obtain ⟨e3, ho⟩ := okL_cons.1 ho
    obtain ⟨e4, ho⟩ := okL_cons.1 ho
    simp only [Tok.n.injEq, Tok.v.injEq, Value.slice.injEq] at e1 e2 e3 e4
    obtain ⟨_, rfl, hcc⟩ := e2
    subst e1 e3 e4
    have hc := hc l
    rw [← hcc] at hc
    have hle : y ≤ _ := Nat.le_trans hy hc
    simp [Q.sem, Instr.sliceAt, Instr.slice, Instr.sliceBounds, Instr.sliceBound, run_underlying hT, hs, asIntOf, hle, Sem.run_bind, Result.andThen_ok, add_off, addr_add]
  · cases hq
end
/-! ### append -/
section
variable {P : Program} {t ty e : TypeId} {i : TypeInfo} {z : Value} {size bytes : Nat}
/-- To a block that is full, whatever mark it bears. -/
theorem app_full (R : RowT P t e i z size bytes) (n : Nat) (es : List Value) (m c : Nat) (ad : Addr) (news : List Value) (w : World) (r : Nat) {T' : TypeId} {fz : Nat × Nat} (hgr : w.heap[r]? = some (.cells ⟨es⟩ T' fz)) (he : es.length = n * size) (hl : news.length = m * size)
    (h63 : n + m ≤ maxLen) (hb : (n + m) * bytes ≤ 140737488355328) (hm : 0 < m) (hcell : ∀ j u, news[j]? = some u → w.cell? (ad.add j) = some u) :
    ∃ v' w' l', (Builtin.append_ #[t, t] ty #[.slice (some ⟨r, 0, none⟩) n n, .slice (some ad) m c]).run P w = .ok v' w' ∧ v' = rowV l' (n + m) size ∧ w'.heap[l'.n]? = some (rowO l' (es ++ news) e (n + m) size) ∧ w.heap.size ≤ l'.n ∧ w.grownBy w' none := by
  have hsz := R.hsize
  have hby := R.hby
  subst hsz hby
  have hsmall : n + m ≤ 9223372036854775807 := by simp only [maxLen] at h63; omega
  have hlen : (es ++ news).length = (n + m) * i.size := by rw [List.length_append, he, hl, Nat.add_mul]
  have hr := run_append_grow (P := P) w t ty e i z R.ht R.hi R.hz ⟨r, 0, none⟩ n n es he (fun j u hj => by
      rw [add_off, cell_of_cells hgr]
      simpa using hj) ad m c news hl hcell (by omega) (by omega) (growslice_fits (by omega) hb)
  have hge := grownCap_ge w (n + m) n e
  have hcm : grownCap w (n + m) n e ≤ maxLen := grownCap_le_maxLen w (n + m) n e h63
  have hown : (w.drew.alloc (.cells (es.toArray ++ news.toArray ++ Builtin.zeroCells z.cells (grownCap w (n + m) n e - (n + m))) e)).ownsRow w.heap.size e i.size
        (.slice (some ⟨w.heap.size, 0, none⟩) (n + m) (grownCap w (n + m) n e)) (n + m) (es ++ news) := by
    refine ⟨hlen, .inr ⟨w.heap.size, _, _, rfl, Nat.le_refl _, heap_alloc_new w.drew _, hge, hcm, ?_, ?_⟩⟩
    · simp only [Array.size_append, List.size_toArray, size_zeroCells, R.hzs, he, hl, ← Nat.add_mul]
      congr 1
      omega
    · simp only [Array.toList_append, List.append_assoc]
      rw [← List.append_assoc, ← hlen]
      exact List.take_left
  obtain ⟨l', hv, hh, hob, hbase⟩ := owned_row R.hsz hown (fun k => by cases k)
  exact ⟨_, _, l', hr, hv, hh, hbase, ⟨rfl, rfl, rfl, by simp, fun k hk _ => heap_alloc_old w.drew _ hk⟩⟩
end
section
variable {P : Program} {t ty e : TypeId} {i : TypeInfo} {z : Value} {sz bytes : Nat} {α : Type} {f : α → List Value}
/-- A row of the call's own, behind a full block. -/
def sqApFz (t ty e : TypeId) (consts : Array Bool) (sz : Nat) (f : α → List Value) (N : Nat) (A : Nat → α) (m : Nat) (B : Nat → α) (T' : TypeId) (fz : Nat × Nat) (A1 : Nat → α) : Spc :=
  ⟨fun ls => .op (.blt .append #[t, t] ty consts #[.slice (some ⟨(lget ls 0).n, 0, none⟩) N N, rowV (lget ls 1) m sz]),
   fun ls => [.cells ⟨esG f N A⟩ e fz, rowO (lget ls 1) (esG f m B) T' m sz], 1, .normal,
   fun ls => [rowV (lget ls 2) (N + m) sz], fun ls => [unb, rowO (lget ls 1) (esG f m B) T' m sz], fun ls => [rowO (lget ls 2) (esG f (N + m) A1) e (N + m) sz]⟩
theorem sqApFz_ok {S : World → Prop} (R : RowT P t e i z sz bytes) (consts : Array Bool) {N m : Nat} {A A1 B : Nat → α} {T' : TypeId} {fz : Nat × Nat} (hf : ∀ x, (f x).length = sz) (h1 : ∀ x, ((f x).all fun u => u.oneCell') = true)
    (hN : decide (N ≤ 1000000) = true) (hm : decide (m ≤ 1000000) = true) (hb : bytes ≤ 1000000) (h0 : 0 < m) (he : catF A N B = A1) : SpcOk P S (sqApFz t ty e consts sz f N A m B T' fz A1) := by
  subst he
  have hN := of_decide_eq_true hN
  have hm := of_decide_eq_true hm
  intro ls w hlen hsat hS
  match ls, hlen with
  | [r, l], _ =>
    have hgr : w.heap[r.n]? = some (.cells ⟨esG f N A⟩ e fz) := hsat.holds 0 _ r rfl rfl rfl
    have hg : w.heap[l.n]? = some (rowO l (esG f m B) T' m sz) := hsat.holds 1 _ l rfl rfl rfl
    have hllt := (Array.getElem?_eq_some_iff.1 hg).1
    obtain ⟨ad, had, hcell⟩ := own_news hg h0
    obtain rfl : (⟨l.n, 0, none⟩ : Addr) = ad := Option.some.inj had
    obtain ⟨v', w', l', hr, hv, hh, hwhere, hgrow⟩ := app_full (ty := ty) R N (esG f N A) m (m + (padL l m sz).length / sz) ⟨l.n, 0, none⟩ (esG f m B) w r.n hgr (esG_len hf) (esG_len hf) (by simp only [maxLen]; omega) (Nat.le_trans (Nat.mul_le_mul (show N + m ≤ 2000000 by omega) hb) (by decide)) h0 hcell
    rw [esG_cat] at hh
    have hkept : w'.heap[l.n]? = some (rowO l (esG f m B) T' m sz) := by
      rw [hgrow.block _ hllt (by intro k; cases k)]; exact hg
    have hne : l.n ≠ l'.n := by omega
    refine ⟨v', w', .inl (run_blt_append hr), [l'], rfl, by rw [hv]; rfl, ⟨?_, ?_⟩, ?_, ?_⟩
    · intro j o x hj hreal hx
      match j, hj, hx with
      | 0, hj, hx =>
        obtain rfl : unb = o := by simpa [sqApFz] using hj
        exact absurd hreal (by decide)
      | 1, hj, hx =>
        obtain rfl : rowO l (esG f m B) T' m sz = o := by simpa [sqApFz, lget] using hj
        obtain rfl : l = x := by simpa using hx
        exact hkept
      | 2, hj, hx =>
        obtain rfl : rowO l' (esG f (N + m) (catF A N B)) e (N + m) sz = o := by simpa [sqApFz, lget] using hj
        obtain rfl : l' = x := by simpa using hx
        exact hh
      | k + 3, hj, _ => simp [sqApFz] at hj
    · intro a b o p x y ha har hb hbr hx hy hxy
      match a, b, ha, hb, hx, hy with
      | 0, _, ha, _, _, _ =>
        obtain rfl : unb = o := by simpa [sqApFz] using ha
        exact absurd har (by decide)
      | _, 0, _, hb, _, _ =>
        obtain rfl : unb = p := by simpa [sqApFz] using hb
        exact absurd hbr (by decide)
      | 1, 1, _, _, _, _ => rfl
      | 1, 2, _, _, hx, hy =>
        obtain rfl : l = x := by simpa using hx
        obtain rfl : l' = y := by simpa using hy
        exact absurd hxy hne
      | 2, 1, _, _, hx, hy =>
        obtain rfl : l' = x := by simpa using hx
        obtain rfl : l = y := by simpa using hy
        exact absurd hxy.symm hne
      | 2, 2, _, _, _, _ => rfl
      | k + 3, _, _, _, hx, _ => simp at hx
      | _, k + 3, _, _, _, hy => simp at hy
    · intro j o x hj hreal hx
      match j, hx with
      | 0, hx =>
        obtain rfl : l' = x := by simpa using hx
        exact .inl hwhere
      | k + 1, hx => simp at hx
    · exact ⟨hgrow.os, hgrow.tape, hgrow.output, hgrow.size, fun k hk ht => hgrow.block k hk fun q => by cases q⟩
end
section
variable {P : Program} {t u ty e : TypeId} {i : TypeInfo} {z : Value} {bytes : Nat} {α : Type} {f : α → List Value}
theorem run_blt_append' {a b : TypeId} {w w' : World} {v s v' : Value} {ty : TypeId} {consts : Array Bool} (h : (Builtin.append_ #[a, b] ty #[v, s]).run P w = .ok v' w') : ((Q.blt .append #[a, b] ty consts #[v, s]).sem).run P w = .ok (.value v') w' := by
  simp only [Q.sem, builtin, Sem.run_bind, h, Result.andThen_ok, Sem.run_pure]
/-- The bytes of a string, behind a row of the call's own. -/
def sqApStr (t u ty e : TypeId) (consts : Array Bool) (f : α → List Value) (N : Nat) (A : Nat → α) (s : ByteArray) (els : List α) : Spc :=
  ⟨fun ls => .op (.blt .append #[t, u] ty consts #[rowV (lget ls 0) N 1, .string s]),
   fun ls => [rowO (lget ls 0) (esG f N A) e N 1], 1, .normal,
   fun ls => [rowV (lget ls 1) (N + els.length) 1], fun ls => [unb], fun ls => [rowO (lget ls 1) (esG f (N + els.length) (appL A N els)) e (N + els.length) 1]⟩
theorem sqApStr_ok {S : World → Prop} (R : RowT P t e i z 1 bytes) (consts : Array Bool) {N : Nat} {A : Nat → α} {s : ByteArray} (els : List α) (hu : P.underlying u = some .string) (hz : z = .int .u8 0) (hby : bytes = 1) (hf : ∀ x, (f x).length = 1)
    (hs : Go.Lib.strCells s = (els.map f).flatten) (hN : decide (N ≤ 1000000) = true) (hm : Nat.ble els.length 1000 = true) : SpcOk P S (sqApStr t u ty e consts f N A s els) := by
  subst hz hby
  have hN := of_decide_eq_true hN
  have hm := ble_le hm
  have hsz : s.size = els.length := by
    have h := congrArg List.length hs
    rw [flat_len hf, Go.Lib.strCells_length] at h
    omega
  intro ls w hlen hsat hS
  match ls, hlen with
  | [r], _ =>
    have hgr : w.heap[r.n]? = some (rowO r (esG f N A) e N 1) := hsat.holds 0 _ r rfl rfl rfl
    have hown0 := rowD_owned .row (esG_len hf (N := N)) (Nat.zero_le _) hgr (by decide) (show N ≤ maxLen by simp only [maxLen]; omega)
    obtain ⟨v', w', hr, hown, hgrow, hnil⟩ := Go.Lib.run_append_own_string (P := P) w 0 t u ty e i R.ht hu R.hi R.hz R.hsize R.hby (rowV r N 1) N (esG f N A) hown0 s (by simp only [maxLen]; omega) (by omega) (Nat.zero_le _)
    obtain ⟨l', hv, hh, hob, _⟩ := owned_row (by decide) hown (fun k => by have := (hnil.1 k).1; simp [rowV] at this)
    rw [hsz, hs, esG_appL] at hh
    rw [hsz] at hv
    have hwhere : l'.n = r.n ∨ w.heap.size ≤ l'.n := by
      have hk := Nat.div_add_mod (padL r N 1).length 1
      rw [padL_mod r N, Nat.add_zero] at hk
      by_cases hroom : N + s.size ≤ N + (padL r N 1).length / 1
      · have h2 := Go.Lib.run_append_room_string (P := P) w t u ty e i R.ht hu R.hi R.hsize r.n N (N + (padL r N 1).length / 1) _ hgr s hroom (by
          show _ ≤ (esG f N A ++ padL r N 1).length
          rw [List.length_append, esG_len hf]
          omega)
        rw [show rowV r N 1 = .slice (some ⟨r.n, 0, none⟩) N (N + (padL r N 1).length / 1) from rfl, h2] at hr
        injection hr with hv2 _
        rw [← hv2] at hob
        simp only [Value.ownBlock, Option.some.injEq] at hob
        exact .inl hob.symm
      · have h2 := Go.Lib.run_append_grow_string (P := P) w t u ty e i (.int .u8 0) R.ht hu R.hi R.hz ⟨r.n, 0, none⟩ N (N + (padL r N 1).length / 1) (esG f N A) (by rw [R.hsize]; exact esG_len hf) (fun j x hj => by
            rw [add_off, cell_of_cells hgr]
            have hj' := (List.getElem?_eq_some_iff.1 hj).1
            have e1 : (⟨esG f N A ++ padL r N 1⟩ : Array Value)[j]? = (esG f N A ++ padL r N 1)[j]? := by simp
            rw [e1, List.getElem?_append_left hj']; exact hj) s (by omega) (by omega) (by rw [R.hby]; exact growslice_fits (by omega) (by omega))
        rw [show rowV r N 1 = .slice (some ⟨r.n, 0, none⟩) N (N + (padL r N 1).length / 1) from rfl, h2] at hr
        injection hr with hv2 _
        rw [← hv2] at hob
        simp only [Value.ownBlock, Option.some.injEq] at hob
        exact .inr (by omega)
    refine ⟨v', w', .inl (run_blt_append' hr), [l'], rfl, by rw [hv]; rfl, ⟨?_, ?_⟩, ?_, ?_⟩
    · intro j o x hj hreal hx
      match j, hj, hx with
      | 0, hj, hx =>
        obtain rfl : unb = o := by simpa [sqApStr] using hj
        exact absurd hreal (by decide)
      | 1, hj, hx =>
        obtain rfl : rowO l' (esG f (N + els.length) (appL A N els)) e (N + els.length) 1 = o := by simpa [sqApStr, lget] using hj
        obtain rfl : l' = x := by simpa using hx
        exact hh
      | k + 2, hj, _ => simp [sqApStr] at hj
    · intro a b o p x y ha har hb hbr hx hy hxy
      match a, b, ha, hb, hx, hy with
      | 0, _, ha, _, _, _ =>
        obtain rfl : unb = o := by simpa [sqApStr] using ha
        exact absurd har (by decide)
      | _, 0, _, hb, _, _ =>
        obtain rfl : unb = p := by simpa [sqApStr] using hb
        exact absurd hbr (by decide)
      | 1, 1, _, _, _, _ => rfl
      | k + 2, _, _, _, hx, _ => simp at hx
      | _, k + 2, _, _, _, hy => simp at hy
    · intro j o x hj hreal hx
      match j, hx with
      | 0, hx =>
        obtain rfl : l' = x := by simpa using hx
        rcases hwhere with k | k
        · exact .inr ⟨0, _, r, rfl, rfl, rfl, k.symm⟩
        · exact .inl k
      | k + 1, hx => simp at hx
    · refine ⟨hgrow.os, hgrow.tape, hgrow.output, hgrow.size, fun k hk ht => hgrow.block k hk fun q => ht ?_⟩
      injection q with q
      exact ⟨0, _, r, rfl, rfl, rfl, q.symm⟩
end
section
variable {P : Program} {t ty e : TypeId} {i : TypeInfo} {z : Value} {size bytes : Nat}
/-- Elements that point to a block, behind nothing. -/
def sqApP (t ty e : TypeId) (consts : Array Bool) (size m c : Nat) (news : L1 → List Value) (X : L1 → Obj) (T' : TypeId) : Spc :=
  ⟨fun ls => .op (.blt .append #[t, t] ty consts #[.slice none 0 0, .slice (some ⟨(lget ls 1).n, 0, none⟩) m c]),
   fun ls => [X (lget ls 0), .cells ⟨news (lget ls 0)⟩ T'], 1, .normal,
   fun ls => [rowV (lget ls 2) m size],
   fun ls => [X (lget ls 0), .cells ⟨news (lget ls 0)⟩ T'], fun ls => [rowO (lget ls 2) (news (lget ls 0)) e m size]⟩
theorem sqApP_ok {S : World → Prop} (R : RowT P t e i z size bytes) (consts : Array Bool) (m c : Nat) (news : L1 → List Value) (X : L1 → Obj) (T' : TypeId) (hX : ∀ l, real (X l) = true) (hl : ∀ l, (news l).length = m * size) (h1 : ∀ l, ((news l).all fun u => u.oneCell') = true) (hm0 : 0 < m) (h63 : m ≤ 1000) (hb : bytes ≤ 1000000) :
    SpcOk P S (sqApP t ty e consts size m c news X T') := by
  intro ls w hlen hsat hS
  match ls, hlen with
  | [l0, l1], _ =>
    have hg0 : w.heap[l0.n]? = some (X l0) := hsat.holds 0 _ l0 rfl (hX l0) rfl
    have hg1 : w.heap[l1.n]? = some (.cells ⟨news l0⟩ T') := hsat.holds 1 _ l1 rfl rfl rfl
    have hne : l0.n ≠ l1.n := fun k => absurd (hsat.inj 0 1 _ _ l0 l1 rfl (hX l0) rfl rfl rfl rfl k) (by decide)
    have hlt := (Array.getElem?_eq_some_iff.1 hg0).1
    obtain ⟨v, w', hr, ms, hms, hv, hsat', hfresh, hchg⟩ := sqApp0_ok (S := S) (ty := ty) R consts m c (news l0) T' (hl l0) (h1 l0) hm0 (by simp only [maxLen]; omega) (Nat.le_trans (Nat.mul_le_mul h63 hb) (by decide)) [l1] w rfl
      ⟨fun j o x hj hr hx => by
        match j, hj, hx with
        | 0, hj, hx =>
          obtain rfl : Obj.cells ⟨news l0⟩ T' = o := by simpa [sqApp0] using hj
          obtain rfl : l1 = x := by simpa using hx
          exact hg1
        | k + 1, hj, _ => simp [sqApp0] at hj, fun a b o p x y ha har hb hbr hx hy hxy => by
        match a, b, hx, hy with
        | 0, 0, _, _ => rfl
        | k + 1, _, hx, _ => simp at hx
        | _, k + 1, _, hy => simp at hy⟩ hS
    match ms, hms with
    | [l2], _ =>
      have g1 : w'.heap[l1.n]? = some (.cells ⟨news l0⟩ T') := hsat'.holds 0 _ l1 rfl rfl rfl
      have g2 : w'.heap[l2.n]? = some (rowO l2 (news l0) e m size) := hsat'.holds 1 _ l2 rfl rfl rfl
      have n12 : l1.n ≠ l2.n := fun k => absurd (hsat'.inj 0 1 _ _ l1 l2 rfl rfl rfl rfl rfl rfl k) (by decide)
      have tch : ∀ k, touched [l1] [Obj.cells ⟨news l0⟩ T'] k → k = l1.n := by
        rintro k ⟨j, o, x, hj, _, hx, rfl⟩
        match j, hx with
        | 0, hx =>
          obtain rfl : l1 = x := by simpa using hx
          rfl
        | k + 1, hx => simp at hx
      have n02 : l0.n ≠ l2.n := fun k => by
        rcases hfresh 0 _ l2 rfl rfl rfl with q | q
        · omega
        · exact hne (k.trans (tch _ q))
      have g0 : w'.heap[l0.n]? = some (X l0) := by
        rw [hchg.block _ hlt (fun q => hne (tch _ q))]; exact hg0
      refine ⟨v, w', hr, [l2], rfl, hv, ⟨?_, ?_⟩, ?_, ?_⟩
      · intro j o x hj hreal hx
        match j, hj, hx with
        | 0, hj, hx =>
          obtain rfl : X l0 = o := by simpa [sqApP, lget] using hj
          obtain rfl : l0 = x := by simpa using hx
          exact g0
        | 1, hj, hx =>
          obtain rfl : Obj.cells ⟨news l0⟩ T' = o := by simpa [sqApP, lget] using hj
          obtain rfl : l1 = x := by simpa using hx
          exact g1
        | 2, hj, hx =>
          obtain rfl : rowO l2 (news l0) e m size = o := by simpa [sqApP, lget] using hj
          obtain rfl : l2 = x := by simpa using hx
          exact g2
        | k + 3, hj, _ => simp [sqApP] at hj
      · intro a b o p x y ha har hb hbr hx hy hxy
        match a, b, hx, hy with
        | 0, 0, _, _ => rfl
        | 1, 1, _, _ => rfl
        | 2, 2, _, _ => rfl
        | 0, 1, hx, hy =>
          obtain rfl : l0 = x := by simpa using hx
          obtain rfl : l1 = y := by simpa using hy
          exact absurd hxy hne
        | 1, 0, hx, hy =>
          obtain rfl : l1 = x := by simpa using hx
          obtain rfl : l0 = y := by simpa using hy
          exact absurd hxy.symm hne
        | 0, 2, hx, hy =>
          obtain rfl : l0 = x := by simpa using hx
          obtain rfl : l2 = y := by simpa using hy
          exact absurd hxy n02
        | 2, 0, hx, hy =>
          obtain rfl : l2 = x := by simpa using hx
          obtain rfl : l0 = y := by simpa using hy
          exact absurd hxy.symm n02
        | 1, 2, hx, hy =>
          obtain rfl : l1 = x := by simpa using hx
          obtain rfl : l2 = y := by simpa using hy
          exact absurd hxy n12
        | 2, 1, hx, hy =>
          obtain rfl : l2 = x := by simpa using hx
          obtain rfl : l1 = y := by simpa using hy
          exact absurd hxy.symm n12
        | k + 3, _, hx, _ => simp at hx
        | _, k + 3, _, hy => simp at hy
      · intro j o x hj hreal hx
        match j, hx with
        | 0, hx =>
          obtain rfl : l2 = x := by simpa using hx
          rcases hfresh 0 _ l2 rfl rfl rfl with q | q
          · exact .inl q
          · exact absurd (tch _ q).symm n12
        | k + 1, hx => simp at hx
      · exact ⟨hchg.os, hchg.tape, hchg.output, hchg.size, fun k hk ht => hchg.block k hk fun q => ht ⟨1, _, l1, rfl, rfl, rfl, (tch _ q).symm⟩⟩
end
end Go.Proofs.Ytchogpgifdkhbaa
