/-
  Rows that grow: a slice of the call's own by letters; what append does to it. Nothing of the program stands here.
-/
import Derived.Test.YtlpjdjbophcomaaDoorRxI
import Derived.Laws.AppendOwn
namespace Go.Proofs.YtlpjdjbophcomaaDoor
open Go.RowKit
set_option linter.unusedVariables false
set_option linter.unusedSimpArgs false
/-- A row's block. -/
def rowO (l : L1) (es : List Value) (T : TypeId) (n sz : Nat) : Obj := .cells ⟨es ++ padL l n sz⟩ T
/-- A row's slice: n elements of sz cells. -/
def rowV (l : L1) (n sz : Nat) : Value := .slice (some ⟨l.n, 0, none⟩) n (n + (padL l n sz).length / sz)
def padOf (p : List Value) : Nat → Value := fun _ => .agg p.toArray
theorem padR_of (x : Nat) (p : List Value) : padR ⟨x, padOf p⟩ = p := by simp [padR, padOf]
theorem padL_mod (l : L1) (n : Nat) {sz : Nat} : (padL l n sz).length % sz = 0 := by
  unfold padL
  split
  · rename_i h; exact h.1
  · simp
theorem padL_max (l : L1) {n : Nat} (sz : Nat) (h : n ≤ maxLen) : n + (padL l n sz).length / sz ≤ maxLen := by
  unfold padL
  split
  · rename_i h; exact h.2
  · simp; exact h
/-- What is told of a type of slices. -/
structure RowT (P : Program) (t e : TypeId) (i : TypeInfo) (z : Value) (size bytes : Nat) : Prop where
  ht : P.underlying t = some (.slice e)
  hi : P.info? e = some i
  hz : i.zero = some z
  hsize : i.size = size
  hby : i.bytes = bytes
  hzs : z.cells.size = size
  hsz : 0 < size
theorem owned_row {w : World} {base : Nat} {e : TypeId} {size n : Nat} {v : Value} {xs : List Value} (hsz : 0 < size) (h : w.ownsRow base e size v n xs) (hn : ¬ (v = .slice none 0 0)) :
    ∃ l : L1, v = rowV l n size ∧ w.heap[l.n]? = some (rowO l xs e n size) ∧ v.ownBlock = some l.n ∧ base ≤ l.n := by
  obtain ⟨hl, h⟩ := h
  rcases h with ⟨rfl, _⟩ | ⟨g, cap, cur, rfl, hb, hg, hnc, hm, hcs, htk⟩
  · exact absurd rfl hn
  · have hp : (cur.toList.drop (n * size)).length = (cap - n) * size := by rw [List.length_drop, Array.length_toList, hcs, ← Nat.sub_mul]
    have hpad : padL ⟨g, padOf (cur.toList.drop (n * size))⟩ n size = cur.toList.drop (n * size) := by
      unfold padL
      rw [padR_of, if_pos]
      rw [hp, Nat.mul_mod_left, Nat.mul_div_cancel _ hsz]
      exact ⟨rfl, by omega⟩
    refine ⟨⟨g, padOf (cur.toList.drop (n * size))⟩, ?_, ?_, rfl, hb⟩
    · unfold rowV
      rw [hpad, hp, Nat.mul_div_cancel _ hsz]
      congr 1
      omega
    · unfold rowO
      rw [hpad, ← htk, List.take_append_drop]
      exact hg
theorem add_off (g j : Nat) : (⟨g, 0, none⟩ : Addr).add j = ⟨g, j, none⟩ := by
  unfold Addr.add
  split
  · rename_i h; rw [h]
  · simp
theorem cell_of_cells {w : World} {g : Nat} {c : Array Value} {T : TypeId} {fz : Nat × Nat} (hg : w.heap[g]? = some (.cells c T fz)) (j : Nat) : w.cell? ⟨g, j, none⟩ = c[j]? := by
  simp [World.cell?, hg]
theorem z_neqF {x y : Int} (h : (x == y) = false) : (x != y) = true := by rw [bne, h]; rfl
theorem z_neqT {x y : Int} (h : (x == y) = true) : (x != y) = false := by rw [bne, h]; rfl
theorem z_eqlF {x y : Int} (h : (x == y) = false) : (x == y) = false := h
theorem z_eqlT {x y : Int} (h : (x == y) = true) : (x == y) = true := h
theorem z_lssF {x y : Int} (h : decide (x < y) = false) : decide (x < y) = false := h
theorem z_lssT {x y : Int} (h : decide (x < y) = true) : decide (x < y) = true := h
theorem z_leqF {x y : Int} (h : decide (x ≤ y) = false) : decide (x ≤ y) = false := h
theorem z_leqT {x y : Int} (h : decide (x ≤ y) = true) : decide (x ≤ y) = true := h
theorem z_gtrF {x y : Int} (h : decide (x < y) = false) : decide (y > x) = false := h
theorem z_gtrT {x y : Int} (h : decide (x < y) = true) : decide (y > x) = true := h
theorem z_geqF {x y : Int} (h : decide (x ≤ y) = false) : decide (y ≥ x) = false := h
theorem z_geqT {x y : Int} (h : decide (x ≤ y) = true) : decide (y ≥ x) = true := h
/-- append of what lies in a block to nothing. -/
def sqApp0 (t ty e : TypeId) (consts : Array Bool) (size : Nat) (m c : Nat) (news : List Value) (T' : TypeId) : Spc :=
  ⟨fun ls => .op (.blt .append #[t, t] ty consts #[.slice none 0 0, .slice (some ⟨(ls.getD 0 ⟨0, fun _ => undef⟩).n, 0, none⟩) m c]),
   fun ls => [.cells ⟨news⟩ T'], 1, .normal,
   fun ls => [rowV (ls.getD 1 ⟨0, fun _ => undef⟩) m size],
   fun ls => [.cells ⟨news⟩ T'], fun ls => [rowO (ls.getD 1 ⟨0, fun _ => undef⟩) news e m size]⟩
section
variable {P : Program} {t ty e : TypeId} {i : TypeInfo} {z : Value} {size bytes : Nat}
theorem run_blt_append {w w' : World} {v s v' : Value} {ty : TypeId} {consts : Array Bool} (h : (Builtin.append_ #[t, t] ty #[v, s]).run P w = .ok v' w') : ((Q.blt .append #[t, t] ty consts #[v, s]).sem).run P w = .ok (.value v') w' := by
  simp only [Q.sem, builtin, Sem.run_bind, h, Result.andThen_ok, Sem.run_pure]
theorem sqApp0_ok {S : World → Prop} (R : RowT P t e i z size bytes) (consts : Array Bool) (m c : Nat) (news : List Value) (T' : TypeId) (hl : news.length = m * size) (h1 : (news.all fun u => u.oneCell') = true) (hm0 : 0 < m) (h63 : m ≤ maxLen) (hb : m * bytes ≤ 140737488355328) :
    SpcOk P S (sqApp0 t ty e consts size m c news T') := by
  have h1 := List.all_eq_true.1 h1
  intro ls w hlen hsat hS
  match ls, hlen with
  | [l], _ =>
    have hg : w.heap[l.n]? = some (.cells ⟨news⟩ T') := hsat.holds 0 _ l rfl rfl rfl
    obtain ⟨v', w', hr, hown, hgrow, hnil⟩ := run_append_own (P := P) w w.heap.size t ty e i z size bytes R.ht R.hi R.hz R.hsize R.hby R.hzs R.hsz (.slice none 0 0) 0 [] (World.ownsRow_nil w _ e size) ⟨l.n, 0, none⟩ m c news hl
      (fun j u hj => by rw [add_off, cell_of_cells hg]; simpa using hj) h1 (by omega) (by simpa using hb) (Nat.le_refl _)
    rw [Nat.zero_add, List.nil_append] at hown
    obtain ⟨l', hv, hh, hob, hbase⟩ := owned_row R.hsz hown (fun k => by have := (hnil.1 k).2; omega)
    refine ⟨v', w', .inl (run_blt_append hr), [l'], rfl, by rw [hv]; rfl, ⟨?_, ?_⟩, ?_, ?_⟩
    · intro j o x hj hreal hx
      match j, hj, hx with
      | 0, hj, hx =>
        obtain rfl : Obj.cells ⟨news⟩ T' = o := by simpa [sqApp0] using hj
        obtain rfl : l = x := by simpa using hx
        rw [hgrow.block _ ((Array.getElem?_eq_some_iff.1 hg).1) (by simp [Value.ownBlock])]; exact hg
      | 1, hj, hx =>
        obtain rfl : rowO l' news e m size = o := by simpa [sqApp0] using hj
        obtain rfl : l' = x := by simpa using hx
        exact hh
      | k + 2, hj, _ => simp [sqApp0] at hj
    · have hne : l.n ≠ l'.n := by have := (Array.getElem?_eq_some_iff.1 hg).1; omega
      intro a b o p x y ha har hb hbr hx hy hxy
      match a, b, hx, hy with
      | 0, 0, _, _ => rfl
      | 0, 1, hx, hy =>
        obtain rfl : l = x := by simpa using hx
        obtain rfl : l' = y := by simpa using hy
        exact absurd hxy hne
      | 1, 0, hx, hy =>
        obtain rfl : l' = x := by simpa using hx
        obtain rfl : l = y := by simpa using hy
        exact absurd hxy.symm hne
      | 1, 1, _, _ => rfl
      | k + 2, _, hx, _ => simp at hx
      | _, k + 2, _, hy => simp at hy
    · intro j o x hj hreal hx
      match j, hx with
      | 0, hx => obtain rfl : l' = x := by simpa using hx
                 exact .inl hbase
      | k + 1, hx => simp at hx
    · exact ⟨hgrow.os, hgrow.tape, hgrow.output, hgrow.size, fun k hk _ => hgrow.block k hk (by simp [Value.ownBlock])⟩
end
end Go.Proofs.YtlpjdjbophcomaaDoor

