/-
  Worlds that change: a block that is made, cells that are written, a block that is told anew. Nothing of the program stands here.
-/
import Derived.Test.YtoapdkcokemieaaGreatEuH
import Derived.Laws.Append
import Derived.Laws.MakeOwn
namespace Go.Proofs.YtoapdkcokemieaaGreat.Ev
open Go.RowKit
noncomputable section
set_option linter.unusedVariables false
set_option linter.unusedSimpArgs false
set_option linter.unusedSectionVars false
variable [Fs] [En] [FsOk]
section
variable {P : Program} {F : Fr} {b : Bm} {H : Hp} {w : World}
theorem HR.drew (hr : HR F b H w) : HR F b H w.drew := ⟨hr.fo, hr.nx, hr.low, hr.ag, hr.live, hr.inj⟩
theorem heap_lt {n : Nat} {ob : Obj} (h : w.heap[n]? = some ob) : n < w.heap.size := (Array.getElem?_eq_some_iff.1 h).1
theorem HR.lt (hr : HR F b H w) {i : Nat} {o : AObj} (h : H.t.at i = some o) : i < H.n := by
  obtain ⟨x, ob, h1, _⟩ := hr.live i o h
  by_cases hi : i < H.n
  · exact hi
  · rw [hr.nx i (by omega)] at h1; cases h1
/-- A block more, under a number that has none. -/
theorem HR.add (hr : HR F b H w) {m n : Nat} (hlo : F.n0 ≤ m) (hm : b m = none) (hmn : m < n) (hn : H.n ≤ n) {o : AObj} {ob : Obj} {room : Nat} (ho : OR (b.upd m ⟨w.heap.size, 0, room⟩) ⟨w.heap.size, 0, room⟩ o ob) :
    HR F (b.upd m ⟨w.heap.size, 0, room⟩) ⟨H.t.put m (some o), n⟩ (w.alloc ob) ∧ Keep F w (w.alloc ob) := by
  have hle := Bm.le_upd hm ⟨w.heap.size, 0, room⟩
  refine ⟨⟨?_, ?_, Nat.le_trans hr.low hn, ?_, ?_, ?_⟩, ⟨rfl, rfl, rfl, by simp, fun k hk => Below.heap_alloc _ _ _ (hr.fo k hk)⟩⟩
  · intro k hk; have := hr.fo k hk; simp; omega
  · intro i hi
    rw [Bm.upd_ne (by simp at hi; omega)]
    exact hr.nx i (by simp at hi; omega)
  · intro i hi; rw [Bm.upd_ne (by omega)]; exact hr.ag i hi
  · intro i p hi
    simp only [Tr.at_put] at hi
    by_cases hin : m = i
    · rw [if_pos hin] at hi; simp at hi; subst hi; subst hin
      refine ⟨_, ob, Bm.upd_at .., by rw [← World.alloc_eq]; simp, ho, fun hF => ?_⟩
      have := hr.fo _ hF
      simp at this
    · rw [if_neg hin] at hi
      obtain ⟨x, ob', h1, h2, h3, h4⟩ := hr.live i p hi
      refine ⟨x, ob', hle _ _ h1, ?_, h3.mono hle, h4⟩
      rw [Below.heap_alloc _ _ _ (heap_lt h2)]; exact h2
  · intro i j o1 o2 x y hi hj hx hy hxy
    simp only [Tr.at_put] at hi hj
    have aux : ∀ (j : Nat) (p : AObj) (y : Blk), (if m = j then some o else H.t.at j) = some p → b.upd m ⟨w.heap.size, 0, room⟩ j = some y → (j = m ∧ y.n = w.heap.size) ∨ (H.t.at j = some p ∧ b j = some y ∧ y.n < w.heap.size) := by
      intro j p y hj hy
      by_cases hmj : m = j
      · subst hmj; rw [Bm.upd_at] at hy; simp at hy; subst hy; exact .inl ⟨rfl, rfl⟩
      · rw [if_neg hmj] at hj
        obtain ⟨y', ob', h1, h2, _⟩ := hr.live j _ hj
        rw [Bm.upd_ne hmj] at hy
        rw [h1] at hy; simp at hy; subst hy
        exact .inr ⟨hj, h1, heap_lt h2⟩
    rcases aux i _ _ hi hx with ⟨h1, h2⟩ | ⟨h1, h2, h3⟩
    · rcases aux j _ _ hj hy with ⟨h4, h5⟩ | ⟨h4, h5, h6⟩
      · omega
      · omega
    · rcases aux j _ _ hj hy with ⟨h4, h5⟩ | ⟨h4, h5, h6⟩
      · omega
      · exact hr.inj i j _ _ _ _ h1 h4 h2 h5 hxy
/-- The world with another object in a block. -/
def World.seto (w : World) (n : Nat) (ob : Obj) : World := { w with heap := w.heap.setIfInBounds n ob }
theorem seto_keep {n : Nat} (hF : ¬ F.f n) (ob : Obj) : Keep F w (World.seto w n ob) := by
  refine ⟨rfl, rfl, rfl, by simp [World.seto], fun k hk => ?_⟩
  have : n ≠ k := fun e => hF (e ▸ hk)
  simp [World.seto, Array.getElem?_setIfInBounds_ne this]
theorem set_self {h : Array Obj} {g : Nat} {ob : Obj} (hg : h[g]? = some ob) : h.setIfInBounds g ob = h := by
  apply Array.ext_getElem?
  intro k
  rw [Array.getElem?_setIfInBounds]
  split
  · rename_i e; subst e
    rw [hg]; simp [(Array.getElem?_eq_some_iff.1 hg).1]
  · rfl
theorem modify_set {h : Array Obj} {g : Nat} {ob : Obj} (hg : h[g]? = some ob) (f : Obj → Obj) : h.modify g f = h.setIfInBounds g (f ob) := by
  apply Array.ext_getElem?
  intro k
  rw [Array.getElem?_setIfInBounds, Array.getElem?_modify]
  split
  · rename_i e; subst e
    rw [hg]; simp [(Array.getElem?_eq_some_iff.1 hg).1]
  · rfl
/-- A block is told anew. -/
theorem HR.set (hr : HR F b H w) {i : Nat} {o : AObj} (hi : H.t.at i = some o) {x : Blk} (hx : b i = some x) {o' : AObj} {ob' : Obj} (ho : OR b x o' ob') :
    HR F b ⟨H.t.put i (some o'), H.n⟩ (World.seto w x.n ob') ∧ Keep F w (World.seto w x.n ob') := by
  obtain ⟨x', ob, h1, h2, h3, h4⟩ := hr.live i o hi
  rw [hx] at h1; simp at h1; subst h1
  have hlt := heap_lt h2
  refine ⟨⟨?_, hr.nx, hr.low, hr.ag, ?_, ?_⟩, seto_keep h4 ob'⟩
  · intro k hk; have := hr.fo k hk; simp [World.seto]; omega
  · intro j p hj
    simp only [Tr.at_put] at hj
    by_cases hij : i = j
    · rw [if_pos hij] at hj; simp at hj; subst hj; subst hij
      exact ⟨x, ob', hx, by simp [World.seto, hlt], ho, h4⟩
    · rw [if_neg hij] at hj
      obtain ⟨y, ob2, h5, h6, h7, h8⟩ := hr.live j p hj
      refine ⟨y, ob2, h5, ?_, h7, h8⟩
      have : x.n ≠ y.n := fun e => hij (hr.inj i j _ _ _ _ hi hj hx h5 e)
      simp [World.seto, Array.getElem?_setIfInBounds_ne this, h6]
  · intro j k o1 o2 y z hj hk hy hz hyz
    simp only [Tr.at_put] at hj hk
    have aux : ∀ j p, (if i = j then some o' else H.t.at j) = some p → ∃ q, H.t.at j = some q := by
      intro j p hj
      by_cases hij : i = j
      · subst hij; exact ⟨_, hi⟩
      · rw [if_neg hij] at hj; exact ⟨_, hj⟩
    obtain ⟨q1, hq1⟩ := aux j _ hj
    obtain ⟨q2, hq2⟩ := aux k _ hk
    exact hr.inj j k _ _ _ _ hq1 hq2 hy hz hyz
/-- A block goes on under a new number, its old one is dead. -/
theorem HR.moved (hr : HR F b H w) {i : Nat} {o : AObj} (hi : H.t.at i = some o) {x : Blk} (hx : b i = some x) {y : Blk} (hy : y.n = x.n) {m n : Nat} (hlo : F.n0 ≤ m) (hm : b m = none) (hmn : m < n) (hn : H.n ≤ n) {o' : AObj} {ob' : Obj} (ho : OR (b.upd m y) y o' ob') :
    HR F (b.upd m y) ⟨(H.t.put i none).put m (some o'), n⟩ (World.seto w x.n ob') ∧ Keep F w (World.seto w x.n ob') := by
  obtain ⟨x', ob, h1, h2, h3, h4⟩ := hr.live i o hi
  rw [hx] at h1; simp at h1; subst h1
  have hlt := heap_lt h2
  have hle := Bm.le_upd hm y
  refine ⟨⟨?_, ?_, Nat.le_trans hr.low hn, ?_, ?_, ?_⟩, seto_keep h4 ob'⟩
  · intro k hk; have := hr.fo k hk; simp [World.seto]; omega
  · intro j hj
    rw [Bm.upd_ne (by simp at hj; omega)]
    exact hr.nx j (by simp at hj; omega)
  · intro j hj; rw [Bm.upd_ne (by omega)]; exact hr.ag j hj
  · intro j p hj
    simp only [Tr.at_put] at hj
    by_cases hnj : m = j
    · rw [if_pos hnj] at hj; simp at hj; subst hj; subst hnj
      exact ⟨y, ob', Bm.upd_at .., by simp [World.seto, hy, hlt], ho, by rw [hy]; exact h4⟩
    · rw [if_neg hnj] at hj
      by_cases hij : i = j
      · rw [if_pos hij] at hj; cases hj
      · rw [if_neg hij] at hj
        obtain ⟨z, ob2, h5, h6, h7, h8⟩ := hr.live j p hj
        refine ⟨z, ob2, hle _ _ h5, ?_, h7.mono hle, h8⟩
        have : x.n ≠ z.n := fun e => hij (hr.inj i j _ _ _ _ hi hj hx h5 e)
        simp [World.seto, Array.getElem?_setIfInBounds_ne this, h6]
  · intro j k o1 o2 z1 z2 hj hk hz1 hz2 hzz
    simp only [Tr.at_put] at hj hk
    have aux : ∀ (j : Nat) (p : AObj) (z : Blk), (if m = j then some o' else if i = j then none else H.t.at j) = some p → b.upd m y j = some z → (j = m ∧ z = y) ∨ (i ≠ j ∧ H.t.at j = some p ∧ b j = some z) := by
      intro j p z hj hz
      by_cases hnj : m = j
      · left; subst hnj; rw [Bm.upd_at] at hz; simp at hz; exact ⟨rfl, hz.symm⟩
      · rw [if_neg hnj] at hj
        by_cases hij : i = j
        · rw [if_pos hij] at hj; cases hj
        · rw [if_neg hij] at hj
          right
          rw [Bm.upd_ne hnj] at hz
          exact ⟨hij, hj, hz⟩
    rcases aux j _ _ hj hz1 with ⟨ha, hb⟩ | ⟨ha, hb, hc⟩
    · rcases aux k _ _ hk hz2 with ⟨hd, he⟩ | ⟨hd, he, hf⟩
      · omega
      · exfalso
        apply hd
        refine hr.inj i k _ _ _ _ hi he hx hf ?_
        rw [← hzz, hb, hy]
    · rcases aux k _ _ hk hz2 with ⟨hd, he⟩ | ⟨hd, he, hf⟩
      · exfalso
        apply ha
        refine hr.inj i j _ _ _ _ hi hb hx hc ?_
        rw [hzz, he, hy]
      · exact hr.inj j k _ _ _ _ hb he hc hf hzz
/-- A block dies. -/
theorem HR.kill (hr : HR F b H w) (i : Nat) : HR F b ⟨H.t.put i none, H.n⟩ w := by
  refine ⟨hr.fo, hr.nx, hr.low, hr.ag, ?_, ?_⟩
  · intro j p hj
    simp only [Tr.at_put] at hj
    by_cases hij : i = j
    · rw [if_pos hij] at hj; cases hj
    · rw [if_neg hij] at hj; exact hr.live j p hj
  · intro j k o1 o2 x y hj hk hx hy hxy
    simp only [Tr.at_put] at hj hk
    by_cases hij : i = j
    · rw [if_pos hij] at hj; cases hj
    · by_cases hik : i = k
      · rw [if_pos hik] at hk; cases hk
      · rw [if_neg hij] at hj; rw [if_neg hik] at hk
        exact hr.inj j k _ _ _ _ hj hk hx hy hxy
/-! ### Cells that are written -/
def oneP : PV → Bool
  | .ag _ => false
  | .tp _ => false
  | _ => true
theorem oneP_ok {p : PV} {v : Value} (hv : V b p v) (h : oneP p = true) : v.oneCell' = true := by
  cases hv <;> first | rfl | simp [oneP] at h
theorem oneL_ok : ∀ {l : List PV} {l' : List Value}, VL b l l' → l.all oneP = true → ∀ v ∈ l', v.oneCell' = true
  | _, _, .nil, h, v, hm => by simp at hm
  | _, _, .cons p v l l' h1 h2, h, u, hm => by
    simp at h
    rcases List.mem_cons.1 hm with rfl | hm
    · exact oneP_ok h1 h.1
    · exact oneL_ok h2 (by simpa using h.2) u hm
theorem run_storeC {g o : Nat} {T : TypeId} {fz : Nat × Nat} : ∀ (vs : List Value) (i : Nat) (a : Array Value) (w : World), w.heap[g]? = some (.cells a T fz) → o + i + vs.length ≤ a.size →
    (∀ v ∈ vs, v.oneCell' = true) → (fz.1 = fz.2 ∨ a.size ≤ fz.1) →
    ∃ a', (storeCells ⟨g, o, none⟩ vs i).run P w = .ok () (World.seto w g (.cells a' T fz)) ∧ a'.size = a.size ∧ ∀ k, a'[k]? = if o + i ≤ k ∧ k < o + i + vs.length then vs[k - (o + i)]? else a[k]?
  | [], i, a, w, hg, hl, h1, hf => by
    refine ⟨a, ?_, rfl, fun k => by rw [if_neg (by simp)]⟩
    have : World.seto w g (.cells a T fz) = w := by unfold World.seto; rw [set_self hg]
    rw [this]; rfl
  | v :: vs, i, a, w, hg, hl, h1, hf => by
    simp at hl
    have hlt := heap_lt hg
    have hc : w.cell? ((⟨g, o, none⟩ : Addr).add i) = some (a[o + i]'(by omega)) := by
      rw [Addr.add_lit]; simp [World.cell?, hg]
    have hfz : w.frozen? ((⟨g, o, none⟩ : Addr).add i) = false := by
      rw [Addr.add_lit]; simp [World.frozen?, hg]; intro h; rcases hf with hf | hf <;> omega
    have hst : (store ((⟨g, o, none⟩ : Addr).add i) v).run P w = .ok () (World.seto w g (.cells (a.setIfInBounds (o + i) v) T fz)) := by
      rw [run_store P w _ v _ (h1 v (by simp)), hc]
      simp only [hfz, Bool.false_eq_true, if_false]
      rw [Addr.add_lit]
      congr 1
      unfold World.setCell World.seto
      simp only [modify_set hg]
      rfl
    obtain ⟨a', h2, h3, h4⟩ := run_storeC (g := g) (o := o) (T := T) (fz := fz) vs (i + 1) (a.setIfInBounds (o + i) v) (World.seto w g (.cells (a.setIfInBounds (o + i) v) T fz)) (by simp [World.seto, hlt]) (by simp; omega) (fun u hu => h1 u (by simp [hu])) (by simpa using hf)
    refine ⟨a', ?_, by simpa using h3, ?_⟩
    · simp only [storeCells, Sem.run_bind, hst, Result.andThen_ok, h2]
      simp [World.seto]
    · intro k
      rw [h4]
      by_cases hk : o + (i + 1) ≤ k ∧ k < o + (i + 1) + vs.length
      · rw [if_pos hk, if_pos (by simp; omega)]
        rw [show k - (o + i) = (k - (o + (i + 1))) + 1 from by omega, List.getElem?_cons_succ]
      · rw [if_neg hk]
        by_cases hk2 : k = o + i
        · subst hk2
          rw [if_pos (by simp)]
          have : o + i < a.size := by omega
          simp [this]
        · rw [if_neg (by simp; omega), Array.getElem?_setIfInBounds_ne (by omega)]
/-- Cells of a block are written. -/
theorem HR.write (hr : HR F b H w) {i : Nat} {c : Tr PV} {n T sz : Nat} {g : Bool} (hi : H.t.at i = some (.row c n T sz g)) {x : Blk} (hx : b i = some x) {off : Nat} {l : List PV} {l' : List Value} (hl : VL b l l')
    (h1 : l.all oneP = true) (hn : off + l.length ≤ n) :
    ∃ w', (storeCells ⟨x.n, x.o + off, none⟩ l').run P w = .ok () w' ∧ HR F b ⟨H.t.put i (some (.row (c.fill off l) n T sz g)), H.n⟩ w' ∧ Keep F w w' := by
  obtain ⟨a, fz, h2, h3, h4, h5, h6, h7⟩ := hr.cells hi hx
  have hlen := hl.length
  obtain ⟨a', h8, h9, h10⟩ := run_storeC (P := P) (g := x.n) (o := x.o + off) (T := T) (fz := fz) l' 0 a w h2 (by rw [h3]; omega) (oneL_ok hl h1) (.inl (by rw [h6]))
  refine ⟨_, h8, ?_⟩
  refine hr.set hi hx ?_
  refine ⟨a', fz, rfl, by rw [h9, h3], ?_, ?_, h6⟩
  · intro k hk
    rw [Tr.at_fill, if_neg (by omega)]; exact h4 k hk
  · intro k v hk
    rw [Tr.at_fill] at hk
    rw [h10]
    by_cases hin : off ≤ k ∧ k < off + l.length
    · rw [if_pos hin] at hk
      obtain ⟨v', h11, h12⟩ := hl.get hk
      rw [if_pos (by omega)]
      exact ⟨v', by rw [show x.o + k - (x.o + off + 0) = k - off from by omega]; exact h11, h12⟩
    · rw [if_neg hin] at hk
      rw [if_neg (by omega)]
      exact h5 k v hk
/-- A fresh row of cells, all of them known but for the room. -/
theorem OR.fresh {x : Blk} (ho : x.o = 0) {l : List PV} {l' rest : List Value} {T sz : Nat} {g : Bool} (hl : VL b l l') (hr : rest.length = bif g then x.room * sz else 0) :
    OR b x (.row (Tr.fill .lf 0 l) l.length T sz g) (.cells ⟨l' ++ rest⟩ T) := by
  refine ⟨⟨l' ++ rest⟩, (0, 0), rfl, ?_, ?_, ?_, rfl⟩
  · simp [ho, hr, hl.length]
  · intro k hk; rw [Tr.at_fill, if_neg (by omega), Tr.at_lf]
  · intro k v hk
    rw [Tr.at_fill] at hk
    split at hk
    · rename_i hin
      simp at hk hin
      obtain ⟨v', h1, h2⟩ := hl.get hk
      refine ⟨v', ?_, h2⟩
      rw [ho, Nat.zero_add]
      have : k < l'.length := by rw [← hl.length]; exact hin
      simp [List.getElem?_append_left this, h1]
    · rw [Tr.at_lf] at hk; cases hk
end
end
end Go.Proofs.YtoapdkcokemieaaGreat.Ev
