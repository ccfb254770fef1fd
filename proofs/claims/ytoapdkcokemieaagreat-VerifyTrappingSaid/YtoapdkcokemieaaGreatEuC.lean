/-
  Operations that only read (1): loads, places, parts, strings, comparisons. Nothing of the program stands here.
-/
import Derived.Test.YtoapdkcokemieaaGreatEuB
import Derived.Laws.Strings
import Derived.Laws.Tables
namespace Go.Proofs.YtoapdkcokemieaaGreat.Ev
open Go.RowKit
noncomputable section
set_option linter.unusedVariables false
set_option linter.unusedSimpArgs false
set_option linter.unusedSectionVars false
variable [Fs] [En] [FsOk]
section
variable {P : Program} {F : Fr} {b : Bm} {H : Hp} {w : World}
def szT (P : Program) (t : TypeId) : Option Nat := match P.info? t with
  | some i => some i.size
  | none => none
def aggD : TypeDesc → Bool
  | .struct _ => true
  | .array _ _ => true
  | _ => false
def aggT (P : Program) (t : TypeId) : Option Bool := match P.underlying t with
  | some d => some (aggD d)
  | none => none
theorem run_szT {t n : Nat} (h : szT P t = some n) : (sizeOf t).run P w = .ok n w := by
  unfold szT at h
  split at h
  · rename_i i hi; simp at h; subst h; simp [sizeOf, typeInfo, hi]
  · cases h
theorem run_aggT {t : Nat} {x : Bool} (h : aggT P t = some x) : (isAgg t).run P w = .ok x w := by
  unfold aggT at h
  split at h
  · rename_i d hd
    simp at h; subst h
    cases d <;> simp [isAgg, run_underlying hd, aggD]
  · cases h
/-! ### What lies in a block -/
theorem HR.cells (hr : HR F b H w) {i : Nat} {c : Tr PV} {n T sz : Nat} {g : Bool} (hi : H.t.at i = some (.row c n T sz g)) {x : Blk} (hx : b i = some x) :
    ∃ a fz, w.heap[x.n]? = some (.cells a T fz) ∧ a.size = x.o + n + (bif g then x.room * sz else 0) ∧ (∀ k, n ≤ k → c.at k = none) ∧
      (∀ k v, c.at k = some v → ∃ v', a[x.o + k]? = some v' ∧ V b v v') ∧ fz = (0, 0) ∧ ¬ F.f x.n := by
  obtain ⟨y, ob, h1, h2, h3, h4⟩ := hr.live i _ hi
  rw [hx] at h1; simp at h1; subst h1
  obtain ⟨a, fz, rfl, h5, h6, h7, h8⟩ := h3
  exact ⟨a, fz, h2, h5, h6, h7, h8, h4⟩
theorem HR.cell (hr : HR F b H w) {i : Nat} {c : Tr PV} {n T sz : Nat} {g : Bool} (hi : H.t.at i = some (.row c n T sz g)) {x : Blk} (hx : b i = some x) {k : Nat} {v : PV} (hk : c.at k = some v) :
    ∃ v', w.cell? ⟨x.n, x.o + k, none⟩ = some v' ∧ V b v v' := by
  obtain ⟨a, fz, h1, h2, h3, h4, h5, h6⟩ := hr.cells hi hx
  obtain ⟨v', h7, h8⟩ := h4 k v hk
  exact ⟨v', by simp [World.cell?, h1, h7], h8⟩
theorem HR.row (hr : HR F b H w) {i : Nat} {c : Tr PV} {n T sz : Nat} {g : Bool} (hi : H.t.at i = some (.row c n T sz g)) {x : Blk} (hx : b i = some x) {k m : Nat} {l : List PV} (hk : c.run k m = some l) :
    ∃ l', (loadCells ⟨x.n, x.o + k, none⟩ m).run P w = .ok ⟨l'⟩ w ∧ VL b l l' ∧ ∀ j v, l'[j]? = some v → w.cell? ⟨x.n, x.o + k + j, none⟩ = some v := by
  obtain ⟨h1, h2⟩ := Tr.run_spec hk
  have hc : ∀ j, j < m → ∃ v v', l[j]? = some v ∧ w.cell? ⟨x.n, x.o + k + j, none⟩ = some v' ∧ V b v v' := by
    intro j hj
    have h3 := h2 j hj
    have h4 : l[j]? = some l[j] := List.getElem?_eq_getElem (by omega)
    rw [h4] at h3
    obtain ⟨v', h5, h6⟩ := hr.cell hi hx h3
    exact ⟨_, v', h4, by rw [Nat.add_assoc]; exact h5, h6⟩
  let f : Nat → Value := fun j => (w.cell? ⟨x.n, x.o + k + j, none⟩).getD undef
  have hf : ∀ j, j < m → w.cell? ((⟨x.n, x.o + k, none⟩ : Addr).add j) = some (f j) := by
    intro j hj
    obtain ⟨v, v', h3, h4, h5⟩ := hc j hj
    rw [Addr.add_lit]
    simp only [f, h4, Option.getD_some]
  refine ⟨(List.range m).map f, run_loadCells w _ m f hf, VL.of_get (by simp [h1]) ?_, ?_⟩
  · intro j v v' hv hv'
    have hj : j < m := by rw [← h1]; exact (List.getElem?_eq_some_iff.1 hv).1
    obtain ⟨u, u', h3, h4, h5⟩ := hc j hj
    rw [h3] at hv; simp at hv; subst hv
    simp [hj] at hv'
    subst hv'
    simp only [f, h4, Option.getD_some]; exact h5
  · intro j v hv
    have hj : j < m := by have := (List.getElem?_eq_some_iff.1 hv).1; simpa using this
    simp [hj] at hv
    subst hv
    have := hf j hj
    rwa [Addr.add_lit] at this
/-! ### Loads -/
def evLd (P : Program) (H : Hp) (ty : TypeId) : PV → Option PV
  | .pt i off => match H.t.at i with
    | some (.row c _ _ _ _) => match aggT P ty with
      | some true => match szT P ty with
        | some n => match c.run off n with
          | some l => some (.ag l)
          | none => none
        | none => none
      | some false => c.at off
      | none => none
    | _ => none
  | _ => none
theorem evLd_ok (hr : HR F b H w) {ty : TypeId} {p q : PV} {v : Value} (hv : V b p v) (h : evLd P H ty p = some q) : ∃ v', (Instr.loadAt ty v).run P w = .ok v' w ∧ V b q v' := by
  cases hv with
  | pt i off x hx =>
    simp only [evLd] at h
    split at h
    · rename_i c n T sz g hi
      split at h
      · rename_i ha
        split at h
        · rename_i m hm
          split at h
          · rename_i l hl
            simp at h; subst h
            obtain ⟨l', h1, h2, h3⟩ := hr.row (P := P) hi hx hl
            exact ⟨.agg ⟨l'⟩, by simp [Instr.loadAt, Instr.sureAddr, loadVar, run_aggT ha, run_szT hm, h1], .ag _ _ h2⟩
          · cases h
        · cases h
      · rename_i ha
        obtain ⟨v', h1, h2⟩ := hr.cell hi hx h
        exact ⟨v', by simp [Instr.loadAt, Instr.sureAddr, loadVar, run_aggT ha, h1], h2⟩
      · cases h
    · cases h
  | _ => simp [evLd] at h
/-! ### Parts of structs -/
def evPart (P : Program) (ty : TypeId) (l : List PV) (off : Nat) : Option PV := match aggT P ty with
  | some true => match szT P ty with
    | some n => some (.ag ((l.drop off).take n))
    | none => none
  | some false => l[off]?
  | none => none
theorem evPart_ok {ty : TypeId} {l : List PV} {l' : List Value} {off : Nat} {q : PV} (hl : VL b l l') (h : evPart P ty l off = some q) : ∃ v', (part ty ⟨l'⟩ off).run P w = .ok v' w ∧ V b q v' := by
  unfold evPart at h
  split at h
  · rename_i ha
    split at h
    · rename_i n hn
      simp at h; subst h
      refine ⟨.agg ⟨(l'.drop off).take n⟩, ?_, .ag _ _ ((hl.drop off).take n)⟩
      have : (⟨l'⟩ : Array Value).extract off (off + n) = ⟨(l'.drop off).take n⟩ := by
        apply Array.ext'
        simp [List.extract_eq_take_drop, List.take_drop]
      simp [part, run_aggT ha, run_szT hn, this]
    · cases h
  · rename_i ha
    obtain ⟨v', h1, h2⟩ := hl.get h
    exact ⟨v', by simp [part, run_aggT ha, h1], h2⟩
  · cases h
def evFld (P : Program) (ty : TypeId) (f : Nat) : PV → Option PV
  | .ag l => match P.underlying ty with
    | some (.struct fields) => match fields[f]? with
      | some fd => evPart P fd.type l fd.offset
      | none => none
    | _ => none
  | _ => none
theorem evFld_ok {ty : TypeId} {f : Nat} {p q : PV} {v : Value} (hv : V b p v) (h : evFld P ty f p = some q) : ∃ v', (Instr.field ty v f).run P w = .ok v' w ∧ V b q v' := by
  cases hv with
  | ag l l' hl =>
    simp only [evFld] at h
    split at h
    · rename_i fields hu
      split at h
      · rename_i fd hf
        obtain ⟨v', h1, h2⟩ := evPart_ok (P := P) (w := w) hl h
        exact ⟨v', by simp [Instr.field, run_underlying hu, hf, asAgg, h1], h2⟩
      · cases h
    · cases h
  | _ => simp [evFld] at h
def evFa (P : Program) (s : TypeId) (f : Nat) : PV → Option PV
  | .pt i off => match P.underlying s with
    | some (.struct fields) => match fields[f]? with
      | some fd => match szT P fd.type with
        | some (_ + 1) => some (.pt i (off + fd.offset))
        | _ => none
      | none => none
    | _ => none
  | _ => none
theorem evFa_ok {s : TypeId} {f : Nat} {p q : PV} {v : Value} (hv : V b p v) (h : evFa P s f p = some q) : ∃ v', (Instr.fieldAt s v f).run P w = .ok v' w ∧ V b q v' := by
  cases hv with
  | pt i off x hx =>
    simp only [evFa] at h
    split at h
    · rename_i fields hu
      split at h
      · rename_i fd hf
        split at h
        · rename_i n hn
          simp at h; subst h
          refine ⟨.pointer (some ⟨x.n, x.o + (off + fd.offset), none⟩), ?_, .pt _ _ x hx⟩
          simp [Instr.fieldAt, run_underlying hu, hf, Instr.sureAddr, fieldPlace, run_szT hn, Addr.add_lit, Nat.add_assoc]
        · cases h
      · cases h
    · cases h
  | _ => simp [evFa] at h
/-! ### Places of elements -/
def evIa (P : Program) (ty : TypeId) : PV → PV → Option PV
  | .pt i off, .it _ k => match P.underlying ty with
    | some (.array len e) => match szT P e with
      | some n => match decide (0 ≤ k) && decide (k < (len : Int)) with
        | true => some (.pt i (off + k.toNat * n))
        | false => none
      | none => none
    | _ => none
  | .sl i off len _ _, .it _ k => match P.underlying ty with
    | some (.slice e) => match szT P e with
      | some n => match decide (0 ≤ k) && decide (k < (len : Int)) with
        | true => some (.pt i (off + k.toNat * n))
        | false => none
      | none => none
    | _ => none
  | _, _ => none
theorem evIa_ok {ty : TypeId} {p p2 q : PV} {v v2 : Value} (hv : V b p v) (hv2 : V b p2 v2) (h : evIa P ty p p2 = some q) : ∃ v', (Instr.indexAt ty v v2).run P w = .ok v' w ∧ V b q v' := by
  cases hv with
  | pt i off x hx =>
    cases hv2 with
    | it kd k =>
      simp only [evIa] at h
      split at h
      · rename_i len e hu
        split at h
        · rename_i n hn
          split at h
          · rename_i hk
            simp at h hk; subst h
            refine ⟨.pointer (some ⟨x.n, x.o + (off + k.toNat * n), none⟩), ?_, .pt _ _ x hx⟩
            simp [Instr.indexAt, asIntOf, run_underlying hu, Instr.sureAddr, hk, run_szT hn, Addr.add_lit, Nat.add_assoc]
          · cases h
        · cases h
      · cases h
    | _ => simp [evIa] at h
  | sl i off len c g x hx =>
    cases hv2 with
    | it kd k =>
      simp only [evIa] at h
      split at h
      · rename_i e hu
        split at h
        · rename_i n hn
          split at h
          · rename_i hk
            simp at h hk; subst h
            refine ⟨.pointer (some ⟨x.n, x.o + (off + k.toNat * n), none⟩), ?_, .pt _ _ x hx⟩
            simp [Instr.indexAt, asIntOf, run_underlying hu, hk, run_szT hn, Addr.add_lit, Nat.add_assoc]
          · cases h
        · cases h
      · cases h
    | _ => simp [evIa] at h
  | _ => cases hv2 <;> simp [evIa] at h
/-! ### Strings -/
theorem bys_size (s : List Nat) : (bys s).size = s.length := by simp [bys, ByteArray.size]
theorem bys_get (s : List Nat) (j : Nat) : (bys s)[j]? = (s[j]?).map UInt8.ofNat := by
  by_cases h : j < s.length
  · have h' : j < (bys s).size := by rw [bys_size]; exact h
    rw [getElem?_pos (bys s) j h']
    simp [bys, h]
    show ((s.map UInt8.ofNat).toArray)[j]'(by simpa using h) = _
    simp
  · rw [getElem?_neg (bys s) j (by rw [bys_size]; exact h)]
    simp [List.getElem?_eq_none (Nat.le_of_not_lt h)]
theorem bys_extract (s : List Nat) (l h : Nat) : (bys s).extract l h = bys ((s.drop l).take (h - l)) := by
  apply ByteArray.ext
  simp [bys, ByteArray.data_extract, List.extract_eq_take_drop]
theorem bys_append (s t : List Nat) : bys s ++ bys t = bys (s ++ t) := by
  apply ByteArray.ext
  simp [bys, ByteArray.data_append]
/-- Are two strings one? -/
def eqS : List Nat → List Nat → Bool
  | [], [] => true
  | x :: l, y :: m => match Nat.beq (x % 256) (y % 256) with
    | true => eqS l m
    | false => false
  | _, _ => false
theorem ofNat_eq (x y : Nat) : (UInt8.ofNat x = UInt8.ofNat y) ↔ x % 256 = y % 256 := by
  constructor
  · intro h
    have := congrArg UInt8.toNat h
    simpa using this
  · intro h
    apply UInt8.toNat_inj.1
    simpa using h
theorem eqS_spec : ∀ (s t : List Nat), (eqS s t = true) ↔ s.map UInt8.ofNat = t.map UInt8.ofNat
  | [], [] => by simp [eqS]
  | [], _ :: _ => by simp [eqS]
  | _ :: _, [] => by simp [eqS]
  | x :: l, y :: m => by
    have ih := eqS_spec l m
    simp only [eqS, List.map_cons, List.cons.injEq, ofNat_eq]
    cases h : Nat.beq (x % 256) (y % 256) with
    | true =>
      have := Nat.eq_of_beq_eq_true h
      simp [this, ih]
    | false =>
      have := Nat.ne_of_beq_eq_false h
      simp [this]
theorem ba_beq (a b : ByteArray) : (a == b) = (a.data == b.data) := by cases a; cases b; rfl
theorem eqS_beq (s t : List Nat) : (bys s == bys t) = eqS s t := by
  rw [ba_beq]
  have := eqS_spec s t
  by_cases h : eqS s t = true
  · rw [h]; simpa [bys] using this.1 h
  · have h2 : eqS s t = false := by simpa using h
    rw [h2]
    simpa [bys] using fun e => h (this.2 e)
theorem eqS_lists (s t : List Nat) : ((bys s).toList == (bys t).toList) = eqS s t := by
  rw [ByteArray.toList_eq, ByteArray.toList_eq]
  have := eqS_spec s t
  by_cases h : eqS s t = true
  · rw [h]; simpa [bys] using this.1 h
  · have h2 : eqS s t = false := by simpa using h
    rw [h2]
    simpa [bys] using fun e => h (this.2 e)
/-! ### Strings with letters -/
def ssL : PV → Option (List PV)
  | .st s => some (s.map fun c => .it .u8 ((c % 256 : Nat) : Int))
  | .ss l => some l
  | _ => none
theorem bys_mod (s : List Nat) : bys (s.map (· % 256)) = bys s := by
  unfold bys
  rw [List.map_map]
  congr 2
  apply List.map_congr_left
  intro n _
  simp only [Function.comp]
  apply UInt8.toNat_inj.1
  simp
theorem ssL_ok {p : PV} {v : Value} {l : List PV} (hv : V b p v) (h : ssL p = some l) : ∃ m : List Nat, v = .string (bys m) ∧ VL b l (m.map fun n => Value.int .u8 (Int.ofNat n)) ∧ ∀ n, n ∈ m → n < 256 := by
  cases hv <;> simp [ssL] at h
  · rename_i s
    subst h
    refine ⟨s.map (· % 256), by rw [bys_mod], ?_, ?_⟩
    · induction s with
      | nil => exact .nil
      | cons c s ih => exact .cons _ _ _ _ (.it _ _) ih
    · intro n hn
      obtain ⟨c, _, rfl⟩ := List.mem_map.1 hn
      exact Nat.mod_lt _ (by decide)
  · subst h
    rename_i l' m h1 h2 h3
    subst h2
    exact ⟨m, rfl, h1, h3⟩
/-- Bytes, where all are known. -/
def intsB : List PV → Option (List Nat)
  | [] => some []
  | .it .u8 (.ofNat n) :: l => match intsB l with
    | some m => some (n :: m)
    | none => none
  | _ => none
theorem intsB_ok : ∀ (l : List PV) (m : List Nat), intsB l = some m → ∀ {l' : List Value}, VL b l l' → l' = m.map fun n => Value.int .u8 (Int.ofNat n)
  | [], m, h, l', hl => by cases hl; simp [intsB] at h; subst h; rfl
  | p :: l, m, h, l', hl => by
    unfold intsB at h
    split at h
    · rename_i heq; cases heq
    · rename_i n l2 heq
      cases heq
      cases hl with
      | cons _ v _ l3 h1 h2 =>
        cases h1
        split at h
        · rename_i m' hm
          simp at h; subst h
          rw [intsB_ok _ _ hm h2]; rfl
        · cases h
    · cases h
/-- A string; a known one where all of its bytes are. -/
def mkS (l : List PV) : PV := match intsB l with
  | some m => .st m
  | none => .ss l
theorem map_ofNat_inj : ∀ {m k : List Nat}, (m.map fun n => Value.int .u8 (Int.ofNat n)) = k.map (fun n => Value.int .u8 (Int.ofNat n)) → m = k
  | [], [], _ => rfl
  | [], _ :: _, h => by simp at h
  | _ :: _, [], h => by simp at h
  | a :: m, c :: k, h => by
    simp at h
    obtain ⟨h1, h2⟩ := h
    have e : a = c := by omega
    rw [e, map_ofNat_inj (m := m) (k := k) (by simpa using h2)]
theorem mkS_V {l : List PV} {m : List Nat} (h1 : VL b l (m.map fun n => Value.int .u8 (Int.ofNat n))) (h2 : ∀ n, n ∈ m → n < 256) : V b (mkS l) (.string (bys m)) := by
  unfold mkS
  split
  · rename_i k hk
    have := intsB_ok _ _ hk h1
    rw [map_ofNat_inj this]
    exact .st _
  · exact .ss _ _ _ h1 rfl h2
/-- What may be a string's byte. -/
def byteP : PV → Bool
  | .it .u8 (.ofNat n) => Nat.ble n 255
  | .sy .u8 lo hi _ => (match lo with
    | .ofNat _ => true
    | _ => false) && (match hi with
    | .ofNat n => Nat.ble n 255
    | _ => true)
  | _ => false
theorem byteP_ok {p : PV} {v : Value} (hv : V b p v) (h : byteP p = true) : ∃ n : Nat, n < 256 ∧ v = .int .u8 (Int.ofNat n) := by
  unfold byteP at h
  split at h
  · cases hv
    rw [Nat.ble_eq] at h
    exact ⟨_, by omega, rfl⟩
  · rename_i lo hi e
    cases hv with
    | sy _ _ _ _ h1 h2 =>
      simp only [Bool.and_eq_true] at h
      have h3 : (0 : Int) ≤ lo := by
        cases lo with
        | ofNat n => exact Int.natCast_nonneg n
        | negSucc n => simp at h
      have h4 : hi ≤ 255 := by
        cases hi with
        | ofNat n =>
          have := h.2
          simp only [Nat.ble_eq] at this
          exact Int.ofNat_le.2 this
        | negSucc n => rw [Int.negSucc_eq]; omega
      obtain ⟨n, hn⟩ := Int.eq_ofNat_of_zero_le (show 0 ≤ e.ev En.η by omega)
      exact ⟨n, by omega, by rw [hn]; rfl⟩
  · cases h
theorem bytesP_ok : ∀ {l : List PV} {l' : List Value}, VL b l l' → l.all byteP = true → ∃ m : List Nat, l' = m.map (fun n => Value.int .u8 (Int.ofNat n)) ∧ ∀ n, n ∈ m → n < 256
  | _, _, .nil, h => ⟨[], rfl, by simp⟩
  | _, _, .cons v v' l l' h1 h2, h => by
    simp only [List.all_cons, Bool.and_eq_true] at h
    obtain ⟨n, hn, rfl⟩ := byteP_ok h1 h.1
    obtain ⟨m, rfl, hm⟩ := bytesP_ok h2 h.2
    refine ⟨n :: m, rfl, ?_⟩
    intro k hk
    rcases List.mem_cons.1 hk with rfl | hk
    · exact hn
    · exact hm k hk
theorem str_cells {m : List Nat} (h : ∀ n, n ∈ m → n < 256) : ((bys m).data.map fun c => Value.int .u8 c.toNat).toList = m.map fun n => Value.int .u8 (Int.ofNat n) := by
  simp only [bys, List.map_toArray, List.map_map]
  apply List.map_congr_left
  intro n hn
  have := h n hn
  simp only [Function.comp]
  congr 1
  have : (UInt8.ofNat n).toNat = n := by simp; omega
  rw [this]; rfl
def evIx (P : Program) (ty : TypeId) : PV → PV → Option PV
  | .ag l, .it _ k => match P.underlying ty with
    | some (.array len e) => match szT P e with
      | some n => match decide (0 ≤ k) && decide (k < (len : Int)) with
        | true => evPart P e l (k.toNat * n)
        | false => none
      | none => none
    | _ => none
  | .st s, .it _ k => match P.underlying ty with
    | some .string => match decide (0 ≤ k) with
      | true => match s[k.toNat]? with
        | some c => some (.it .u8 ((c % 256 : Nat) : Int))
        | none => none
      | false => none
    | _ => none
  | .ss l, .it _ k => match P.underlying ty with
    | some .string => match decide (0 ≤ k) with
      | true => l[k.toNat]?
      | false => none
    | _ => none
  | _, _ => none
theorem evIx_ok {ty : TypeId} {p p2 q : PV} {v v2 : Value} (hv : V b p v) (hv2 : V b p2 v2) (h : evIx P ty p p2 = some q) : ∃ v', (Instr.index ty v v2).run P w = .ok v' w ∧ V b q v' := by
  cases hv with
  | ag l l' hl =>
    cases hv2 with
    | it kd k =>
      simp only [evIx] at h
      split at h
      · rename_i len e hu
        split at h
        · rename_i n hn
          split at h
          · rename_i hk
            simp at hk
            obtain ⟨v', h1, h2⟩ := evPart_ok (P := P) (w := w) hl h
            exact ⟨v', by simp [Instr.index, asIntOf, run_underlying hu, hk, run_szT hn, h1], h2⟩
          · cases h
        · cases h
      · cases h
    | _ => simp [evIx] at h
  | st s =>
    cases hv2 with
    | it kd k =>
      simp only [evIx] at h
      split at h
      · rename_i hu
        split at h
        · rename_i hk
          split at h
          · rename_i c hc
            simp at h hk; subst h
            refine ⟨.int .u8 ((c % 256 : Nat) : Int), ?_, .it _ _⟩
            simp [Instr.index, asIntOf, run_underlying hu, hk, bys_get, hc]
          · cases h
        · cases h
      · cases h
    | _ => simp [evIx] at h
  | ss l l' m hl hm hb =>
    cases hv2 with
    | it kd k =>
      simp only [evIx] at h
      split at h
      · rename_i hu
        split at h
        · rename_i hk
          simp at hk
          obtain ⟨v', h1, h2⟩ := hl.get h
          subst hm
          simp only [List.getElem?_map, Option.map_eq_some_iff] at h1
          obtain ⟨c, hc, rfl⟩ := h1
          have hlt : c < 256 := hb c (List.mem_of_getElem? hc)
          refine ⟨.int .u8 (Int.ofNat c), ?_, h2⟩
          have : c % 256 = c := Nat.mod_eq_of_lt hlt
          have h256 : ((c : Int) % 256) = c := by omega
          simp [Instr.index, asIntOf, run_underlying hu, hk, bys_get, hc, this, h256]
        · cases h
      · cases h
    | _ => simp [evIx] at h
  | _ => cases hv2 <;> simp [evIx] at h
end
end
end Go.Proofs.YtoapdkcokemieaaGreat.Ev
