/-
  Operations that only read (4): conversions, maps, types, structs that are built; all of them together. Nothing of the program stands here.
-/
import Derived.Test.YtoapdkcokemieaaGreatEuE
import Derived.Laws.BytesString
namespace Go.Proofs.YtoapdkcokemieaaGreat.Ev
open Go.RowKit
noncomputable section
set_option linter.unusedVariables false
set_option linter.unusedSimpArgs false
set_option linter.unusedSectionVars false
variable [Fs] [En] [FsOk]
section
variable {P : Program} {F : Fr} {b : Bm} {H : Hp} {w : World}
/-! ### Conversions -/
def intsOf : List PV → Option (List Nat)
  | [] => some []
  | .it .u8 (.ofNat n) :: l => match intsOf l with
    | some m => some (n :: m)
    | none => none
  | _ => none
theorem intsOf_ok : ∀ (l : List PV) (m : List Nat), intsOf l = some m → ∀ {l' : List Value}, VL b l l' → l' = m.map fun n => Value.int .u8 (Int.ofNat n)
  | [], m, h, l', hl => by cases hl; simp [intsOf] at h; subst h; rfl
  | p :: l, m, h, l', hl => by
    unfold intsOf at h
    split at h
    · rename_i heq; cases heq
    · rename_i n l2 heq
      cases heq
      cases hl with
      | cons _ v _ l3 h1 h2 =>
        cases h1
        split at h
        · rename_i m' hm
          simp at h; subst h
          rw [intsOf_ok _ _ hm h2]; rfl
        · cases h
    · cases h
theorem foldl_push (l : List Nat) (r : ByteArray) : (l.map Int.ofNat).foldl (fun r n => r.push (UInt8.ofNat n.toNat)) r = r ++ bys l := by
  induction l generalizing r with
  | nil => apply ByteArray.ext; simp [bys, ByteArray.data_append]
  | cons n l ih =>
    rw [List.map_cons, List.foldl_cons, ih]
    apply ByteArray.ext
    simp [bys, ByteArray.data_append, ByteArray.data_push]
/-- Bytes as a string. -/
def evB2s (H : Hp) : PV → Option PV
  | .ns => some (.st [])
  | .sl i off len c g => match H.t.at i with
    | some (.row t _ _ _ _) => match t.run off len with
      | some l => match intsOf l with
        | some m => some (.st m)
        | none => match l.all byteP with
          | true => some (.ss l)
          | false => none
      | none => none
    | _ => none
  | _ => none
theorem evB2s_ok (hr : HR F b H w) {s d e : TypeId} (hs : P.underlying s = some (.slice e)) (he : P.underlying e = some (.int .u8)) (hd : P.underlying d = some .string) {p q : PV} {v : Value} (hv : V b p v)
    (h : evB2s H p = some q) : ∃ v', (convert s d v).run P w = .ok v' w ∧ V b q v' := by
  cases hv with
  | ns =>
    simp [evB2s] at h; subst h
    refine ⟨.string (bys []), ?_, .st _⟩
    rw [run_convert_bytes_string w s d e _ _ _ hs he hd]
    simp [Conv.bytesToString]
    rfl
  | sl i off len c g x hx =>
    simp only [evB2s] at h
    split at h
    · rename_i cc n T sz g2 hi
      split at h
      · rename_i l hl
        split at h
        · rename_i m hm
          simp at h; subst h
          obtain ⟨l', h1, h2, h3⟩ := hr.row (P := P) hi hx hl
          have h4 := intsOf_ok _ _ hm h2
          refine ⟨.string (bys m), ?_, .st _⟩
          rw [run_convert_bytes_string w s d e _ _ _ hs he hd]
          have h5 : (⟨l'⟩ : Array Value) = ((m.map Int.ofNat).map (Value.int .u8)).toArray := by
            rw [h4, List.map_map]; rfl
          rw [h5] at h1
          rw [run_bytesToString w _ len _ (m.map Int.ofNat) h1, foldl_push]
          congr 2
        · split at h
          · rename_i hb
            simp at h; subst h
            obtain ⟨l', h1, h2, h3⟩ := hr.row (P := P) hi hx hl
            obtain ⟨m, h4, h6⟩ := bytesP_ok h2 hb
            refine ⟨.string (bys m), ?_, .ss _ _ _ h2 h4 h6⟩
            rw [run_convert_bytes_string w s d e _ _ _ hs he hd]
            have h5 : (⟨l'⟩ : Array Value) = ((m.map Int.ofNat).map (Value.int .u8)).toArray := by
              rw [h4, List.map_map]; rfl
            rw [h5] at h1
            rw [run_bytesToString w _ len _ (m.map Int.ofNat) h1, foldl_push]
            congr 2
          · cases h
      · cases h
    · cases h
  | _ => simp [evB2s] at h
def evCnv (P : Program) (H : Hp) (s d : TypeId) (p : PV) : Option PV :=
  match P.underlying d with
  | some (.int k) => match p with
    | .it _ n => match P.underlying s with
      | some _ => some (.it k (k.wrap n))
      | none => none
    | .sy _ lo hi e => match P.underlying s with
      | some _ => some (cnvSy k lo hi e)
      | none => none
    | _ => none
  | some .string => match P.underlying s with
    | some (.slice e) => match P.underlying e with
      | some (.int .u8) => evB2s H p
      | _ => none
    | some .string => match p with
      | .st s => some (.st s)
      | .ss s => some (.ss s)
      | _ => none
    | _ => none
  | _ => none
theorem evCnv_ok (hr : HR F b H w) {s d : TypeId} {p q : PV} {v : Value} (hv : V b p v) (h : evCnv P H s d p = some q) : ∃ v', (convert s d v).run P w = .ok v' w ∧ V b q v' := by
  unfold evCnv at h
  split at h
  · rename_i k hd
    split at h
    · rename_i kd n
      cases hv
      split at h
      · rename_i S hs
        simp at h; subst h
        exact ⟨.int k (k.wrap n), by simp [convert, run_underlying hs, run_underlying hd, Conv.intToInt], .it _ _⟩
      · cases h
    · rename_i kd lo hi e
      cases hv with
      | sy _ _ _ _ h1 h2 =>
        split at h
        · rename_i S hs
          simp at h; subst h
          exact ⟨.int k (k.wrap (e.ev En.η)), by simp [convert, run_underlying hs, run_underlying hd, Conv.intToInt], cnvSy_V h1 h2⟩
        · cases h
    · cases h
  · rename_i hd
    split at h
    · rename_i e hs
      split at h
      · rename_i he
        exact evB2s_ok hr hs he hd hv h
      · cases h
    · rename_i hs
      split at h
      · rename_i t
        cases hv
        simp at h; subst h
        exact ⟨.string (bys t), by simp [convert, run_underlying hs, run_underlying hd], .st _⟩
      · rename_i t
        cases hv with
        | ss _ l' m h1 h2 h3 =>
          simp at h; subst h
          exact ⟨.string (bys m), by simp [convert, run_underlying hs, run_underlying hd], .ss _ _ _ h1 h2 h3⟩
      · cases h
    · cases h
  · cases h
/-! ### Arrays out of slices, interfaces, functions, tuples -/
def evS2a (P : Program) (ty : TypeId) : PV → Option PV
  | .sl i off len _ _ => match P.underlying ty with
    | some (.array n _) => match Nat.ble n len with
      | true => some (.pt i off)
      | false => none
    | _ => none
  | _ => none
theorem evS2a_ok {ty : TypeId} {p q : PV} {v : Value} (hv : V b p v) (h : evS2a P ty p = some q) : ∃ v', (Instr.arrayAt ty v).run P w = .ok v' w ∧ V b q v' := by
  cases hv with
  | sl i off len c g x hx =>
    simp only [evS2a] at h
    split at h
    · rename_i n e hu
      split at h
      · rename_i hn
        simp only [Nat.ble_eq] at hn
        simp at h; subst h
        exact ⟨.pointer (some ⟨x.n, x.o + off, none⟩), by simp [Instr.arrayAt, run_underlying hu, Nat.not_lt.2 hn], .pt _ _ x hx⟩
      · cases h
    · cases h
  | _ => simp [evS2a] at h
def isIface : TypeDesc → Bool
  | .interface _ => true
  | _ => false
def evMi (P : Program) (ty : TypeId) (p : PV) : Option PV := match P.underlying ty with
  | some D => match isIface D with
    | false => some (.ic ty p)
    | true => none
  | none => none
theorem evMi_ok {ty : TypeId} {p q : PV} {v : Value} (hv : V b p v) (h : evMi P ty p = some q) : ∃ v', (Instr.makeInterface ty v).run P w = .ok v' w ∧ V b q v' := by
  unfold evMi at h
  split at h
  · rename_i D hu
    split at h
    · rename_i hD
      simp at h; subst h
      refine ⟨.iface ty v, ?_, .ic _ _ _ hv⟩
      cases D <;> first | (simp [isIface] at hD; done) | simp [Instr.makeInterface, run_underlying hu]
    · cases h
  · cases h
def evEx (i : Nat) : PV → Option PV
  | .tp l => l[i]?
  | _ => none
theorem evEx_ok {i : Nat} {p q : PV} {v : Value} (hv : V b p v) (h : evEx i p = some q) : ∃ v', (Instr.extract v i).run P w = .ok v' w ∧ V b q v' := by
  cases hv with
  | tp l l' hl =>
    obtain ⟨v', h1, h2⟩ := hl.get (j := i) (by simpa [evEx] using h)
    exact ⟨v', by simp [Instr.extract, h1], h2⟩
  | _ => simp [evEx] at h
def zeroT (P : Program) (ty : TypeId) : Option PV := match P.info? ty with
  | some i => match i.zero with
    | some v => unq 10 v
    | none => none
  | none => none
theorem zeroT_ok {ty : TypeId} {q : PV} (h : zeroT P ty = some q) : ∃ v, (zeroValue ty).run P w = .ok v w ∧ V b q v := by
  unfold zeroT at h
  split at h
  · rename_i i hi
    split at h
    · rename_i v hz
      exact ⟨v, by simp [zeroValue, typeInfo, hi, hz], unq_V b 10 v q h⟩
    · cases h
  · cases h
def evHolds (ok : Bool) (p : PV) : PV := match ok with
  | true => .tp [p, .bl true]
  | false => p
def evFails (P : Program) (ok : Bool) (ty : TypeId) : Option PV := match ok with
  | true => match zeroT P ty with
    | some z => some (.tp [z, .bl false])
    | none => none
  | false => none
def evTa (P : Program) (ty : TypeId) (ok : Bool) : PV → Option PV
  | .ni => match P.underlying ty with
    | some _ => evFails P ok ty
    | none => none
  | .ic t p => match P.underlying ty with
    | some (.interface want) => match P.info? t with
      | some i => match Instr.missingMethod want i.methods with
        | none => some (evHolds ok (.ic t p))
        | some _ => evFails P ok ty
      | none => none
    | some _ => match Nat.beq t ty with
      | true => some (evHolds ok p)
      | false => evFails P ok ty
    | none => none
  | _ => none
theorem evHolds_V {ok : Bool} {p : PV} {v : Value} (hv : V b p v) : V b (evHolds ok p) (if ok then .tuple #[v, .bool true] else v) := by
  cases ok with
  | true => exact .tp _ [v, .bool true] (.cons _ _ _ _ hv (.cons _ _ _ _ (.bl _) .nil))
  | false => exact hv
theorem evTa_ok {xt ty : TypeId} {ok : Bool} {p q : PV} {v : Value} (hv : V b p v) (h : evTa P ty ok p = some q) : ∃ v', (Instr.typeAssert v xt ty ok).run P w = .ok v' w ∧ V b q v' := by
  have fails : evFails P ok ty = some q → ok = true ∧ ∃ z, (zeroValue ty).run P w = .ok z w ∧ V b q (.tuple #[z, .bool false]) := by
    intro h
    unfold evFails at h
    split at h
    · split at h
      · rename_i z hz
        simp at h; subst h
        obtain ⟨v, h1, h2⟩ := zeroT_ok (P := P) (w := w) (b := b) hz
        exact ⟨rfl, v, h1, .tp _ [v, .bool false] (.cons _ _ _ _ h2 (.cons _ _ _ _ (.bl _) .nil))⟩
      · cases h
    · cases h
  cases hv with
  | ni =>
    simp only [evTa] at h
    split at h
    · rename_i D hu
      obtain ⟨rfl, z, h1, h2⟩ := fails h
      refine ⟨_, ?_, h2⟩
      cases D <;> simp [Instr.typeAssert, run_underlying hu, h1]
    · cases h
  | ic t p v hp =>
    simp only [evTa] at h
    split at h
    · rename_i want hu
      split at h
      · rename_i i hi
        split at h
        · rename_i hm
          simp at h; subst h
          refine ⟨_, ?_, evHolds_V (.ic _ _ _ hp)⟩
          simp [Instr.typeAssert, run_underlying hu, typeInfo, hi, hm]
        · rename_i m hm
          obtain ⟨rfl, z, h1, h2⟩ := fails h
          refine ⟨_, ?_, h2⟩
          simp [Instr.typeAssert, run_underlying hu, typeInfo, hi, hm, h1]
      · cases h
    · rename_i D hD hu
      split at h
      · rename_i ht
        have := Nat.eq_of_beq_eq_true ht
        subst this
        simp at h; subst h
        refine ⟨_, ?_, evHolds_V hp⟩
        cases D <;> first | (exact absurd rfl (hD _)) | simp [Instr.typeAssert, run_underlying hu]
      · rename_i ht
        have := Nat.ne_of_beq_eq_false ht
        obtain ⟨rfl, z, h1, h2⟩ := fails h
        refine ⟨_, ?_, h2⟩
        cases D <;> first | (exact absurd rfl (hD _)) | simp [Instr.typeAssert, run_underlying hu, this, h1]
    · cases h
  | _ => simp [evTa] at h
end
end
end Go.Proofs.YtoapdkcokemieaaGreat.Ev
