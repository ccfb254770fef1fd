/-
  Operations that only read (2): slices, comparisons, types, maps; all of them together. Nothing of the program stands here.
-/
import Derived.Test.YtoapdkcokemieaaGreatEuC
namespace Go.Proofs.YtoapdkcokemieaaGreat.Ev
open Go.RowKit
noncomputable section
set_option linter.unusedVariables false
set_option linter.unusedSimpArgs false
set_option linter.unusedSectionVars false
variable [Fs] [En] [FsOk]
section
variable {P : Program} {F : Fr} {b : Bm} {H : Hp} {w : World}
/-! ### Slices -/
/-- A bound: what is told, or none told. -/
def evBd : Option PV → Option (Option Nat)
  | none => some none
  | some (.it _ k) => match decide (0 ≤ k) with
    | true => some (some k.toNat)
    | false => none
  | _ => none
def optD (o : Option Nat) (d : Nat) : Nat := match o with
  | some x => x
  | none => d
/-- A slice's low end, its high end, and its capacity's end, where c is known of it. -/
def evSb (len c : Nat) (lo hi mx : Option Nat) : Option (Nat × Nat × Nat × Bool) :=
  match Nat.ble (optD lo 0) (optD hi len) && Nat.ble (optD hi len) (optD mx c) && Nat.ble (optD mx c) c with
  | true => match mx with
    | none => some (optD lo 0, optD hi len, optD mx c, true)
    | some _ => match hi with
      | some _ => some (optD lo 0, optD hi len, optD mx c, false)
      | none => none
  | false => none
def evSlc (P : Program) (ty : TypeId) (lo hi mx : Option PV) : PV → Option PV
  | .st s => match P.underlying ty with
    | some .string => match evBd lo, evBd hi, mx with
      | some lo, some hi, none => match evSb s.length s.length lo hi none with
        | some (l, h, _, _) => some (.st ((s.drop l).take (h - l)))
        | none => none
      | _, _, _ => none
    | _ => none
  | .ss s => match P.underlying ty with
    | some .string => match evBd lo, evBd hi, mx with
      | some lo, some hi, none => match evSb s.length s.length lo hi none with
        | some (l, h, _, _) => some (mkS ((s.drop l).take (h - l)))
        | none => none
      | _, _, _ => none
    | _ => none
  | .sl i off len c g => match P.underlying ty with
    | some (.slice e) => match evBd lo, evBd hi, evBd mx, szT P e with
      | some lo, some hi, some mx, some n => match evSb len c lo hi mx with
        | some (l, h, m, o) => match l with
          | 0 => some (.sl i off h m (g && o))
          | l + 1 => match Nat.ble (l + 2) m with
            | true => some (.sl i (off + (l + 1) * n) (h - (l + 1)) (m - (l + 1)) (g && o))
            | false => match g && o with
              | true => none
              | false => some (.sl i off 0 0 false)
        | none => none
      | _, _, _, _ => none
    | _ => none
  | .ns => match P.underlying ty with
    | some (.slice e) => match evBd lo, evBd hi, evBd mx, szT P e with
      | some lo, some hi, some mx, some n => match evSb 0 0 lo hi mx with
        | some _ => some .ns
        | none => none
      | _, _, _, _ => none
    | _ => none
  | .pt i off => match P.underlying ty with
    | some (.array len e) => match evBd lo, evBd hi, evBd mx, szT P e with
      | some lo, some hi, some mx, some n => match evSb len len lo hi mx with
        | some (l, h, m, _) => match Nat.beq m l with
          | true => some (.sl i off (h - l) (m - l) false)
          | false => some (.sl i (off + l * n) (h - l) (m - l) false)
        | none => none
      | _, _, _, _ => none
    | _ => none
  | _ => none
inductive VO (b : Bm) : Option PV → Option Value → Prop where
  | none : VO b none none
  | some (p : PV) (v : Value) : V b p v → VO b (some p) (some v)
/-- What a bound is. -/
def isBd : Option Nat → Option Value → Prop
  | none, none => True
  | some n, some v => ∃ k, v = .int k n
  | _, _ => False
theorem evBd_ok {p : Option PV} {v : Option Value} (hv : VO b p v) {x : Option Nat} (h : evBd p = some x) : isBd x v := by
  cases hv with
  | none => simp [evBd] at h; subst h; trivial
  | some p v hv =>
    cases hv with
    | it kd k =>
      simp only [evBd] at h
      split at h
      · rename_i hk
        simp at h hk; subst h
        exact ⟨kd, by rw [Int.toNat_of_nonneg hk]⟩
      · cases h
    | _ => simp [evBd] at h
theorem run_bound {k : IntKind} {n y : Nat} {code : BoundsCode} (h : n ≤ y) : (Instr.sliceBound (.int k n) y code).run P w = .ok n w := by
  have : (n : Int) ≤ (y : Int) := by omega
  simp [Instr.sliceBound, asIntOf, this]
theorem evSb_ok {isS : Bool} {len c cap : Nat} (hc : c ≤ cap) {lo hi mx : Option Nat} {vl vh vm : Option Value} (h1 : isBd lo vl) (h2 : isBd hi vh) (h3 : isBd mx vm) {l h m : Nat} {o : Bool}
    (he : evSb len c lo hi mx = some (l, h, m, o)) : (Instr.sliceBounds isS len cap vl vh vm).run P w = .ok (l, h, if o then cap else m) w ∧ l ≤ h ∧ h ≤ m ∧ m ≤ c ∧ (o = true → m = c) := by
  unfold evSb at he
  cases hb : (Nat.ble (optD lo 0) (optD hi len) && Nat.ble (optD hi len) (optD mx c) && Nat.ble (optD mx c) c) with
  | false => rw [hb] at he; cases he
  | true =>
    rw [hb] at he
    simp only [Bool.and_eq_true, Nat.ble_eq] at hb
    obtain ⟨⟨hb1, hb2⟩, hb3⟩ := hb
    cases mx with
    | some mx =>
      cases hi with
      | none => simp at he
      | some hi =>
        simp [optD] at he
        obtain ⟨rfl, rfl, rfl, rfl⟩ := he
        cases vm with
        | none => simp [isBd] at h3
        | some vm =>
          obtain ⟨km, rfl⟩ := h3
          cases vh with
          | none => simp [isBd] at h2
          | some vh =>
            obtain ⟨kh, rfl⟩ := h2
            simp [optD] at hb1 hb2 hb3
            cases lo with
            | none =>
              cases vl with
              | none => exact ⟨by simp [Instr.sliceBounds, run_bound hb2, run_bound (show mx ≤ cap by omega)], by simp, hb2, hb3, by simp⟩
              | some vl => simp [isBd] at h1
            | some lo =>
              cases vl with
              | none => simp [isBd] at h1
              | some vl =>
                obtain ⟨kl, rfl⟩ := h1
                exact ⟨by simp [Instr.sliceBounds, run_bound hb2, run_bound (show mx ≤ cap by omega), run_bound (show lo ≤ hi from hb1)], hb1, hb2, hb3, by simp⟩
    | none =>
      cases vm with
      | some vm => simp [isBd] at h3
      | none =>
        simp [optD] at he
        obtain ⟨rfl, rfl, rfl, rfl⟩ := he
        cases hi with
        | none =>
          cases vh with
          | some vh => simp [isBd] at h2
          | none =>
            simp [optD] at hb1 hb2 hb3
            cases lo with
            | none =>
              cases vl with
              | none => exact ⟨by simp [Instr.sliceBounds], by simp, hb2, Nat.le_refl _, by simp⟩
              | some vl => simp [isBd] at h1
            | some lo =>
              cases vl with
              | none => simp [isBd] at h1
              | some vl =>
                obtain ⟨kl, rfl⟩ := h1
                exact ⟨by simp [Instr.sliceBounds, run_bound (show lo ≤ len from hb1)], hb1, hb2, Nat.le_refl _, by simp⟩
        | some hi =>
          cases vh with
          | none => simp [isBd] at h2
          | some vh =>
            obtain ⟨kh, rfl⟩ := h2
            simp [optD] at hb1 hb2 hb3
            cases lo with
            | none =>
              cases vl with
              | none => exact ⟨by simp [Instr.sliceBounds, run_bound (show hi ≤ cap by omega)], by simp, hb2, Nat.le_refl _, by simp⟩
              | some vl => simp [isBd] at h1
            | some lo =>
              cases vl with
              | none => simp [isBd] at h1
              | some vl =>
                obtain ⟨kl, rfl⟩ := h1
                exact ⟨by simp [Instr.sliceBounds, run_bound (show hi ≤ cap by omega), run_bound (show lo ≤ hi from hb1)], hb1, hb2, Nat.le_refl _, by simp⟩
theorem evSlc_ok {ty : TypeId} {lo hi mx : Option PV} {vl vh vm : Option Value} (h1 : VO b lo vl) (h2 : VO b hi vh) (h3 : VO b mx vm) {p q : PV} {v : Value} (hv : V b p v) (h : evSlc P ty lo hi mx p = some q) :
    ∃ v', (Instr.sliceAt ty v vl vh vm).run P w = .ok v' w ∧ V b q v' := by
  cases hv with
  | st s =>
    simp only [evSlc] at h
    split at h
    · rename_i hu
      split at h
      · rename_i lo' hi' hlo hhi
        split at h
        · rename_i l k m o he
          simp at h; subst h
          have hm : vm = none := by cases h3; rfl
          subst hm
          obtain ⟨h5, h6, h7, h8, h9⟩ := evSb_ok (P := P) (w := w) (isS := false) (Nat.le_refl _) (evBd_ok h1 hlo) (evBd_ok h2 hhi) (show isBd none none from trivial) he
          refine ⟨.string (bys ((s.drop l).take (k - l))), ?_, .st _⟩
          simp [Instr.sliceAt, run_underlying hu, Instr.slice, bys_size, h5, bys_extract]
        · cases h
      · cases h
    · cases h
  | ss s s' ms hl hms hb =>
    simp only [evSlc] at h
    split at h
    · rename_i hu
      split at h
      · rename_i lo' hi' hlo hhi
        split at h
        · rename_i l k m o he
          simp at h; subst h
          have hm : vm = none := by cases h3; rfl
          subst hm
          subst hms
          have hlen : s.length = ms.length := by simpa using hl.length
          rw [hlen] at he
          obtain ⟨h5, h6, h7, h8, h9⟩ := evSb_ok (P := P) (w := w) (isS := false) (Nat.le_refl _) (evBd_ok h1 hlo) (evBd_ok h2 hhi) (show isBd none none from trivial) he
          refine ⟨.string (bys ((ms.drop l).take (k - l))), ?_, mkS_V ?_ ?_⟩
          · simp [Instr.sliceAt, run_underlying hu, Instr.slice, bys_size, h5, bys_extract]
          · have := (hl.drop l).take (k - l)
            rwa [← List.map_drop, ← List.map_take] at this
          · intro n hn
            exact hb n (List.mem_of_mem_drop (List.mem_of_mem_take hn))
        · cases h
      · cases h
    · cases h
  | sl i off len c g x hx =>
    simp only [evSlc] at h
    split at h
    · rename_i e hu
      split at h
      · rename_i lo' hi' mx' n hlo hhi hmx hn
        split at h
        · rename_i l k m o he
          obtain ⟨h5, h6, h7, h8, h9⟩ := evSb_ok (P := P) (w := w) (isS := true) (show c ≤ c + bif g then x.room else 0 by omega) (evBd_ok h1 hlo) (evBd_ok h2 hhi) (evBd_ok h3 hmx) he
          have hrun : ∀ (ad : Addr), (Instr.sliceAt ty (.slice (some ad) len (c + bif g then x.room else 0)) vl vh vm).run P w =
              .ok (.slice (some (if (if o then c + (bif g then x.room else 0) else m) = l then ad else ad.add (l * n))) (k - l) ((if o then c + (bif g then x.room else 0) else m) - l)) w := by
            intro ad
            simp [Instr.sliceAt, run_underlying hu, Instr.slice, h5, run_szT hn]
            exact (apply_ite some _ _ _).symm
          rw [hrun]
          refine ⟨_, rfl, ?_⟩
          have hcap : (if o then c + (bif g then x.room else 0) else m) = m + bif (g && o) then x.room else 0 := by
            cases o with
            | true => rw [h9 rfl]; simp
            | false => simp
          rw [hcap]
          split at h
          · simp at h; subst h
            have : (if m + (bif (g && o) then x.room else 0) = 0 then (⟨x.n, x.o + off, none⟩ : Addr) else (⟨x.n, x.o + off, none⟩ : Addr).add (0 * n)) = ⟨x.n, x.o + off, none⟩ := by simp [Addr.add]
            rw [this]
            exact .sl _ _ _ _ _ x hx
          · rename_i l
            split at h
            · rename_i hm
              simp only [Nat.ble_eq] at hm
              simp at h; subst h
              rw [if_neg (by omega), Addr.add_lit, Nat.add_assoc, show m + (bif (g && o) then x.room else 0) - (l + 1) = (m - (l + 1)) + bif (g && o) then x.room else 0 from by omega]
              exact .sl _ _ _ _ _ x hx
            · rename_i hm
              have hm' : m ≤ l + 1 := by
                have : ¬ (l + 2 ≤ m) := fun e => by rw [← Nat.ble_eq] at e; rw [e] at hm; cases hm
                omega
              split at h
              · cases h
              · rename_i hgo
                simp at h; subst h
                rw [hgo]
                have e1 : m = l + 1 := by omega
                have e2 : k = l + 1 := by omega
                subst e1; subst e2
                have := V.sl (b := b) i off 0 0 false x hx
                simpa using this
        · cases h
      · cases h
    · cases h
  | ns =>
    simp only [evSlc] at h
    split at h
    · rename_i e hu
      split at h
      · rename_i lo' hi' mx' n hlo hhi hmx hn
        split at h
        · rename_i r he
          obtain ⟨l, k, m, o⟩ := r
          simp at h; subst h
          obtain ⟨h5, h6, h7, h8, h9⟩ := evSb_ok (P := P) (w := w) (isS := true) (Nat.le_refl 0) (evBd_ok h1 hlo) (evBd_ok h2 hhi) (evBd_ok h3 hmx) he
          have e1 : l = 0 := by omega
          have e2 : k = 0 := by omega
          have e3 : m = 0 := by omega
          subst e1; subst e2; subst e3
          refine ⟨.slice none 0 0, ?_, .ns⟩
          simp [Instr.sliceAt, run_underlying hu, Instr.slice, h5, run_szT hn]
        · cases h
      · cases h
    · cases h
  | pt i off x hx =>
    simp only [evSlc] at h
    split at h
    · rename_i len e hu
      split at h
      · rename_i lo' hi' mx' n hlo hhi hmx hn
        split at h
        · rename_i l k m o he
          obtain ⟨h5, h6, h7, h8, h9⟩ := evSb_ok (P := P) (w := w) (isS := false) (Nat.le_refl len) (evBd_ok h1 hlo) (evBd_ok h2 hhi) (evBd_ok h3 hmx) he
          have hcap : (if o then len else m) = m := by
            cases o with
            | true => rw [h9 rfl]; simp
            | false => simp
          rw [hcap] at h5
          have hrun : (Instr.sliceAt ty (.pointer (some ⟨x.n, x.o + off, none⟩)) vl vh vm).run P w =
              .ok (.slice (some (if m = l then ⟨x.n, x.o + off, none⟩ else (⟨x.n, x.o + off, none⟩ : Addr).add (l * n))) (k - l) (m - l)) w := by
            simp [Instr.sliceAt, run_underlying hu, Instr.sureAddr, h5, run_szT hn]
          rw [hrun]
          refine ⟨_, rfl, ?_⟩
          split at h
          · rename_i hm
            have := Nat.eq_of_beq_eq_true hm
            subst this
            simp at h; subst h
            have := V.sl (b := b) i off (k - m) 0 false x hx
            simpa using this
          · rename_i hm
            have := Nat.ne_of_beq_eq_false hm
            simp at h; subst h
            rw [if_neg this, Addr.add_lit, Nat.add_assoc]
            have := V.sl (b := b) i (off + l * n) (k - l) (m - l) false x hx
            simpa using this
        · cases h
      · cases h
    · cases h
  | _ => simp [evSlc] at h
end
end
end Go.Proofs.YtoapdkcokemieaaGreat.Ev
