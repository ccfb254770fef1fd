/-
  An array: what an update, a deletion and a look at it say; the law.
-/
import Derived.Test.YtchogpgifdkhbaaMAM
namespace Go.Proofs.Ytchogpgifdkhbaa
open Go.RowKit
set_option linter.unusedVariables false
set_option linter.unusedSimpArgs false
abbrev XT := Nat → Xr71 × (Nat × (Nat → BitVec 8))
theorem checkKey_eq {A : Nat → BitVec 8} {w0 w1 : Int} {w2 : Nat} {w3 : XT} {w4 : Nat} {w5 : Nat → Me42} : m_maps_Map_checkKey_v3 4 A w0 w1 w2 w3 w4 w5 = some (.e0 0) := rfl
theorem delete_eq {A : Nat → BitVec 8} {w0 w1 : Int} {w2 : Nat} {w3 : XT} {w4 : Nat} {w5 : Nat → Me42} : m_maps_Map_Delete 4 A w0 w1 w2 w3 w4 w5 = some (.e0 95) := by
  unfold m_maps_Map_Delete
  rw [checkKey_eq, Option.bind_some]
  dsimp only
  cases decide (fdx (fun j => bstr 4 A == (w5 j).fk) w4 < w4) <;> rfl
theorem inside_eq : m_region_inside 0 2 0 2 = true := by decide
/-- What is written to one. -/
theorem update_has {y made : Int} {n j : Nat} {X : XT} {K : Nat → Me42} {A B : Nat → BitVec 8} (h : Made n X K) (hn : n ≤ 64) (hj : j < n) (hA : bstr 4 A = kb j) :
    m_maps_Map_Update_v2 4 A 2 B 0#64 y made n X n K = some (.e0 (updF X j ((X j).1, (X j).2.1, cpF (X j).2.2 0 2 B)) 0) := by
  have hf : fdx (fun i => (bstr 4 A == (K i).fk)) n = j := by rw [hA]; exact h.find hn hj
  have hset : m_region_Mem_Set (K j).fv 2 B made n X = some (.e0 (updF X j ((X j).1, (X j).2.1, cpF (X j).2.2 0 2 B)) true) := by
    unfold m_region_Mem_Set
    have e : ((K j).fv - 1) = (j : Int) := by rw [h.num j hj]; omega
    rw [e, Int.toNat_natCast]
    have e1 : inR (j : Int) n = true := inR_iff.2 ⟨by omega, by omega⟩
    rw [e1, h.len j hj]
    rfl
  unfold m_maps_Map_Update_v2
  rw [checkKey_eq, Option.bind_some]
  dsimp only
  rw [hf, d_t (p := j < n) hj]
  show (bif (0 : Int) == 0 then (bif ((2 : Nat) : Int) == 2 then _ else _) else _) = _
  simp only [beq_self_eq_true, cond_true, show (((2 : Nat) : Int) == 2) = true from rfl]
  rw [show m_maps_Map_checkUpdate_v2 true 0#64 y made n X n K = some (.e0 0) from rfl, Option.bind_some]
  dsimp only
  simp only [beq_self_eq_true, cond_true]
  rw [hset]
  rfl
theorem update_none {y made : Int} {n : Nat} {X : XT} {K : Nat → Me42} {A B : Nat → BitVec 8} (h : Made n X K) (hA : ∀ j, j < n → bstr 4 A ≠ kb j) :
    m_maps_Map_Update_v2 4 A 2 B 0#64 y made n X n K = some (.e0 X 93) := by
  unfold m_maps_Map_Update_v2
  rw [checkKey_eq, Option.bind_some]
  dsimp only
  rw [d_f (h.none hA)]
  rfl
/-- What a look says. -/
theorem value_eq {y made : Int} {n j : Nat} {X : XT} {K : Nat → Me42} (h : Made n X K) (hn : n ≤ 64) (hj : j < n) :
    m_maps_Map_Value_v1 4 (kA (j : Int)) y made n X n K = some (.e0 2 (catF (fun _ => 0#8) 0 (X j).2.2)) := by
  have hl : m_maps_Map_Lookup_v1 4 (kA (j : Int)) y made n X n K = some (.e0 ((j + 1 : Nat) : Int) true 0) := by
    unfold m_maps_Map_Lookup_v1
    rw [checkKey_eq, Option.bind_some]
    dsimp only
    rw [h.find hn hj, d_t (p := j < n) hj, h.num j hj]
    rfl
  have hb : m_region_Mem_Bytes_v1 ((j + 1 : Nat) : Int) made n X = some (.e0 (catF (fun _ => 0#8) 0 (X j).2.2)) := by
    unfold m_region_Mem_Bytes_v1
    have e : (((j + 1 : Nat) : Int) - 1) = (j : Int) := by omega
    rw [e, Int.toNat_natCast]
    have e1 : inR (j : Int) n = true := inR_iff.2 ⟨by omega, by omega⟩
    rw [e1, h.len j hj]
    rfl
  unfold m_maps_Map_Value_v1
  rw [hl, Option.bind_some]
  dsimp only
  rw [hb]
  have e : (((j + 1 : Nat) : Int) - 1).toNat = j := by omega
  have e2 : (0 + (X (((j + 1 : Nat) : Int) - 1).toNat).2.1) = 2 := by rw [e, h.len j hj]
  simp only [cond_true, beq_self_eq_true, Option.bind_some]
  rw [e2]
/-- The bytes of one, as the law asks for them. -/
def Right (n : Nat) (X : XT) (a : BitVec 32) (v : BitVec 8) : Prop := ∀ j, j < n → (a = BitVec.ofInt 32 (j : Int) → (X j).2.2 0 = v ∧ (X j).2.2 1 = 1#8) ∧ (a ≠ BitVec.ofInt 32 (j : Int) → (X j).2.2 0 = 0#8 ∧ (X j).2.2 1 = 0#8)
theorem cat0 {B : Nat → BitVec 8} (k : Nat) : catF (fun _ => 0#8) 0 B k = B k := by unfold catF; rw [if_neg (by omega)]; rfl
def I_L0 (n : Nat) : Sh_barbicanlaw9_MapsArray_L0 → Prop
  | .c0 i => ∃ k : Nat, (k : Int) = i ∧ k ≤ n
def P_L0 : Ex_barbicanlaw9_MapsArray_L0 → Prop
  | .e0 _ _ _ _ => True
  | .e1 _ _ _ _ => False
def M_L0 (n : Nat) : Sh_barbicanlaw9_MapsArray_L0 → Nat
  | .c0 i => n - i.toNat
theorem loop_L0 {n : Nat} {made : Int} {X : XT} {K : Nat → Me42} {a : BitVec 32} {v : BitVec 8} (h : Made n X K) (hn : n ≤ 64) (hr : Right n X a v) :
    ∀ s, I_L0 n s → ∃ r, lpO (st_barbicanlaw9_MapsArray_L0 (n : Int) a v n made n K X) s = some r ∧ P_L0 r := by
  refine lpO_ind (I_L0 n) (M_L0 n) (fun _ r => P_L0 r) ?_
  rintro ⟨i⟩ ⟨k, rfl, hk⟩
  by_cases hlt : k < n
  · left
    have e : IntKind.i64.wrap ((k : Int) + 1) = ((k + 1 : Nat) : Int) := by rw [wr] <;> omega
    refine ⟨.c0 ((k + 1 : Nat) : Int), ?_, ⟨k + 1, rfl, by omega⟩, ?_, fun _ q => q⟩
    · unfold st_barbicanlaw9_MapsArray_L0
      dsimp only
      rw [d_t (p := (k : Int) < (n : Int)) (by omega), value_eq h hn hlt, Option.bind_some]
      dsimp only
      rw [cat0, cat0, e, show inR 0 2 = true from rfl, show inR 1 2 = true from rfl, show (((2 : Nat) : Int) == 2) = true from rfl]
      by_cases q : a = BitVec.ofInt 32 (k : Int)
      · obtain ⟨h1, h2⟩ := (hr k hlt).1 q
        rw [h1, h2, ← q]
        simp
      · obtain ⟨h1, h2⟩ := (hr k hlt).2 q
        rw [h1, h2, show (BitVec.ofInt 32 (k : Int) == a) = false from beq_false_of_ne fun z => q z.symm]
        simp
    · show n - ((k + 1 : Nat) : Int).toNat < n - (k : Int).toNat; omega
  · right
    refine ⟨.e0 (a.setWidth 8) ((a >>> 8).setWidth 8) ((a >>> 16).setWidth 8) ((a >>> 24).setWidth 8), ?_, trivial⟩
    unfold st_barbicanlaw9_MapsArray_L0
    dsimp only
    rw [d_f (p := (k : Int) < (n : Int)) (by omega)]
    rfl
def I_L0v2 (n : Nat) : Sh_barbicanlaw9_MapsArray_L0v2 → Prop
  | .c0 i => ∃ k : Nat, (k : Int) = i ∧ k ≤ n
def P_L0v2 : Ex_barbicanlaw9_MapsArray_L0v2 → Prop
  | .e0 _ _ _ _ => True
  | .e1 _ _ _ _ => False
def M_L0v2 (n : Nat) : Sh_barbicanlaw9_MapsArray_L0v2 → Nat
  | .c0 i => n - i.toNat
theorem loop_L0v2 {n : Nat} {made : Int} {X : XT} {K : Nat → Me42} {a : BitVec 32} {v : BitVec 8} (h : Made n X K) (hn : n ≤ 64) (hr : Right n X a v) :
    ∀ s, I_L0v2 n s → ∃ r, lpO (st_barbicanlaw9_MapsArray_L0v2 (n : Int) a v n made n K X) s = some r ∧ P_L0v2 r := by
  refine lpO_ind (I_L0v2 n) (M_L0v2 n) (fun _ r => P_L0v2 r) ?_
  rintro ⟨i⟩ ⟨k, rfl, hk⟩
  by_cases hlt : k < n
  · left
    have e : IntKind.i64.wrap ((k : Int) + 1) = ((k + 1 : Nat) : Int) := by rw [wr] <;> omega
    refine ⟨.c0 ((k + 1 : Nat) : Int), ?_, ⟨k + 1, rfl, by omega⟩, ?_, fun _ q => q⟩
    · unfold st_barbicanlaw9_MapsArray_L0v2
      dsimp only
      rw [d_t (p := (k : Int) < (n : Int)) (by omega), value_eq h hn hlt, Option.bind_some]
      dsimp only
      rw [cat0, cat0, e, show inR 0 2 = true from rfl, show inR 1 2 = true from rfl, show (((2 : Nat) : Int) == 2) = true from rfl]
      by_cases q : a = BitVec.ofInt 32 (k : Int)
      · obtain ⟨h1, h2⟩ := (hr k hlt).1 q
        rw [h1, h2, ← q]
        simp
      · obtain ⟨h1, h2⟩ := (hr k hlt).2 q
        rw [h1, h2, show (BitVec.ofInt 32 (k : Int) == a) = false from beq_false_of_ne fun z => q z.symm]
        simp
    · show n - ((k + 1 : Nat) : Int).toNat < n - (k : Int).toNat; omega
  · right
    refine ⟨.e0 (a.setWidth 8) ((a >>> 8).setWidth 8) ((a >>> 16).setWidth 8) ((a >>> 24).setWidth 8), ?_, trivial⟩
    unfold st_barbicanlaw9_MapsArray_L0v2
    dsimp only
    rw [d_f (p := (k : Int) < (n : Int)) (by omega)]
    rfl
abbrev yA (a : BitVec 32) : Nat → BitVec 8 := fun k => if k = 0 then (a.setWidth 8) else if k = 1 then ((a >>> 8).setWidth 8) else if k = 2 then ((a >>> 16).setWidth 8) else ((a >>> 24).setWidth 8)
theorem yA_lt {a : BitVec 32} {j : Nat} (hj : j < 256) : bstr 4 (yA a) = kb j ↔ a = BitVec.ofInt 32 (j : Int) := by
  constructor
  · intro h
    have h0 : (a.setWidth 8).toNat = (BitVec.ofInt 8 (j : Int)).toNat := congrArg BitVec.toNat (bstr_inj h 0 (by omega))
    have h1 : ((a >>> 8).setWidth 8).toNat = 0 := congrArg BitVec.toNat (bstr_inj h 1 (by omega))
    have h2 : ((a >>> 16).setWidth 8).toNat = 0 := congrArg BitVec.toNat (bstr_inj h 2 (by omega))
    have h3 : ((a >>> 24).setWidth 8).toNat = 0 := congrArg BitVec.toNat (bstr_inj h 3 (by omega))
    rw [BitVec.toNat_setWidth, ofInt8 hj] at h0
    rw [BitVec.toNat_setWidth, BitVec.toNat_ushiftRight, Nat.shiftRight_eq_div_pow] at h1 h2 h3
    apply BitVec.eq_of_toNat_eq
    rw [ofInt32 hj]
    have := a.isLt
    omega
  · rintro rfl
    refine bstr_congr rfl fun k hk => ?_
    apply BitVec.eq_of_toNat_eq
    have h32 := ofInt32 hj
    match k, hk with
    | 0, _ => show (BitVec.setWidth 8 _).toNat = (BitVec.ofInt 8 _).toNat; rw [BitVec.toNat_setWidth, h32, ofInt8 hj]; omega
    | 1, _ => show (BitVec.setWidth 8 (BitVec.ofInt 32 (j : Int) >>> 8)).toNat = 0; rw [BitVec.toNat_setWidth, BitVec.toNat_ushiftRight, h32, Nat.shiftRight_eq_div_pow]; omega
    | 2, _ => show (BitVec.setWidth 8 (BitVec.ofInt 32 (j : Int) >>> 16)).toNat = 0; rw [BitVec.toNat_setWidth, BitVec.toNat_ushiftRight, h32, Nat.shiftRight_eq_div_pow]; omega
    | 3, _ => show (BitVec.setWidth 8 (BitVec.ofInt 32 (j : Int) >>> 24)).toNat = 0; rw [BitVec.toNat_setWidth, BitVec.toNat_ushiftRight, h32, Nat.shiftRight_eq_div_pow]; omega
    | k + 4, hk => omega
theorem mapsarray_true (y0 : Int) (y1 : BitVec 32) (y2 : BitVec 8) : m_barbicanlaw9_MapsArray y0 y1 y2 = some true := by
  unfold m_barbicanlaw9_MapsArray
  by_cases h0 : y0 < 1
  · rw [d_t h0]; rfl
  by_cases h1 : 64 < y0
  · rw [d_f h0, d_t h1]; rfl
  rw [d_f h0, d_f h1]
  obtain ⟨n, rfl⟩ : ∃ n : Nat, (n : Int) = y0 := ⟨y0.toNat, by omega⟩
  have hn : n ≤ 64 := by omega
  obtain ⟨X, K, hN, hm, hz⟩ := new_spec (y := n) (by omega) hn (fun _ => (⟨false, 0, false⟩, 0, fun _ => 0#8))
  rw [hN]
  simp only [cond_false]
  rw [Option.bind_some]
  dsimp only
  have hu : BitVec.ult y1 (BitVec.ofInt 32 (n : Int)) = decide (y1.toNat < n) := by
    unfold BitVec.ult
    rw [ofInt32 (by omega)]
  rw [hu]
  by_cases hlt : y1.toNat < n
  · rw [d_t hlt]
    have hy : y1 = BitVec.ofInt 32 ((y1.toNat : Nat) : Int) := BitVec.eq_of_toNat_eq (by rw [ofInt32 (by omega)])
    have hA : bstr 4 (yA y1) = kb y1.toNat := (yA_lt (by omega)).2 hy
    rw [update_has hm hn hlt hA, cond_true, Option.bind_some]
    dsimp only
    rw [delete_eq, Option.bind_some]
    dsimp only
    have hm2 : Made n (updF X y1.toNat ((X y1.toNat).1, (X y1.toNat).2.1, cpF (X y1.toNat).2.2 0 2 fun k => if k = 0 then y2 else 1#8)) K := ⟨hm.key, hm.num, fun j hj => by
      by_cases q : j = y1.toNat
      · subst q; rw [updF_at]; exact hm.len _ hj
      · rw [updF_ne _ _ q]; exact hm.len j hj⟩
    have hr : Right n (updF X y1.toNat ((X y1.toNat).1, (X y1.toNat).2.1, cpF (X y1.toNat).2.2 0 2 fun k => if k = 0 then y2 else 1#8)) y1 y2 := fun j hj => by
      by_cases q : j = y1.toNat
      · subst q
        refine ⟨fun _ => ?_, fun z => absurd hy z⟩
        rw [updF_at]
        exact ⟨rfl, rfl⟩
      · refine ⟨fun z => absurd ?_ q, fun _ => ?_⟩
        · have := congrArg BitVec.toNat z
          rw [ofInt32 (by omega)] at this
          exact this.symm
        · rw [updF_ne _ _ q]
          exact hz j hj
    obtain ⟨r, h2, h3⟩ := loop_L0 (made := (n : Int)) hm2 hn hr (.c0 0) ⟨0, rfl, by omega⟩
    rw [h2]
    cases r with
    | e0 => rfl
    | e1 => exact h3.elim
  · rw [d_f hlt]
    have hne : ∀ j, j < n → y1 ≠ BitVec.ofInt 32 (j : Int) := fun j hj e => by
      have := congrArg BitVec.toNat e
      rw [ofInt32 (by omega)] at this; omega
    rw [update_none hm fun j hj e => hne j hj ((yA_lt (by omega)).1 e), cond_false, Option.bind_some]
    dsimp only
    rw [delete_eq, Option.bind_some]
    dsimp only
    obtain ⟨r, h2, h3⟩ := loop_L0v2 (made := (n : Int)) (v := y2) hm hn (fun j hj => ⟨fun z => absurd z (hne j hj), fun _ => hz j hj⟩) (.c0 0) ⟨0, rfl, by omega⟩
    rw [h2]
    cases r with
    | e0 => rfl
    | e1 => exact h3.elim
end Go.Proofs.Ytchogpgifdkhbaa
