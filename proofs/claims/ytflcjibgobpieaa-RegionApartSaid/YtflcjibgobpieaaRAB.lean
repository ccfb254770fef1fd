/-
  A law's run in stages: the stages put together.
-/
import Derived.Test.YtflcjibgobpieaaRAA
namespace Go.Proofs.Ytflcjibgobpieaa.Ev
open Go.RowKit
set_option linter.unusedVariables false
set_option linter.unusedSimpArgs false
set_option linter.unusedSectionVars false
/-! ### Numbers of blocks -/
def rid (i : Nat) : Nat := if (i - 122) % 29 = 14 then 2 * ((i - 122) / 29) + 1 else 2 * ((i - 122) / 29)
theorem regs_ids (j : Nat) : (regs j).map (·.1) = if j % 2 = 0 then [122 + 29 * (j / 2), 123 + 29 * (j / 2)] else [136 + 29 * (j / 2)] := by
  unfold regs
  cases h : Nat.beq (j % 2) 0 with
  | true => rw [if_pos (Nat.eq_of_beq_eq_true h)]; rfl
  | false => rw [if_neg (Nat.ne_of_beq_eq_false h)]; rfl
theorem regw_ids (j : Nat) : (regw j).map (·.1) = (regs j).map (·.1) := by
  rw [regs_ids]
  unfold regw
  cases h : Nat.beq (j % 2) 0 with
  | true => rw [if_pos (Nat.eq_of_beq_eq_true h)]; rfl
  | false => rw [if_neg (Nat.ne_of_beq_eq_false h)]; rfl
/-- The regions, the k-th one written. -/
noncomputable def fk (k j : Nat) : List (Nat × AO) := if j = k then regw j else regs j
theorem fk_ids (k j : Nat) : (fk k j).map (·.1) = (regs j).map (·.1) := by
  unfold fk
  split
  · exact regw_ids j
  · rfl
theorem ids_rid {i j : Nat} (h : i ∈ (regs j).map (·.1)) : 122 ≤ i ∧ rid i = j ∧ i ≤ 136 + 29 * (j / 2) ∧ (j % 2 = 0 → i ≤ 123 + 29 * (j / 2)) := by
  rw [regs_ids] at h
  unfold rid
  split at h
  · simp only [List.mem_cons, List.not_mem_nil, or_false] at h
    rcases h with rfl | rfl
    · rw [if_neg (by omega)]; omega
    · rw [if_neg (by omega)]; omega
  · simp only [List.mem_cons, List.not_mem_nil, or_false] at h
    subst h
    rw [if_pos (by omega)]; omega
theorem ids_nodup (j : Nat) : ((regs j).map (·.1)).Nodup := by
  rw [regs_ids]
  split <;> simp
theorem all_mem {f : Nat → List (Nat × AO)} {x : Nat × AO} : ∀ {m j : Nat}, x ∈ all f m j ↔ ∃ i, j ≤ i ∧ i < j + m ∧ x ∈ f i
  | 0, j => by
    simp only [all, List.not_mem_nil, false_iff]
    rintro ⟨i, h1, h2, _⟩
    omega
  | m + 1, j => by
    simp only [all, List.mem_append, all_mem]
    constructor
    · rintro (h | ⟨i, h1, h2, h3⟩)
      · exact ⟨j, by omega, by omega, h⟩
      · exact ⟨i, by omega, by omega, h3⟩
    · rintro ⟨i, h1, h2, h3⟩
      by_cases e : i = j
      · subst e; exact .inl h3
      · exact .inr ⟨i, by omega, by omega, h3⟩
theorem all_nodup {f : Nat → List (Nat × AO)} (hf : ∀ j, (f j).map (·.1) = (regs j).map (·.1)) : ∀ (m j : Nat), ((all f m j).map (·.1)).Nodup
  | 0, j => by simp [all]
  | m + 1, j => by
    rw [all, List.map_append, List.nodup_append]
    refine ⟨by rw [hf]; exact ids_nodup j, all_nodup hf m (j + 1), ?_⟩
    intro a ha b hb e
    subst e
    rw [hf] at ha
    obtain ⟨x, hx, rfl⟩ := List.mem_map.1 hb
    obtain ⟨i, h1, h2, h3⟩ := all_mem.1 hx
    have h4 : x.1 ∈ (regs i).map (·.1) := by rw [← hf]; exact List.mem_map_of_mem h3
    have := (ids_rid ha).2.1
    have := (ids_rid h4).2.1
    omega
theorem base_ids (n : Nat) : (base n).map (·.1) = [118, 119] := rfl
noncomputable def mem (f : Nat → List (Nat × AO)) (n : Nat) : List (Nat × AO) := base n ++ all f n 0
theorem mem_ge {f : Nat → List (Nat × AO)} (hf : ∀ j, (f j).map (·.1) = (regs j).map (·.1)) {m j : Nat} {x : Nat × AO} (hx : x ∈ all f m j) : ∃ i, j ≤ i ∧ i < j + m ∧ x ∈ f i ∧ x.1 ∈ (regs i).map (·.1) := by
  obtain ⟨i, h1, h2, h3⟩ := all_mem.1 hx
  exact ⟨i, h1, h2, h3, by rw [← hf]; exact List.mem_map_of_mem h3⟩
theorem mem_nodup {f : Nat → List (Nat × AO)} (hf : ∀ j, (f j).map (·.1) = (regs j).map (·.1)) (n : Nat) : ((mem f n).map (·.1)).Nodup := by
  rw [mem, List.map_append, List.nodup_append]
  refine ⟨by rw [base_ids]; simp, all_nodup hf n 0, ?_⟩
  intro a ha b hb e
  subst e
  rw [base_ids] at ha
  obtain ⟨x, hx, rfl⟩ := List.mem_map.1 hb
  obtain ⟨i, _, _, _, h4⟩ := mem_ge hf hx
  have := (ids_rid h4).1
  simp only [List.mem_cons, List.not_mem_nil, or_false] at ha
  omega
theorem NS_eq (n : Nat) : NS n = if n % 2 = 0 then 120 + 29 * (n / 2) else 136 + 29 * (n / 2) := by
  unfold NS
  cases h : Nat.beq (n % 2) 0 with
  | true => rw [if_pos (Nat.eq_of_beq_eq_true h)]
  | false => rw [if_neg (Nat.ne_of_beq_eq_false h)]
theorem mem_lt {f : Nat → List (Nat × AO)} (hf : ∀ j, (f j).map (·.1) = (regs j).map (·.1)) {n : Nat} (hn : 1 ≤ n) {x : Nat × AO} (hx : x ∈ mem f n) : x.1 < NS n := by
  rw [NS_eq]
  rcases List.mem_append.1 hx with h | h
  · have : x.1 ∈ (base n).map (·.1) := List.mem_map_of_mem h
    rw [base_ids] at this
    simp only [List.mem_cons, List.not_mem_nil, or_false] at this
    split <;> omega
  · obtain ⟨i, _, h2, _, h4⟩ := mem_ge hf h
    have := ids_rid h4
    split <;> omega
theorem NS_lt {n : Nat} (hn : n ≤ 40) : NS n ≤ 5000 := by
  rw [NS_eq]
  split <;> omega
/-! ### The stages -/
section
variable [E : En]
theorem noFs_ok : @FsOk noFs E := @FsOk.mk noFs E (fun f hf => by cases hf) (fun p hp => by cases hp)
theorem noHk_ok : @HkOk E noHk Try.prog := @HkOk.mk E noHk Try.prog (fun t ht => by cases ht)
/-- What is left to do, told. -/
def Done (c : Code) (T : Tr PV) (H : Hp) : Prop := ∃ T' H', T'.at 6 = some (.bl true) ∧ Goes Try.prog (fun Q a w => c.wp Try.prog Q a w) 91 T [] H .ret T' [] H'
theorem goS {F : Fs} (hF : @FsOk F E) {n : Nat} {c : Code} {s s' : S2} (h : @evC F _ Try.prog noHk (@evDraw F _ Try.prog) n false 91 c s.T [] s.H (kS2 s') = some ()) : Goes Try.prog (fun Q a w => c.wp Try.prog Q a w) 91 s.T [] s.H .normal s'.T [] s'.H := by
  letI := F
  haveI := hF
  letI := noHk
  haveI := noHk_ok
  exact step2 (draw := evDraw Try.prog) (evDraw_ok (by kernel_rfl)) h
theorem goF {F : Fs} (hF : @FsOk F E) {n : Nat} {c : Code} {s s' : S2} (hn : s'.n = s.n) (h : @evC F _ Try.prog noHk (@evDraw F _ Try.prog) n false 91 c s.T [] s.H (kF s.n s') = some ()) : Goes Try.prog (fun Q a w => c.wp Try.prog Q a w) 91 s.T [] s.H .normal s'.T [] s'.H := by
  letI := F
  haveI := hF
  letI := noHk
  haveI := noHk_ok
  have dr : DrawOk Try.prog (evDraw Try.prog (α := Unit)) := evDraw_ok (by kernel_rfl)
  obtain ⟨e, T', D', H', h1, h2⟩ := (evC_ok dr n).1 91 c _ [] _ _ _ h
  cases e with
  | normal =>
    cases D' with
    | cons d D' => cases h1
    | nil =>
      simp only [kF] at h1
      split at h1
      · rename_i hb
        simp only [Bool.and_eq_true] at hb
        exact Goes.rename (olds := []) rfl (by rw [hn]; rfl) hb.1 hb.2 h2
      · cases h1
  | _ => cases h1
theorem goX {n : Nat} {c : Code} {T : Tr PV} {H : Hp} (h : @evC noFs _ Try.prog noHk (@evDraw noFs _ Try.prog) n false 91 c T [] H kX = some ()) : Goes Try.prog (fun Q a w => c.wp Try.prog Q a w) 91 T [] H (.exit 2) .lf [] ⟨.lf, 5000⟩ := by
  letI := noFs
  haveI := noFs_ok
  letI := noHk
  haveI := noHk_ok
  have dr : DrawOk Try.prog (evDraw Try.prog (α := Unit)) := evDraw_ok (by kernel_rfl)
  obtain ⟨e, T', D', H', h1, h2⟩ := (evC_ok dr n).1 91 c _ [] _ _ _ h
  cases e with
  | exit j =>
    cases D' with
    | cons d D' => cases h1
    | nil =>
      simp only [kX] at h1
      split at h1
      · rename_i hb
        simp only [Bool.and_eq_true, Nat.ble_eq] at hb
        have hj := Nat.eq_of_beq_eq_true hb.1
        subst hj
        intro F b a w Q ha hr hQ
        refine h2 F b a w Q ha hr ?_
        intro b' e' a' w' hle her ha' hr' hk
        exact hQ b' e' a' w' hle her ⟨fun d v hd => (by rw [Tr.at_lf] at hd; cases hd), ha'.n, ha'.d⟩ (HR.less hb.2 (fun i o hi => (by rw [Tr.at_lf] at hi; cases hi)) hr') hk
      · cases h1
  | _ => cases h1
theorem goT {n : Nat} {c : Code} {T : Tr PV} {H : Hp} (h : @evC noFs _ Try.prog noHk (@evDraw noFs _ Try.prog) n false 91 c T [] H kT = some ()) : Done c T H := by
  letI := noFs
  haveI := noFs_ok
  letI := noHk
  haveI := noHk_ok
  exact goes_true (draw := evDraw Try.prog) (evDraw_ok (by kernel_rfl)) (n := n) (N := 91) (t := 6) h
theorem goA {n : Nat} (h : runA n = some ()) (g : Done d5 (sA n).T (sA n).H) : Done d2 (T1 (it n) sw sv) ⟨.lf, 118⟩ := by
  letI := noFs
  haveI := noFs_ok
  letI := noHk
  haveI := noHk_ok
  obtain ⟨T9, H9, h9, g⟩ := g
  refine ⟨T9, H9, h9, ?_⟩
  rw [d2_is]
  exact stage2 (draw := evDraw Try.prog) (evDraw_ok (by kernel_rfl)) h g
theorem fin {p0 p1 p2 : PV} {l : List Value} (hl : ∀ b, VL b [p0, p1, p2] l) (g : Done d2 (T1 p0 p1 p2) ⟨.lf, 118⟩) (w : World) : Calls Try.prog 3 ⟨l⟩ w fun e w' => e = .returned (.bool true) ∧ Below w.heap.size w w' := by
  letI := noFs
  haveI := noFs_ok
  letI := noHk
  haveI := noHk_ok
  obtain ⟨T', H', h1, g2⟩ := g
  have dr : DrawOk Try.prog (evDraw Try.prog (α := Tr PV × Nat)) := evDraw_ok (by kernel_rfl)
  have g0 := goes_bare (n := 1000) (N := 91) (c := c0) (T := T0 p0 p1 p2) (H := ⟨.lf, 0⟩) (X := (_, 0)) dr (X0_is p0 p1 p2)
  have g1 := goes_bare (n := 10000) (N := 91) (c := c1) (T := Ta p0 p1 p2) (H := ⟨.lf, 0⟩) (X := (_, 118)) dr (X1_is p0 p1 p2)
  exact calls_of_goes (P := Try.prog) Try.func3 tB_is (args := [p0, p1, p2]) hl (Nat.le_of_ble_eq_true (by kernel_rfl)) (by kernel_rfl) h1 (Goes.chain g0 (Goes.chain g1 g2)) w
end
/-- The letters of one call. -/
@[reducible] def En4 (n k v x : Int) : En := ⟨fun i => match i with
  | 0 => n
  | 1 => k
  | 2 => v
  | _ => x⟩
/-! ### Eight bytes put together -/
theorem byte8 (m : Nat) (hm : m < 18446744073709551616) : ((((((((0 ||| m % 256) ||| (m / 256 % 256 * 256)) ||| (m / 65536 % 256 * 65536)) ||| (m / 16777216 % 256 * 16777216)) ||| (m / 4294967296 % 256 * 4294967296)) ||| (m / 1099511627776 % 256 * 1099511627776)) ||| (m / 281474976710656 % 256 * 281474976710656)) ||| (m / 72057594037927936 * 72057594037927936)) = m := by
  have key : ∀ (x y i : Nat), x < 2 ^ i → x ||| (y * 2 ^ i) = x + y * 2 ^ i := by
    intro x y i hx
    rw [Nat.mul_comm y, Nat.or_comm, ← Nat.two_pow_add_eq_or_of_lt hx]
    omega
  rw [Nat.zero_or]
  rw [show (256 : Nat) = 2 ^ 8 from rfl, key _ _ 8 (by omega)]
  rw [show (65536 : Nat) = 2 ^ 16 from rfl, key _ _ 16 (by omega)]
  rw [show (16777216 : Nat) = 2 ^ 24 from rfl, key _ _ 24 (by omega)]
  rw [show (4294967296 : Nat) = 2 ^ 32 from rfl, key _ _ 32 (by omega)]
  rw [show (1099511627776 : Nat) = 2 ^ 40 from rfl, key _ _ 40 (by omega)]
  rw [show (281474976710656 : Nat) = 2 ^ 48 from rfl, key _ _ 48 (by omega)]
  rw [show (72057594037927936 : Nat) = 2 ^ 56 from rfl, key _ _ 56 (by omega)]
  omega
theorem orN {a b : Nat} (ha : a < 18446744073709551616) (hb : b < 18446744073709551616) : opI .or .u64 (a : Int) (b : Int) = ((a ||| b : Nat) : Int) := by
  have hof : ∀ k : Nat, k < 18446744073709551616 → (BitVec.ofInt 64 (k : Int)).toNat = k := by
    intro k hk
    rw [BitVec.toNat_ofInt]
    omega
  show IntKind.u64.wrap ((BitVec.ofInt 64 (a : Int) ||| BitVec.ofInt 64 (b : Int)).toNat : Int) = _
  have hlt : a ||| b < 2 ^ 64 := Nat.or_lt_two_pow ha hb
  rw [BitVec.toNat_or, hof a ha, hof b hb]
  have e : ∀ y, IntKind.u64.wrap y = y % 18446744073709551616 := fun y => by simp [IntKind.wrap, IntKind.bits, IntKind.signed]
  rw [e]
  omega
theorem shrN (m j k : Nat) (hk : 2 ^ j = k) (hj : j ≤ 63) : opI .shr .u64 (m : Int) (j : Int) = ((m / k : Nat) : Int) := by
  show (m : Int).fdiv ((2 : Int) ^ (Min.min (j : Int).toNat 64)) = _
  have e : Min.min ((j : Int).toNat) 64 = j := by rw [Int.toNat_natCast]; omega
  rw [e, Int.fdiv_eq_ediv_of_nonneg _ (by have : (0 : Int) < 2 ^ j := Int.pow_pos (by decide); omega)]
  have : ((2 : Int) ^ j) = ((k : Nat) : Int) := by rw [← hk]; simp
  rw [this]; rfl
theorem shlN (m j k : Nat) (hk : 2 ^ j = k) (hj : j ≤ 63) (hm : m * k < 18446744073709551616) : opI .shl .u64 (m : Int) (j : Int) = ((m * k : Nat) : Int) := by
  show IntKind.u64.wrap ((m : Int) * (2 : Int) ^ (Min.min (j : Int).toNat 64)) = _
  have e : Min.min ((j : Int).toNat) 64 = j := by rw [Int.toNat_natCast]; omega
  have e2 : ((2 : Int) ^ j) = ((k : Nat) : Int) := by rw [← hk]; simp
  have e3 : ∀ y, IntKind.u64.wrap y = y % 18446744073709551616 := fun y => by simp [IntKind.wrap, IntKind.bits, IntKind.signed]
  rw [e, e2, e3, ← Int.natCast_mul]
  omega
theorem w8N (x : Nat) : IntKind.u8.wrap (x : Int) = ((x % 256 : Nat) : Int) := by
  have e3 : ∀ y, IntKind.u8.wrap y = y % 256 := fun y => by simp [IntKind.wrap, IntKind.bits, IntKind.signed]
  rw [e3]; rfl
theorem lt256 (x k : Nat) (h : 256 * k ≤ 18446744073709551616) (hk : 0 < k) : x % 256 * k < 18446744073709551616 := by
  have := Nat.mul_le_mul_right k (show x % 256 ≤ 255 by omega)
  omega
theorem bN (m j k : Nat) (hk : 2 ^ j = k) (hj : j ≤ 63) (h2 : 256 * k ≤ 18446744073709551616) : opI .shl .u64 (IntKind.u8.wrap (opI .shr .u64 (m : Int) (j : Int))) (j : Int) = ((m / k % 256 * k : Nat) : Int) := by
  rw [shrN m j k hk hj, w8N]
  refine shlN _ j k hk hj ?_
  have h3 : m / k % 256 ≤ 255 := by omega
  have := Nat.mul_le_mul_right k h3
  have hkp : 0 < k := by rw [← hk]; exact Nat.two_pow_pos j
  omega
theorem sV_ev {η : Nat → Int} (h0 : 0 ≤ η 2) (h1 : η 2 ≤ 18446744073709551615) : sV.ev η = η 2 := by
  obtain ⟨m, hm⟩ := Int.eq_ofNat_of_zero_le h0
  have hlt : m < 18446744073709551616 := by omega
  show opI .or .u64 (opI .or .u64 (opI .or .u64 (opI .or .u64 (opI .or .u64 (opI .or .u64 (opI .or .u64 (opI .or .u64 0
    (opI .shl .u64 (IntKind.u8.wrap (opI .shr .u64 (η 2) 0)) 0))
    (opI .shl .u64 (IntKind.u8.wrap (opI .shr .u64 (η 2) 8)) 8))
    (opI .shl .u64 (IntKind.u8.wrap (opI .shr .u64 (η 2) 16)) 16))
    (opI .shl .u64 (IntKind.u8.wrap (opI .shr .u64 (η 2) 24)) 24))
    (opI .shl .u64 (IntKind.u8.wrap (opI .shr .u64 (η 2) 32)) 32))
    (opI .shl .u64 (IntKind.u8.wrap (opI .shr .u64 (η 2) 40)) 40))
    (opI .shl .u64 (IntKind.u8.wrap (opI .shr .u64 (η 2) 48)) 48))
    (opI .shl .u64 (opI .shr .u64 (η 2) 56) 56) = η 2
  rw [hm]
  have b0 : opI .shl .u64 (IntKind.u8.wrap (opI .shr .u64 (m : Int) 0)) 0 = ((m % 256 : Nat) : Int) := by
    have := bN m 0 1 (by rfl) (by omega) (by omega)
    simpa using this
  have b1 : opI .shl .u64 (IntKind.u8.wrap (opI .shr .u64 (m : Int) 8)) 8 = ((m / 256 % 256 * 256 : Nat) : Int) := bN m 8 256 (by rfl) (by omega) (by omega)
  have b2 : opI .shl .u64 (IntKind.u8.wrap (opI .shr .u64 (m : Int) 16)) 16 = ((m / 65536 % 256 * 65536 : Nat) : Int) := bN m 16 65536 (by rfl) (by omega) (by omega)
  have b3 : opI .shl .u64 (IntKind.u8.wrap (opI .shr .u64 (m : Int) 24)) 24 = ((m / 16777216 % 256 * 16777216 : Nat) : Int) := bN m 24 16777216 (by rfl) (by omega) (by omega)
  have b4 : opI .shl .u64 (IntKind.u8.wrap (opI .shr .u64 (m : Int) 32)) 32 = ((m / 4294967296 % 256 * 4294967296 : Nat) : Int) := bN m 32 4294967296 (by rfl) (by omega) (by omega)
  have b5 : opI .shl .u64 (IntKind.u8.wrap (opI .shr .u64 (m : Int) 40)) 40 = ((m / 1099511627776 % 256 * 1099511627776 : Nat) : Int) := bN m 40 1099511627776 (by rfl) (by omega) (by omega)
  have b6 : opI .shl .u64 (IntKind.u8.wrap (opI .shr .u64 (m : Int) 48)) 48 = ((m / 281474976710656 % 256 * 281474976710656 : Nat) : Int) := bN m 48 281474976710656 (by rfl) (by omega) (by omega)
  have b7 : opI .shl .u64 (opI .shr .u64 (m : Int) 56) 56 = ((m / 72057594037927936 * 72057594037927936 : Nat) : Int) := by
    rw [show (56 : Int) = ((56 : Nat) : Int) from rfl, shrN m 56 72057594037927936 (by rfl) (by omega)]
    exact shlN _ 56 72057594037927936 (by rfl) (by omega) (Nat.lt_of_le_of_lt (Nat.div_mul_le_self m _) hlt)
  rw [b0, b1, b2, b3, b4, b5, b6, b7]
  have o1 : m % 256 < 18446744073709551616 := by omega
  have o2 : m / 256 % 256 * 256 < 18446744073709551616 := lt256 (m / 256) 256 (by omega) (by omega)
  have o3 : m / 65536 % 256 * 65536 < 18446744073709551616 := lt256 (m / 65536) 65536 (by omega) (by omega)
  have o4 : m / 16777216 % 256 * 16777216 < 18446744073709551616 := lt256 (m / 16777216) 16777216 (by omega) (by omega)
  have o5 : m / 4294967296 % 256 * 4294967296 < 18446744073709551616 := lt256 (m / 4294967296) 4294967296 (by omega) (by omega)
  have o6 : m / 1099511627776 % 256 * 1099511627776 < 18446744073709551616 := lt256 (m / 1099511627776) 1099511627776 (by omega) (by omega)
  have o7 : m / 281474976710656 % 256 * 281474976710656 < 18446744073709551616 := lt256 (m / 281474976710656) 281474976710656 (by omega) (by omega)
  have o8 : m / 72057594037927936 * 72057594037927936 < 18446744073709551616 := Nat.lt_of_le_of_lt (Nat.div_mul_le_self m _) hlt
  have L : ∀ {a b : Nat}, a < 18446744073709551616 → b < 18446744073709551616 → a ||| b < 18446744073709551616 := fun ha hb => Nat.or_lt_two_pow (n := 64) ha hb
  rw [show (0 : Int) = ((0 : Nat) : Int) from rfl]
  rw [orN (by decide) o1, orN (L (by decide) o1) o2, orN (L (L (by decide) o1) o2) o3, orN (L (L (L (by decide) o1) o2) o3) o4, orN (L (L (L (L (by decide) o1) o2) o3) o4) o5, orN (L (L (L (L (L (by decide) o1) o2) o3) o4) o5) o6,
    orN (L (L (L (L (L (L (by decide) o1) o2) o3) o4) o5) o6) o7, orN (L (L (L (L (L (L (L (by decide) o1) o2) o3) o4) o5) o6) o7) o8, byte8 m hlt]
/-! ### What is taken for granted -/
theorem fv_ok {a w v x r : Int} {n : Nat} (h : w.tmod (Int.ofNat n) = r) : @FsOk (FV n r) (En4 a w v x) := @FsOk.mk (FV n r) (En4 a w v x) (fun f hf => by cases hf) (fun p hp => by
  have hp : p ∈ ([(.o .rem .i64 (.v 1) (.c (Int.ofNat n)), r)] : List (SE × Int)) := hp
  simp only [List.mem_cons, List.not_mem_nil, or_false] at hp
  subst hp
  exact h)
theorem f1_ok {a w v x : Int} {i : Nat} (h : ((Int.ofNat i == x) = false)) : @FsOk (F1 i) (En4 a w v x) := @FsOk.mk (F1 i) (En4 a w v x) (fun f hf => by
  have hf : f ∈ ([⟨.eql, .c (Int.ofNat i), .v 3, false⟩] : List SF) := hf
  simp only [List.mem_cons, List.not_mem_nil, or_false] at hf
  subst hf
  exact h) (fun p hp => by cases hp)
theorem f2_ok {a w v x : Int} {i : Nat} (h : ((Int.ofNat i == x) = true)) (h0 : 0 ≤ v) (h1 : v ≤ 18446744073709551615) : @FsOk (F2 i) (En4 a w v x) := @FsOk.mk (F2 i) (En4 a w v x) (fun f hf => by
  have hf : f ∈ ([⟨.eql, .c (Int.ofNat i), .v 3, true⟩, ⟨.neq, sV, .v 2, false⟩] : List SF) := hf
  simp only [List.mem_cons, List.not_mem_nil, or_false] at hf
  rcases hf with rfl | rfl
  · exact h
  · show cmpI .neq (sV.ev (En4 a w v x).η) v = false
    rw [sV_ev (η := (En4 a w v x).η) h0 h1]
    show cmpI .neq v v = false
    simp [cmpI]) (fun p hp => by cases hp)
/-! ### All of it -/
theorem forN {n : Nat} {w v : Int} (hn : 1 ≤ n) (hn2 : n ≤ 40) (hv0 : 0 ≤ v) (hv1 : v ≤ 18446744073709551615) (hA : runA n = some ()) (hB : ∀ z, z < 2 * n - 1 → runB n z = some ()) (hC : ∀ k, k < n → runC n k = some ()) (hR : runR n = some ())
    (hD1 : ∀ i, i < n → runD1 n i = some ()) (hD2 : ∀ i, i < n → runD2 n i = some ()) (hX : runX n = some ()) : ∃ x : Int, @Done (En4 n w v x) d2 (T1 (it n) sw sv) ⟨.lf, 118⟩ := by
  have hn3 : (0 : Int) < (n : Int) := by omega
  have t1 := Int.tmod_lt_of_pos w hn3
  have t2 := Int.lt_tmod_of_pos w hn3
  obtain ⟨z, hz⟩ : ∃ z : Nat, w.tmod (n : Int) + ((n : Int) - 1) = (z : Int) := Int.eq_ofNat_of_zero_le (by omega)
  have hz2 : z < 2 * n - 1 := by omega
  have hr : w.tmod (Int.ofNat n) = Int.subNatNat z (n - 1) := by
    rw [Int.subNatNat_eq_coe]
    show w.tmod (n : Int) = _
    omega
  generalize hk : (z + 1) % n = k
  have hkn : k < n := by rw [← hk]; exact Nat.mod_lt _ (by omega)
  refine ⟨(k : Int), ?_⟩
  letI E : En := En4 n w v (k : Int)
  letI := noFs
  haveI : @FsOk noFs E := noFs_ok
  letI := noHk
  haveI : @HkOk E noHk Try.prog := noHk_ok
  have hf0 : ∀ j, (regs j).map (·.1) = (regs j).map (·.1) := fun _ => rfl
  have hM := mem_nodup hf0 n
  have hM2 := mem_nodup (fk_ids k) n
  have baseM : ∀ {f : Nat → List (Nat × AO)} {x : Nat × AO}, x ∈ base n → x ∈ mem f n := fun h => List.mem_append.2 (.inl h)
  have regM : ∀ {f : Nat → List (Nat × AO)} {i : Nat} {x : Nat × AO}, i < n → x ∈ f i → x ∈ mem f n := fun hi h => List.mem_append.2 (.inr (all_mem.2 ⟨_, by omega, by omega, h⟩))
  refine goA (E := E) hA ?_
  -- which one
  have gB := goS (E := E) (fv_ok (a := n) (w := w) (v := v) (x := (k : Int)) hr) (hB z hz2)
  rw [hk] at gB
  have gB2 := Goes.same (P := Try.prog) (m := mem regs n) (s := []) (n := NS n) (n' := NS n) hM (by simp) (fun x hx => mem_lt hf0 hn hx) gB
  -- the store
  have gC := goS (E := E) (noFs_ok (E := E)) (hC k hkn)
  have gC2 := Goes.within (P := Try.prog) (m := mem regs n) (m2 := mem (fk k) n) (s := base n ++ regs k) (s2 := base n ++ regw k) (n := NS n) (n' := 5000) hM hM2
    (fun x hx => by
      rcases List.mem_append.1 hx with h | h
      · exact baseM h
      · exact regM hkn h)
    (fun x hx => by
      rcases List.mem_append.1 hx with h | h
      · exact baseM h
      · exact regM (f := fk k) hkn (by rw [fk, if_pos rfl]; exact h))
    (fun i => by rw [List.map_append, List.map_append, regw_ids])
    (fun x hx hni => by
      rcases List.mem_append.1 hx with h | h
      · exact baseM h
      · obtain ⟨i, _, h2, h3⟩ := all_mem.1 h
        by_cases e : i = k
        · subst e
          exfalso
          apply hni
          rw [List.map_append, List.mem_append]
          right
          rw [← fk_ids i]
          exact List.mem_map_of_mem h3
        · rw [fk, if_neg e] at h3
          exact regM (by omega) h3)
    (fun x hx => mem_lt hf0 hn hx) gC
  -- the loop
  have hlt5 : ∀ x, x ∈ mem (fk k) n → x.1 < 5000 := fun x hx => Nat.lt_of_lt_of_le (mem_lt (fk_ids k) hn hx) (NS_lt hn2)
  have gR := goS (E := E) (s := ⟨[(0, it n), (2, sv), (7, .pt 119 0), (10, sk)], [], 5000⟩) (noFs_ok (E := E)) hR
  have gR2 := Goes.same (P := Try.prog) (m := mem (fk k) n) (s := []) (n := 5000) (n' := 5000) hM2 (by simp) hlt5 gR
  have gR3 := Goes.retell (T := (sC n k).T) (puts_retell (l := (sC n k).t) (fun x hx => by
    simp only [List.mem_cons, List.not_mem_nil, or_false] at hx
    rcases hx with rfl | rfl | rfl | rfl
    · exact ⟨_, rfl, fun b y h => h⟩
    · exact ⟨_, rfl, fun b y h => h⟩
    · exact ⟨_, rfl, fun b y h => h⟩
    · refine ⟨it k, rfl, fun b y h => ?_⟩
      cases h
      exact V.sy (b := b) .i64 0 39 (.v 3) (show (0 : Int) ≤ (k : Int) by omega) (show (k : Int) ≤ 39 by omega))) gR2
  have turn : ∀ i, i < n → Goes Try.prog (fun Q a w => rnd.wp Try.prog Q a w) 91 (puts (tD n i)) [] ⟨putO (mem (fk k) n), 5000⟩ .normal (puts (tD n (i + 1))) [] ⟨putO (mem (fk k) n), 5000⟩ := by
    intro i hi
    by_cases e : i = k
    · have g := goF (E := E) (s := sD regw n i i) (s' := sD regw n i (i + 1)) (f2_ok (a := n) (w := w) (v := v) (x := (k : Int)) (i := i) (by subst e; simp) hv0 hv1) rfl (hD2 i hi)
      exact Goes.same (P := Try.prog) (m := mem (fk k) n) (s := base n ++ regw i) (n := 5000) (n' := 5000) hM2 (fun x hx => by
        rcases List.mem_append.1 hx with h | h
        · exact baseM h
        · exact regM (f := fk k) hi (by rw [fk, if_pos e]; exact h)) hlt5 g
    · have g := goF (E := E) (s := sD regs n i i) (s' := sD regs n i (i + 1)) (f1_ok (a := n) (w := w) (v := v) (x := (k : Int)) (i := i) (by
        simp only [beq_eq_false_iff_ne, ne_eq]
        intro h
        exact e (Int.ofNat.inj h))) rfl (hD1 i hi)
      exact Goes.same (P := Try.prog) (m := mem (fk k) n) (s := base n ++ regs i) (n := 5000) (n' := 5000) hM2 (fun x hx => by
        rcases List.mem_append.1 hx with h | h
        · exact baseM h
        · exact regM (f := fk k) hi (by rw [fk, if_neg e]; exact h)) hlt5 g
  have gX := goX (E := E) hX
  have gX2 : Goes Try.prog (fun Q a w => rnd.wp Try.prog Q a w) 91 (puts (tD n n)) [] ⟨putO (mem (fk k) n), 5000⟩ (.exit 2) .lf [] ⟨.lf, 5000⟩ :=
    Goes.less (T0 := puts (tD n n)) (H0 := ⟨.lf, 5000⟩) (fun d v h => h) (Nat.le_refl _) (fun i o hi => (by rw [Tr.at_lf] at hi; cases hi)) gX
  have gL := Goes.turns (T := fun i => puts (tD n i)) (H := fun _ => ⟨putO (mem (fk k) n), 5000⟩) turn (Goes.last (by intro h; cases h) gX2) n (Nat.le_refl n)
  rw [Nat.sub_self] at gL
  have gK := Goes.block (Goes.loop gL)
  obtain ⟨T', H', h6, gT⟩ := goT (E := E) r_f
  refine ⟨T', H', h6, ?_⟩
  rw [d5_is]
  exact Goes.chain gB2 (Goes.chain gC2 (Goes.chain (Goes.chain gR3 gK) gT))
end Go.Proofs.Ytflcjibgobpieaa.Ev
