/-
  What slots read and write: the program's and the document's are alike, in plain words.
-/
import Derived.Test.YtliijnpblddjfaaLTB
namespace Go.Proofs.Ytliijnpblddjfaa
open Go.RowKit
set_option linter.unusedVariables false
set_option linter.unusedSimpArgs false
theorem c8 : ∀ o : BitVec 8, o &&& 7#8 = 0#8 ∨ o &&& 7#8 = 1#8 ∨ o &&& 7#8 = 2#8 ∨ o &&& 7#8 = 3#8 ∨ o &&& 7#8 = 4#8 ∨ o &&& 7#8 = 5#8 ∨ o &&& 7#8 = 6#8 ∨ o &&& 7#8 = 7#8 := by decide +kernel
theorem zC0 : ∀ o : BitVec 8, nn (o % 8#8) = nn (o &&& 7#8) := by decide +kernel
theorem zC5 : ∀ o : BitVec 8, nn (o / 16#8) = nn (o >>> 4) := by decide +kernel
theorem x_eq : ∀ o : BitVec 8, (((o / 8#8) % 2#8) == 1#8) = !((o &&& 8#8) == 0#8) := by decide +kernel
theorem q0 : ∀ q : BitVec 8, (nn q == 0) = (q == 0#8) := by decide +kernel
theorem q8 : ∀ q : BitVec 8, (nn q == 8) = (q == 8#8) := by decide +kernel
theorem q9 : ∀ q : BitVec 8, (nn q == 9) = (q == 9#8) := by decide +kernel
theorem q9' : ∀ q : BitVec 8, (nn q != 9) = !(q == 9#8) := by decide +kernel
theorem q11 : ∀ q : BitVec 8, (nn q == 11) = (q == 11#8) := by decide +kernel
theorem q13 : ∀ q : BitVec 8, (nn q == 13) = (q == 13#8) := by decide +kernel
theorem zz3 (x : Insn) : zcS x = zcD x := by
  obtain ⟨v, ht, hr⟩ := zzW (ii x.fImm)
  unfold tkR at hr
  unfold zcS zcD
  rw [zmN, Option.bind_some, zAb]
  cases hk : zw x
  · rfl
  cases BitVec.ult 10#8 x.fDst
  rotate_left
  · rfl
  cases BitVec.ult 10#8 x.fSrc
  rotate_left
  · rfl
  unfold zhF zfn zg2 zc3 zl zbj zY zk zT
  simp only [zv, cond_true, cond_false, ht, Option.bind_some, zC0, zC5, x_eq, q0, q8, q9, q9', q11, q13, Bool.not_false, Bool.and_self] at hr ⊢
  rw [hr]
  clear hr ht hk
  obtain ⟨o, d, s, f, i⟩ := x
  dsimp only
  generalize (1#16 <<< s.toNat) = a
  generalize (1#16 <<< d.toNat) = b
  generalize (s == 1#8) = s1
  generalize o >>> 4 = q
  cases (o &&& 8#8) == 0#8 <;> rcases c8 o with h | h | h | h | h | h | h | h <;> rw [h]
  all_goals first
    | rfl
    | (by_cases h0 : q = 0#8
       · subst h0; cases s1 <;> simp [nn]
       · by_cases h8 : q = 8#8
         · subst h8; cases s1 <;> simp [nn]
         · by_cases h9 : q = 9#8
           · subst h9; cases s1 <;> simp [nn]
           · by_cases h11 : q = 11#8
             · subst h11; cases s1 <;> simp [nn]
             · by_cases h13 : q = 13#8
               · subst h13; cases s1 <;> simp [nn]
               · have e0 : (q == 0#8) = false := by simpa using h0
                 have e8 : (q == 8#8) = false := by simpa using h8
                 have e9 : (q == 9#8) = false := by simpa using h9
                 have e11 : (q == 11#8) = false := by simpa using h11
                 have e13 : (q == 13#8) = false := by simpa using h13
                 simp [nn, e0, e8, e9, e11, e13])
theorem zvh (x : Insn) : ∃ v b, zcS x = some (v, b) ∧ zcD x = some (v, b) ∧ b = (zw x && (!BitVec.ult 10#8 x.fDst && !BitVec.ult 10#8 x.fSrc)) := by
  obtain ⟨w, ht, hr⟩ := zzW (ii x.fImm)
  rw [← zz3]
  suffices h : ∃ v b, zcS x = some (v, b) ∧ b = (zw x && (!BitVec.ult 10#8 x.fDst && !BitVec.ult 10#8 x.fSrc)) by
    obtain ⟨v, b, h1, h2⟩ := h
    exact ⟨v, b, h1, h1, h2⟩
  unfold zcS zfn
  rw [zmN, Option.bind_some]
  cases (zw x && (!BitVec.ult 10#8 x.fDst && !BitVec.ult 10#8 x.fSrc))
  · exact ⟨_, _, rfl, rfl⟩
  rw [ct rfl, ht]
  simp only [zv, Option.bind_some]
  cases (x.fOp &&& 7#8) == 1#8 <;> cases (x.fOp &&& 7#8) == 2#8 <;> cases (x.fOp &&& 7#8) == 3#8 <;> cases (x.fOp &&& 7#8) == 4#8 <;> cases (x.fOp &&& 7#8) == 7#8 <;> cases (x.fOp &&& 7#8) == 5#8 <;> cases (x.fOp &&& 7#8) == 6#8 <;> first
    | exact ⟨_, _, rfl, rfl⟩
    | (cases (x.fOp >>> 4) == 0#8 <;> cases (x.fOp >>> 4) == 9#8 <;> cases (x.fOp >>> 4) == 8#8 <;> cases x.fSrc == 1#8 <;> exact ⟨_, _, rfl, rfl⟩)
theorem zx2 (x : Insn) : zcZ x = zcY x := by
  obtain ⟨v, b, -, h2, h3⟩ := zvh x
  unfold zcZ zcY
  rw [zmN, h2, Option.bind_some, Option.bind_some, ← h3, zzd]
  cases b
  · rfl
  unfold zl zc3 zdc zi zk zY
  simp only [zv, zC0, zC5]
  obtain ⟨o, d, s, f, i⟩ := x
  dsimp only
  generalize (1#16 <<< d.toNat) = b
  clear h2 h3
  rcases c8 o with h | h | h | h | h | h | h | h <;> rw [h]
  all_goals first
    | rfl
    | (rw [q8]; cases o >>> 4 == 8#8 <;> rfl)
theorem zxv (x : Insn) : ∃ v b, zcZ x = some (v, b) := by
  unfold zcZ
  rw [zmN, Option.bind_some]
  cases (zw x && (!BitVec.ult 10#8 x.fDst && !BitVec.ult 10#8 x.fSrc))
  · exact ⟨_, _, rfl⟩
  simp only [zv]
  rw [ct rfl]
  cases (x.fOp &&& 7#8) == 0#8 <;> cases (x.fOp &&& 7#8) == 1#8 <;> cases (x.fOp &&& 7#8) == 4#8 <;> cases (x.fOp &&& 7#8) == 7#8 <;> cases (x.fOp &&& 7#8) == 5#8 <;> cases (x.fOp >>> 4) == 8#8 <;> exact ⟨_, _, rfl⟩
end Go.Proofs.Ytliijnpblddjfaa

