/-
  The tightest tnum of a row of numbers: a contract over the program's own text.
-/
import Derived.Test.YtpmhojfbjhgjpaaBase
import Derived.BigQuiet
import Derived.Deep.QuietTactic
import Derived.Deep.DeepCutAuto
import Derived.LoopTactic
namespace Go.Proofs.Ytpmhojfbjhgjpaa
open Go.ChangeShapes Go.WideShapes Go.ChangeAt Go.RowKit Go.Joins
set_option linter.unusedVariables false
set_option linter.unusedSimpArgs false
/-- The bits in which some of a row are unlike the first one's. -/
def orx (v0 : BitVec 64) (l : List (BitVec 64)) : BitVec 64 := l.foldl (fun m v => m ||| (v ^^^ v0)) 0#64
theorem orx_snoc (v0 : BitVec 64) (l : List (BitVec 64)) (v : BitVec 64) : orx v0 (l ++ [v]) = orx v0 l ||| (v ^^^ v0) := by
  unfold orx; rw [List.foldl_append]; rfl
theorem take_snoc (l : List (BitVec 64)) (k : Nat) (h : k < l.length) : l.take (k + 1) = l.take k ++ [l.getD k 0#64] := by
  rw [List.take_succ_eq_append_getElem h, List.getD_eq_getElem?_getD, List.getElem?_eq_getElem h]
  rfl
def LT (w0 : World) (v0 : BitVec 64) (vals : List (BitVec 64)) (mask i : Value) (wr : World) : Prop :=
  ∃ k m : Nat, 1 ≤ k ∧ k ≤ vals.length ∧ i = .int .i64 k ∧ mask = .int .u64 (nn (orx v0 (vals.take k))) ∧ wr = w0.drewN m
set_option maxHeartbeats 1000000 in
set_option maxRecDepth 100000 in
theorem tightest_any (g cap : Nat) (v0 : BitVec 64) (rest : List (BitVec 64)) (w : World) (hl : (v0 :: rest).length ≤ 100000) (hg : g < w.heap.size)
    (hc : ∀ j, j < (v0 :: rest).length → w.cell? ⟨g, j, none⟩ = some (.int .u64 (nn ((v0 :: rest).getD j 0#64)))) :
    Calls Try.prog 48 #[.slice (some ⟨g, 0, none⟩) (v0 :: rest).length cap] w fun e w' => e = .returned (tv (wo v0 (orx v0 (v0 :: rest)))) ∧ Below w.heap.size w w' := by
  have h0 : w.cell? ⟨g, 0, none⟩ = some (.int .u64 (nn v0)) := hc 0 (by simp)
  generalize hv : v0 :: rest = vals at *
  have h1 : 1 ≤ vals.length := by rw [← hv]; simp
  have ht : vals.take 1 = [v0] := by rw [← hv]; rfl
  have HC := Lib.hid hc
  have HT := Lib.hid ht
  clear hc ht hv
  go_enter Try.func48, Try.ntmps48
  go_wp2
  go_loopw [3, 4] (fun mask i wr => LT (w.alloc (.cells #[.int .u64 0, .int .u64 0] 24)) v0 vals mask i wr) (fun _ i _ => vals.length - (intOf i).toNat)
  case atStart => exact ⟨1, 0, by omega, h1, rfl, by rw [HT.out]; simp [orx, nn], rfl⟩
  case round =>
    obtain ⟨k, m, hk1, hk, rfl, rfl, rfl⟩ := hrel
    by_cases hlt : k < vals.length
    · have hck := HC.out k hlt
      go_upto_region 5 with (fail)
      have hs := Lib.hid (take_snoc vals k hlt)
      have p1 : bits .xor .u64 (nn (vals.getD k 0#64)) (nn v0) = nn (vals.getD k 0#64 ^^^ v0) := b_xor _ _
      have p2 : bits .or .u64 (nn (orx v0 (vals.take k))) (nn (vals.getD k 0#64 ^^^ v0)) = nn (orx v0 (vals.take k) ||| (vals.getD k 0#64 ^^^ v0)) := b_or _ _
      have q1 : (0 : Int) ≤ (k : Int) := by omega
      have q2 : (k : Int) < (vals.length : Int) := by omega
      have q3 : (0 : Int) < (vals.length : Int) := by omega
      generalize hM : orx v0 (vals.take k) = M at *
      have HM := Lib.hid hM
      generalize hX : vals.getD k 0#64 = X at *
      have HX := Lib.hid hX
      clear hM hX
      go_quiet (fail)
      clear p1 p2 q1 q2 q3
      go_wp2
      go_roundw
      case rel => exact ⟨k + 1, _, by omega, by omega, by go_num, by rw [hs.out, orx_snoc, HM.out], rfl⟩
      case measure => simp [intOf]; omega
    · have e : k = vals.length := by omega
      subst e
      have hn : bits .andNot .u64 (nn v0) (nn (orx v0 (vals.take vals.length))) = nn (v0 &&& ~~~orx v0 (vals.take vals.length)) := b_not _ _
      rw [List.take_length] at hn
      rw [List.take_length]
      go_wp2
      clear hn
      refine bodyPost_ret (v := tv (wo v0 (orx v0 vals))) ?_ rfl ⟨rfl, ?_⟩
      · simp [results, Try.results48, go_sem, tv, wo]
      · go_grown
        refine bl_drewN ?_ _
        go_grown
end Go.Proofs.Ytpmhojfbjhgjpaa
