/-
  All numbers of a small tnum: a contract over the program's own text.
-/
import Derived.Test.YtpmhojfbjhgjpaaTMath
import Derived.Laws.AppendOwn
import Derived.Laws.OwnMore
namespace Go.Proofs.Ytpmhojfbjhgjpaa
open Go.ChangeShapes Go.WideShapes Go.ChangeAt Go.RowKit Go.Joins
set_option linter.unusedVariables false
set_option linter.unusedSimpArgs false
def WU (x : BitVec 64) : Value := .int .u64 (nn x)
theorem info22' : (Try.prog.info? 22).map (fun i => (i.zero, i.size, i.bytes)) = some (some (.int .u64 0), 1, 8) := by kernel_rfl
theorem one_new' (wr : World) (x : Value) : ∀ (j : Nat) (u : Value), [x][j]? = some u → (wr.alloc (.cells #[x] 22)).cell? ((⟨wr.heap.size, 0, none⟩ : Addr).add j) = some u := by
  intro j u h
  obtain rfl : j = 0 := by
    rcases j with _ | j
    · rfl
    · simp at h
  simp at h
  subst h
  show (wr.alloc (.cells #[x] 22)).cell? ⟨wr.heap.size, 0, none⟩ = some x
  go_cell
theorem one_kind' (x : Int) : ∀ u ∈ [Value.int .u64 x], u.oneCell' = true := by
  intro u h
  simp at h
  subst h
  rfl
def LL (W : World) (a : T) (out s : Value) (wr : World) : Prop :=
  ∃ (l : List (BitVec 64)) (s' : BitVec 64), s = .int .u64 (nn s') ∧ Told a l s' ∧ wr.ownsRow W.heap.size 22 1 out l.length (l.map WU) ∧ Below W.heap.size W wr
theorem push {W wr w2 : World} {l : List (BitVec 64)} {out v' x : Value} {z : BitVec 64} (hown : wr.ownsRow W.heap.size 22 1 out l.length (l.map WU)) (hb : Below W.heap.size W wr)
    (h2 : w2.ownsRow W.heap.size 22 1 v' (l.length + 1) (l.map WU ++ [.int .u64 (nn z)])) (hg : (wr.alloc (.cells #[x] 22)).grownBy w2 out.ownBlock) :
    w2.ownsRow W.heap.size 22 1 v' (l ++ [z]).length ((l ++ [z]).map WU) ∧ Below W.heap.size W w2 := by
  refine ⟨?_, ?_⟩
  · rw [List.length_append, List.map_append]; exact h2
  · exact (hb.alloc hb.size _).grown hg (by have := hb.size; simp; omega) (fun q e => (hown.lt q e).1)
/-- What the call leaves: all numbers of a, in a block of its own. -/
def AllOf (W : World) (a : T) (n : Nat) (e : Ending) (w' : World) : Prop :=
  ∃ (l : List (BitVec 64)) (g cap : Nat), e = .returned (.slice (some ⟨g, 0, none⟩) l.length cap) ∧ g < w'.heap.size ∧ (∀ j, j < l.length → w'.cell? ⟨g, j, none⟩ = (l.map WU)[j]?) ∧ Whole a l ∧ l.length ≤ 2 ^ n ∧ Below W.heap.size W w'
theorem allOf {W W1 w2 : World} {a : T} {n : Nat} {l : List (BitVec 64)} {out : Value} (hW : Below W.heap.size W W1) (hl : l ≠ []) (hown : w2.ownsRow W1.heap.size 22 1 out l.length (l.map WU)) (hb : Below W1.heap.size W1 w2) (hw : Whole a l) (hn : l.length ≤ 2 ^ n) :
    AllOf W a n (.returned out) w2 := by
  rcases hown.2 with ⟨_, h⟩ | ⟨g, cap, cur, rfl, hb', hgg, rest⟩
  · exact absurd (List.length_eq_zero_iff.1 h) hl
  · exact ⟨l, g, cap, rfl, (hown.lt g rfl).2, fun j hj => hown.cellAt j (by omega), hw, hn, bl_trans hW hb⟩
set_option maxHeartbeats 1000000 in
set_option maxRecDepth 100000 in
theorem all_any (a : T) (n : Nat) (hn : n ≤ 10) (hf : Few n a.m) (w : World) : Calls Try.prog 47 #[.agg #[.int .u64 (nn a.v), .int .u64 (nn a.m)]] w (AllOf w a n) := by
  have A0 := At.new w a 24
  have gA : Below w.heap.size w (w.alloc (.cells #[.int .u64 (nn a.v), .int .u64 (nn a.m)] 24)) := by go_grown
  have HF := Lib.hid hf
  have hp : 2 ^ n ≤ 1024 := by
    have : 2 ^ n ≤ 2 ^ 10 := Nat.pow_le_pow_right (by decide) hn
    omega
  have HP := Lib.hid hp
  clear hf hp
  go_enter Try.func47, Try.ntmps47
  go_upto_region 1 with (fail)
  generalize hW : w.alloc (.cells #[.int .u64 (nn a.v), .int .u64 (nn a.m)] 24) = W at *
  clear hW
  have HA := Lib.hid A0
  have HG := Lib.hid gA
  obtain ⟨x1, x2, x3⟩ := A0
  clear gA
  go_wp2
  clear x1 x2 x3
  obtain ⟨i0, hi, hz0, hz1, hz2⟩ := info_parts info22'
  go_loopw [3, 4] (fun l v wr => LL W a l v wr) (fun _ v _ => (intOf v).toNat)
  case atStart => exact ⟨[], a.m, rfl, told_start a, ⟨rfl, Or.inl ⟨rfl, rfl⟩⟩, Below.refl _ _⟩
  case round =>
    obtain ⟨l, s, rfl, ht, hown, hb⟩ := hrel
    have A1 := HA.out.next hb
    have hlen := told_len HF.out ht
    have HS : Hid (l.length + 1 ≤ 1024) := Lib.hid (by have := HP.out; omega)
    have HT := Lib.hid ht
    have HO := Lib.hid hown
    have HB := Lib.hid hb
    have HSZ := Lib.hid hb.size
    have HL := Lib.hid hlen
    clear ht hown hb hlen
    obtain ⟨x1, x2, x3⟩ := A1
    have f1 : bits .or .u64 (nn a.v) (nn s) = nn (a.v ||| s) := b_or _ _
    by_cases h0 : s = 0#64
    · have t1 : (nn s == 0) = true := by rw [b_eq0]; simpa using h0
      have H0 := Lib.hid h0
      clear h0
      go_upto_region 4 with (at_builtin; refine wpList_append_own _ rfl _ _ 41 rfl W.heap.size 22 i0 (.int .u64 0) 1 8 Try.underlying41 hi hz0 hz1 hz2 rfl (by decide) _ _ _ rfl (HO.out.alloc _) ⟨wr.heap.size, 0, none⟩ 1 1 [.int .u64 (nn (a.v ||| s))] rfl rfl (one_new' _ _) (one_kind' _) (by have := HS.out; unfold maxLen; omega) (by have := HS.out; omega) (by have := HSZ.out; simp; omega) ?_; intro v' w2 hown2 hgrow _; have HO2 := Lib.hid hown2; have HGr := Lib.hid hgrow; clear hown2 hgrow)
      go_wp2
      go_ret
      obtain ⟨p1, p2⟩ := push HO.out HB.out HO2.out HGr.out
      have e := H0.out
      subst e
      exact allOf HG.out (by simp) p1 p2 (told_last HT.out) (by have := HL.out; simp; omega)
    · have t1 : (nn s == 0) = false := by rw [b_eq0]; simpa using h0
      have f2 : IntKind.u64.wrap (nn s - 1) = nn (s - 1#64) := b_sub s 1#64
      have f3 : bits .and .u64 (nn (s - 1#64)) (nn a.m) = nn ((s - 1#64) &&& a.m) := b_and _ _
      have H0 := Lib.hid h0
      clear h0
      go_upto_region 4 with (at_builtin; refine wpList_append_own _ rfl _ _ 41 rfl W.heap.size 22 i0 (.int .u64 0) 1 8 Try.underlying41 hi hz0 hz1 hz2 rfl (by decide) _ _ _ rfl (HO.out.alloc _) ⟨wr.heap.size, 0, none⟩ 1 1 [.int .u64 (nn (a.v ||| s))] rfl rfl (one_new' _ _) (one_kind' _) (by have := HS.out; unfold maxLen; omega) (by have := HS.out; omega) (by have := HSZ.out; simp; omega) ?_; intro v' w2 hown2 hgrow _; have HO2 := Lib.hid hown2; have HGr := Lib.hid hgrow; clear hown2 hgrow)
      clear x1 x2 x3
      obtain ⟨p1, p2⟩ := push HO.out HB.out HO2.out HGr.out
      have P1 := Lib.hid p1
      have P2 := Lib.hid p2
      have A2 := HA.out.next p2
      clear p1 p2
      obtain ⟨x1, x2, x3⟩ := A2
      go_wp2
      go_roundw
      case rel => exact ⟨_, _, rfl, told_next HT.out H0.out, P1.out, P2.out⟩
      case measure =>
        have := (sub_next HT.out.1 H0.out).2.1
        simp only [intOf, nn]
        omega
end Go.Proofs.Ytpmhojfbjhgjpaa
