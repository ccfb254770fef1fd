/-
  Of at most four unknown bits each: each operation's answer is the tightest tnum of all that it makes of all pairs.
-/
import Derived.Test.YtpmhojfbjhgjpaaTall
import Derived.Test.YtpmhojfbjhgjpaaSh
import Derived.Test.YtpmhojfbjhgjpaaArr
import Derived.Test.YtpmhojfbjhgjpaaRefL
import Derived.Deep.DeepCutAuto
import Derived.Deep.RegionHeld3
import Derived.StillTailTactics
import Derived.OwnWalk
import Derived.IntWalk
import Derived.Laws.CopyOwn
import Derived.Test.YtpmhojfbjhgjpaaFr
import Derived.ProofKit
import Derived.ChangeSame
namespace Go.Proofs.Ytpmhojfbjhgjpaa.tnumTight
open Go.ChangeShapes Go.WideShapes Go.ChangeAt Go.RowKit Go.Joins
set_option linter.unusedVariables false
set_option linter.unusedSimpArgs false
def Cel (w : World) (b : Nat) (t : T) : Prop := At w b t ∧ w.frozen? ⟨b, 0, none⟩ = false ∧ w.frozen? ⟨b, 1, none⟩ = false
theorem Cel.next {w w1 : World} {b : Nat} {t : T} (h : Cel w b t) (g : Below w.heap.size w w1) : Cel w1 b t :=
  ⟨h.1.next g, (g.frozen (p := ⟨b, 0, none⟩) h.1.2.2).trans h.2.1, (g.frozen (p := ⟨b, 1, none⟩) h.1.2.2).trans h.2.2⟩
theorem Cel.far {w : World} {b p : Nat} {t : T} (h : Cel w b t) (hne : b ≠ p) (o : Nat) (x : Value) : Cel (w.setCell ⟨p, o, none⟩ x) b t := by
  refine ⟨⟨?_, ?_, ?_⟩, ?_, ?_⟩
  · rw [World.cell?_setCell_far _ _ _ _ (by simp only [ne_eq]; omega)]; exact h.1.1
  · rw [World.cell?_setCell_far _ _ _ _ (by simp only [ne_eq]; omega)]; exact h.1.2.1
  · simpa using h.1.2.2
  · rw [World.frozen?_setCell]; exact h.2.1
  · rw [World.frozen?_setCell]; exact h.2.2
theorem Cel.mask {w : World} {b : Nat} {t : T} (h : Cel w b t) (x : BitVec 64) : Cel (w.setCell ⟨b, 1, none⟩ (.int .u64 (nn x))) b ⟨t.v, x⟩ := by
  obtain ⟨⟨h1, h2, h3⟩, h4, h5⟩ := h
  refine ⟨⟨?_, ?_, ?_⟩, ?_, ?_⟩
  · go_cell
  · go_cell
  · simpa using h3
  · rw [World.frozen?_setCell]; exact h4
  · rw [World.frozen?_setCell]; exact h5
theorem Cel.value {w : World} {b : Nat} {t : T} (h : Cel w b t) (x : BitVec 64) : Cel (w.setCell ⟨b, 0, none⟩ (.int .u64 (nn x))) b ⟨x, t.m⟩ := by
  obtain ⟨⟨h1, h2, h3⟩, h4, h5⟩ := h
  refine ⟨⟨?_, ?_, ?_⟩, ?_, ?_⟩
  · go_cell
  · go_cell
  · simpa using h3
  · rw [World.frozen?_setCell]; exact h4
  · rw [World.frozen?_setCell]; exact h5
theorem Cel.new (w : World) : Cel (w.alloc (.cells #[.int .u64 0, .int .u64 0] 24)) w.heap.size ⟨0#64, 0#64⟩ :=
  have e : nn 0#64 = 0 := rfl
  ⟨⟨by rw [e]; go_cell, by rw [e]; go_cell, by simp⟩, by go_simp, by go_simp⟩
/-- A row of bytes lies in a block. -/
def Row (w : World) (b : Nat) (zs : List Nat) : Prop := b < w.heap.size ∧ ∀ j, j < zs.length → w.cell? ⟨b, j, none⟩ = some (.int .u8 (zs.getD j 0 : Nat))
theorem Row.next {w w1 : World} {b : Nat} {zs : List Nat} (h : Row w b zs) (g : Below w.heap.size w w1) : Row w1 b zs :=
  ⟨Nat.lt_of_lt_of_le h.1 g.size, fun j hj => (g.cell (p := ⟨b, j, none⟩) h.1).trans (h.2 j hj)⟩
theorem Row.far {w : World} {b p : Nat} {zs : List Nat} (h : Row w b zs) (hne : b ≠ p) (o : Nat) (x : Value) : Row (w.setCell ⟨p, o, none⟩ x) b zs :=
  ⟨by simpa using h.1, fun j hj => by rw [World.cell?_setCell_far _ _ _ _ (by simp only [ne_eq]; omega)]; exact h.2 j hj⟩
theorem Row.new (w : World) (zs : List Nat) (n : TypeId) : Row (w.alloc (.cells (zs.map (fun z => Value.int .u8 (z : Nat))).toArray n)) w.heap.size zs := by
  refine ⟨by simp, fun j hj => ?_⟩
  rw [World.cell?_alloc_new]
  simp [List.getD_eq_getElem?_getD, List.getElem?_eq_getElem hj]
theorem b_two (k : Nat) : IntKind.u64.wrap (2 ^ k) = nn (BitVec.twoPow 64 k) := by
  unfold nn
  rw [IntKind.wrap_u64, BitVec.toNat_twoPow]
  simp
/-- A word with one bit at most. -/
def One (b : BitVec 64) : Prop := ∀ i j, i < 64 → j < 64 → b.getLsbD i = true → b.getLsbD j = true → i = j
theorem one_two (k : Nat) : One (BitVec.twoPow 64 k) := by
  intro i j hi' hj h1 h2
  rw [BitVec.getLsbD_twoPow] at h1 h2
  simp at h1 h2
  omega
theorem pow_of (z : Nat) : ∃ B, Hid (One B) ∧ IntKind.u64.wrap (2 ^ ((z : Int) % 64).toNat) = nn B := by
  refine ⟨BitVec.twoPow 64 (z % 64), Lib.hid (one_two _), ?_⟩
  rw [show ((z : Int) % 64).toNat = z % 64 by omega]
  exact b_two _
/-- A list of words lies in a block. -/
def Got (l : List (BitVec 64)) (g : Nat) (w : World) : Prop := g < w.heap.size ∧ ∀ j, j < l.length → w.cell? ⟨g, j, none⟩ = some (.int .u64 (nn (l.getD j 0#64)))
theorem Got.next {l : List (BitVec 64)} {g : Nat} {w w1 : World} (h : Got l g w) (b : Below w.heap.size w w1) : Got l g w1 :=
  ⟨Nat.lt_of_lt_of_le h.1 b.size, fun j hj => (b.cell (p := ⟨g, j, none⟩) h.1).trans (h.2 j hj)⟩
def AllG (W : World) (a : T) (l : List (BitVec 64)) (g : Nat) (w' : World) : Prop := Got l g w' ∧ Whole a l ∧ l.length ≤ 16 ∧ Below W.heap.size W w'
theorem allG {W w' : World} {a : T} {e : Ending} (h : AllOf W a 4 e w') : ∃ (l : List (BitVec 64)) (g cap : Nat), e = .returned (.slice (some ⟨g, 0, none⟩) l.length cap) ∧ AllG W a l g w' := by
  obtain ⟨l, g, cap, rfl, hg, hc, hw, hn, hb⟩ := h
  refine ⟨l, g, cap, rfl, ⟨hg, fun j hj => ?_⟩, hw, hn, hb⟩
  rw [hc j hj, List.getElem?_map, List.getElem?_eq_getElem hj, List.getD_eq_getElem?_getD, List.getElem?_eq_getElem hj]
  rfl
/-- Both rows, and both tnums, lie there. -/
def Sets (W : World) (P Q : Nat) (S R : T) (x y : Value) (wx : World) : Prop :=
  ∃ (l l' : List (BitVec 64)) (g g' cap cap' : Nat), x = .slice (some ⟨g, 0, none⟩) l.length cap ∧ y = .slice (some ⟨g', 0, none⟩) l'.length cap' ∧
    Got l g wx ∧ Got l' g' wx ∧ Whole S l ∧ Whole R l' ∧ l.length ≤ 16 ∧ l'.length ≤ 16 ∧ Cel wx P S ∧ Cel wx Q R ∧ Below W.heap.size W wx
def LO (W : World) (c K : Nat) (l l' : List (BitVec 64)) (m i : Value) (wr : World) : Prop :=
  ∃ k : Nat, k ≤ l.length ∧ i = .int .i64 k ∧ wr.ownsRow W.heap.size 22 1 m (prods c K (l.take k) l').length ((prods c K (l.take k) l').map WU) ∧ Below W.heap.size W wr
def LI (W : World) (c K : Nat) (l l' : List (BitVec 64)) (k : Nat) (m jj : Value) (wr : World) : Prop :=
  ∃ j : Nat, j ≤ l'.length ∧ jj = .int .i64 j ∧ wr.ownsRow W.heap.size 22 1 m (prods c K (l.take k) l' ++ (l'.take j).map (opf c K (l.getD k 0#64))).length ((prods c K (l.take k) l' ++ (l'.take j).map (opf c K (l.getD k 0#64))).map WU) ∧ Below W.heap.size W wr
theorem own_below' {w w' : World} {B e size n : Nat} {v : Value} {xs : List Value} (h : w.ownsRow B e size v n xs) (hb : Below w.heap.size w w') : w'.ownsRow B e size v n xs := by
  refine ⟨h.1, ?_⟩
  rcases h.2 with h2 | ⟨g, cap, cur, rfl, h3, h4, rest⟩
  · exact Or.inl h2
  · exact Or.inr ⟨g, cap, cur, rfl, h3, (hb.block g (by have := (h.lt g rfl).2; omega)).trans h4, rest⟩
theorem cnt_lt (n : Int) : cnt n 8 < 8 := by unfold cnt; omega
theorem k81 (n : Int) : IntKind.i64.wrap (n.tmod 8 + 8) = n.tmod 8 + 8 := by
  have h1 := Int.lt_tmod_of_pos n (by decide : (0 : Int) < 8)
  have h2 := Int.tmod_lt_of_pos n (by decide : (0 : Int) < 8)
  rw [IntKind.wrap_i64]; omega
theorem k82 (n : Int) : wrap64 (n.tmod 8 + 8) = n.tmod 8 + 8 := by
  have h1 := Int.lt_tmod_of_pos n (by decide : (0 : Int) < 8)
  have h2 := Int.tmod_lt_of_pos n (by decide : (0 : Int) < 8)
  unfold wrap64; omega
theorem k83 (n : Int) : (n.tmod 8 + 8).tmod 8 = (cnt n 8 : Int) := by
  have h1 := Int.lt_tmod_of_pos n (by decide : (0 : Int) < 8)
  have h2 := Int.tmod_lt_of_pos n (by decide : (0 : Int) < 8)
  rw [Int.tmod_eq_emod_of_nonneg (by omega)]
  unfold cnt
  have h3 := Int.tmod_def n 8
  have h4 : n.tmod 8 % 8 = n % 8 := by
    rw [h3, Int.sub_mul_emod_self_left]
  omega
theorem prods_len (c K : Nat) (x y : List (BitVec 64)) : (prods c K x y).length = x.length * y.length := by
  unfold prods
  induction x with
  | nil => simp
  | cons a r ih => rw [List.flatMap_cons, List.length_append, ih, List.length_map, List.length_cons, Nat.add_mul]; omega
theorem few_len {c K k j : Nat} {l l' : List (BitVec 64)} {f : BitVec 64 → BitVec 64} (h : l.length ≤ 16) (h' : l'.length ≤ 16) (hk : k ≤ l.length) (hj : j ≤ l'.length) : (prods c K (l.take k) l' ++ (l'.take j).map f).length + 1 ≤ 1024 := by
  rw [List.length_append, prods_len, List.length_map, List.length_take, List.length_take]
  have : min k l.length * l'.length ≤ 16 * 16 := Nat.mul_le_mul (by omega) h'
  omega
theorem snoc_map {f : BitVec 64 → BitVec 64} (M l : List (BitVec 64)) (j : Nat) (h : j < l.length) : M ++ (l.take (j + 1)).map f = (M ++ (l.take j).map f) ++ [f (l.getD j 0#64)] := by
  rw [take_snoc l j h, List.map_append, List.append_assoc]; rfl
theorem prods_snoc {c K : Nat} (l l' : List (BitVec 64)) (k : Nat) (h : k < l.length) : prods c K (l.take (k + 1)) l' = prods c K (l.take k) l' ++ l'.map (opf c K (l.getD k 0#64)) := by
  unfold prods
  rw [take_snoc l k h, List.flatMap_append]; simp
theorem o_add {S R : T} (hS : wf S) (hR : wf R) {K : Nat} (w : World) : Calls Try.prog 24 #[.agg #[.int .u64 (nn S.v), .int .u64 (nn S.m)], .agg #[.int .u64 (nn R.v), .int .u64 (nn R.m)]] w fun e w' => e = .returned (.agg #[.int .u64 (nn (opT 0 K S R).v), .int .u64 (nn (opT 0 K S R).m)]) ∧ Below w.heap.size w w' := by
  have h := add_any S R w
  unfold add at h
  rw [kn_wf hS, kn_wf hR] at h
  exact h
theorem o_sub {S R : T} (hS : wf S) (hR : wf R) {K : Nat} (w : World) : Calls Try.prog 26 #[.agg #[.int .u64 (nn S.v), .int .u64 (nn S.m)], .agg #[.int .u64 (nn R.v), .int .u64 (nn R.m)]] w fun e w' => e = .returned (.agg #[.int .u64 (nn (opT 1 K S R).v), .int .u64 (nn (opT 1 K S R).m)]) ∧ Below w.heap.size w w' := by
  have h := sub_any S R w
  unfold sub at h
  rw [kn_wf hS, kn_wf hR] at h
  exact h
theorem o_and {S R : T} (hS : wf S) (hR : wf R) {K : Nat} (w : World) : Calls Try.prog 28 #[.agg #[.int .u64 (nn S.v), .int .u64 (nn S.m)], .agg #[.int .u64 (nn R.v), .int .u64 (nn R.m)]] w fun e w' => e = .returned (.agg #[.int .u64 (nn (opT 2 K S R).v), .int .u64 (nn (opT 2 K S R).m)]) ∧ Below w.heap.size w w' := by
  have h := and_any S R w
  unfold and at h
  rw [kn_wf hS, kn_wf hR] at h
  exact h
theorem o_or {S R : T} (hS : wf S) (hR : wf R) {K : Nat} (w : World) : Calls Try.prog 30 #[.agg #[.int .u64 (nn S.v), .int .u64 (nn S.m)], .agg #[.int .u64 (nn R.v), .int .u64 (nn R.m)]] w fun e w' => e = .returned (.agg #[.int .u64 (nn (opT 3 K S R).v), .int .u64 (nn (opT 3 K S R).m)]) ∧ Below w.heap.size w w' := by
  have h := or_any S R w
  unfold or at h
  rw [kn_wf hS, kn_wf hR] at h
  exact h
theorem o_xor {S R : T} (hS : wf S) (hR : wf R) {K : Nat} (w : World) : Calls Try.prog 32 #[.agg #[.int .u64 (nn S.v), .int .u64 (nn S.m)], .agg #[.int .u64 (nn R.v), .int .u64 (nn R.m)]] w fun e w' => e = .returned (.agg #[.int .u64 (nn (opT 4 K S R).v), .int .u64 (nn (opT 4 K S R).m)]) ∧ Below w.heap.size w w' := by
  have h := xor_any S R w
  unfold xor at h
  rw [kn_wf hS, kn_wf hR] at h
  exact h
theorem o_lsh {S R : T} (hS : wf S) {n : Int} {K : Nat} (hK : cnt n 64 = K) (w : World) : Calls Try.prog 34 #[.agg #[.int .u64 (nn S.v), .int .u64 (nn S.m)], .int .i64 n] w fun e w' => e = .returned (.agg #[.int .u64 (nn (opT 5 K S R).v), .int .u64 (nn (opT 5 K S R).m)]) ∧ Below w.heap.size w w' := by
  have h := lsh_any S n w
  unfold shl at h
  rw [kn_wf hS, hK] at h
  exact h
theorem o_rsh {S R : T} (hS : wf S) {n : Int} {K : Nat} (hK : cnt n 64 = K) (w : World) : Calls Try.prog 36 #[.agg #[.int .u64 (nn S.v), .int .u64 (nn S.m)], .int .i64 n] w fun e w' => e = .returned (.agg #[.int .u64 (nn (opT 6 K S R).v), .int .u64 (nn (opT 6 K S R).m)]) ∧ Below w.heap.size w w' := by
  have h := rsh_any S n w
  unfold shr at h
  rw [kn_wf hS, hK] at h
  exact h
theorem o_arsh {S R : T} (hS : wf S) {n : Int} {K : Nat} (hK : cnt n 64 = K) (w : World) : Calls Try.prog 38 #[.agg #[.int .u64 (nn S.v), .int .u64 (nn S.m)], .int .i64 n, .bool true] w fun e w' => e = .returned (.agg #[.int .u64 (nn (opT 7 K S R).v), .int .u64 (nn (opT 7 K S R).m)]) ∧ Below w.heap.size w w' := by
  have h := arsh_any S n w
  unfold sar at h
  rw [kn_wf hS, hK] at h
  exact h
theorem prods_ne {c K : Nat} {x y : List (BitVec 64)} (hx : x ≠ []) (hy : y ≠ []) : prods c K x y ≠ [] := by
  intro h
  have := prods_len c K x y
  rw [h] at this
  have h1 : 0 < x.length := List.length_pos_iff.2 hx
  have h2 : 0 < y.length := List.length_pos_iff.2 hy
  have := Nat.mul_pos h1 h2
  simp at *
  omega
theorem made_got {w : World} {B : Nat} {m : Value} {L : List (BitVec 64)} (hne : L ≠ []) (h : w.ownsRow B 22 1 m L.length (L.map WU)) : ∃ g cap, m = .slice (some ⟨g, 0, none⟩) L.length cap ∧ Got L g w := by
  rcases h.2 with ⟨_, h2⟩ | ⟨g, cap, cur, rfl, hb', hgg, rest⟩
  · exact absurd (List.length_eq_zero_iff.1 h2) hne
  · refine ⟨g, cap, rfl, (h.lt g rfl).2, fun j hj => ?_⟩
    rw [h.cellAt j (by omega), List.getElem?_map, List.getElem?_eq_getElem hj, List.getD_eq_getElem?_getD, List.getElem?_eq_getElem hj]
    rfl
theorem tight_call {S R : T} (hS : wf S) (hR : wf R) {c K : Nat} {l l' : List (BitVec 64)} (hw : Whole S l) (hw' : Whole R l') (h1 : l.length ≤ 16) (h2 : l'.length ≤ 16) {g cap : Nat} {w : World} (h : Got (prods c K l l') g w) :
    Calls Try.prog 48 #[.slice (some ⟨g, 0, none⟩) (prods c K l l').length cap] w fun e w' => e = .returned (.agg #[.int .u64 (nn (opT c K S R).v), .int .u64 (nn (opT c K S R).m)]) ∧ Below w.heap.size w w' := by
  have hl : (prods c K l l').length ≤ 100000 := by
    rw [prods_len]
    have : l.length * l'.length ≤ 16 * 16 := Nat.mul_le_mul h1 h2
    omega
  have hne := prods_ne (c := c) (K := K) hw.1 hw'.1
  have ht := @tight_prods S R hS hR l l' hw hw' c K
  generalize prods c K l l' = L at *
  match L, hne with
  | v0 :: r, _ =>
    have t := tightest_any g cap v0 r w hl h.1 h.2
    rw [ht rfl] at t
    exact t
def R22 (W : World) (P Q : Nat) (S R : T) (L : List (BitVec 64)) (g : Nat) (w : World) : Prop := Cel w P S ∧ Cel w Q R ∧ Got L g w ∧ Below W.heap.size W w
theorem R22.next {W : World} {P Q : Nat} {S R : T} {L : List (BitVec 64)} {g : Nat} {w w1 : World} (h : R22 W P Q S R L g w) (b : Below w.heap.size w w1) : R22 W P Q S R L g w1 :=
  ⟨h.1.next b, h.2.1.next b, h.2.2.1.next b, bl_trans h.2.2.2 b⟩
theorem R22.cells {W : World} {P Q : Nat} {S R : T} {L : List (BitVec 64)} {g : Nat} {w : World} (h : R22 W P Q S R L g w) :
    w.cell? ⟨P, 0, none⟩ = some (.int .u64 (nn S.v)) ∧ w.cell? ⟨P, 1, none⟩ = some (.int .u64 (nn S.m)) ∧ w.cell? ⟨Q, 0, none⟩ = some (.int .u64 (nn R.v)) ∧ w.cell? ⟨Q, 1, none⟩ = some (.int .u64 (nn R.m)) ∧ R22 W P Q S R L g w :=
  ⟨h.1.1.1, h.1.1.2.1, h.2.1.1.1, h.2.1.1.2.1, h⟩
theorem keep22 {W : World} {P Q : Nat} {S R : T} {L : List (BitVec 64)} {g : Nat} {w w1 : World} (b : Below w.heap.size w w1)
    (h : w.cell? ⟨P, 0, none⟩ = some (.int .u64 (nn S.v)) ∧ w.cell? ⟨P, 1, none⟩ = some (.int .u64 (nn S.m)) ∧ w.cell? ⟨Q, 0, none⟩ = some (.int .u64 (nn R.v)) ∧ w.cell? ⟨Q, 1, none⟩ = some (.int .u64 (nn R.m)) ∧ R22 W P Q S R L g w) :
    w1.cell? ⟨P, 0, none⟩ = some (.int .u64 (nn S.v)) ∧ w1.cell? ⟨P, 1, none⟩ = some (.int .u64 (nn S.m)) ∧ w1.cell? ⟨Q, 0, none⟩ = some (.int .u64 (nn R.v)) ∧ w1.cell? ⟨Q, 1, none⟩ = some (.int .u64 (nn R.m)) ∧ R22 W P Q S R L g w1 :=
  (h.2.2.2.2.next b).cells
def gotC (K : Nat) (S R : T) : Array Value := #[.int .u64 (nn (opT 0 K S R).v), .int .u64 (nn (opT 0 K S R).m), .int .u64 (nn (opT 1 K S R).v), .int .u64 (nn (opT 1 K S R).m), .int .u64 (nn (opT 2 K S R).v), .int .u64 (nn (opT 2 K S R).m), .int .u64 (nn (opT 3 K S R).v), .int .u64 (nn (opT 3 K S R).m), .int .u64 (nn (opT 4 K S R).v), .int .u64 (nn (opT 4 K S R).m), .int .u64 (nn (opT 5 K S R).v), .int .u64 (nn (opT 5 K S R).m), .int .u64 (nn (opT 6 K S R).v), .int .u64 (nn (opT 6 K S R).m), .int .u64 (nn (opT 7 K S R).v), .int .u64 (nn (opT 7 K S R).m)]
def ZZ16 : Array Value := #[.int .u64 0, .int .u64 0, .int .u64 0, .int .u64 0, .int .u64 0, .int .u64 0, .int .u64 0, .int .u64 0, .int .u64 0, .int .u64 0, .int .u64 0, .int .u64 0, .int .u64 0, .int .u64 0, .int .u64 0, .int .u64 0]
theorem gotC_one (K : Nat) (S R : T) : ((gotC K S R).all fun x => x.oneCell') = true := by kernel_rfl
/-- What is asked behind the table's store. -/
def R23 (W : World) (b c K : Nat) (S R : T) (L : List (BitVec 64)) (g : Nat) (w : World) : Prop :=
  (b < w.heap.size ∧ w.cell? ⟨b, c * 2, none⟩ = some (.int .u64 (nn (opT c K S R).v)) ∧ w.cell? ⟨b, c * 2 + 1, none⟩ = some (.int .u64 (nn (opT c K S R).m))) ∧ Got L g w ∧ Below W.heap.size W w
theorem got_cells {w : World} {b c K : Nat} {S R : T} (h : w.heap[b]? = some (.cells (gotC K S R) 44 (0, 0))) (hc : c < 8) :
    b < w.heap.size ∧ w.cell? ⟨b, c * 2, none⟩ = some (.int .u64 (nn (opT c K S R).v)) ∧ w.cell? ⟨b, c * 2 + 1, none⟩ = some (.int .u64 (nn (opT c K S R).m)) := by
  refine ⟨(Array.getElem?_eq_some_iff.1 h).1, ?_, ?_⟩
  all_goals
    simp only [World.cell?, h]
    match c, hc with
    | 0, _ => rfl
    | 1, _ => rfl
    | 2, _ => rfl
    | 3, _ => rfl
    | 4, _ => rfl
    | 5, _ => rfl
    | 6, _ => rfl
    | 7, _ => rfl
theorem R23.next {W : World} {b c K : Nat} {S R : T} {L : List (BitVec 64)} {g : Nat} {w w1 : World} (h : R23 W b c K S R L g w) (bl : Below w.heap.size w w1) : R23 W b c K S R L g w1 :=
  ⟨⟨Nat.lt_of_lt_of_le h.1.1 bl.size, (bl.cell (p := ⟨b, c * 2, none⟩) h.1.1).trans h.1.2.1, (bl.cell (p := ⟨b, c * 2 + 1, none⟩) h.1.1).trans h.1.2.2⟩, h.2.1.next bl, bl_trans h.2.2 bl⟩
def ZZ8 : Array Value := #[.int .u64 0, .int .u64 0, .int .u64 0, .int .u64 0, .int .u64 0, .int .u64 0, .int .u64 0, .int .u64 0]
def vC (K : Nat) (X Y : BitVec 64) : Array Value := #[.int .u64 (nn (X + Y)), .int .u64 (nn (X - Y)), .int .u64 (nn (X &&& Y)), .int .u64 (nn (X ||| Y)), .int .u64 (nn (X ^^^ Y)), .int .u64 (nn (X <<< K)), .int .u64 (nn (X >>> K)), .int .u64 (IntKind.u64.wrap (IntKind.i64.wrap (nn X) / 2 ^ K))]
theorem vC_one (K : Nat) (X Y : BitVec 64) : ((vC K X Y).all fun x => x.oneCell') = true := by kernel_rfl
theorem vC_cells {w : World} {b K : Nat} {X Y : BitVec 64} (h : w.heap[b]? = some (.cells (vC K X Y) 43 (0, 0))) (c : Nat) (hc : c < 8) : w.cell? ⟨b, c, none⟩ = some (.int .u64 (nn (opf c K X Y))) := by
  have e7 : IntKind.u64.wrap (IntKind.i64.wrap (nn X) / 2 ^ K) = nn (X.sshiftRight K) := by
    rw [show IntKind.i64.wrap (nn X) = X.toInt from by rw [IntKind.wrap_i64]; have := b_int X; unfold wrap64 at this; omega, b_sar]
  unfold vC at h
  rw [e7] at h
  simp only [World.cell?, h]
  match c, hc with
  | 0, _ => rfl
  | 1, _ => rfl
  | 2, _ => rfl
  | 3, _ => rfl
  | 4, _ => rfl
  | 5, _ => rfl
  | 6, _ => rfl
  | 7, _ => rfl
def R20 (W : World) (g k g' j : Nat) (X Y : BitVec 64) (w : World) : Prop :=
  g < w.heap.size ∧ g' < w.heap.size ∧ w.cell? ⟨g, k, none⟩ = some (.int .u64 (nn X)) ∧ w.cell? ⟨g', j, none⟩ = some (.int .u64 (nn Y)) ∧ Below W.heap.size W w
theorem R20.next {W : World} {g k g' j : Nat} {X Y : BitVec 64} {w w1 : World} (h : R20 W g k g' j X Y w) (b : Below w.heap.size w w1) : R20 W g k g' j X Y w1 :=
  ⟨Nat.lt_of_lt_of_le h.1 b.size, Nat.lt_of_lt_of_le h.2.1 b.size, (b.cell (p := ⟨g, k, none⟩) h.1).trans h.2.2.1, (b.cell (p := ⟨g', j, none⟩) h.2.1).trans h.2.2.2.1, bl_trans h.2.2.2.2 b⟩
theorem keep2 {w w' : World} {g k g' j : Nat} {x y : Value} (h1 : w.cell? ⟨g, k, none⟩ = some x) (h2 : w.cell? ⟨g', j, none⟩ = some y) (hg : g < w.heap.size) (hg' : g' < w.heap.size) (b : Below w.heap.size w w') :
    w'.cell? ⟨g, k, none⟩ = some x ∧ w'.cell? ⟨g', j, none⟩ = some y ∧ Below w.heap.size w w' :=
  ⟨(b.cell (p := ⟨g, k, none⟩) hg).trans h1, (b.cell (p := ⟨g', j, none⟩) hg').trans h2, b⟩
def RV (W : World) (K : Nat) (X Y : BitVec 64) (v : Value) (wx : World) : Prop :=
  ∃ N : Nat, v = .pointer (some ⟨N, 0, none⟩) ∧ N < wx.heap.size ∧ Below W.heap.size W wx ∧ ∀ c, c < 8 → wx.cell? ⟨N, c, none⟩ = some (.int .u64 (nn (opf c K X Y)))
def L1 (W : World) (B P Q : Nat) (zs : List Nat) (i : Value) (wr : World) : Prop :=
  ∃ (k : Nat) (s t : BitVec 64), k ≤ 4 ∧ i = .int .i64 k ∧ Cel wr P ⟨0#64, s⟩ ∧ Cel wr Q ⟨0#64, t⟩ ∧ Few k s ∧ Few k t ∧ Row wr B zs ∧ Below W.heap.size W wr
set_option maxHeartbeats 4000000 in
set_option maxRecDepth 100000 in
theorem walkA (a b : BitVec 64) (zs : List Nat) (hz : zs.length = 8) (hu : ∀ z ∈ zs, z ≤ 255) (op n : Int) (w : World) : Calls Try.prog 5 #[.int .u64 (nn a), .int .u64 (nn b), .agg (zs.map (fun z => Value.int .u8 (z : Nat))).toArray, .int .i64 op, .int .i64 n] w fun e w' => e = .returned (.bool true) ∧ Below w.heap.size w w' := by
  have hk := Lib.hid known_any
  have HZ := Lib.hid hz
  have HU := Lib.hid hu
  clear hz hu
  go_enter Try.func5, Try.ntmps5
  go_upto_region 1 with (fail)
  have R0 := Row.new w zs 40
  have g0 : Below w.heap.size w (w.alloc (.cells (zs.map (fun z => Value.int .u8 (z : Nat))).toArray 40)) := by go_grown
  generalize w.alloc (.cells (zs.map (fun z => Value.int .u8 (z : Nat))).toArray 40) = w0 at *
  go_upto_region 3 with ((with_reducible refine (hk.out _).mono ?_); rintro e w1 ⟨rfl, g1⟩)
  have R1 := R0.next g1
  go_upto_region 4 with (fail)
  have C1 := (Cel.new w1).next (Below.alloc (Below.refl _ _) (Nat.le_refl _) (.cells #[.int .u64 0, .int .u64 0] 24))
  have C2 := Cel.new (w1.alloc (.cells #[.int .u64 0, .int .u64 0] 24))
  have R2 := (R1.next (Below.alloc (Below.refl _ _) (Nat.le_refl _) (.cells #[.int .u64 0, .int .u64 0] 24))).next (Below.alloc (Below.refl _ _) (Nat.le_refl _) (.cells #[.int .u64 0, .int .u64 0] 24))
  have g2 := bl_alloc (bl_alloc (bl_trans g0 g1) (.cells #[.int .u64 0, .int .u64 0] 24)) (.cells #[.int .u64 0, .int .u64 0] 24)
  rw [World.size_alloc] at C2
  have hBP : w.heap.size < w1.heap.size := R1.1
  generalize hP : w1.heap.size = P at *
  generalize (w1.alloc (.cells #[.int .u64 0, .int .u64 0] 24)).alloc (.cells #[.int .u64 0, .int .u64 0] 24) = w2 at *
  generalize hQ : P + 1 = Q at *
  have hPQ : Hid (w.heap.size < P ∧ P < Q) := Lib.hid ⟨hBP, by omega⟩
  clear hP hQ g0 g1 R0 R1 hBP
  have HC1 := Lib.hid C1
  have HC2 := Lib.hid C2
  have HR := Lib.hid R2
  have HG := Lib.hid g2
  clear C1 C2 R2 g2
  go_wp2_with fail
  go_loopw [13] (fun i wr => L1 w w.heap.size P Q zs i wr) (fun i _ => 4 - (intOf i).toNat)
  case atStart => exact ⟨0, 0#64, 0#64, by omega, rfl, HC1.out, HC2.out, few_zero, few_zero, HR.out, HG.out⟩
  case round =>
    obtain ⟨k, s, t, hk4, rfl, c1, c2, f1, f2, rr, gg⟩ := hrel
    have F1 := Lib.hid f1
    have F2 := Lib.hid f2
    have RR := Lib.hid rr
    have GG := Lib.hid gg
    have CC1 := Lib.hid c1
    have CC2 := Lib.hid c2
    clear f1 f2 rr gg c1 c2
    by_cases hlt : k < 4
    · have hcell := RR.out.2 k (by rw [HZ.out]; omega)
      generalize zs.getD k 0 = z at *
      have p0 : ((z : Nat) : Int).tmod 64 = ((z % 64 : Nat) : Int) := by rw [Int.tmod_eq_emod_of_nonneg (by omega)]; omega
      obtain ⟨B, HB, p1⟩ := pow_of z
      have p2 := b_or s B
      have q1 : (0 : Int) ≤ (k : Int) := by omega
      have q2 : (k : Int) < 8 := by omega
      obtain ⟨⟨x1, x2, x3⟩, x4, x5⟩ := CC1.out
      go_upto_region 7 with fail
      go_still_tail 9, (by kernel_rfl)
      clear p0 p1 p2 q1 q2 hcell x1 x2 x3 x4 x5
      change wpList _ _ _ _ _ wr.drew
      have dd : Below wr.heap.size wr wr.drew := Below.drew (Below.refl _ _)
      have CC1' := Lib.hid (CC1.out.next dd)
      have CC2' := Lib.hid (CC2.out.next dd)
      have RR' := Lib.hid (RR.out.next dd)
      have GG' := Lib.hid (GG.out.trans (dd.mono GG.out.size))
      clear dd CC1 CC2 RR GG
      generalize wr.drew = wd at *
      obtain ⟨⟨x1, x2, x3⟩, x4, x5⟩ := CC1'.out
      go_upto_region 8 with fail
      clear x1 x2 x3 x4 x5
      have D1 := CC1'.out.mask (s ||| B)
      have D2 := CC2'.out.far (b := Q) (p := P) (by have := hPQ.out; omega) 1 (.int .u64 (nn (s ||| B)))
      have DR := RR'.out.far (p := P) (by have := hPQ.out; omega) 1 (.int .u64 (nn (s ||| B)))
      have DG : Below w.heap.size w (wd.setCell ⟨P, 1, none⟩ (.int .u64 (nn (s ||| B)))) := GG'.out.setCell (by have := hPQ.out; simp; omega) _
      clear CC1' CC2' RR' GG'
      generalize wd.setCell ⟨P, 1, none⟩ (.int .u64 (nn (s ||| B))) = we at *
      have hcell := DR.2 (4 + k) (by rw [HZ.out]; omega)
      have HD1 := Lib.hid D1
      have HD2 := Lib.hid D2
      have HDR := Lib.hid DR
      have HDG := Lib.hid DG
      clear D1 D2 DR DG
      generalize zs.getD (4 + k) 0 = y at *
      have p0 : ((y : Nat) : Int).tmod 64 = ((y % 64 : Nat) : Int) := by rw [Int.tmod_eq_emod_of_nonneg (by omega)]; omega
      obtain ⟨C, HC, p1⟩ := pow_of y
      have p2 := b_or t C
      have q1 : (0 : Int) ≤ 4 + (k : Int) := by omega
      have q2 : 4 + (k : Int) < 8 := by omega
      have q3 : IntKind.i64.wrap (4 + (k : Int)) = 4 + (k : Int) := IntWalk.i64_in _ (by omega)
      have q4 : (4 + (k : Int)).toNat = 4 + k := by omega
      obtain ⟨⟨x1, x2, x3⟩, x4, x5⟩ := HD2.out
      go_still_tail 10, (by kernel_rfl)
      clear p0 p1 p2 q1 q2 q3 q4 hcell x1 x2 x3 x4 x5
      change wpList _ _ _ _ _ we.drew
      have dd : Below we.heap.size we we.drew := Below.drew (Below.refl _ _)
      have E1 := Lib.hid (HD1.out.next dd)
      have E2 := Lib.hid (HD2.out.next dd)
      have ER := Lib.hid (HDR.out.next dd)
      have EG := Lib.hid (HDG.out.trans (dd.mono HDG.out.size))
      clear dd HD1 HD2 HDR HDG
      generalize we.drew = wf at *
      obtain ⟨⟨x1, x2, x3⟩, x4, x5⟩ := E2.out
      have q1 : IntKind.i64.wrap ((k : Int) + 1) = (k : Int) + 1 := IntWalk.i64_in _ (by omega)
      go_wp2
      go_roundw
      case rel =>
        refine ⟨k + 1, s ||| B, t ||| C, by omega, by go_num, ?_, ?_, few_step F1.out HB.out, few_step F2.out HC.out, ?_, ?_⟩
        · exact E1.out.far (by have := hPQ.out; omega) _ _
        · exact E2.out.mask _
        · exact ER.out.far (by have := hPQ.out; omega) _ _
        · exact EG.out.setCell (by have := hPQ.out; simp; omega) _
      case measure => simp [intOf]; omega
    · have e : k = 4 := by omega
      subst e
      rw [show ((4 : Nat) : Int) = 4 from rfl]
      obtain ⟨⟨x1, x2, x3⟩, x4, x5⟩ := CC1.out
      have p1 : bits .andNot .u64 (nn a) (nn s) = nn (a &&& ~~~s) := b_not _ _
      have p2 : bits .andNot .u64 (nn b) (nn t) = nn (b &&& ~~~t) := b_not _ _
      go_upto_region 10 with fail
      clear x1 x2 x3 x4 x5
      have D1 := Lib.hid (CC1.out.value (a &&& ~~~s))
      have D2 := Lib.hid (CC2.out.far (b := Q) (p := P) (by have := hPQ.out; omega) 0 (.int .u64 (nn (a &&& ~~~s))))
      have DG : Hid (Below w.heap.size w (wr.setCell ⟨P, 0, none⟩ (.int .u64 (nn (a &&& ~~~s))))) := Lib.hid (GG.out.setCell (by have := hPQ.out; simp; omega) _)
      clear CC1 CC2 RR GG
      generalize wr.setCell ⟨P, 0, none⟩ (.int .u64 (nn (a &&& ~~~s))) = we at *
      obtain ⟨⟨x1, x2, x3⟩, x4, x5⟩ := D2.out
      go_upto_region 11 with fail
      clear x1 x2 x3 x4 x5
      have E2 := Lib.hid (D2.out.value (b &&& ~~~t))
      have E1 := Lib.hid (D1.out.far (b := P) (p := Q) (by have := hPQ.out; omega) 0 (.int .u64 (nn (b &&& ~~~t))))
      have EG : Hid (Below w.heap.size w (we.setCell ⟨Q, 0, none⟩ (.int .u64 (nn (b &&& ~~~t))))) := Lib.hid (DG.out.setCell (by have := hPQ.out; simp; omega) _)
      clear D1 D2 DG
      generalize we.setCell ⟨Q, 0, none⟩ (.int .u64 (nn (b &&& ~~~t))) = wg at *
      clear p1 p2
      have wS : Hid (wf ⟨a &&& ~~~s, s⟩) := Lib.hid (wf_wo a s)
      have wR : Hid (wf ⟨b &&& ~~~t, t⟩) := Lib.hid (wf_wo b t)
      obtain ⟨S, hSv, hSm⟩ : ∃ S : T, S.v = a &&& ~~~s ∧ S.m = s := ⟨⟨_, _⟩, rfl, rfl⟩
      obtain ⟨R, hRv, hRm⟩ : ∃ R : T, R.v = b &&& ~~~t ∧ R.m = t := ⟨⟨_, _⟩, rfl, rfl⟩
      obtain rfl : S = ⟨a &&& ~~~s, s⟩ := T.ext' hSv hSm
      obtain rfl : R = ⟨b &&& ~~~t, t⟩ := T.ext' hRv hRm
      clear hSv hSm hRv hRm
      generalize hS : (⟨a &&& ~~~s, s⟩ : T) = S at *
      generalize hR : (⟨b &&& ~~~t, t⟩ : T) = R at *
      have FS : Few 4 S.m := by rw [← hS]; exact F1.out
      have FR : Few 4 R.m := by rw [← hR]; exact F2.out
      clear hS hR F1 F2
      have AS := Lib.hid (fun w => all_any S 4 (by omega) FS w)
      have AR := Lib.hid (fun w => all_any R 4 (by omega) FR w)
      clear FS FR
      go_cut [14, 15] (fun x y wx => Sets w P Q S R x y wx)
      case first =>
        have dd : Below wg.heap.size wg wg.drew := Below.drew (Below.refl _ _)
        have d1 := E1.out.next dd
        have d2 := E2.out.next dd
        have HG := Lib.hid (EG.out.trans (dd.mono EG.out.size))
        clear dd E1 E2 EG
        obtain ⟨⟨y1, y2, y3⟩, y4, y5⟩ := id d1
        obtain ⟨⟨z1, z2, z3⟩, z4, z5⟩ := id d2
        go_region_with (first
          | (go_at_call 47; (with_reducible refine (AS.out _).mono ?_); rintro e w3 hx; obtain ⟨lS, gS, cS, rfl, hy⟩ := allG hx; clear hx; have bS := hy.2.2.2; have HS := Lib.hid hy; clear hy; have d1 := Cel.next (b := P) (t := S) (by assumption) bS; have d2 := Cel.next (b := Q) (t := R) (by assumption) bS; obtain ⟨⟨y1, y2, y3⟩, y4, y5⟩ := id d1; obtain ⟨⟨z1, z2, z3⟩, z4, z5⟩ := id d2)
          | (go_at_call 47; (with_reducible refine (AR.out _).mono ?_); rintro e w4 hx; obtain ⟨lR, gR, cR, rfl, hy⟩ := allG hx; clear hx; have bR := hy.2.2.2; have HR := Lib.hid hy; clear hy; have d1 := Cel.next (b := P) (t := S) (by assumption) bR; have d2 := Cel.next (b := Q) (t := R) (by assumption) bR; obtain ⟨⟨y1, y2, y3⟩, y4, y5⟩ := id d1; obtain ⟨⟨z1, z2, z3⟩, z4, z5⟩ := id d2))
        all_goals (go_wp2_with fail; go_meet)
        all_goals first
          | exact ⟨lS, lR, gS, gR, cS, cR, rfl, rfl, HS.out.1.next bR, HR.out.1, HS.out.2.1, HR.out.2.1, HS.out.2.2.1, HR.out.2.2.1, by assumption, by assumption, (HG.out.trans (bS.mono HG.out.size)).trans (bR.mono (Nat.le_trans HG.out.size bS.size))⟩
          | exact ⟨lS, lR, gS, gR, cS, cR, rfl, rfl, HS.out.1, HR.out.1.next bS, HS.out.2.1, HR.out.2.1, HS.out.2.2.1, HR.out.2.2.1, by assumption, by assumption, (HG.out.trans (bR.mono HG.out.size)).trans (bS.mono (Nat.le_trans HG.out.size bR.size))⟩
          | trace_state
      case rest =>
        obtain ⟨wk, rfl⟩ : ∃ wk : World, wk = wc := ⟨_, rfl⟩
        obtain ⟨l, l', g, g', cap, cap', rfl, rfl, hl, hl', hw, hw', hn, hn', cS, cR, hb⟩ := hcut
        have HL := Lib.hid hl
        have HL' := Lib.hid hl'
        have HW := Lib.hid hw
        have HW' := Lib.hid hw'
        have CS := Lib.hid cS
        have CR := Lib.hid cR
        have HB := Lib.hid hb
        clear hl hl' hw hw' cS cR hb AS AR E1 E2 EG
        have n1 := kk1 n
        have n2 := kk2 n
        have n3 := kk3 n
        go_upto_region 13 with fail
        clear n1 n2 n3
        have hK : cnt n 64 < 64 := by unfold cnt; omega
        generalize hKe : cnt n 64 = K at *
        have HK := Lib.hid hKe
        clear hKe
        go_wp2_with fail
        obtain ⟨i0, hi, hz0, hz1, hz2⟩ := info_parts info22'
        go_loopw [17, 18, 19, 20] (fun m i jj vv wr => LO wk (cnt op 8) K l l' m i wr) (fun _ i _ _ _ => l.length - (intOf i).toNat)
        case atStart => exact ⟨0, by omega, rfl, ⟨rfl, Or.inl ⟨rfl, rfl⟩⟩, Below.refl _ _⟩
        case round =>
          obtain ⟨k, hk', rfl, hown, hbl⟩ := hrel
          obtain ⟨wo, rfl⟩ : ∃ wo : World, wo = wr := ⟨_, rfl⟩
          have HO := Lib.hid hown
          have HBL := Lib.hid hbl
          clear hown hbl
          by_cases hlt : k < l.length
          · go_upto_region 18 with fail
            go_loopw [17, 19, 20] (fun m jj vv wr => LI wk (cnt op 8) K l l' k m jj wr) (fun _ jj _ _ => l'.length - (intOf jj).toNat)
            case atStart => exact ⟨0, by omega, rfl, by rw [List.take_zero, List.map_nil, List.append_nil]; exact HO.out, HBL.out⟩
            case round =>
              obtain ⟨j, hj', rfl, hown2, hbl2⟩ := hrel
              have HO2 := Lib.hid hown2
              have HBL2 := Lib.hid hbl2
              clear hown2 hbl2
              by_cases hjt : j < l'.length
              · have X1 := (HL.out.next HBL2.out).2 k hlt
                have X2 := (HL'.out.next HBL2.out).2 j hjt
                have HOK := Lib.hid HO2.out
                have HDD := Lib.hid (HBL2.out.trans ((Below.drew (Below.refl wr.heap.size wr)).mono HBL2.out.size))
                generalize hX : l.getD k 0#64 = X at *
                generalize hY : l'.getD j 0#64 = Y at *
                have HX := Lib.hid hX
                have HY := Lib.hid hY
                clear hX hY
                have q1 : (0 : Int) ≤ (k : Int) := by omega
                have q2 : (k : Int) < (l.length : Int) := by omega
                have q3 : (0 : Int) ≤ (j : Int) := by omega
                have q4 : (j : Int) < (l'.length : Int) := by omega
                have q5 : min K 64 = K := by omega
                have e0 := b_add X Y
                have e1 := b_sub X Y
                have e2 := b_and X Y
                have e3 := b_or X Y
                have e4 := b_xor X Y
                have e5 := b_shl X K
                have e6 := b_shr X K
                go_upto_region 20 with fail
                have hg1 : g < wr.heap.size := (HL.out.next HBL2.out).1
                have hg2 : g' < wr.heap.size := (HL'.out.next HBL2.out).1
                go_cut [20] (fun v wx => RV wr K X Y v wx)
                case first =>
                  clear HO2 HBL2 HO HBL HDD HOK
                  simp only [List.append_eq, List.cons_append, List.nil_append]
                  have g0 : R20 wr g k g' j X Y wr := ⟨hg1, hg2, X1, X2, Below.refl _ _⟩
                  refine region_alloc 66 (R20 wr g k g' j X Y) (.cells ZZ8 43) wr.heap.size (some 20) (by kernel_rfl) (by kernel_rfl) (fun w w' h b => h.next b) (g0.next (Below.drew (Below.refl _ _))) (by kernel_rfl) ?mk20 (fun w h => h.2.2.2.2.size) ?_
                  case mk20 =>
                    intro on hon a' w' hw'
                    obtain rfl := Option.some.inj hon
                    go_simp
                    rfl
                  simp only [List.take_succ_cons, List.take_zero, List.drop_succ_cons, List.drop_zero]
                  clear X1 X2
                  iterate 66
                    refine wpG_step ?_ (by rfl) ?_ ?_
                    rotate_left 1
                    · intro w hw
                      obtain ⟨p1, p2, p3, p4, p5⟩ := hw
                      refine runs_value ?_
                      go_simp
                      with_reducible rfl
                    simp only [Act.put, List.setIfInBounds_toArray, List.set_cons_zero, List.set_cons_succ]
                  refine wpG_nil ?_
                  intro b6 w6 hS6 hB6 hb6
                  simp only [Act.put, List.setIfInBounds_toArray, List.set_cons_zero, List.set_cons_succ]
                  refine wpList_store_row rfl 43 (.tmp 20) (.tmp 142) rfl b6 (vC K X Y) rfl rfl 43 ZZ8 hb6 (by kernel_rfl) rfl (vC_one K X Y) ?_
                  have hb7 : (w6.setRow b6 (vC K X Y)).heap[b6]? = some (.cells (vC K X Y) 43 (0, 0)) := setRow_heap _ _ _ _ _ _ hb6
                  have g7 : Below wr.heap.size wr (w6.setRow b6 (vC K X Y)) := below_setRow hS6.2.2.2.2 hB6 _
                  generalize w6.setRow b6 (vC K X Y) = w7 at *
                  simp only [Act.put, List.setIfInBounds_toArray, List.set_cons_zero, List.set_cons_succ]
                  go_wp2_with fail
                  go_meet
                  exact ⟨b6, rfl, (Array.getElem?_eq_some_iff.1 hb7).1, g7, vC_cells hb7⟩
                case rest =>
                  obtain ⟨N, rfl, hN, hbN, hcells⟩ := hcut
                  have cl := cnt_lt op
                  obtain ⟨Z, HZZ, hcell⟩ : ∃ Z, Hid (Z = opf (cnt op 8) K X Y) ∧ wc.cell? ⟨N, cnt op 8, none⟩ = some (.int .u64 (nn Z)) := ⟨_, Lib.hid rfl, hcells _ cl⟩
                  have HOW := Lib.hid (own_below' HO2.out hbN)
                  have HBW := Lib.hid (HBL2.out.trans (hbN.mono HBL2.out.size))
                  clear hcells hbN X1 X2 e0 e1 e2 e3 e4 e5 e6 HOK HDD HO2 HBL2 q1 q2 q3 q4 q5
                  have HLEN : Hid ((prods (cnt op 8) K (l.take k) l' ++ (l'.take j).map (opf (cnt op 8) K X)).length + 1 ≤ 1024) := Lib.hid (few_len hn hn' (by omega) (by omega))
                  have HSZ : Hid (wk.heap.size ≤ wc.heap.size) := Lib.hid HBW.out.size
                  have o1 := k81 op
                  have o2 := k82 op
                  have o3 := k83 op
                  have o4 : (0 : Int) ≤ (cnt op 8 : Int) := by omega
                  have o5 : ((cnt op 8 : Nat) : Int) < 8 := by omega
                  go_upto_region 19 with (at_builtin; refine wpList_append_own _ rfl _ _ 41 rfl wk.heap.size 22 i0 (.int .u64 0) 1 8 Try.underlying41 hi hz0 hz1 hz2 rfl (by decide) _ _ _ rfl (HOW.out.alloc _) ⟨wc.heap.size, 0, none⟩ 1 1 [.int .u64 (nn Z)] rfl rfl (one_new' _ _) (one_kind' _) (by have := HLEN.out; unfold maxLen; omega) (by have := HLEN.out; omega) (by have := HSZ.out; simp; omega) ?_; intro v' w5 hown5 hgrow5 _; have HO5 := Lib.hid hown5; have HG5 := Lib.hid hgrow5; clear hown5 hgrow5)
                  clear o1 o2 o3 o4 o5 hcell
                  obtain ⟨p1, p2⟩ := push HOW.out HBW.out HO5.out HG5.out
                  have P1 := Lib.hid p1
                  have P2 := Lib.hid p2
                  clear p1 p2
                  have q1 : IntKind.i64.wrap ((j : Int) + 1) = (j : Int) + 1 := IntWalk.i64_in _ (by omega)
                  go_wp2
                  go_roundw
                  case rel =>
                    refine ⟨j + 1, by omega, by go_num, ?_, P2.out⟩
                    have e := snoc_map (f := opf (cnt op 8) K (l.getD k 0#64)) (prods (cnt op 8) K (l.take k) l') l' j hjt
                    rw [e, HX.out, HY.out, ← HZZ.out]
                    exact P1.out
                  case measure => simp [intOf]; omega
              · have e : j = l'.length := by omega
                subst e
                have q1 : IntKind.i64.wrap ((k : Int) + 1) = (k : Int) + 1 := IntWalk.i64_in _ (by omega)
                go_wp2
                go_roundw
                case rel =>
                  refine ⟨k + 1, by omega, by go_num, ?_, HBL2.out⟩
                  rw [prods_snoc l l' k hlt]
                  have := HO2.out
                  rw [List.take_length] at this
                  exact this
                case measure => simp [intOf]; omega
          · have e : k = l.length := by omega
            subst e
            rw [List.take_length] at HO
            obtain ⟨gm, cm, rfl, gotM⟩ := made_got (hne := prods_ne HW.out.1 HW'.out.1) HO.out
            have GM := Lib.hid gotM
            have DS := Lib.hid (CS.out.next HBL.out)
            have DR := Lib.hid (CR.out.next HBL.out)
            have DB := Lib.hid (HB.out.trans (HBL.out.mono HB.out.size))
            clear gotM CS CR HB HL HL' HO HBL
            have D0 : Hid (∀ w, Calls Try.prog 24 #[.agg #[.int .u64 (nn S.v), .int .u64 (nn S.m)], .agg #[.int .u64 (nn R.v), .int .u64 (nn R.m)]] w fun e w' => e = .returned (.agg #[.int .u64 (nn (opT 0 K S R).v), .int .u64 (nn (opT 0 K S R).m)]) ∧ Below w.heap.size w w') := Lib.hid (fun w => o_add wS.out wR.out w)
            have D1 : Hid (∀ w, Calls Try.prog 26 #[.agg #[.int .u64 (nn S.v), .int .u64 (nn S.m)], .agg #[.int .u64 (nn R.v), .int .u64 (nn R.m)]] w fun e w' => e = .returned (.agg #[.int .u64 (nn (opT 1 K S R).v), .int .u64 (nn (opT 1 K S R).m)]) ∧ Below w.heap.size w w') := Lib.hid (fun w => o_sub wS.out wR.out w)
            have D2 : Hid (∀ w, Calls Try.prog 28 #[.agg #[.int .u64 (nn S.v), .int .u64 (nn S.m)], .agg #[.int .u64 (nn R.v), .int .u64 (nn R.m)]] w fun e w' => e = .returned (.agg #[.int .u64 (nn (opT 2 K S R).v), .int .u64 (nn (opT 2 K S R).m)]) ∧ Below w.heap.size w w') := Lib.hid (fun w => o_and wS.out wR.out w)
            have D3 : Hid (∀ w, Calls Try.prog 30 #[.agg #[.int .u64 (nn S.v), .int .u64 (nn S.m)], .agg #[.int .u64 (nn R.v), .int .u64 (nn R.m)]] w fun e w' => e = .returned (.agg #[.int .u64 (nn (opT 3 K S R).v), .int .u64 (nn (opT 3 K S R).m)]) ∧ Below w.heap.size w w') := Lib.hid (fun w => o_or wS.out wR.out w)
            have D4 : Hid (∀ w, Calls Try.prog 32 #[.agg #[.int .u64 (nn S.v), .int .u64 (nn S.m)], .agg #[.int .u64 (nn R.v), .int .u64 (nn R.m)]] w fun e w' => e = .returned (.agg #[.int .u64 (nn (opT 4 K S R).v), .int .u64 (nn (opT 4 K S R).m)]) ∧ Below w.heap.size w w') := Lib.hid (fun w => o_xor wS.out wR.out w)
            have D5 : Hid (∀ w, Calls Try.prog 34 #[.agg #[.int .u64 (nn S.v), .int .u64 (nn S.m)], .int .i64 n] w fun e w' => e = .returned (.agg #[.int .u64 (nn (opT 5 K S R).v), .int .u64 (nn (opT 5 K S R).m)]) ∧ Below w.heap.size w w') := Lib.hid (fun w => o_lsh wS.out HK.out w)
            have D6 : Hid (∀ w, Calls Try.prog 36 #[.agg #[.int .u64 (nn S.v), .int .u64 (nn S.m)], .int .i64 n] w fun e w' => e = .returned (.agg #[.int .u64 (nn (opT 6 K S R).v), .int .u64 (nn (opT 6 K S R).m)]) ∧ Below w.heap.size w w') := Lib.hid (fun w => o_rsh wS.out HK.out w)
            have D7 : Hid (∀ w, Calls Try.prog 38 #[.agg #[.int .u64 (nn S.v), .int .u64 (nn S.m)], .int .i64 n, .bool true] w fun e w' => e = .returned (.agg #[.int .u64 (nn (opT 7 K S R).v), .int .u64 (nn (opT 7 K S R).m)]) ∧ Below w.heap.size w w') := Lib.hid (fun w => o_arsh wS.out HK.out w)
            have CT : Hid (∀ w, Got (prods (cnt op 8) K l l') gm w → Calls Try.prog 48 #[.slice (some ⟨gm, 0, none⟩) (prods (cnt op 8) K l l').length cm] w fun e w' => e = .returned (.agg #[.int .u64 (nn (opT (cnt op 8) K S R).v), .int .u64 (nn (opT (cnt op 8) K S R).m)]) ∧ Below w.heap.size w w') := Lib.hid (fun w h => tight_call wS.out wR.out HW.out HW'.out (by omega) (by omega) h)
            clear hn hn'
            go_upto_region 22 with fail
            have g0 : R22 wo P Q S R (prods (cnt op 8) K l l') gm wo := ⟨DS.out, DR.out, GM.out, Below.refl _ _⟩
            refine region_alloc 25 (R22 wo P Q S R (prods (cnt op 8) K l l') gm) (.cells ZZ16 44) wo.heap.size (some 21) (by kernel_rfl) (by kernel_rfl) (fun w w' h b => h.next b) (g0.next (Below.drew (Below.refl _ _))) (by kernel_rfl) ?mk (fun w h => h.2.2.2.size) ?_
            case mk =>
              intro on hon a' w' hw'
              obtain rfl := Option.some.inj hon
              go_simp
              rfl
            simp only [List.take_succ_cons, List.take_zero, List.drop_succ_cons, List.drop_zero]
            refine wpG_step ?_ (by rfl) ?_ ?_
            rotate_left 1
            · intro w hw
              obtain ⟨p1, p2, p3, p4, p5⟩ := R22.cells hw
              refine runs_value ?_
              go_simp
              with_reducible rfl
            simp only [Act.put, List.setIfInBounds_toArray, List.set_cons_zero, List.set_cons_succ]
            refine wpG_step ?_ (by rfl) ?_ ?_
            rotate_left 1
            · intro w hw
              obtain ⟨p1, p2, p3, p4, p5⟩ := R22.cells hw
              refine runs_value ?_
              go_simp
              with_reducible rfl
            simp only [Act.put, List.setIfInBounds_toArray, List.set_cons_zero, List.set_cons_succ]
            refine wpG_step _ (by rfl) (fun w hw => runs_call ?_ (D0.out w)) ?_
            · go_simp
            simp only [Act.put, List.setIfInBounds_toArray, List.set_cons_zero, List.set_cons_succ]
            refine wpG_step ?_ (by rfl) ?_ ?_
            rotate_left 1
            · intro w hw
              obtain ⟨p1, p2, p3, p4, p5⟩ := R22.cells hw
              refine runs_value ?_
              go_simp
              with_reducible rfl
            simp only [Act.put, List.setIfInBounds_toArray, List.set_cons_zero, List.set_cons_succ]
            refine wpG_step ?_ (by rfl) ?_ ?_
            rotate_left 1
            · intro w hw
              obtain ⟨p1, p2, p3, p4, p5⟩ := R22.cells hw
              refine runs_value ?_
              go_simp
              with_reducible rfl
            simp only [Act.put, List.setIfInBounds_toArray, List.set_cons_zero, List.set_cons_succ]
            refine wpG_step _ (by rfl) (fun w hw => runs_call ?_ (D1.out w)) ?_
            · go_simp
            simp only [Act.put, List.setIfInBounds_toArray, List.set_cons_zero, List.set_cons_succ]
            refine wpG_step ?_ (by rfl) ?_ ?_
            rotate_left 1
            · intro w hw
              obtain ⟨p1, p2, p3, p4, p5⟩ := R22.cells hw
              refine runs_value ?_
              go_simp
              with_reducible rfl
            simp only [Act.put, List.setIfInBounds_toArray, List.set_cons_zero, List.set_cons_succ]
            refine wpG_step ?_ (by rfl) ?_ ?_
            rotate_left 1
            · intro w hw
              obtain ⟨p1, p2, p3, p4, p5⟩ := R22.cells hw
              refine runs_value ?_
              go_simp
              with_reducible rfl
            simp only [Act.put, List.setIfInBounds_toArray, List.set_cons_zero, List.set_cons_succ]
            refine wpG_step _ (by rfl) (fun w hw => runs_call ?_ (D2.out w)) ?_
            · go_simp
            simp only [Act.put, List.setIfInBounds_toArray, List.set_cons_zero, List.set_cons_succ]
            refine wpG_step ?_ (by rfl) ?_ ?_
            rotate_left 1
            · intro w hw
              obtain ⟨p1, p2, p3, p4, p5⟩ := R22.cells hw
              refine runs_value ?_
              go_simp
              with_reducible rfl
            simp only [Act.put, List.setIfInBounds_toArray, List.set_cons_zero, List.set_cons_succ]
            refine wpG_step ?_ (by rfl) ?_ ?_
            rotate_left 1
            · intro w hw
              obtain ⟨p1, p2, p3, p4, p5⟩ := R22.cells hw
              refine runs_value ?_
              go_simp
              with_reducible rfl
            simp only [Act.put, List.setIfInBounds_toArray, List.set_cons_zero, List.set_cons_succ]
            refine wpG_step _ (by rfl) (fun w hw => runs_call ?_ (D3.out w)) ?_
            · go_simp
            simp only [Act.put, List.setIfInBounds_toArray, List.set_cons_zero, List.set_cons_succ]
            refine wpG_step ?_ (by rfl) ?_ ?_
            rotate_left 1
            · intro w hw
              obtain ⟨p1, p2, p3, p4, p5⟩ := R22.cells hw
              refine runs_value ?_
              go_simp
              with_reducible rfl
            simp only [Act.put, List.setIfInBounds_toArray, List.set_cons_zero, List.set_cons_succ]
            refine wpG_step ?_ (by rfl) ?_ ?_
            rotate_left 1
            · intro w hw
              obtain ⟨p1, p2, p3, p4, p5⟩ := R22.cells hw
              refine runs_value ?_
              go_simp
              with_reducible rfl
            simp only [Act.put, List.setIfInBounds_toArray, List.set_cons_zero, List.set_cons_succ]
            refine wpG_step _ (by rfl) (fun w hw => runs_call ?_ (D4.out w)) ?_
            · go_simp
            simp only [Act.put, List.setIfInBounds_toArray, List.set_cons_zero, List.set_cons_succ]
            refine wpG_step ?_ (by rfl) ?_ ?_
            rotate_left 1
            · intro w hw
              obtain ⟨p1, p2, p3, p4, p5⟩ := R22.cells hw
              refine runs_value ?_
              go_simp
              with_reducible rfl
            simp only [Act.put, List.setIfInBounds_toArray, List.set_cons_zero, List.set_cons_succ]
            refine wpG_step ?_ (by rfl) ?_ ?_
            rotate_left 1
            · intro w hw
              obtain ⟨p1, p2, p3, p4, p5⟩ := R22.cells hw
              refine runs_value ?_
              go_simp
              with_reducible rfl
            simp only [Act.put, List.setIfInBounds_toArray, List.set_cons_zero, List.set_cons_succ]
            refine wpG_step _ (by rfl) (fun w hw => runs_call ?_ (D5.out w)) ?_
            · go_simp
            simp only [Act.put, List.setIfInBounds_toArray, List.set_cons_zero, List.set_cons_succ]
            refine wpG_step ?_ (by rfl) ?_ ?_
            rotate_left 1
            · intro w hw
              obtain ⟨p1, p2, p3, p4, p5⟩ := R22.cells hw
              refine runs_value ?_
              go_simp
              with_reducible rfl
            simp only [Act.put, List.setIfInBounds_toArray, List.set_cons_zero, List.set_cons_succ]
            refine wpG_step ?_ (by rfl) ?_ ?_
            rotate_left 1
            · intro w hw
              obtain ⟨p1, p2, p3, p4, p5⟩ := R22.cells hw
              refine runs_value ?_
              go_simp
              with_reducible rfl
            simp only [Act.put, List.setIfInBounds_toArray, List.set_cons_zero, List.set_cons_succ]
            refine wpG_step _ (by rfl) (fun w hw => runs_call ?_ (D6.out w)) ?_
            · go_simp
            simp only [Act.put, List.setIfInBounds_toArray, List.set_cons_zero, List.set_cons_succ]
            refine wpG_step ?_ (by rfl) ?_ ?_
            rotate_left 1
            · intro w hw
              obtain ⟨p1, p2, p3, p4, p5⟩ := R22.cells hw
              refine runs_value ?_
              go_simp
              with_reducible rfl
            simp only [Act.put, List.setIfInBounds_toArray, List.set_cons_zero, List.set_cons_succ]
            refine wpG_step ?_ (by rfl) ?_ ?_
            rotate_left 1
            · intro w hw
              obtain ⟨p1, p2, p3, p4, p5⟩ := R22.cells hw
              refine runs_value ?_
              go_simp
              with_reducible rfl
            simp only [Act.put, List.setIfInBounds_toArray, List.set_cons_zero, List.set_cons_succ]
            refine wpG_step _ (by rfl) (fun w hw => runs_call ?_ (D7.out w)) ?_
            · go_simp
            simp only [Act.put, List.setIfInBounds_toArray, List.set_cons_zero, List.set_cons_succ]
            refine wpG_step ?_ (by rfl) ?_ ?_
            rotate_left 1
            · intro w hw
              obtain ⟨p1, p2, p3, p4, p5⟩ := R22.cells hw
              refine runs_value ?_
              go_simp
              with_reducible rfl
            simp only [Act.put, List.setIfInBounds_toArray, List.set_cons_zero, List.set_cons_succ]
            refine wpG_nil ?_
            intro b w6 hS6 hB6 hb6
            simp only [Act.put, List.setIfInBounds_toArray, List.set_cons_zero, List.set_cons_succ]
            refine wpList_store_row rfl 44 (.tmp 21) (.tmp 176) rfl b (gotC K S R) rfl rfl 44 ZZ16 hb6 (by kernel_rfl) rfl (gotC_one K S R) ?_
            have hb7 : (w6.setRow b (gotC K S R)).heap[b]? = some (.cells (gotC K S R) 44 (0, 0)) := setRow_heap _ _ _ _ _ _ hb6
            have g7 : Below wo.heap.size wo (w6.setRow b (gotC K S R)) := below_setRow hS6.2.2.2 hB6 _
            generalize w6.setRow b (gotC K S R) = w7 at *
            clear hS6 hB6 hb6 g0 DS DR
            have HC7 := Lib.hid (got_cells (S := S) (R := R) (c := cnt op 8) (K := K) hb7 (cnt_lt op))
            clear hb7
            have HG7 := Lib.hid g7
            have HM7 := Lib.hid (GM.out.next g7)
            clear g7
            simp only [Act.put, List.setIfInBounds_toArray, List.set_cons_zero, List.set_cons_succ]
            go_upto_region 23 with fail
            have r0 : R23 w7 b (cnt op 8) K S R (prods (cnt op 8) K l l') gm w7 := ⟨HC7.out, HM7.out, Below.refl _ _⟩
            have cl := cnt_lt op
            have o1 := k81 op
            have o2 := k82 op
            have o3 := k83 op
            have o4 : (0 : Int) ≤ (cnt op 8 : Int) := by omega
            have o5 : ((cnt op 8 : Nat) : Int) < 8 := by omega
            have hE := eqT
            refine region_held 10 (R23 w7 b (cnt op 8) K S R (prods (cnt op 8) K l l') gm) (by kernel_rfl) (by kernel_rfl) (fun w w' h b => h.next b) (r0.next (Below.drew (Below.refl _ _))) ?_
            simp only [List.take_succ_cons, List.take_zero, List.drop_succ_cons, List.drop_zero]
            refine wpG_step ?_ (by rfl) ?_ ?_
            rotate_left 1
            · intro w hw
              obtain ⟨⟨p1, p2, p3⟩, p4⟩ := hw
              refine runs_value ?_
              go_simp
              with_reducible rfl
            simp only [Act.put, List.setIfInBounds_toArray, List.set_cons_zero, List.set_cons_succ]
            refine wpG_step ?_ (by rfl) ?_ ?_
            rotate_left 1
            · intro w hw
              obtain ⟨⟨p1, p2, p3⟩, p4⟩ := hw
              refine runs_value ?_
              go_simp
              with_reducible rfl
            simp only [Act.put, List.setIfInBounds_toArray, List.set_cons_zero, List.set_cons_succ]
            refine wpG_step ?_ (by rfl) ?_ ?_
            rotate_left 1
            · intro w hw
              obtain ⟨⟨p1, p2, p3⟩, p4⟩ := hw
              refine runs_value ?_
              go_simp
              with_reducible rfl
            simp only [Act.put, List.setIfInBounds_toArray, List.set_cons_zero, List.set_cons_succ]
            refine wpG_step ?_ (by rfl) ?_ ?_
            rotate_left 1
            · intro w hw
              obtain ⟨⟨p1, p2, p3⟩, p4⟩ := hw
              refine runs_value ?_
              go_simp
              with_reducible rfl
            simp only [Act.put, List.setIfInBounds_toArray, List.set_cons_zero, List.set_cons_succ]
            refine wpG_step ?_ (by rfl) ?_ ?_
            rotate_left 1
            · intro w hw
              obtain ⟨⟨p1, p2, p3⟩, p4⟩ := hw
              refine runs_value ?_
              go_simp
              with_reducible rfl
            simp only [Act.put, List.setIfInBounds_toArray, List.set_cons_zero, List.set_cons_succ]
            refine wpG_step ?_ (by rfl) ?_ ?_
            rotate_left 1
            · intro w hw
              obtain ⟨⟨p1, p2, p3⟩, p4⟩ := hw
              refine runs_value ?_
              go_simp
              with_reducible rfl
            simp only [Act.put, List.setIfInBounds_toArray, List.set_cons_zero, List.set_cons_succ]
            refine wpG_step ?_ (by rfl) ?_ ?_
            rotate_left 1
            · intro w hw
              obtain ⟨⟨p1, p2, p3⟩, p4⟩ := hw
              refine runs_value ?_
              go_simp
              with_reducible rfl
            simp only [Act.put, List.setIfInBounds_toArray, List.set_cons_zero, List.set_cons_succ]
            refine wpG_step _ (by rfl) (fun w hw => runs_call ?_ (CT.out w hw.2.1)) ?_
            · go_simp
            simp only [Act.put, List.setIfInBounds_toArray, List.set_cons_zero, List.set_cons_succ]
            refine wpG_step ?_ (by rfl) ?_ ?_
            rotate_left 1
            · intro w hw
              obtain ⟨⟨p1, p2, p3⟩, p4⟩ := hw
              refine runs_value ?_
              go_simp
              with_reducible rfl
            simp only [Act.put, List.setIfInBounds_toArray, List.set_cons_zero, List.set_cons_succ]
            refine wpG_step ?_ (by rfl) ?_ ?_
            rotate_left 1
            · intro w hw
              obtain ⟨⟨p1, p2, p3⟩, p4⟩ := hw
              refine runs_value ?_
              go_simp
              with_reducible rfl
            simp only [Act.put, List.setIfInBounds_toArray, List.set_cons_zero, List.set_cons_succ]
            refine wpG_nil ?_
            intro w8 hw8
            clear hE o1 o2 o3 o4 o5
            go_wp2
            go_ret
            refine ⟨?_, (DB.out.trans (HG7.out.mono DB.out.size)).trans (hw8.2.2.mono (Nat.le_trans DB.out.size HG7.out.size))⟩
            first | rfl | simp
theorem cells5 : Try.prog.cellsOf 5 = 1 := by kernel_rfl
section
variable {H : Type} {enc : TypeId × Value → H} {w : World} {base : Nat} {spare : Nat → Bool} {held : Bool}
theorem open_arr8 {r : Reach} {b0 : Nat} {v : Value} {d : DataW H} {p : List MemPlace} (hv : Value.okWide Try.prog w r b0 40 v) (h : DataW.Trod enc Try.prog w base spare held 40 v d p) :
    ∃ ns : List Nat, ns.length = 8 ∧ (∀ z ∈ ns, z ≤ 255) ∧ v = .agg (ns.map (fun z => Value.int .u8 (z : Nat))).toArray ∧ d = .agg (ns.map (fun z => .lit (.int .u8 (z : Nat)))) ∧ p = [] := by
  obtain ⟨zs, hz, rfl, rfl, rfl, hw⟩ := open_arr_ints Try.underlying40 Try.underlying5 cells5 (by kernel_rfl) hv h
  refine ⟨zs.map Int.toNat, by simpa using hz, fun z hm => ?_, ?_, ?_, rfl⟩
  · obtain ⟨y, hy, rfl⟩ := List.mem_map.1 hm
    have := bounds_u8 (hw y hy)
    omega
  · rw [List.map_map]
    congr 2
    apply List.map_congr_left
    intro y hy
    have := bounds_u8 (hw y hy)
    simp only [Function.comp]
    rw [Int.toNat_of_nonneg (by omega)]
  · rw [List.map_map]
    congr 1
    apply List.map_congr_left
    intro y hy
    have := bounds_u8 (hw y hy)
    simp only [Function.comp]
    rw [Int.toNat_of_nonneg (by omega)]
theorem wf_u8' (z : Nat) (h : z ≤ 255) : (Lit.int .u8 (z : Nat)).wf = true := WalkArith.wf_u8 (by omega)
theorem shut_arr8 (ns : List Nat) (hl : ns.length = 8) (hu : ∀ z ∈ ns, z ≤ 255) : DataW.Trod enc Try.prog w base spare true 40 (.agg (ns.map (fun z => Value.int .u8 (z : Nat))).toArray) (.agg (ns.map (fun z => .lit (.int .u8 (z : Nat))))) [] := by
  match ns, hl with
  | [a, b, c, d, e, f, g, h], _ =>
    refine ⟨2, ?_⟩
    have r : List.range 8 = [0, 1, 2, 3, 4, 5, 6, 7] := rfl
    have c40 : Try.prog.cellsOf 40 = 8 := by kernel_rfl
    have wa := wf_u8' a (hu a (by simp))
    have wb := wf_u8' b (hu b (by simp))
    have wc := wf_u8' c (hu c (by simp))
    have wd := wf_u8' d (hu d (by simp))
    have we := wf_u8' e (hu e (by simp))
    have wf := wf_u8' f (hu f (by simp))
    have wg := wf_u8' g (hu g (by simp))
    have wh := wf_u8' h (hu h (by simp))
    simp [DataW.trod, Try.underlying40, Try.underlying5, Value.cells, r, cells5, c40, wa, wb, wc, wd, we, wf, wg, wh]
end
set_option maxHeartbeats 1000000 in
set_option maxRecDepth 100000 in
theorem walk (a0 : BitVec 64) (a1 : BitVec 64) (a2 : List Nat) (hz_a2 : a2.length = 8) (hu_a2 : ∀ z ∈ a2, z ≤ 255) (a3 : Int) (w_a3 : (Lit.int .i64 a3).wf = true) (a4 : Int) (w_a4 : (Lit.int .i64 a4).wf = true) (w : World) : Calls Try.prog 5 #[.int .u64 (nn a0), .int .u64 (nn a1), .agg (a2.map (fun z => Value.int .u8 (z : Nat))).toArray, .int .i64 a3, .int .i64 a4] w fun e w' => e = .returned (.bool true) ∧ Below w.heap.size w w' := by
  exact walkA a0 a1 a2 hz_a2 hu_a2 a3 a4 w

set_option maxRecDepth 100000 in
theorem lifted (os : Os) (started : os.Started) (H : Type) (enc : TypeId × Value → H) :
    ReturnsInHanded {} Try.checked os 5 .any (Rows.tnumTightSpec.pre6 enc Try.prog Try.f5 Rows.tnumTightRow.domain false) (Rows.tnumTightSpec.post enc Try.prog Try.f5 false true false false) := by
  refine returnsInHanded_of_change (C := Try.checked) own started (by kernel_rfl) Try.func5
    (ChangeSpec.witness6 (enc := enc) (C := Try.checked) false ⟨#[], #[.int .u64 0, .int .u64 0, .agg #[.int .u8 0, .int .u8 0, .int .u8 0, .int .u8 0, .int .u8 0, .int .u8 0, .int .u8 0, .int .u8 0], .int .i64 0, .int .i64 0], []⟩ 8 (by kernel_rfl) (by kernel_rfl) (by kernel_rfl) (by kernel_rfl)) ?_
  intro W base args ds gs before hval0 hW hcnd _
  have hval : ∀ (j : Nat) t v, Try.f5.params[j]? = some t → args[j]? = some v → Value.okWide Try.prog W .any base t v := hval0
  have hW' := hW
  obtain ⟨p, q, hA0, hV, rfl, hfz, hnd⟩ := hW
  have hA : DataW.TrodAll enc Try.prog W 0 (fun _ => true) true Try.f5.params.toList args.toList ds p := hA0
  rw [Try.params5] at hA hval
  obtain ⟨v0, vs0, d0, ds0, p0, q0, hargs, rfl, rfl, h0, r0⟩ := trodAll_cons hA
  obtain ⟨v1, vs1, d1, ds1, p1, q1, rfl, rfl, rfl, h1, r1⟩ := trodAll_cons r0
  obtain ⟨v2, vs2, d2, ds2, p2, q2, rfl, rfl, rfl, h2, r2⟩ := trodAll_cons r1
  obtain ⟨v3, vs3, d3, ds3, p3, q3, rfl, rfl, rfl, h3, r3⟩ := trodAll_cons r2
  obtain ⟨v4, vs4, d4, ds4, p4, q4, rfl, rfl, rfl, h4, r4⟩ := trodAll_cons r3
  obtain ⟨rfl, rfl, rfl⟩ := trodAll_nil r4
  obtain rfl : args = #[v0, v1, v2, v3, v4] := by cases args; simp_all
  obtain ⟨rfl, rfl⟩ := trodVars_none hV
  obtain ⟨x0, rfl, rfl, rfl, w0⟩ := open_int Try.underlying22 (hval 0 22 v0 rfl rfl) h0
  obtain ⟨a0, rfl⟩ := open_u64 w0
  obtain ⟨x1, rfl, rfl, rfl, w1⟩ := open_int Try.underlying22 (hval 1 22 v1 rfl rfl) h1
  obtain ⟨a1, rfl⟩ := open_u64 w1
  obtain ⟨a2, hz2, hu2, rfl, rfl, rfl⟩ := open_arr8 (hval 2 40 v2 rfl rfl) h2
  obtain ⟨a3, rfl, rfl, rfl, w3⟩ := open_int Try.underlying3 (hval 3 3 v3 rfl rfl) h3
  obtain ⟨a4, rfl, rfl, rfl, w4⟩ := open_int Try.underlying3 (hval 4 3 v4 rfl rfl) h4
  clear hA0 hval0
  simp only [List.append_nil] at hW'
  refine (walk a0 a1 a2 hz2 hu2 a3 w3 a4 w4 W).mono fun e W' ⟨he, hg⟩ => ?_
  subst he
  exact ⟨_, rfl, post_of_below (pa := []) (pv := []) hW' (fun _ _ _ => (trodAll_cons_mk (shut_bool Try.underlying4 _) trodAll_mk0)) (fun sp _ => (trodAll_cons_mk (shut_int Try.underlying22 w0) (trodAll_cons_mk (shut_int Try.underlying22 w1) (trodAll_cons_mk (shut_arr8 a2 hz2 hu2) (trodAll_cons_mk (shut_int Try.underlying3 w3) (trodAll_cons_mk (shut_int Try.underlying3 w4) trodAll_mk0)))))) (fun _ _ => rfl) rfl
    hg (ok_one (by kernel_rfl) rfl (okWide_bool_mk Try.underlying4 _))⟩

theorem over : Rows.tnumTightRow.holds Try.pinned (OpenSpec.ofChange Rows.tnumTightSpec) :=
  OpenClaim.holds_of_wide 5 Try.f5 rfl rfl rfl rfl rfl rfl rfl ⟨rfl, rfl, rfl, rfl, rfl⟩ rfl rfl rfl rfl rfl (by kernel_rfl) Try.func5 (by kernel_rfl)
    (of_decide_eq_true (by kernel_rfl)) (by unfold Func.isWrapper; first | (rw [if_pos (by decide +kernel)]; kernel_rfl) | (rw [if_neg (by decide +kernel)]; exact ⟨rfl, rfl⟩))
    (fun os started H enc _ => lifted os started H enc)

/-- The statement. -/
theorem proved : Rows.TnumTightSaid :=
  over
end Go.Proofs.Ytpmhojfbjhgjpaa.tnumTight
