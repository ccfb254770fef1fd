/-
  What is told of some blocks is told of entries that stand for these among others; families of blocks of cells. Nothing of the program stands here.
-/
import Derived.Test.YtchogpgifdkhbaaRyS
namespace Go.Proofs.Ytchogpgifdkhbaa
open Go.RowKit Go.MapKept
set_option linter.unusedVariables false
set_option linter.unusedSimpArgs false
/-- What is told of a list of entries is told of another one that stands for the same blocks and for more, which stay. ψ: where each block that is left comes from: out of what the contract leaves (true), or out of what stood there before (false). -/
theorem SpcG.sub {P : Program} {M : Nat → Prop} {B0 : Nat} {S : World → Prop} {sp : List L1 → Spc} {sp2 : Spc} (h : ∀ ls, SpcG P M B0 S (sp ls)) (tr : List L1 → List L1) (back : List L1 → List L1 → List L1)
    (hex : ∀ ls, sp2.ex = (sp ls).ex)
    (hpre : ∀ ls, (sp2.pre ls).length = ls.length → ((sp ls).pre (tr ls)).length = (tr ls).length ∧ sp2.wh ls = (sp ls).wh (tr ls) ∧ ∃ φ, Maps (tr ls) ((sp ls).pre (tr ls)) ls (sp2.pre ls) φ ∧
      ∀ ms, ms.length = (sp ls).m → (back ls ms).length = sp2.m ∧ (sp ls).val (tr ls ++ ms) = sp2.val (ls ++ back ls ms) ∧
      ∃ ψ : Nat → Nat → Bool × Nat × Nat,
        (∀ j k x p, At (ls ++ back ls ms) (sp2.post (ls ++ back ls ms) ++ sp2.new (ls ++ back ls ms)) j k x p →
          ((ψ j k).1 = true ∧ At (tr ls ++ ms) ((sp ls).post (tr ls ++ ms) ++ (sp ls).new (tr ls ++ ms)) (ψ j k).2.1 (ψ j k).2.2 x p) ∨
          ((ψ j k).1 = false ∧ At ls (sp2.pre ls) (ψ j k).2.1 (ψ j k).2.2 x p ∧ ∀ j' k' x' p', At (tr ls) ((sp ls).pre (tr ls)) j' k' x' p' → φ j' k' ≠ (ψ j k).2)) ∧
        ∀ j k j' k' x p p', At (ls ++ back ls ms) (sp2.post (ls ++ back ls ms) ++ sp2.new (ls ++ back ls ms)) j k x p → At (ls ++ back ls ms) (sp2.post (ls ++ back ls ms) ++ sp2.new (ls ++ back ls ms)) j' k' x p' → ψ j k = ψ j' k' → j = j' ∧ k = k') :
    SpcG P M B0 S sp2 := by
  intro ls w hlen hsat htb hS
  obtain ⟨h1, h2, φ, h3, h4⟩ := hpre ls hlen
  have hd := h ls (tr ls) w h1 (h3.sat hsat) (fun x hx => htb x (h3.touch hx)) hS
  rw [h2, hex ls]
  refine hd.mono fun vs w' ⟨ms, hms, hv, hch, hfs⟩ => ?_
  obtain ⟨hsl, hnew⟩ := hfs (.inl rfl)
  obtain ⟨h5, h6, ψ, h7, h8⟩ := h4 ms hms
  have old : ∀ {j k x p}, At ls (sp2.pre ls) j k x p → w.heap[x]? = some p := fun ⟨o, l, a, b, c⟩ => hsat.hold _ _ o l _ _ a b c
  have lt : ∀ {x : Nat} {p : Obj}, w.heap[x]? = some p → x < w.heap.size := fun h => (Array.getElem?_eq_some_iff.1 h).1
  have oinj : ∀ {j k j' k' x p p'}, At ls (sp2.pre ls) j k x p → At ls (sp2.pre ls) j' k' x p' → j = j' ∧ k = k' := fun ⟨o, l, a, b, c⟩ ⟨o', l', a', b', c'⟩ => hsat.inj _ _ _ _ o o' l l' _ _ _ a b c a' b' c'
  have untouched : ∀ {j k x p}, At ls (sp2.pre ls) j k x p → (∀ j' k' x' p', At (tr ls) ((sp ls).pre (tr ls)) j' k' x' p' → φ j' k' ≠ (j, k)) → ¬ touchF (tr ls) ((sp ls).pre (tr ls)) x := fun {j k x p} ha hn ⟨j', k', o, l, p', a, b, c⟩ => by
    have := h3.1 j' k' x p' ⟨o, l, a, b, c⟩
    obtain ⟨e1, e2⟩ := oinj this ha
    exact hn j' k' x p' ⟨o, l, a, b, c⟩ (Prod.ext e1 e2)
  refine ⟨back ls ms, h5, hv.trans h6, ⟨hch.os, hch.tape, hch.output, hch.size, fun x hx ht => hch.block x hx fun q => ht (h3.touch q)⟩, fun _ => ⟨⟨fun j k o l x p hj hl ho => ?_, fun i j k k' o o' y y' x p p' hi hy hw hj hy' hw' => ?_⟩, fun j k o l x p hj hl ho => ?_⟩⟩
  · rcases h7 j k x p ⟨o, l, hj, hl, ho⟩ with ⟨_, o', l', a, b, c⟩ | ⟨_, ha, hn⟩
    · exact hsl.hold _ _ o' l' x p a b c
    · have h9 := old ha
      exact (hch.block x (lt h9) (untouched ha hn)).trans h9
  · have A1 : At (ls ++ back ls ms) (sp2.post (ls ++ back ls ms) ++ sp2.new (ls ++ back ls ms)) i k x p := ⟨o, y, hi, hy, hw⟩
    have A2 : At (ls ++ back ls ms) (sp2.post (ls ++ back ls ms) ++ sp2.new (ls ++ back ls ms)) j k' x p' := ⟨o', y', hj, hy', hw'⟩
    have mix : ∀ {j k j' k' x p p'}, At (tr ls ++ ms) ((sp ls).post (tr ls ++ ms) ++ (sp ls).new (tr ls ++ ms)) j k x p → At ls (sp2.pre ls) j' k' x p' → (∀ a b x' q, At (tr ls) ((sp ls).pre (tr ls)) a b x' q → φ a b ≠ (j', k')) → False := fun {j k j' k' x p p'} ⟨o, l, a, b, c⟩ hb hn => by
      rcases hnew j k o l x p a b c with q | q
      · exact absurd (lt (old hb)) (by omega)
      · exact untouched hb hn q
    refine h8 i k j k' x p p' A1 A2 ?_
    rcases h7 i k x p A1 with ⟨e1, a1⟩ | ⟨e1, a1, n1⟩ <;> rcases h7 j k' x p' A2 with ⟨e2, a2⟩ | ⟨e2, a2, n2⟩
    · obtain ⟨o1, l1, b1, b2, b3⟩ := a1
      obtain ⟨o2, l2, c1, c2, c3⟩ := a2
      obtain ⟨q1, q2⟩ := hsl.inj _ _ _ _ o1 o2 l1 l2 x p p' b1 b2 b3 c1 c2 c3
      exact Prod.ext (e1.trans e2.symm) (Prod.ext q1 q2)
    · exact (mix a1 a2 n2).elim
    · exact (mix a2 a1 n1).elim
    · obtain ⟨q1, q2⟩ := oinj a1 a2
      exact Prod.ext (e1.trans e2.symm) (Prod.ext q1 q2)
  · rcases h7 j k x p ⟨o, l, hj, hl, ho⟩ with ⟨_, o', l', a, b, c⟩ | ⟨_, ⟨o', l', a, b, c⟩, _⟩
    · rcases hnew _ _ o' l' x p a b c with q | q
      · exact .inl q
      · exact .inr (h3.touch q)
    · exact .inr ⟨_, _, o', l', p, a, b, c⟩
/-! ### Families of blocks of cells -/
/-- N blocks of type T, number k with the cells c k; their numbers stand in the entry's letter. -/
def fmO (T : TypeId) (N : Nat) (c : Nat → List Value) : Obj := .pending ⟨(List.range N).map fun k => .iface T (.agg ⟨c k⟩)⟩ 0
theorem own_fm {T : TypeId} {N : Nat} {c : Nat → List Value} {l : L1} {k : Nat} : own (fmO T N c) l k = if k < N then some ((mfl l k).n, .cells ⟨c k⟩ T) else none := by
  unfold own fmO
  by_cases hk : k < N
  · have e1 : ((⟨(List.range N).map fun k => Value.iface T (.agg ⟨c k⟩)⟩ : Array Value))[k]? = some (.iface T (.agg ⟨c k⟩)) := by simp [hk]
    simp only [e1, if_pos hk]
    rfl
  · have e1 : ((⟨(List.range N).map fun k => Value.iface T (.agg ⟨c k⟩)⟩ : Array Value))[k]? = none := by simp; omega
    simp only [e1, if_neg hk]
/-- N blocks, each a row with room behind it, as the bytes of regions. -/
def fmR {τ : Type} (T : TypeId) (f : τ → List Value) (sz N : Nat) (D : Nat → Nat × (Nat → τ)) : Obj := rfO T f sz N D
/-! ### The regions of a memory: a map of them by their numbers, from 1 on; their structs; their bytes -/
def kfP (k : Nat) : Value := .int .i64 ((k + 1 : Nat) : Int)
def vfP (T : TypeId) (l : L1) (k : Nat) : Value := .iface T (.pointer (some ⟨(mfl l k).n, 0, none⟩))
def mapP (T : TypeId) (l : L1) (N : Nat) : Obj := mapG kfP (vfP T l) N id
theorem mapP_congr {T : TypeId} {l l' : L1} {N : Nat} (h : ∀ k, k < N → mfl l k = mfl l' k) : mapP T l N = mapP T l' N := by
  unfold mapP mapG
  have : (List.range N).map (entG (fun k => kfP (id k)) fun k => vfP T l (id k)) = (List.range N).map (entG (fun k => kfP (id k)) fun k => vfP T l' (id k)) := List.map_congr_left fun k hk => by
    unfold entG vfP
    simp only [id, h k (List.mem_range.1 hk)]
  rw [this]
/-- The structs: a slice of bytes (its block in l2's family), then plain cells. -/
def arO {τ σ : Type} (T : TypeId) (l2 : L1) (N : Nat) (D : Nat → Nat × (Nat → τ)) (g : σ → List Value) (A : Nat → σ) : Obj := fmO T N fun k => rfC l2 1 D k ++ g (A k)
section
variable {P : Program} {M : Nat → Prop} {B0 : Nat} {S : World → Prop} {Tm I T TB kt el : TypeId} {τ σ : Type} {f : τ → List Value} {g : σ → List Value} {N m : Nat} {D : Nat → Nat × (Nat → τ)} {A : Nat → σ} {B : Nat → τ} {a : σ}
/-- Where the blocks come from that are left. -/
def psiP (N j k : Nat) : Bool × Nat × Nat := if j = 0 then (true, 0, 0) else if j = 5 then (if k = N then (false, 3, 0) else (false, 1, k)) else (if k = N then (false, 4, 0) else (false, 2, k))
theorem psiP_5 (N : Nat) : psiP N 5 N = (false, 3, 0) := by simp [psiP]
theorem psiP_5k {N k : Nat} (h : k ≠ N) : psiP N 5 k = (false, 1, k) := by simp [psiP, h]
theorem psiP_6 (N : Nat) : psiP N 6 N = (false, 4, 0) := by simp [psiP]
theorem psiP_6k {N k : Nat} (h : k ≠ N) : psiP N 6 k = (false, 2, k) := by simp [psiP, h]
theorem psiP_inj {N j k j' k' : Nat} (h1 : (j = 0 ∧ k = 0) ∨ j = 5 ∨ j = 6) (h2 : (j' = 0 ∧ k' = 0) ∨ j' = 5 ∨ j' = 6) (h : psiP N j k = psiP N j' k') : j = j' ∧ k = k' := by
  by_cases u : k = N <;> by_cases v : k' = N <;> rcases h1 with ⟨h1, h3⟩ | h1 | h1 <;> rcases h2 with ⟨h2, h4⟩ | h2 | h2 <;> simp_all [psiP]
def adP (dk : DK) (Tm I T TB : TypeId) (f : τ → List Value) (g : σ → List Value) (N : Nat) (D : Nat → Nat × (Nat → τ)) (A : Nat → σ) (m : Nat) (B : Nat → τ) (a : σ) : Spc :=
  ⟨fun ls => .op (.mup Tm (.map (some (lget ls 0).n)) (kfP N) (.iface I (.pointer (some ⟨(lget ls 3).n, 0, none⟩)))),
   fun ls => [mapP I (lget ls 1) N, arO T (lget ls 2) N D g A, rfO TB f 1 N D, .cells ⟨rowW dk (lget ls 4) m 1 :: g a⟩ T, rowD dk (lget ls 4) (esG f m B) TB m 1], 2, .normal,
   fun _ => [undef], fun ls => [mapP I (lget ls 5) (N + 1), unb, unb, unb, unb], fun ls => [arO T (lget ls 6) (N + 1) (updF D N (m, B)) g (updF A N a), rfO TB f 1 (N + 1) (updF D N (m, B))]⟩
/-- A region more. -/
theorem adP_ok (dk : DK) (hT : P.underlying Tm = some (.map kt el)) (hk : P.underlying kt = some (.int .i64)) (h0 : decide (0 < m) = true) (hm : decide (m ≤ 1000000) = true) :
    SpcG P M B0 S (adP dk Tm I T TB f g N D A m B a) := by
  have h0 := of_decide_eq_true h0
  have hm := of_decide_eq_true hm
  have hmx : m ≤ maxLen := by simp only [maxLen]; omega
  let l1' : List L1 → L1 := fun ls => rfSet (lget ls 1) N (lget ls 3)
  let l2' : List L1 → L1 := fun ls => rfSet (lget ls 2) N (rrIn dk (lget ls 4) m 1)
  let e : Nat → Bool := fun j => ((N + 1 : Nat) : Int) == ((j + 1 : Nat) : Int)
  have hno : ¬ fdx e N < N := fun h => by
    have h1 := fdx_is h
    have h2 : ((N + 1 : Nat) : Int) = ((fdx e N + 1 : Nat) : Int) := by simpa [e] using h1
    omega
  have hid : ∀ (i : Nat), updF (id : Nat → Nat) N N i = id i := fun i => by
    by_cases q : i = N
    · subst q; rw [updF_at]; rfl
    · rw [updF_ne _ _ q]
  have hid : updF (id : Nat → Nat) N N = id := funext hid
  have hup : ∀ ls, SpcG P M B0 S ⟨fun as => .op (.mup Tm (.map (some (lget as 0).n)) (kfP N) (vfP I (l1' ls) N)), fun as => [mapP I (l1' ls) N], 0, .normal, fun as => [undef], fun as => [mapP I (l1' ls) (N + 1)], fun _ => []⟩ := fun ls => by
    have := upG_new (P := P) (M := M) (B0 := B0) (S := S) (T := Tm) (kf := kfP) (vf := vfP I (l1' ls)) (N := N) (A := id) (e := e) N hT hk rfl (fun j => rfl) hno
    rw [hid] at this
    exact this
  refine SpcG.sub hup (fun ls => [lget ls 0]) (fun ls _ => [l1' ls, l2' ls]) (fun _ => rfl) (fun ls hlen => ?_)
  match ls, hlen with
  | [q, l1, l2, la, lb], _ =>
    have K1 : mfl (rfSet l1 N la) N = bare la := rfSet_K ..
    have M1 : ∀ i, i ≠ N → mfl (rfSet l1 N la) i = mfl l1 i := fun i h => rfSet_M _ _ h
    have K2 : mfl (rfSet l2 N (rrIn dk lb m 1)) N = bare (rrIn dk lb m 1) := rfSet_K ..
    have M2 : ∀ i, i ≠ N → mfl (rfSet l2 N (rrIn dk lb m 1)) i = mfl l2 i := fun i h => rfSet_M _ _ h
    have hpm : mapP I (rfSet l1 N la) N = mapP I l1 N := mapP_congr fun k hk => M1 k (by omega)
    refine ⟨rfl, ?_, fun j k => (0, 0), ⟨fun j k x p ha => ?_, fun j k j' k' x p p' ha hb _ => ?_⟩, fun ms hms => ?_⟩
    · show Wh.op (.mup Tm (.map (some q.n)) (kfP N) (.iface I (.pointer (some ⟨la.n, 0, none⟩)))) = Wh.op (.mup Tm (.map (some q.n)) (kfP N) (.iface I (.pointer (some ⟨(mfl (rfSet l1 N la) N).n, 0, none⟩))))
      rw [K1]
      rfl
    · obtain ⟨o, l, h1, h2, h3⟩ := ha
      match j, h1, h2 with
      | 0, h1, h2 =>
        obtain rfl : mapP I (rfSet l1 N la) N = o := by simpa [l1', lget] using h1
        obtain rfl : q = l := by simpa [lget] using h2
        rw [hpm] at h3
        obtain ⟨e1, e2, e3, _⟩ := own_plain (rfl : isPend (mapP I l1 N) = false) h3
        exact ⟨mapP I l1 N, q, rfl, rfl, by rw [e2, e3]; rfl⟩
      | j + 1, h1, _ => simp at h1
    · obtain ⟨o, l, h1, h2, h3⟩ := ha
      obtain ⟨o', l', h1', h2', h3'⟩ := hb
      match j, j', h1, h1' with
      | 0, 0, h1, h1' =>
        obtain rfl : mapP I (rfSet l1 N la) N = o := by simpa [l1', lget] using h1
        obtain rfl : mapP I (rfSet l1 N la) N = o' := by simpa [l1', lget] using h1'
        obtain ⟨e1, _⟩ := own_plain (rfl : isPend (mapP I (rfSet l1 N la) N) = false) h3
        obtain ⟨e2, _⟩ := own_plain (rfl : isPend (mapP I (rfSet l1 N la) N) = false) h3'
        exact ⟨rfl, e1.trans e2.symm⟩
      | j + 1, _, h1, _ => simp at h1
      | 0, j' + 1, _, h1' => simp at h1'
    · obtain rfl : ms = [] := List.eq_nil_of_length_eq_zero hms
      refine ⟨rfl, rfl, psiP N, fun j k x p ha => ?_, fun j k j' k' x p p' ha hb hψ => ?_⟩
      · obtain ⟨o, l, h1, h2, h3⟩ := ha
        match j, h1, h2 with
        | 0, h1, h2 =>
          obtain rfl : mapP I (rfSet l1 N la) (N + 1) = o := by simpa [adP, l1', lget] using h1
          obtain rfl : q = l := by simpa using h2
          obtain ⟨e1, e2, e3, _⟩ := own_plain (rfl : isPend (mapP I (rfSet l1 N la) (N + 1)) = false) h3
          subst e1
          exact .inl ⟨rfl, _, q, rfl, rfl, h3⟩
        | 1, h1, _ => obtain rfl : unb = o := by simpa [adP] using h1
                      cases h3
        | 2, h1, _ => obtain rfl : unb = o := by simpa [adP] using h1
                      cases h3
        | 3, h1, _ => obtain rfl : unb = o := by simpa [adP] using h1
                      cases h3
        | 4, h1, _ => obtain rfl : unb = o := by simpa [adP] using h1
                      cases h3
        | 5, h1, h2 =>
          obtain rfl : arO T (rfSet l2 N (rrIn dk lb m 1)) (N + 1) (updF D N (m, B)) g (updF A N a) = o := by simpa [adP, l2', lget] using h1
          obtain rfl : rfSet l1 N la = l := by simpa [l1', lget] using h2
          unfold arO at h3
          rw [own_fm] at h3
          split at h3
          · rename_i hk
            injection h3 with h3
            injection h3 with q1 q2
            by_cases hkN : k = N
            · subst hkN
              rw [psiP_5]
              refine .inr ⟨rfl, ⟨.cells ⟨rowW dk lb m 1 :: g a⟩ T, la, rfl, rfl, ?_⟩, fun j' k' x' p' _ h => by cases congrArg Prod.fst h⟩
              rw [← q1, ← q2, K1]
              have : rfC (rfSet l2 k (rrIn dk lb m 1)) 1 (updF D k (m, B)) k ++ g (updF A k a k) = rowW dk lb m 1 :: g a := by
                unfold rfC
                rw [updF_at, updF_at, K2, if_neg (by show ¬ m = 0; omega), rowV_rrIn dk lb hmx]
                rfl
              rw [this]
              rfl
            · rw [psiP_5k hkN]
              refine .inr ⟨rfl, ⟨arO T l2 N D g A, l1, rfl, rfl, ?_⟩, fun j' k' x' p' _ h => by cases congrArg Prod.fst h⟩
              show own (arO T l2 N D g A) l1 k = some (x, p)
              unfold arO
              rw [own_fm, if_pos (by omega), ← q1, ← q2, M1 k hkN]
              have : rfC (rfSet l2 N (rrIn dk lb m 1)) 1 (updF D N (m, B)) k ++ g (updF A N a k) = rfC l2 1 D k ++ g (A k) := by
                unfold rfC
                rw [updF_ne _ _ hkN, updF_ne _ _ hkN, M2 k hkN]
              rw [this]
          · cases h3
        | 6, h1, h2 =>
          obtain rfl : rfO TB f 1 (N + 1) (updF D N (m, B)) = o := by simpa [adP] using h1
          obtain rfl : rfSet l2 N (rrIn dk lb m 1) = l := by simpa [l2', lget] using h2
          obtain ⟨hk, hn, rfl, rfl⟩ := own_rf2 h3
          by_cases hkN : k = N
          · subst hkN
            rw [psiP_6]
            refine .inr ⟨rfl, ⟨rowD dk lb (esG f m B) TB m 1, lb, rfl, rfl, ?_⟩, fun j' k' x' p' _ h => by cases congrArg Prod.fst h⟩
            rw [updF_at, K2, rowO_rrIn dk lb _ _ hmx]
            rfl
          · rw [psiP_6k hkN]
            refine .inr ⟨rfl, ⟨rfO TB f 1 N D, l2, rfl, rfl, ?_⟩, fun j' k' x' p' _ h => by cases congrArg Prod.fst h⟩
            rw [updF_ne _ _ hkN] at hn ⊢
            rw [own_rf1 (by omega) hn, M2 k hkN]
        | c + 7, h1, _ => simp [adP] at h1
      · have one : ∀ {j k x p}, At ([q, l1, l2, la, lb] ++ [rfSet l1 N la, rfSet l2 N (rrIn dk lb m 1)]) ([mapP I (rfSet l1 N la) (N + 1), unb, unb, unb, unb] ++ [arO T (rfSet l2 N (rrIn dk lb m 1)) (N + 1) (updF D N (m, B)) g (updF A N a), rfO TB f 1 (N + 1) (updF D N (m, B))]) j k x p → (j = 0 ∧ k = 0) ∨ j = 5 ∨ j = 6 := fun {j k x p} ⟨o, l, h1, h2, h3⟩ => by
          match j, h1, h2 with
          | 0, h1, h2 =>
            obtain rfl : mapP I (rfSet l1 N la) (N + 1) = o := by simpa using h1
            exact .inl ⟨rfl, (own_plain (rfl : isPend (mapP I (rfSet l1 N la) (N + 1)) = false) h3).1⟩
          | 1, h1, _ => obtain rfl : unb = o := by simpa using h1
                        cases h3
          | 2, h1, _ => obtain rfl : unb = o := by simpa using h1
                        cases h3
          | 3, h1, _ => obtain rfl : unb = o := by simpa using h1
                        cases h3
          | 4, h1, _ => obtain rfl : unb = o := by simpa using h1
                        cases h3
          | 5, _, _ => exact .inr (.inl rfl)
          | 6, _, _ => exact .inr (.inr rfl)
          | c + 7, h1, _ => simp at h1
        exact psiP_inj (one ha) (one hb) hψ
/-- A number that is a region's. -/
theorem lkP_has (ok : Bool) {x : Int} (hT : P.underlying Tm = some (.map kt el)) (hk : P.underlying kt = some (.int .i64)) (h : inR (x - 1) N = true) :
    SpcG P M B0 S ⟨fun ls => .op (.lkp Tm (.map (some (lget ls 0).n)) (.int .i64 x) ok), fun ls => [mapP I (lget ls 1) N, arO T (lget ls 2) N D g A, rfO TB f 1 N D], 0, .normal, fun ls => [lkV ok (vfP I (lget ls 1) (x - 1).toNat) true], fun ls => [mapP I (lget ls 1) N, arO T (lget ls 2) N D g A, rfO TB f 1 N D], fun _ => []⟩ := by
  refine spc_read fun ls w hl hsat hS => ?_
  match ls, hl with
  | [q, l1, l2], _ =>
    obtain ⟨hx0, hx1⟩ := inR_iff.1 h
    have hg : w.heap[q.n]? = some (mapP I l1 N) := hsat.hold 0 0 _ q _ _ rfl rfl rfl
    let e : Nat → Bool := fun j => x == ((j + 1 : Nat) : Int)
    have he : e (x - 1).toNat = true := by show (x == (((x - 1).toNat + 1 : Nat) : Int)) = true; rw [beq_iff_eq]; omega
    have hlt : fdx e N < N := Decidable.byContradiction fun hn => by
      have := fdx_not hn (j := (x - 1).toNat) (by omega)
      rw [he] at this; cases this
    have hat : fdx e N = (x - 1).toNat := by
      have h1 : (x == ((fdx e N + 1 : Nat) : Int)) = true := fdx_is hlt
      rw [beq_iff_eq] at h1; omega
    have hf := run_findKey (P := P) (w := w) hk (findG_has (kf := kfP) (vf := vfP I l1) (A := id) (e := e) (x := .int .i64 x) (fun j => rfl) hlt)
    have hc : ∀ e, (Instr.checkKey e (9999 + 1) kt (.int .i64 x)).run P w = .ok () w := fun b => run_checkKey (k := .int .i64 x) hk rfl b 9999
    have hg' : (getObj q.n).run P w = .ok (mapP I l1 N) w := by
      have hg2 : w.heap[q.n]? = some (.map ⟨(List.range N).map (entG (fun k => kfP (id k)) fun k => vfP I l1 (id k))⟩ N) := hg
      simp [getObj, Sem.run, hg2, mapP, mapG]
    show (Q.lkp Tm (.map (some q.n)) (.int .i64 x) ok).sem.run P w = .ok (.value (lkV ok (vfP I l1 (x - 1).toNat) true)) w
    rw [← hat]
    simp only [Q.sem, Instr.lookup, Sem.run_bind, run_underlying hT, Result.andThen_ok, hg', mapP, mapG, Sem.run_pure, hc, hf]
    cases ok <;> simp [lkV]
/-- One that is none. -/
theorem lkP_none (ok : Bool) (z : Value) {x : Int} (hT : P.underlying Tm = some (.map kt el)) (hk : P.underlying kt = some (.int .i64)) (hz : ∀ w, (zeroValue el).run P w = .ok z w) (h : inR (x - 1) N = false) :
    SpcG P M B0 S ⟨fun ls => .op (.lkp Tm (.map (some (lget ls 0).n)) (.int .i64 x) ok), fun ls => [mapP I (lget ls 1) N, arO T (lget ls 2) N D g A, rfO TB f 1 N D], 0, .normal, fun ls => [lkV ok z false], fun ls => [mapP I (lget ls 1) N, arO T (lget ls 2) N D g A, rfO TB f 1 N D], fun _ => []⟩ := by
  refine spc_read fun ls w hl hsat hS => ?_
  match ls, hl with
  | [q, l1, l2], _ =>
    have hg : w.heap[q.n]? = some (mapP I l1 N) := hsat.hold 0 0 _ q _ _ rfl rfl rfl
    let e : Nat → Bool := fun j => x == ((j + 1 : Nat) : Int)
    have hno : ¬ fdx e N < N := fun hlt => by
      have h1 : (x == ((fdx e N + 1 : Nat) : Int)) = true := fdx_is hlt
      rw [beq_iff_eq] at h1
      have : inR (x - 1) N = true := inR_iff.2 ⟨by omega, by omega⟩
      rw [this] at h; cases h
    have hf := run_findKey (P := P) (w := w) hk (findG_none (kf := kfP) (vf := vfP I l1) (A := id) (e := e) (x := .int .i64 x) (fun j => rfl) hno)
    have hc : ∀ e, (Instr.checkKey e (9999 + 1) kt (.int .i64 x)).run P w = .ok () w := fun b => run_checkKey (k := .int .i64 x) hk rfl b 9999
    have hg' : (getObj q.n).run P w = .ok (mapP I l1 N) w := by
      have hg2 : w.heap[q.n]? = some (.map ⟨(List.range N).map (entG (fun k => kfP (id k)) fun k => vfP I l1 (id k))⟩ N) := hg
      simp [getObj, Sem.run, hg2, mapP, mapG]
    show (Q.lkp Tm (.map (some q.n)) (.int .i64 x) ok).sem.run P w = .ok (.value (lkV ok z false)) w
    simp only [Q.sem, Instr.lookup, Sem.run_bind, run_underlying hT, Result.andThen_ok, hg', mapP, mapG, Sem.run_pure, hc, hf, hz]
    cases ok <;> simp [lkV]
/-- What a callee does with one region, its struct and its bytes. -/
theorem memAR_ok {sp : Spc} {k : Nat} {B' : Nat → τ} {a' : σ} (hm : sp.m = 0) (hpre : ∀ ls, sp.pre ls = [.cells ⟨rowV (lget ls 1) (D k).1 1 :: g (A k)⟩ T, rowO (lget ls 1) (esG f (D k).1 (D k).2) TB (D k).1 1])
    (hpost : ∀ ls, sp.post ls = [.cells ⟨rowV (lget ls 1) (D k).1 1 :: g a'⟩ T, rowO (lget ls 1) (esG f (D k).1 B') TB (D k).1 1]) (hnew : ∀ ls, sp.new ls = []) (hk : k < N) (h0 : decide (0 < (D k).1) = true) (h : SpcG P M B0 S sp) :
    SpcG P M B0 S ⟨fun ls => sp.wh [mfl (lget ls 0) k, mfl (lget ls 1) k], fun ls => [arO T (lget ls 1) N D g A, rfO TB f 1 N D], 0, sp.ex, fun ls => sp.val [mfl (lget ls 0) k, mfl (lget ls 1) k],
      fun ls => [arO T (lget ls 1) N (updF D k ((D k).1, B')) g (updF A k a'), rfO TB f 1 N (updF D k ((D k).1, B'))], fun _ => []⟩ := by
  have h0 : (D k).1 ≠ 0 := by have := of_decide_eq_true h0; omega
  refine SpcG.sub (sp := fun _ => sp) (fun _ => h) (fun ls => [mfl (lget ls 0) k, mfl (lget ls 1) k]) (fun _ _ => []) (fun _ => rfl) (fun ls hlen => ?_)
  match ls, hlen with
  | [l1, l2], _ =>
    have two : ∀ {b : Nat → τ} {a : σ} {j i x p}, At [mfl l1 k, mfl l2 k] [.cells ⟨rowV (mfl l2 k) (D k).1 1 :: g a⟩ T, rowO (mfl l2 k) (esG f (D k).1 b) TB (D k).1 1] j i x p →
        (j = 0 ∧ i = 0 ∧ x = (mfl l1 k).n ∧ p = .cells ⟨rowV (mfl l2 k) (D k).1 1 :: g a⟩ T) ∨ (j = 1 ∧ i = 0 ∧ x = (mfl l2 k).n ∧ p = rowO (mfl l2 k) (esG f (D k).1 b) TB (D k).1 1) := fun {b a j i x p} ⟨o, l, h1, h2, h3⟩ => by
      match j, h1, h2 with
      | 0, h1, h2 =>
        obtain rfl : Obj.cells ⟨rowV (mfl l2 k) (D k).1 1 :: g a⟩ T = o := by simpa using h1
        obtain rfl : mfl l1 k = l := by simpa using h2
        obtain ⟨e1, e2, e3, _⟩ := own_plain rfl h3
        exact .inl ⟨rfl, e1, e2, e3⟩
      | 1, h1, h2 =>
        obtain rfl : rowO (mfl l2 k) (esG f (D k).1 b) TB (D k).1 1 = o := by simpa using h1
        obtain rfl : mfl l2 k = l := by simpa using h2
        obtain ⟨e1, e2, e3, _⟩ := own_plain rfl h3
        exact .inr ⟨rfl, e1, e2, e3⟩
      | c + 2, h1, _ => simp at h1
    have ar : ∀ {E : Nat → Nat × (Nat → τ)} {C : Nat → σ} {i : Nat}, i < N → own (arO T l2 N E g C) l1 i = some ((mfl l1 i).n, .cells ⟨rfC l2 1 E i ++ g (C i)⟩ T) := fun {E C i} hi => by
      unfold arO
      rw [own_fm, if_pos hi]
    refine ⟨by rw [hpre]; rfl, rfl, fun j i => (j, k), ⟨fun j i x p ha => ?_, fun j i j' i' x p p' ha hb e => ?_⟩, fun ms hms => ?_⟩
    · rw [hpre] at ha
      rcases two ha with ⟨rfl, rfl, rfl, rfl⟩ | ⟨rfl, rfl, rfl, rfl⟩
      · refine ⟨arO T l2 N D g A, l1, rfl, rfl, ?_⟩
        rw [ar hk]
        unfold rfC
        rw [if_neg h0]
        rfl
      · exact ⟨rfO TB f 1 N D, l2, rfl, rfl, own_rf1 hk h0⟩
    · rw [hpre] at ha hb
      rcases two ha with ⟨rfl, rfl, _⟩ | ⟨rfl, rfl, _⟩ <;> rcases two hb with ⟨rfl, rfl, _⟩ | ⟨rfl, rfl, _⟩
      · exact ⟨rfl, rfl⟩
      · cases congrArg Prod.fst e
      · cases congrArg Prod.fst e
      · exact ⟨rfl, rfl⟩
    · obtain rfl : ms = [] := List.eq_nil_of_length_eq_zero (hms.trans hm)
      have cl : ∀ {j i x p}, At ([l1, l2] ++ ([] : List L1)) ([arO T l2 N (updF D k ((D k).1, B')) g (updF A k a'), rfO TB f 1 N (updF D k ((D k).1, B'))] ++ ([] : List Obj)) j i x p →
          (j = 0 ∧ i < N ∧ own (arO T l2 N (updF D k ((D k).1, B')) g (updF A k a')) l1 i = some (x, p)) ∨ (j = 1 ∧ own (rfO TB f 1 N (updF D k ((D k).1, B'))) l2 i = some (x, p)) := fun {j i x p} ⟨o, l, h1, h2, h3⟩ => by
        match j, h1, h2 with
        | 0, h1, h2 =>
          obtain rfl : arO T l2 N (updF D k ((D k).1, B')) g (updF A k a') = o := by simpa using h1
          obtain rfl : l1 = l := by simpa using h2
          refine .inl ⟨rfl, ?_, h3⟩
          unfold arO at h3
          rw [own_fm] at h3
          split at h3
          · assumption
          · cases h3
        | 1, h1, h2 =>
          obtain rfl : rfO TB f 1 N (updF D k ((D k).1, B')) = o := by simpa using h1
          obtain rfl : l2 = l := by simpa using h2
          exact .inr ⟨rfl, h3⟩
        | c + 2, h1, _ => simp at h1
      refine ⟨rfl, rfl, fun j i => if i = k then (true, j, 0) else (false, j, i), fun j i x p ha => ?_, fun j i j' i' x p p' ha hb e => ?_⟩
      · have hps : sp.post ([mfl l1 k, mfl l2 k] ++ []) ++ sp.new ([mfl l1 k, mfl l2 k] ++ []) = [.cells ⟨rowV (mfl l2 k) (D k).1 1 :: g a'⟩ T, rowO (mfl l2 k) (esG f (D k).1 B') TB (D k).1 1] := by rw [hpost, hnew]; rfl
        dsimp only
        by_cases hik : i = k
        · subst hik
          rw [show (if i = i then ((true, j, 0) : Bool × Nat × Nat) else (false, j, i)) = (true, j, 0) from if_pos rfl]
          refine .inl ⟨rfl, ?_⟩
          show At ([mfl l1 i, mfl l2 i] ++ []) (sp.post ([mfl l1 i, mfl l2 i] ++ []) ++ sp.new ([mfl l1 i, mfl l2 i] ++ [])) j 0 x p
          rw [hps]
          rcases cl ha with ⟨rfl, hi, h3⟩ | ⟨rfl, h3⟩
          · rw [ar hi] at h3
            refine ⟨_, mfl l1 i, rfl, rfl, ?_⟩
            rw [← h3]
            unfold rfC
            rw [updF_at, updF_at, if_neg h0]
            rfl
          · refine ⟨_, mfl l2 i, rfl, rfl, ?_⟩
            obtain ⟨_, _, rfl, rfl⟩ := own_rf2 h3
            rw [updF_at]
            rfl
        · simp only [if_neg hik]
          refine .inr ⟨trivial, ?_, fun j' k' x' p' _ e => hik (congrArg Prod.snd e).symm⟩
          rcases cl ha with ⟨rfl, hi, h3⟩ | ⟨rfl, h3⟩
          · refine ⟨arO T l2 N D g A, l1, rfl, rfl, ?_⟩
            rw [ar hi] at h3 ⊢
            rw [← h3]
            unfold rfC
            rw [updF_ne _ _ hik, updF_ne _ _ hik]
          · obtain ⟨hi, hn, rfl, rfl⟩ := own_rf2 h3
            rw [updF_ne _ _ hik] at hn ⊢
            exact ⟨rfO TB f 1 N D, l2, rfl, rfl, own_rf1 hi hn⟩
      · by_cases u : i = k <;> by_cases v : i' = k <;> simp [u, v] at e ⊢
        · exact e
        · exact e
theorem ar_cells {l1 l2 : L1} {w : World} {k : Nat} (hs : SatF [l1, l2] [arO T l2 N D g A, rfO TB f 1 N D] w) (hk : k < N) : w.heap[(mfl l1 k).n]? = some (.cells ⟨rfC l2 1 D k ++ g (A k)⟩ T) :=
  hs.hold 0 k _ l1 _ _ rfl rfl (by unfold arO; rw [own_fm, if_pos hk])
/-- A region's slice of bytes, and its other fields. -/
theorem ldAS_ok {T1 : TypeId} {k : Nat} (hA : ∀ w, (isAgg T1).run P w = .ok false w) (hk : k < N) (h0 : decide (0 < (D k).1) = true) :
    SpcG P M B0 S ⟨fun ls => .op (.ld T1 (.pointer (some ⟨(mfl (lget ls 0) k).n, 0, none⟩))), fun ls => [arO T (lget ls 1) N D g A, rfO TB f 1 N D], 0, .normal, fun ls => [rowV (mfl (lget ls 1) k) (D k).1 1], fun ls => [arO T (lget ls 1) N D g A, rfO TB f 1 N D], fun _ => []⟩ := by
  have h0 := of_decide_eq_true h0
  refine spc_read fun ls w hl hsat hS => ?_
  match ls, hl with
  | [l1, l2], _ =>
    refine ld_run hA ?_
    show w.cell? ⟨(mfl l1 k).n, 0, none⟩ = some (rowV (mfl l2 k) (D k).1 1)
    rw [cell_of_cells (ar_cells hsat hk)]
    show (⟨rfC l2 1 D k ++ g (A k)⟩ : Array Value)[0]? = _
    unfold rfC
    rw [if_neg (by omega)]
    rfl
theorem ldAS0_ok {T1 : TypeId} {k : Nat} (hA : ∀ w, (isAgg T1).run P w = .ok false w) (hk : k < N) (h0 : decide (0 < (D k).1) = false) :
    SpcG P M B0 S ⟨fun ls => .op (.ld T1 (.pointer (some ⟨(mfl (lget ls 0) k).n, 0, none⟩))), fun ls => [arO T (lget ls 1) N D g A, rfO TB f 1 N D], 0, .normal, fun ls => [.slice none 0 0], fun ls => [arO T (lget ls 1) N D g A, rfO TB f 1 N D], fun _ => []⟩ := by
  have h0 := of_decide_eq_false h0
  refine spc_read fun ls w hl hsat hS => ?_
  match ls, hl with
  | [l1, l2], _ =>
    refine ld_run hA ?_
    show w.cell? ⟨(mfl l1 k).n, 0, none⟩ = some (.slice none 0 0)
    rw [cell_of_cells (ar_cells hsat hk)]
    show (⟨rfC l2 1 D k ++ g (A k)⟩ : Array Value)[0]? = _
    unfold rfC
    rw [if_pos (by omega)]
    rfl
theorem ldAR_ok {T1 : TypeId} {k : Nat} (j : Nat) {v : Value} (hA : ∀ w, (isAgg T1).run P w = .ok false w) (hk : k < N) (hv : (g (A k))[j]? = some v) :
    SpcG P M B0 S ⟨fun ls => .op (.ld T1 (.pointer (some ⟨(mfl (lget ls 0) k).n, j + 1, none⟩))), fun ls => [arO T (lget ls 1) N D g A, rfO TB f 1 N D], 0, .normal, fun ls => [v], fun ls => [arO T (lget ls 1) N D g A, rfO TB f 1 N D], fun _ => []⟩ := by
  refine spc_read fun ls w hl hsat hS => ?_
  match ls, hl with
  | [l1, l2], _ =>
    refine ld_run hA ?_
    show w.cell? ⟨(mfl l1 k).n, j + 1, none⟩ = some v
    rw [cell_of_cells (ar_cells hsat hk), List.getElem?_toArray]
    unfold rfC
    exact hv
/-- No regions yet: a map and two families of none. -/
theorem mkP_ok (Tm I T TB : TypeId) (f : τ → List Value) (g : σ → List Value) (D : Nat → Nat × (Nat → τ)) (A : Nat → σ) :
    SpcG P M B0 S ⟨fun _ => .op (.mkm Tm none), fun _ => [], 3, .normal, fun ls => [.map (some (lget ls 0).n)], fun _ => [], fun ls => [mapP I (lget ls 1) 0, arO T (lget ls 2) 0 D g A, rfO TB f 1 0 D]⟩ := by
  intro ls w hlen hsat htb hS
  have hlen : ([] : List Obj).length = ls.length := hlen
  obtain rfl : ls = [] := List.eq_nil_of_length_eq_zero hlen.symm
  have hr : (Q.mkm Tm none).sem.run P w = .ok (.value (.map (some w.heap.size))) (w.alloc (.map #[] 0)) := by
    simp [Q.sem, Instr.makeMap, Sem.run_bind, Result.andThen]
  have ha := heap_alloc w (.map #[] 0)
  have at_ : ∀ (j k : Nat) (o : Obj) (y : L1) (x : Nat) (p : Obj), (([] : List Obj) ++ [mapP I (lget [⟨w.heap.size, plainU⟩, ⟨0, plainU⟩, ⟨0, plainU⟩] 1) 0, arO T (lget [⟨w.heap.size, plainU⟩, ⟨0, plainU⟩, ⟨0, plainU⟩] 2) 0 D g A, rfO TB f 1 0 D])[j]? = some o → (([] : List L1) ++ [⟨w.heap.size, plainU⟩, ⟨0, plainU⟩, ⟨0, plainU⟩])[j]? = some y → own o y k = some (x, p) →
      j = 0 ∧ k = 0 ∧ x = w.heap.size ∧ p = .map #[] 0 := fun j k o y x p hj hy ho => by
    match j, hj, hy with
    | 0, hj, hy =>
      obtain rfl : mapP I (lget [⟨w.heap.size, plainU⟩, ⟨0, plainU⟩, ⟨0, plainU⟩] 1) 0 = o := by simpa using hj
      obtain rfl : (⟨w.heap.size, plainU⟩ : L1) = y := by simpa using hy
      obtain ⟨e1, e2, e3, _⟩ := own_plain rfl ho
      exact ⟨rfl, e1, e2, e3⟩
    | 1, hj, hy =>
      obtain rfl : arO T (lget [⟨w.heap.size, plainU⟩, ⟨0, plainU⟩, ⟨0, plainU⟩] 2) 0 D g A = o := by simpa using hj
      unfold arO at ho
      rw [own_fm, if_neg (by omega)] at ho
      cases ho
    | 2, hj, hy =>
      obtain rfl : rfO TB f 1 0 D = o := by simpa using hj
      obtain ⟨h, _⟩ := own_rf2 ho
      omega
    | c + 3, hj, _ => simp at hj
  refine ⟨_, _, .inl hr, [⟨w.heap.size, plainU⟩, ⟨0, plainU⟩, ⟨0, plainU⟩], rfl, rfl, ⟨rfl, rfl, rfl, by simp, fun x hx _ => ha.2 x hx⟩, fun _ => ⟨⟨fun j k o y x p hj hy ho => ?_, fun i j k k' o o' y y' x p p' hi hy hw hj hy' hw' => ?_⟩, fun j k o y x p hj hy ho => ?_⟩⟩
  · obtain ⟨_, _, rfl, rfl⟩ := at_ j k o y x p hj hy ho
    exact ha.1
  · obtain ⟨e1, e2, _⟩ := at_ i k o y x p hi hy hw
    obtain ⟨e3, e4, _⟩ := at_ j k' o' y' x p' hj hy' hw'
    exact ⟨by omega, by omega⟩
  · obtain ⟨_, _, rfl, _⟩ := at_ j k o y x p hj hy ho
    exact .inl (Nat.le_refl _)
theorem psiA_inj {k j i j' i' : Nat} (h : j ≤ 1) (h' : j' ≤ 1) (e : (if j = 0 then (if i = k then ((true, 0, 0) : Bool × Nat × Nat) else (false, 0, i)) else (false, 1, i)) = (if j' = 0 then (if i' = k then ((true, 0, 0) : Bool × Nat × Nat) else (false, 0, i')) else (false, 1, i'))) : j = j' ∧ i = i' := by
  by_cases u : i = k <;> by_cases v : i' = k <;> by_cases c : j = 0 <;> by_cases d : j' = 0 <;> simp [u, v, c, d] at e ⊢ <;> omega
theorem SpcGf.t {sp : Spc} (h : SpcGf false P M B0 S sp) (hc : ∀ ls ms, chkX (sp.pre ls) (sp.post (ls ++ ms)) (sp.new (ls ++ ms)) = true) : SpcG P M B0 S sp := fun ls w h1 h2 h3 h4 =>
  (h ls w h1 h2 h3 h4).mono fun _ _ ⟨ms, a, b, c, d⟩ => ⟨ms, a, b, c, fun _ => d (.inr (hc ls ms))⟩
/-- A region's field is written. -/
theorem stAR_ok {T1 : TypeId} {k sz : Nat} (j : Nat) {u : Value} {a' : σ} (hg : ∀ x, (g x).length + 1 = sz) (h1 : ∀ x, ((g x).all fun u => u.oneCell') = true) (hu : u.cells.toList.length = 1) (hj : j + 1 < sz) (hv : (g (A k)).set j u = g a') (huc : u.cells.toList = [u])
    (hz : ∀ w, (sizeOf T1).run P w = .ok u.cells.size w) (hk : k < N) :
    SpcG P M B0 S ⟨fun ls => .op (.st T1 (.pointer (some ⟨(mfl (lget ls 0) k).n, j + 1, none⟩)) u), fun ls => [arO T (lget ls 1) N D g A, rfO TB f 1 N D], 0, .normal, fun _ => [undef], fun ls => [arO T (lget ls 1) N D g (updF A k a'), rfO TB f 1 N D], fun _ => []⟩ := by
  let F : List L1 → σ → List Value := fun ls a => rfC (lget ls 1) 1 D k ++ g a
  have rfl1 : ∀ l, (rfC l 1 D k).length = 1 := fun l => rfl
  have rfo : ∀ l, ((rfC l 1 D k).all fun u => u.oneCell') = true := fun l => by
    unfold rfC
    split <;> rfl
  have hF : ∀ ls x, (F ls x).length = sz := fun ls x => by show (rfC (lget ls 1) 1 D k ++ g x).length = sz; rw [List.length_append, rfl1, ← hg x]; omega
  have hF1 : ∀ ls x, ((F ls x).all fun u => u.oneCell') = true := fun ls x => by show (rfC (lget ls 1) 1 D k ++ g x).all _ = true; rw [List.all_append, rfo, h1]; rfl
  have hsp : ∀ ls, SpcG P M B0 S (sqSt T1 T (F ls) 1 0 sz (fun _ => A k) a' (j + 1) u (fun _ => [])) := fun ls => by
    refine SpcGf.t (sqSt_ok (P := P) (S := S) (j + 1) u (hF ls) (hF1 ls) (by rw [hu]; exact Nat.ble_eq_true_of_le (by omega)) ?_ hz (by omega)).g (fun as ms => by rfl)
    have e : (rfC (lget ls 1) 1 D k) = [(rfC (lget ls 1) 1 D k).headD undef] := by unfold rfC; rfl
    show (rfC (lget ls 1) 1 D k ++ g (A k)).take (j + 1) ++ u.cells.toList ++ (rfC (lget ls 1) 1 D k ++ g (A k)).drop (j + 1 + u.cells.toList.length) = rfC (lget ls 1) 1 D k ++ g a'
    have hl := hg (A k)
    rw [hu, huc, e, ← hv, List.set_eq_take_append_cons_drop, if_pos (by omega)]
    simp
  refine SpcG.sub hsp (fun ls => [mfl (lget ls 0) k]) (fun _ _ => []) (fun _ => rfl) (fun ls hlen => ?_)
  match ls, hlen with
  | [l1, l2], _ =>
    have ar : ∀ {C : Nat → σ} {i : Nat}, i < N → own (arO T l2 N D g C) l1 i = some ((mfl l1 i).n, .cells ⟨rfC l2 1 D i ++ g (C i)⟩ T) := fun {C i} hi => by
      unfold arO
      rw [own_fm, if_pos hi]
    have e1 : ∀ a, (⟨esG (F [l1, l2]) 1 (fun _ => a) ++ []⟩ : Array Value) = ⟨rfC l2 1 D k ++ g a⟩ := fun a => by simp [esG, F, lget]
    have e2 : ∀ a, (⟨esG (F [l1, l2]) 1 (updF (fun _ => A k) 0 a) ++ []⟩ : Array Value) = ⟨rfC l2 1 D k ++ g a⟩ := fun a => by simp [esG, F, lget, updF_at]
    have one : ∀ {c : Array Value} {j i x p}, At [mfl l1 k] [.cells c T] j i x p → j = 0 ∧ i = 0 ∧ x = (mfl l1 k).n ∧ p = .cells c T := fun {c j i x p} ⟨o, l, h1, h2, h3⟩ => by
      match j, h1, h2 with
      | 0, h1, h2 =>
        obtain rfl : Obj.cells c T = o := by simpa using h1
        obtain rfl : mfl l1 k = l := by simpa using h2
        obtain ⟨e1, e2, e3, _⟩ := own_plain rfl h3
        exact ⟨rfl, e1, e2, e3⟩
      | c + 1, h1, _ => simp at h1
    refine ⟨rfl, ?_, fun j i => (0, k), ⟨fun j i x p ha => ?_, fun j i j' i' x p p' ha hb e => ?_⟩, fun ms hms => ?_⟩
    · show Wh.op (.st T1 (.pointer (some ⟨(mfl l1 k).n, j + 1, none⟩)) u) = Wh.op (.st T1 (.pointer (some ⟨(mfl l1 k).n, 0 + 0 * sz + (j + 1), none⟩)) u)
      simp
    · obtain ⟨rfl, rfl, rfl, rfl⟩ := one ha
      refine ⟨arO T l2 N D g A, l1, rfl, rfl, ?_⟩
      rw [ar hk, e1]
    · obtain ⟨rfl, rfl, _⟩ := one ha
      obtain ⟨rfl, rfl, _⟩ := one hb
      exact ⟨rfl, rfl⟩
    · obtain rfl : ms = [] := List.eq_nil_of_length_eq_zero hms
      have cl : ∀ {j i x p}, At ([l1, l2] ++ ([] : List L1)) ([arO T l2 N D g (updF A k a'), rfO TB f 1 N D] ++ ([] : List Obj)) j i x p → (j = 0 ∧ i < N ∧ own (arO T l2 N D g (updF A k a')) l1 i = some (x, p)) ∨ (j = 1 ∧ own (rfO TB f 1 N D) l2 i = some (x, p)) := fun {j i x p} ⟨o, l, h1, h2, h3⟩ => by
        match j, h1, h2 with
        | 0, h1, h2 =>
          obtain rfl : arO T l2 N D g (updF A k a') = o := by simpa using h1
          obtain rfl : l1 = l := by simpa using h2
          refine .inl ⟨rfl, ?_, h3⟩
          unfold arO at h3
          rw [own_fm] at h3
          split at h3
          · assumption
          · cases h3
        | 1, h1, h2 =>
          obtain rfl : rfO TB f 1 N D = o := by simpa using h1
          obtain rfl : l2 = l := by simpa using h2
          exact .inr ⟨rfl, h3⟩
        | c + 2, h1, _ => simp at h1
      refine ⟨rfl, rfl, fun j i => if j = 0 then (if i = k then (true, 0, 0) else (false, 0, i)) else (false, 1, i), fun j i x p ha => ?_, fun j i j' i' x p p' ha hb e => ?_⟩
      · rcases cl ha with ⟨rfl, hi, h3⟩ | ⟨rfl, h3⟩
        · rw [ar hi] at h3
          by_cases hik : i = k
          · subst hik
            refine .inl ⟨by simp, ?_⟩
            show At ([mfl l1 i] ++ []) ([.cells ⟨esG (F [l1, l2]) 1 (updF (fun _ => A i) 0 a') ++ []⟩ T] ++ []) (if (0 : Nat) = 0 then (if i = i then ((true, 0, 0) : Bool × Nat × Nat) else (false, 0, i)) else (false, 1, i)).2.1 (if (0 : Nat) = 0 then (if i = i then ((true, 0, 0) : Bool × Nat × Nat) else (false, 0, i)) else (false, 1, i)).2.2 x p
            rw [if_pos rfl, if_pos rfl, e2]
            refine ⟨_, mfl l1 i, rfl, rfl, ?_⟩
            rw [← h3, updF_at]
            rfl
          · refine .inr ⟨by simp [hik], ?_, fun j' k' x' p' _ e => ?_⟩
            · show At [l1, l2] [arO T l2 N D g A, rfO TB f 1 N D] (if (0 : Nat) = 0 then (if i = k then ((true, 0, 0) : Bool × Nat × Nat) else (false, 0, i)) else (false, 1, i)).2.1 (if (0 : Nat) = 0 then (if i = k then ((true, 0, 0) : Bool × Nat × Nat) else (false, 0, i)) else (false, 1, i)).2.2 x p
              rw [if_pos rfl, if_neg hik]
              refine ⟨arO T l2 N D g A, l1, rfl, rfl, ?_⟩
              rw [ar hi, ← h3, updF_ne _ _ hik]
            · simp [hik] at e
              exact hik e.symm
        · refine .inr ⟨by simp, ⟨rfO TB f 1 N D, l2, by simp, by simp, by simpa using h3⟩, fun j' k' x' p' _ e => by simp at e⟩
      · have b1 : j ≤ 1 := by rcases cl ha with ⟨rfl, _⟩ | ⟨rfl, _⟩ <;> omega
        have b2 : j' ≤ 1 := by rcases cl hb with ⟨rfl, _⟩ | ⟨rfl, _⟩ <;> omega
        exact psiA_inj b1 b2 e
theorem psiB_inj {k j i j' i' : Nat} (e : (if j = 0 then (if i = k then ((true, 0, 0) : Bool × Nat × Nat) else (false, 0, i)) else (true, j, i)) = (if j' = 0 then (if i' = k then ((true, 0, 0) : Bool × Nat × Nat) else (false, 0, i')) else (true, j', i'))) : j = j' ∧ i = i' := by
  by_cases u : i = k <;> by_cases v : i' = k <;> by_cases c : j = 0 <;> by_cases d : j' = 0 <;> simp [u, v, c, d] at e ⊢ <;> omega
/-- What a callee does with one region's bytes, and what it makes beside. -/
theorem memBY_ok {sp : Spc} {k : Nat} {B' : Nat → τ} (hpre : ∀ ls, sp.pre ls = [rowO (lget ls 0) (esG f (D k).1 (D k).2) TB (D k).1 1]) (hpost : ∀ ls, sp.post ls = [rowO (lget ls 0) (esG f (D k).1 B') TB (D k).1 1])
    (hk : k < N) (h0 : decide (0 < (D k).1) = true) (h : SpcG P M B0 S sp) :
    SpcG P M B0 S ⟨fun ls => sp.wh [mfl (lget ls 0) k], fun ls => [rfO TB f 1 N D], sp.m, sp.ex, fun ls => sp.val (mfl (lget ls 0) k :: ls.drop 1), fun ls => [rfO TB f 1 N (updF D k ((D k).1, B'))], fun ls => sp.new (mfl (lget ls 0) k :: ls.drop 1)⟩ := by
  have h0 : (D k).1 ≠ 0 := by have := of_decide_eq_true h0; omega
  refine SpcG.sub (sp := fun _ => sp) (fun _ => h) (fun ls => [mfl (lget ls 0) k]) (fun _ ms => ms) (fun _ => rfl) (fun ls hlen => ?_)
  match ls, hlen with
  | [l], _ =>
    have one : ∀ {b : Nat → τ} {j i x p}, At [mfl l k] [rowO (mfl l k) (esG f (D k).1 b) TB (D k).1 1] j i x p → j = 0 ∧ i = 0 ∧ x = (mfl l k).n ∧ p = rowO (mfl l k) (esG f (D k).1 b) TB (D k).1 1 := fun {b j i x p} ⟨o, y, h1, h2, h3⟩ => by
      match j, h1, h2 with
      | 0, h1, h2 =>
        obtain rfl : rowO (mfl l k) (esG f (D k).1 b) TB (D k).1 1 = o := by simpa using h1
        obtain rfl : mfl l k = y := by simpa using h2
        obtain ⟨e1, e2, e3, _⟩ := own_plain rfl h3
        exact ⟨rfl, e1, e2, e3⟩
      | c + 1, h1, _ => simp at h1
    refine ⟨by rw [hpre]; rfl, rfl, fun j i => (0, k), ⟨fun j i x p ha => ?_, fun j i j' i' x p p' ha hb e => ?_⟩, fun ms hms => ?_⟩
    · rw [hpre] at ha
      obtain ⟨rfl, rfl, rfl, rfl⟩ := one ha
      exact ⟨rfO TB f 1 N D, l, rfl, rfl, own_rf1 hk h0⟩
    · rw [hpre] at ha hb
      obtain ⟨rfl, rfl, _⟩ := one ha
      obtain ⟨rfl, rfl, _⟩ := one hb
      exact ⟨rfl, rfl⟩
    · refine ⟨hms, rfl, fun j i => if j = 0 then (if i = k then (true, 0, 0) else (false, 0, i)) else (true, j, i), fun j i x p ha => ?_, fun j i j' i' x p p' ha hb e => psiB_inj e⟩
      obtain ⟨o, y, h1, h2, h3⟩ := ha
      match j, h1, h2 with
      | 0, h1, h2 =>
        obtain rfl : rfO TB f 1 N (updF D k ((D k).1, B')) = o := by simpa using h1
        obtain rfl : l = y := by simpa using h2
        obtain ⟨hi, hn, rfl, rfl⟩ := own_rf2 h3
        by_cases hik : i = k
        · subst hik
          refine .inl ⟨by simp, rowO (mfl l i) (esG f (D i).1 B') TB (D i).1 1, mfl l i, ?_, by simp [lget], ?_⟩
          · rw [hpost]
            simp [lget]
          · rw [updF_at]
            show own _ (mfl l i) (if (0 : Nat) = 0 then (if i = i then ((true, 0, 0) : Bool × Nat × Nat) else (false, 0, i)) else (true, 0, i)).2.2 = _
            rw [if_pos rfl, if_pos rfl]
            rfl
        · refine .inr ⟨by simp [hik], ⟨rfO TB f 1 N D, l, by simp [hik], by simp [hik], ?_⟩, fun j' k' x' p' _ e => ?_⟩
          · show own (rfO TB f 1 N D) l (if (0 : Nat) = 0 then (if i = k then ((true, 0, 0) : Bool × Nat × Nat) else (false, 0, i)) else (true, 0, i)).2.2 = _
            rw [if_pos rfl, if_neg hik]
            rw [updF_ne _ _ hik] at hn ⊢
            exact own_rf1 hi hn
          · simp [hik] at e
            exact hik e.symm
      | c + 1, h1, h2 =>
        refine .inl ⟨by simp, o, y, ?_, ?_, by simpa using h3⟩
        · rw [hpost]
          simpa [lget] using h1
        · simpa [lget] using h2
def psiC (k j i : Nat) : Bool × Nat × Nat := if j < 2 then (if i = k then (true, j, 0) else (false, j, i)) else (true, j, i)
theorem psiC_inj {k j i j' i' : Nat} (e : psiC k j i = psiC k j' i') : j = j' ∧ i = i' := by
  unfold psiC at e
  by_cases u : i = k <;> by_cases v : i' = k <;> by_cases c : j < 2 <;> by_cases d : j' < 2 <;> simp [u, v, c, d] at e ⊢ <;> omega
theorem psiC_ge (k c i : Nat) : psiC k (c + 2) i = (true, c + 2, i) := by unfold psiC; rw [if_neg (by omega)]
/-- What a callee does with one region, its struct and its bytes, with other blocks, and what it makes. -/
theorem memAR'_ok {sp : Spc} {k : Nat} {B' : Nat → τ} {a' : σ} {R R' : List L1 → List Obj} (hpre : ∀ ls, sp.pre ls = .cells ⟨rowV (lget ls 1) (D k).1 1 :: g (A k)⟩ T :: rowO (lget ls 1) (esG f (D k).1 (D k).2) TB (D k).1 1 :: R ls)
    (hpost : ∀ ls, sp.post ls = .cells ⟨rowV (lget ls 1) (D k).1 1 :: g a'⟩ T :: rowO (lget ls 1) (esG f (D k).1 B') TB (D k).1 1 :: R' ls) (hk : k < N) (h0 : decide (0 < (D k).1) = true) (h : SpcG P M B0 S sp) :
    SpcG P M B0 S ⟨fun ls => sp.wh (mfl (lget ls 0) k :: mfl (lget ls 1) k :: ls.drop 2), fun ls => arO T (lget ls 1) N D g A :: rfO TB f 1 N D :: R (mfl (lget ls 0) k :: mfl (lget ls 1) k :: ls.drop 2), sp.m, sp.ex, fun ls => sp.val (mfl (lget ls 0) k :: mfl (lget ls 1) k :: ls.drop 2),
      fun ls => arO T (lget ls 1) N (updF D k ((D k).1, B')) g (updF A k a') :: rfO TB f 1 N (updF D k ((D k).1, B')) :: R' (mfl (lget ls 0) k :: mfl (lget ls 1) k :: ls.drop 2), fun ls => sp.new (mfl (lget ls 0) k :: mfl (lget ls 1) k :: ls.drop 2)⟩ := by
  have h0 : (D k).1 ≠ 0 := by have := of_decide_eq_true h0; omega
  refine SpcG.sub (sp := fun _ => sp) (fun _ => h) (fun ls => mfl (lget ls 0) k :: mfl (lget ls 1) k :: ls.drop 2) (fun _ ms => ms) (fun _ => rfl) (fun ls hlen => ?_)
  match ls, hlen with
  | [], hlen => simp at hlen
  | [_], hlen => simp at hlen
  | l1 :: l2 :: rest, hlen =>
    have ar : ∀ {E : Nat → Nat × (Nat → τ)} {C : Nat → σ} {i : Nat}, i < N → own (arO T l2 N E g C) l1 i = some ((mfl l1 i).n, .cells ⟨rfC l2 1 E i ++ g (C i)⟩ T) := fun {E C i} hi => by
      unfold arO
      rw [own_fm, if_pos hi]
    have arN : ∀ {E : Nat → Nat × (Nat → τ)} {C : Nat → σ} {i x p}, own (arO T l2 N E g C) l1 i = some (x, p) → i < N := fun {E C i x p} h3 => by
      unfold arO at h3
      rw [own_fm] at h3
      split at h3
      · assumption
      · cases h3
    have hpre' : sp.pre (mfl l1 k :: mfl l2 k :: rest) = .cells ⟨rowV (mfl l2 k) (D k).1 1 :: g (A k)⟩ T :: rowO (mfl l2 k) (esG f (D k).1 (D k).2) TB (D k).1 1 :: R (mfl l1 k :: mfl l2 k :: rest) := hpre _
    -- the blocks of the callee's list
    have two : ∀ {b : Nat → τ} {a : σ} {H : List Obj} {L : List L1} {j i x p}, At (mfl l1 k :: mfl l2 k :: L) (.cells ⟨rowV (mfl l2 k) (D k).1 1 :: g a⟩ T :: rowO (mfl l2 k) (esG f (D k).1 b) TB (D k).1 1 :: H) j i x p →
        (j = 0 ∧ i = 0 ∧ x = (mfl l1 k).n ∧ p = .cells ⟨rowV (mfl l2 k) (D k).1 1 :: g a⟩ T) ∨ (j = 1 ∧ i = 0 ∧ x = (mfl l2 k).n ∧ p = rowO (mfl l2 k) (esG f (D k).1 b) TB (D k).1 1) ∨ ∃ c, j = c + 2 ∧ At L H c i x p := fun {b a H L j i x p} ⟨o, l, h1, h2, h3⟩ => by
      match j, h1, h2 with
      | 0, h1, h2 =>
        obtain rfl : Obj.cells ⟨rowV (mfl l2 k) (D k).1 1 :: g a⟩ T = o := by simpa using h1
        obtain rfl : mfl l1 k = l := by simpa using h2
        obtain ⟨e1, e2, e3, _⟩ := own_plain rfl h3
        exact .inl ⟨rfl, e1, e2, e3⟩
      | 1, h1, h2 =>
        obtain rfl : rowO (mfl l2 k) (esG f (D k).1 b) TB (D k).1 1 = o := by simpa using h1
        obtain rfl : mfl l2 k = l := by simpa using h2
        obtain ⟨e1, e2, e3, _⟩ := own_plain rfl h3
        exact .inr (.inl ⟨rfl, e1, e2, e3⟩)
      | c + 2, h1, h2 => exact .inr (.inr ⟨c, rfl, o, l, by simpa using h1, by simpa using h2, h3⟩)
    refine ⟨?_, rfl, fun j i => if j < 2 then (j, k) else (j, i), ⟨fun j i x p ha => ?_, fun j i j' i' x p p' ha hb e => ?_⟩, fun ms hms => ?_⟩
    · show (sp.pre (mfl l1 k :: mfl l2 k :: rest)).length = _
      rw [hpre']
      simpa [lget] using hlen
    · have ha : At (mfl l1 k :: mfl l2 k :: rest) (sp.pre (mfl l1 k :: mfl l2 k :: rest)) j i x p := ha
      rw [hpre'] at ha
      rcases two ha with ⟨rfl, rfl, rfl, rfl⟩ | ⟨rfl, rfl, rfl, rfl⟩ | ⟨c, rfl, o, l, h1, h2, h3⟩
      · refine ⟨arO T l2 N D g A, l1, rfl, rfl, ?_⟩
        show own (arO T l2 N D g A) l1 k = _
        rw [ar hk]
        unfold rfC
        rw [if_neg h0]
        rfl
      · exact ⟨rfO TB f 1 N D, l2, rfl, rfl, own_rf1 hk h0⟩
      · have e : ¬ (c + 2 < 2) := by omega
        simp only [if_neg e]
        exact ⟨o, l, by simpa [lget] using h1, by simpa using h2, h3⟩
    · have ha : At (mfl l1 k :: mfl l2 k :: rest) (sp.pre (mfl l1 k :: mfl l2 k :: rest)) j i x p := ha
      have hb : At (mfl l1 k :: mfl l2 k :: rest) (sp.pre (mfl l1 k :: mfl l2 k :: rest)) j' i' x p' := hb
      rw [hpre'] at ha hb
      have z : ∀ {j i x p}, At (mfl l1 k :: mfl l2 k :: rest) (.cells ⟨rowV (mfl l2 k) (D k).1 1 :: g (A k)⟩ T :: rowO (mfl l2 k) (esG f (D k).1 (D k).2) TB (D k).1 1 :: R (mfl l1 k :: mfl l2 k :: rest)) j i x p → j < 2 → i = 0 := fun {j i x p} q hj => by
        rcases two q with ⟨_, h, _⟩ | ⟨_, h, _⟩ | ⟨c, h, _⟩
        · exact h
        · exact h
        · omega
      by_cases c : j < 2 <;> by_cases d : j' < 2 <;> simp [c, d] at e
      · exact ⟨e, (z ha c).trans (z hb d).symm⟩
      · omega
      · omega
      · exact e
    · refine ⟨hms, rfl, psiC k, fun j i x p ha => ?_, fun j i j' i' x p p' ha hb e => psiC_inj e⟩
      have hpo : sp.post (mfl l1 k :: mfl l2 k :: rest ++ ms) = .cells ⟨rowV (mfl l2 k) (D k).1 1 :: g a'⟩ T :: rowO (mfl l2 k) (esG f (D k).1 B') TB (D k).1 1 :: R' (mfl l1 k :: mfl l2 k :: rest ++ ms) := hpost _
      obtain ⟨o, y, h1, h2, h3⟩ := ha
      match j, h1, h2 with
      | 0, h1, h2 =>
        obtain rfl : arO T l2 N (updF D k ((D k).1, B')) g (updF A k a') = o := by simpa [lget] using h1
        obtain rfl : l1 = y := by simpa using h2
        have hi := arN h3
        rw [ar hi] at h3
        by_cases hik : i = k
        · subst hik
          refine .inl ⟨by simp [psiC], .cells ⟨rowV (mfl l2 i) (D i).1 1 :: g a'⟩ T, mfl l1 i, ?_, ?_, ?_⟩
          · show (sp.post (mfl l1 i :: mfl l2 i :: rest ++ ms) ++ sp.new (mfl l1 i :: mfl l2 i :: rest ++ ms))[(psiC i 0 i).2.1]? = _
            rw [hpo]; simp [psiC]
          · simp [psiC, lget]
          · rw [← h3]
            unfold rfC
            rw [updF_at, updF_at, if_neg h0, show (psiC i 0 i).2.2 = 0 by simp [psiC]]
            rfl
        · refine .inr ⟨by simp [psiC, hik], ⟨arO T l2 N D g A, l1, by simp [psiC, hik, lget], by simp [psiC, hik], ?_⟩, fun j' i' x' p' _ e => ?_⟩
          · rw [show (psiC k 0 i).2.2 = i by simp [psiC, hik], ar hi, ← h3]
            unfold rfC
            rw [updF_ne _ _ hik, updF_ne _ _ hik]
          · by_cases c : j' < 2 <;> simp [psiC, hik, c] at e
            · exact hik e.2.symm
            · omega
      | 1, h1, h2 =>
        obtain rfl : rfO TB f 1 N (updF D k ((D k).1, B')) = o := by simpa using h1
        obtain rfl : l2 = y := by simpa using h2
        obtain ⟨hi, hn, rfl, rfl⟩ := own_rf2 h3
        by_cases hik : i = k
        · subst hik
          refine .inl ⟨by simp [psiC], rowO (mfl l2 i) (esG f (D i).1 B') TB (D i).1 1, mfl l2 i, ?_, ?_, ?_⟩
          · show (sp.post (mfl l1 i :: mfl l2 i :: rest ++ ms) ++ sp.new (mfl l1 i :: mfl l2 i :: rest ++ ms))[(psiC i 1 i).2.1]? = _
            rw [hpo]; simp [psiC]
          · simp [psiC, lget]
          · rw [updF_at, show (psiC i 1 i).2.2 = 0 by simp [psiC]]
            rfl
        · refine .inr ⟨by simp [psiC, hik], ⟨rfO TB f 1 N D, l2, by simp [psiC, hik], by simp [psiC, hik], ?_⟩, fun j' i' x' p' _ e => ?_⟩
          · rw [show (psiC k 1 i).2.2 = i by simp [psiC, hik]]
            rw [updF_ne _ _ hik] at hn ⊢
            exact own_rf1 hi hn
          · by_cases c : j' < 2 <;> simp [psiC, hik, c] at e
            · exact hik e.2.symm
            · omega
      | c + 2, h1, h2 =>
        rw [psiC_ge]
        refine .inl ⟨rfl, o, y, ?_, ?_, h3⟩
        · show (sp.post (mfl l1 k :: mfl l2 k :: rest ++ ms) ++ sp.new (mfl l1 k :: mfl l2 k :: rest ++ ms))[c + 2]? = _
          rw [hpo]
          simpa [lget] using h1
        · simpa using h2
end
end Go.Proofs.Ytchogpgifdkhbaa
