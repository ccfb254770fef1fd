/-
  Operations that change memory (3): append. Nothing of the program stands here.
-/
import Derived.Test.YtoapdkcokemieaaGreatEuK
namespace Go.Proofs.YtoapdkcokemieaaGreat.Ev
open Go.RowKit
noncomputable section
set_option linter.unusedVariables false
set_option linter.unusedSimpArgs false
set_option linter.unusedSectionVars false
variable [Fs] [En] [FsOk]
section
variable {P : Program} {F : Fr} {b : Bm} {H : Hp} {w : World}
/-- What is appended. -/
def evNews (H : Hp) (size : Nat) : PV → Option (Nat × List PV)
  | .ns => some (0, [])
  | .sl i off len _ _ => match H.t.at i with
    | some (.row c _ _ _ _) => match c.run off (len * size) with
      | some l => some (len, l)
      | none => none
    | _ => none
  | .st s => match Nat.beq size 1 with
    | true => some (s.length, s.map fun c => .it .u8 ((c % 256 : Nat) : Int))
    | false => none
  | .ss s => match Nat.beq size 1 with
    | true => some (s.length, s)
    | false => none
  | _ => none
theorem str_VL (s : List Nat) : VL b (s.map fun c => PV.it .u8 ((c % 256 : Nat) : Int)) ((bys s).data.map fun c => Value.int .u8 c.toNat).toList := by
  induction s with
  | nil => simp [bys]; exact .nil
  | cons c s ih =>
    simp [bys] at ih ⊢
    refine .cons _ _ _ _ ?_ ih
    have : ((c : Int) % 256) = ((c % 256 : Nat) : Int) := by simp
    rw [this]
    have h := V.it (b := b) .u8 ((c % 256 : Nat) : Int)
    simpa using h
theorem evNews_ok (hr : HR F b H w) {size : Nat} {p : PV} {u : Value} (hp : V b p u) {n : Nat} {l : List PV} (h : evNews H size p = some (n, l)) :
    ∃ l', (∀ w2, (Builtin.lenOf u).run P w2 = .ok n w2) ∧ (Builtin.firstCells size n u).run P w = .ok ⟨l'⟩ w ∧ VL b l l' ∧ l.length = n * size := by
  cases hp with
  | ns =>
    simp [evNews] at h
    obtain ⟨rfl, rfl⟩ := h
    exact ⟨[], fun w2 => by simp [Builtin.lenOf], by simp [Builtin.firstCells], .nil, by simp⟩
  | sl i off len c g x hx =>
    simp only [evNews] at h
    split at h
    · rename_i t k T sz g2 hi
      split at h
      · rename_i l2 hl
        simp at h
        obtain ⟨rfl, rfl⟩ := h
        obtain ⟨l', h1, h2, h3⟩ := hr.row (P := P) hi hx hl
        exact ⟨l', fun w2 => by simp [Builtin.lenOf], by simp [Builtin.firstCells, h1], h2, (Tr.run_spec hl).1⟩
      · cases h
    · cases h
  | st s =>
    simp only [evNews] at h
    split at h
    · rename_i hs
      have hs := Nat.eq_of_beq_eq_true hs
      subst hs
      simp at h
      obtain ⟨rfl, rfl⟩ := h
      refine ⟨((bys s).data.map fun c => Value.int .u8 c.toNat).toList, fun w2 => by simp [Builtin.lenOf, bys_size], ?_, by have := str_VL (b := b) s; simpa using this, by simp⟩
      have : (bys s).extract 0 s.length = bys s := by rw [bys_extract]; simp
      simp only [Builtin.firstCells, this, Sem.run_pure]
    · cases h
  | ss s s' m h1 h2 h3 =>
    simp only [evNews] at h
    split at h
    · rename_i hs
      have hs := Nat.eq_of_beq_eq_true hs
      subst hs
      simp at h
      obtain ⟨rfl, rfl⟩ := h
      have e : s.length = m.length := by have := h1.length; rw [h2] at this; simpa using this
      refine ⟨((bys m).data.map fun c => Value.int .u8 c.toNat).toList, fun w2 => by simp [Builtin.lenOf, bys_size, e], ?_, by rw [str_cells h3, ← h2]; exact h1, by simp⟩
      have : (bys m).extract 0 s.length = bys m := by rw [bys_extract, e]; simp
      simp only [Builtin.firstCells, this, Sem.run_pure]
    · cases h
  | _ => simp [evNews] at h
theorem zeroCells_size (z : Array Value) (n : Nat) : (Builtin.zeroCells z n).size = n * z.size := by simp [Builtin.zeroCells]
theorem grown_le (w : World) {need old : Nat} {e : TypeId} (h : need < 2 ^ 63) : need ≤ grownCap w need old e := by
  unfold grownCap Question.cut
  exact Nat.le_add_right _ _
def notInt : TypeDesc → Bool
  | .string => true
  | .slice _ => true
  | _ => false
theorem notInt_cases {D : TypeDesc} (h : notInt D = true) : D = .string ∨ ∃ e, D = .slice e := by
  cases D <;> simp [notInt] at h ⊢
set_option maxHeartbeats 2000000 in
/-- append where it grows. -/
theorem run_app_grow {t t2 ty e : TypeId} {ats : Array TypeId} (h0 : ats[0]? = some t) (h1 : ats[1]? = some t2) (ht : P.underlying t = some (.slice e)) {D : TypeDesc} (ht2 : P.underlying t2 = some D) (hD : notInt D = true) {i : TypeInfo}
    (hi : P.info? e = some i) {z : Value} (hz : ∀ w, (zeroValue e).run P w = .ok z w) {base : Option Addr} {sLen sCap n : Nat} {u : Value} (hn : ∀ w2, (Builtin.lenOf u).run P w2 = .ok n w2) {olds news : List Value}
    (hf : (Builtin.firstCells i.size n u).run P w.drew = .ok ⟨news⟩ w.drew) (hfo : (Builtin.firstCells i.size sLen (.slice base sLen sCap)).run P w.drew = .ok ⟨olds⟩ w.drew) (hg : sCap < sLen + n) (hb1 : sLen + n ≤ 1000000000)
    (hb2 : (sLen + n) * i.bytes ≤ 100000000000) :
    (Builtin.append_ ats ty #[.slice base sLen sCap, u]).run P w =
      .ok (.slice (some ⟨w.heap.size, 0, none⟩) (sLen + n) (grownCap w (sLen + n) sCap e))
        (w.drew.alloc (.cells ((⟨olds⟩ : Array Value) ++ ⟨news⟩ ++ Builtin.zeroCells z.cells (grownCap w (sLen + n) sCap e - (sLen + n))) e)) := by
  have hn' : ¬ (sLen + n ≤ sCap) := by omega
  have h63' : ¬ (9223372036854775807 < ((sLen : Int) + (n : Int))) := by omega
  have h48' : ¬ (281474976710656 < Builtin.nextslicecap (sLen + n) sCap * i.bytes) := by
    have := growslice_fits hg (show (sLen + n) * i.bytes ≤ 140737488355328 by omega)
    omega
  rcases notInt_cases hD with rfl | ⟨e2, rfl⟩ <;>
    simp [Builtin.append_, h0, h1, run_underlying ht, run_underlying ht2, sizeOf, typeInfo, hz, hi, hn, hn', h63', h48', Question.forced, hf, hfo, newRow, grownCap] <;>
    (congr 2; apply Array.ext'; simp)
set_option maxHeartbeats 2000000 in
/-- append where there is room. -/
theorem run_app_room {t t2 ty e : TypeId} {ats : Array TypeId} (h0 : ats[0]? = some t) (h1 : ats[1]? = some t2) (ht : P.underlying t = some (.slice e)) {D : TypeDesc} (ht2 : P.underlying t2 = some D) (hD : notInt D = true) {i : TypeInfo}
    (hi : P.info? e = some i) {base : Addr} {sLen sCap n : Nat} {u : Value} (hn : ∀ w2, (Builtin.lenOf u).run P w2 = .ok n w2) {news : List Value}
    (hf : (Builtin.firstCells i.size n u).run P w = .ok ⟨news⟩ w) (hg : sLen + n ≤ sCap) {w' : World} (hst : (storeCells (base.add (sLen * i.size)) news).run P w = .ok () w') :
    (Builtin.append_ ats ty #[.slice (some base) sLen sCap, u]).run P w = .ok (.slice (some base) (sLen + n) sCap) w' := by
  rcases notInt_cases hD with rfl | ⟨e2, rfl⟩ <;>
    simp [Builtin.append_, h0, h1, run_underlying ht, run_underlying ht2, sizeOf, typeInfo, hi, hn, hg, hf, hst]
set_option maxHeartbeats 2000000 in
theorem run_app_none {t t2 ty e : TypeId} {ats : Array TypeId} (h0 : ats[0]? = some t) (h1 : ats[1]? = some t2) (ht : P.underlying t = some (.slice e)) {D : TypeDesc} (ht2 : P.underlying t2 = some D) (hD : notInt D = true) {i : TypeInfo}
    (hi : P.info? e = some i) {u : Value} (hn : ∀ w2, (Builtin.lenOf u).run P w2 = .ok 0 w2) {news : List Value} (hf : (Builtin.firstCells i.size 0 u).run P w = .ok ⟨news⟩ w) :
    (Builtin.append_ ats ty #[.slice none 0 0, u]).run P w = .ok (.slice none 0 0) w := by
  rcases notInt_cases hD with rfl | ⟨e2, rfl⟩ <;>
    simp [Builtin.append_, h0, h1, run_underlying ht, run_underlying ht2, sizeOf, typeInfo, hi, hn, hf]
def ev_append (P : Program) (H : Hp) (m : Nat) (t t2 : TypeId) (s p : PV) : Option (PV × Ef) := match P.underlying t, P.underlying t2 with
  | some (.slice e), some D => match notInt D, evMk P e, infoB P e with
    | true, some (z, size), some bt => match evNews H size p with
      | some (n, news) => match news.all oneP with
        | true => match s with
          | .ns => match n with
            | 0 => some (.ns, .no)
            | n + 1 => match Nat.ble (n + 1) 1000000000 && Nat.ble ((n + 1) * bt) 100000000000 with
              | true => some (.sl m 0 (n + 1) (n + 1) true, .row news e size true)
              | false => none
          | .sl i off len c g => match Nat.ble (len + n) c with
            | true => match evWr H i (off + len * size) news with
              | some ef => some (.sl i off (len + n) c g, ef)
              | none => none
            | false => match Nat.ble (len + n) 1000000000 && Nat.ble ((len + n) * bt) 100000000000 with
              | true => match H.t.at i with
                | some (.row ct k T sz g2) => match ct.run off (len * size) with
                  | some olds => match g with
                    | false => some (.sl m 0 (len + n) (len + n) true, .row (olds ++ news) e size true)
                    | true => match Nat.beq (off + c * size) k && Nat.beq sz size && Nat.beq T e && g2 with
                      | true => some (.sl m 0 (len + n) (len + n) true, .mv i (olds ++ news) e size)
                      | false => none
                  | none => none
                | _ => none
              | false => none
          | _ => none
        | false => none
      | none => none
    | _, _, _ => none
  | _, _ => none
theorem evMk_info {e : TypeId} {z : List PV} {n : Nat} (h : evMk P e = some (z, n)) : ∃ i, P.info? e = some i ∧ i.size = n := by
  unfold evMk at h
  split at h
  · split at h
    · rename_i m hm
      split at h
      · simp at h
        obtain ⟨_, rfl⟩ := h
        unfold szT at hm
        split at hm
        · rename_i i hi; simp at hm; exact ⟨i, hi, hm⟩
        · cases hm
      · cases h
    · cases h
  · cases h
theorem add_rowg (hr : HR F b H w) {m n : Nat} (hlo : F.n0 ≤ m) (hm : b m = none) (hmn : m < n) (hn : H.n ≤ n) {l : List PV} {l' rest : List Value} (hl : VL b l l') (T sz room : Nat) (hrest : rest.length = room * sz) :
    HR F (b.upd m ⟨w.heap.size, 0, room⟩) ((Ef.row l T sz true).ap m n H) (w.alloc (.cells ⟨l' ++ rest⟩ T)) ∧ Keep F w (w.alloc (.cells ⟨l' ++ rest⟩ T)) := by
  refine hr.add hlo hm hmn hn ?_
  exact OR.fresh (b := b.upd m ⟨w.heap.size, 0, room⟩) (x := ⟨w.heap.size, 0, room⟩) rfl (T := T) (sz := sz) (g := true) (hl.mono (Bm.le_upd hm _)) (by simpa using hrest)
theorem drew_did {m n : Nat} {s : Sem Next} {v : PV} {e : Ef} {x : Next} {v' : Value} {b' : Bm} {w' : World} (h : s.run P w = .ok x w') (hx : x = .value v' ∨ x = .skip ∧ v' = undef) (hv : V b' v v') (hle : b.le b') (hne : ∀ j, j ≠ m → b' j = b j)
    (hr : HR F b' (e.ap m n H) w') (hk : Keep F w.drew w') : Did P F b H w m n s v e :=
  ⟨x, v', b', w', h, hx, hv, hle, hne, hr, (Keep.drew F w).trans hk⟩
theorem ev_append_ok (hr : HR F b H w) {m n : Nat} (hlo : F.n0 ≤ m) (hm : b m = none) (hmn : m < n) (hn : H.n ≤ n) {t t2 ty : TypeId} {ats : Array TypeId} (h0 : ats[0]? = some t) (h1 : ats[1]? = some t2) {ps px : PV} {us ux : Value} (hs : V b ps us) (hx : V b px ux)
    {v : PV} {e : Ef} (h : ev_append P H m t t2 ps px = some (v, e)) : Did P F b H w m n (do pure (.value (← Builtin.append_ ats ty #[us, ux]))) v e := by
  unfold ev_append at h
  split at h
  · rename_i el D ht ht2
    split at h
    · rename_i z size bt hD hz hbt
      obtain ⟨z', hz1, hz2, hz3, hz4, hz5⟩ := evMk_ok (P := P) (b := b) hz
      have hzs : z'.cells.size = size := by rw [← hz4, hz2.length]; simp
      obtain ⟨i, hi, hsz⟩ := evMk_info hz
      have hbt' : i.bytes = bt := by
        unfold infoB at hbt; rw [hi] at hbt; simpa using hbt
      split at h
      · rename_i q news hnews
        split at h
        · rename_i hone
          split at h
          · -- nil
            cases hs
            split at h
            · simp at h
              obtain ⟨rfl, rfl⟩ := h
              obtain ⟨l', h2, h3, h4, h5⟩ := evNews_ok (P := P) hr hx hnews
              refine Did.still hr hn (v' := .slice none 0 0) (x := .value (.slice none 0 0)) ?_ (.inl rfl) .ns
              rw [← hsz] at h3
              simp [run_app_none (P := P) (w := w) (ty := ty) h0 h1 ht ht2 hD hi h2 h3]
            · rename_i q
              split at h
              · rename_i hb
                simp only [Bool.and_eq_true, Nat.ble_eq] at hb
                simp at h
                obtain ⟨rfl, rfl⟩ := h
                obtain ⟨l', h2, h3, h4, h5⟩ := evNews_ok (P := P) hr.drew hx hnews
                rw [← hsz] at h3
                have hrun := run_app_grow (P := P) (w := w) (ty := ty) h0 h1 ht ht2 hD hi hz1 (base := none) (sLen := 0) (sCap := 0) h2 (olds := []) h3 (by simp [Builtin.firstCells]) (by omega) (by omega) (by rw [hbt']; simpa using hb.2)
                have hge := grown_le w (need := 0 + (q + 1)) (old := 0) (e := el) (by omega)
                generalize hc : grownCap w (0 + (q + 1)) 0 el = c at hrun hge
                obtain ⟨h6, h7⟩ := add_rowg hr.drew hlo hm hmn hn h4 el size (c - (0 + (q + 1))) (rest := (Builtin.zeroCells z'.cells (c - (0 + (q + 1)))).toList) (by simp [zeroCells_size, hzs])
                refine drew_did (x := .value (.slice (some ⟨w.heap.size, 0, none⟩) (0 + (q + 1)) c)) ?_ (.inl rfl) ?_ (Bm.le_upd hm _) (fun j hj => Bm.upd_ne (Ne.symm hj) _) h6 h7
                · have e1 : ((⟨[]⟩ : Array Value) ++ ⟨l'⟩ ++ Builtin.zeroCells z'.cells (c - (0 + (q + 1)))) = ⟨l' ++ (Builtin.zeroCells z'.cells (c - (0 + (q + 1)))).toList⟩ := by apply Array.ext'; simp
                  rw [e1] at hrun
                  simp [hrun]
                · have := V.sl (b := b.upd m ⟨w.drew.heap.size, 0, c - (0 + (q + 1))⟩) m 0 (q + 1) (q + 1) true _ (Bm.upd_at ..)
                  have e2 : (q + 1) + (c - (0 + (q + 1))) = c := by omega
                  simp only [cond_true, e2] at this
                  simpa using this
              · cases h
          · rename_i j off len c g
            cases hs with
            | sl _ _ _ _ _ x hxb =>
              split at h
              · -- room for sure
                rename_i hcap
                simp only [Nat.ble_eq] at hcap
                split at h
                · rename_i ef hef
                  simp at h
                  obtain ⟨rfl, rfl⟩ := h
                  obtain ⟨l', h2, h3, h4, h5⟩ := evNews_ok (P := P) hr hx hnews
                  rw [← hsz] at h3
                  obtain ⟨w', h6, h7, h8⟩ := evWr_ok (P := P) (m := m) hr hn hef hxb h4
                  have hst : (storeCells ((⟨x.n, x.o + off, none⟩ : Addr).add (len * i.size)) l').run P w = .ok () w' := by
                    rw [Addr.add_lit, hsz, Nat.add_assoc]; exact h6
                  have hrun := run_app_room (P := P) (ty := ty) h0 h1 ht ht2 hD hi (base := ⟨x.n, x.o + off, none⟩) (sLen := len) (sCap := c + bif g then x.room else 0) h2 h3 (by omega) hst
                  exact ⟨.value (.slice (some ⟨x.n, x.o + off, none⟩) (len + q) (c + bif g then x.room else 0)), _, b, w', by simp [hrun], .inl rfl, .sl _ _ _ _ _ x hxb, b.le_rfl, fun _ _ => rfl, h7, h8⟩
                · cases h
              · rename_i hcap
                have hcap : c < len + q := by
                  have : ¬ (len + q ≤ c) := fun e => by rw [← Nat.ble_eq] at e; rw [e] at hcap; cases hcap
                  omega
                split at h
                · rename_i hb
                  simp only [Bool.and_eq_true, Nat.ble_eq] at hb
                  split at h
                  · rename_i ct k T sz g2 hj
                    split at h
                    · rename_i olds holds
                      obtain ⟨ol', ho1, ho2, ho3⟩ := hr.drew.row (P := P) hj hxb holds
                      obtain ⟨l', h2, h3, h4, h5⟩ := evNews_ok (P := P) hr.drew hx hnews
                      rw [← hsz] at h3
                      have hlold := (Tr.run_spec holds).1
                      -- where it grows
                      have grow : ∀ sCap, sCap < len + q → ∃ cc, len + q ≤ cc ∧ (Builtin.append_ ats ty #[.slice (some ⟨x.n, x.o + off, none⟩) len sCap, ux]).run P w = .ok (.slice (some ⟨w.heap.size, 0, none⟩) (len + q) cc) (w.drew.alloc (.cells ⟨(ol' ++ l') ++ (Builtin.zeroCells z'.cells (cc - (len + q))).toList⟩ el)) := by
                        intro sCap hsc
                        have hrun := run_app_grow (P := P) (w := w) (ty := ty) h0 h1 ht ht2 hD hi hz1 (base := some ⟨x.n, x.o + off, none⟩) (sLen := len) (sCap := sCap) h2 (olds := ol') h3 (by simp [Builtin.firstCells, hsz, ho1]) hsc hb.1 (by rw [hbt']; exact hb.2)
                        refine ⟨_, grown_le w (need := len + q) (old := sCap) (e := el) (by omega), ?_⟩
                        rw [hrun]
                        congr 3
                        congr 1
                        apply Array.ext'; simp
                      have hall := ho2.app h4
                      split at h
                      · -- it must grow
                        simp at h
                        obtain ⟨rfl, rfl⟩ := h
                        obtain ⟨cc, hcc, hrun⟩ := grow c hcap
                        obtain ⟨h6, h7⟩ := add_rowg hr.drew hlo hm hmn hn hall el size (cc - (len + q)) (rest := (Builtin.zeroCells z'.cells (cc - (len + q))).toList) (by simp [zeroCells_size, hzs])
                        refine drew_did (x := .value (.slice (some ⟨w.heap.size, 0, none⟩) (len + q) cc)) ?_ (.inl rfl) ?_ (Bm.le_upd hm _) (fun j hj => Bm.upd_ne (Ne.symm hj) _) h6 h7
                        · have : c + (bif false then x.room else 0) = c := rfl
                          simp [hrun]
                        · have := V.sl (b := b.upd m ⟨w.drew.heap.size, 0, cc - (len + q)⟩) m 0 (len + q) (len + q) true _ (Bm.upd_at ..)
                          have e2 : (len + q) + (cc - (len + q)) = cc := by omega
                          simp only [cond_true, e2] at this
                          simpa using this
                      · split at h
                        · rename_i hb3
                          simp only [Bool.and_eq_true] at hb3
                          obtain ⟨⟨⟨hb3, hb4⟩, hb5⟩, hb6⟩ := hb3
                          have hb3 := Nat.eq_of_beq_eq_true hb3
                          have hb4 := Nat.eq_of_beq_eq_true hb4
                          have hb5 := Nat.eq_of_beq_eq_true hb5
                          subst hb4; subst hb5; subst hb6
                          simp at h
                          obtain ⟨rfl, rfl⟩ := h
                          have hcap2 : c + (bif true then x.room else 0) = c + x.room := rfl
                          by_cases hroom : len + q ≤ c + x.room
                          · -- in place
                            obtain ⟨lw, h2w, h3w, h4w, h5w⟩ := evNews_ok (P := P) hr hx hnews
                            rw [← hsz] at h3w
                            obtain ⟨a, fz, hc1, hc2, hc3, hc4, hc5, hc6⟩ := hr.cells hj hxb
                            simp only [cond_true] at hc2
                            have hlw := h4w.length
                            have hmul : len * sz + q * sz = (len + q) * sz := (Nat.add_mul _ _ _).symm
                            have hmul2 : c * sz + x.room * sz = (c + x.room) * sz := (Nat.add_mul _ _ _).symm
                            have hmul3 : (len + q) * sz ≤ (c + x.room) * sz := Nat.mul_le_mul_right _ hroom
                            obtain ⟨a', hw1, hw2, hw3⟩ := run_storeC (P := P) (g := x.n) (o := x.o + off) (T := T) (fz := fz) lw (len * sz) a w hc1 (by omega) (oneL_ok h4w hone) (.inl (by rw [hc5]))
                            have hst : (storeCells ((⟨x.n, x.o + off, none⟩ : Addr).add (len * i.size)) lw).run P w = .ok () (World.seto w x.n (.cells a' T fz)) := by
                              obtain ⟨a2, hw4, hw5, hw6⟩ := run_storeC (P := P) (g := x.n) (o := x.o + off + len * sz) (T := T) (fz := fz) lw 0 a w hc1 (by omega) (oneL_ok h4w hone) (.inl (by rw [hc5]))
                              have : a2 = a' := by
                                apply Array.ext_getElem?
                                intro k2
                                rw [hw3, hw6]; rfl
                              rw [Addr.add_lit, hsz, hw4, this]
                            have hrun := run_app_room (P := P) (ty := ty) h0 h1 ht ht2 hD hi (base := ⟨x.n, x.o + off, none⟩) (sLen := len) (sCap := c + x.room) h2w h3w hroom hst
                            obtain ⟨ol2, hp1, hp2, hp3⟩ := hr.row (P := P) hj hxb holds
                            have hy : OR (b.upd m ⟨x.n, x.o + off, c + x.room - (len + q)⟩) ⟨x.n, x.o + off, c + x.room - (len + q)⟩ (.row (Tr.fill .lf 0 (olds ++ news)) (olds ++ news).length T sz true) (.cells a' T fz) := by
                              refine ⟨a', fz, rfl, ?_, ?_, ?_, hc5⟩
                              · rw [hw2, hc2]
                                simp only [List.length_append, hlold, h5, cond_true]
                                have : (c + x.room - (len + q)) * sz = (c + x.room) * sz - (len + q) * sz := Nat.sub_mul _ _ _
                                omega
                              · intro k2 hk2; rw [Tr.at_fill, if_neg (by omega), Tr.at_lf]
                              · intro k2 v2 hk2
                                rw [Tr.at_fill] at hk2
                                split at hk2
                                · rename_i hin
                                  simp only [Nat.sub_zero] at hk2
                                  show ∃ v', a'[x.o + off + k2]? = some v' ∧ _
                                  rw [hw3]
                                  by_cases hk3 : k2 < len * sz
                                  · rw [List.getElem?_append_left (by omega)] at hk2
                                    obtain ⟨v', hv1, hv2⟩ := hp2.get hk2
                                    have := hp3 k2 v' hv1
                                    rw [if_neg (by omega)]
                                    refine ⟨v', ?_, hv2.mono (Bm.le_upd hm _)⟩
                                    simpa [World.cell?, hc1] using this
                                  · rw [List.getElem?_append_right (by omega)] at hk2
                                    obtain ⟨v', hv1, hv2⟩ := h4w.get hk2
                                    have hlt := (List.getElem?_eq_some_iff.1 hv1).1
                                    rw [if_pos (by omega)]
                                    refine ⟨v', ?_, hv2.mono (Bm.le_upd hm _)⟩
                                    rw [← hv1]; congr 1; omega
                                · rw [Tr.at_lf] at hk2; cases hk2
                            obtain ⟨h6, h7⟩ := hr.moved hj hxb (y := ⟨x.n, x.o + off, c + x.room - (len + q)⟩) rfl hlo hm hmn hn hy
                            refine ⟨.value (.slice (some ⟨x.n, x.o + off, none⟩) (len + q) (c + x.room)), _, _, _, ?_, .inl rfl, ?_, Bm.le_upd hm _, fun j hj => Bm.upd_ne (Ne.symm hj) _, h6, h7⟩
                            · simp [hrun]
                            · have := V.sl (b := b.upd m ⟨x.n, x.o + off, c + x.room - (len + q)⟩) m 0 (len + q) (len + q) true _ (Bm.upd_at ..)
                              have e2 : (len + q) + (c + x.room - (len + q)) = c + x.room := by omega
                              simp only [cond_true, e2] at this
                              simpa using this
                          · obtain ⟨cc, hcc, hrun⟩ := grow (c + x.room) (by omega)
                            have hrk := hr.drew.kill j
                            obtain ⟨h6, h7⟩ := add_rowg hrk hlo hm hmn hn hall T sz (cc - (len + q)) (rest := (Builtin.zeroCells z'.cells (cc - (len + q))).toList) (by simp [zeroCells_size, hzs])
                            refine drew_did (x := .value (.slice (some ⟨w.heap.size, 0, none⟩) (len + q) cc)) ?_ (.inl rfl) ?_ (Bm.le_upd hm _) (fun j hj => Bm.upd_ne (Ne.symm hj) _) h6 h7
                            · simp [hrun]
                            · have := V.sl (b := b.upd m ⟨w.drew.heap.size, 0, cc - (len + q)⟩) m 0 (len + q) (len + q) true _ (Bm.upd_at ..)
                              have e2 : (len + q) + (cc - (len + q)) = cc := by omega
                              simp only [cond_true, e2] at this
                              simpa using this
                        · cases h
                    · cases h
                  · cases h
                · cases h
          · cases h
        · cases h
      · cases h
    · cases h
  · cases h
end
end
end Go.Proofs.YtoapdkcokemieaaGreat.Ev
