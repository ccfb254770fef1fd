/-
  The law on fields: whatever the bytes, the place and the size it answers true.
-/
import Derived.Test.YtmopkmjddaaknaaS11F
namespace Go.Proofs.Ytmopkmjddaaknaa
open Go.RowKit
set_option linter.unusedVariables false
set_option linter.unusedSimpArgs false
theorem or_sh {x : BitVec 64} {y : BitVec 8} {k : Nat} (hk : k ≤ 56) (hx : x.toNat < 2 ^ k) : (x ||| (y.setWidth 64) <<< k).toNat = y.toNat * 2 ^ k + x.toNat := by
  have hy := y.isLt
  have e : (y.setWidth 64).toNat = y.toNat := by rw [BitVec.toNat_setWidth]; exact Nat.mod_eq_of_lt (by omega)
  have hp : y.toNat * 2 ^ k < 2 ^ 64 := by
    have h1 : y.toNat * 2 ^ k < 2 ^ 8 * 2 ^ k := Nat.mul_lt_mul_of_pos_right hy (Nat.two_pow_pos k)
    rw [← Nat.pow_add] at h1
    exact Nat.lt_of_lt_of_le h1 (Nat.pow_le_pow_right (by omega) (by omega))
  rw [BitVec.toNat_or, BitVec.toNat_shiftLeft, e, Nat.shiftLeft_eq, Nat.mod_eq_of_lt hp, Nat.or_comm, Nat.mul_comm, ← Nat.two_pow_add_eq_or_of_lt hx]
theorem by8 (y : BitVec 8) : (y.setWidth 64).toNat = y.toNat := by rw [BitVec.toNat_setWidth]; exact Nat.mod_eq_of_lt (by have := y.isLt; omega)
theorem mul_n (x y : BitVec 64) : (x * y).toNat = x.toNat * y.toNat % 18446744073709551616 := BitVec.toNat_mul ..
theorem add_n (x y : BitVec 64) : (x + y).toNat = (x.toNat + y.toNat) % 18446744073709551616 := BitVec.toNat_add ..
theorem fb1 (a : BitVec 8) : ((0#64 ||| ((a.setWidth 64) <<< 0)) == (0#64 + (a.setWidth 64))) = true := by
  rw [beq_iff_eq]; simp
theorem z0n : (0#64 : BitVec 64).toNat = 0 := rfl
theorem c256 : (256#64 : BitVec 64).toNat = 256 := rfl
theorem fb2 (a b : BitVec 8) : (((0#64 ||| ((a.setWidth 64) <<< 0)) ||| ((b.setWidth 64) <<< 8)) == ((256#64 * (0#64 + (b.setWidth 64))) + (a.setWidth 64))) = true := by
  rw [beq_iff_eq]
  apply BitVec.eq_of_toNat_eq
  have ha := a.isLt
  have hb := b.isLt
  have e0 : (0#64 ||| (a.setWidth 64) <<< 0).toNat = a.toNat := by rw [or_sh (k := 0) (by omega) (by rw [z0n]; omega), z0n]; omega
  have e1 : ((0#64 ||| (a.setWidth 64) <<< 0) ||| (b.setWidth 64) <<< 8).toNat = b.toNat * 256 + a.toNat := by rw [or_sh (k := 8) (by omega) (by rw [e0]; omega), e0]
  rw [e1, add_n, mul_n, add_n, z0n, c256, by8, by8]
  omega
theorem fb4 (a b c d : BitVec 8) : (((((0#64 ||| ((a.setWidth 64) <<< 0)) ||| ((b.setWidth 64) <<< 8)) ||| ((c.setWidth 64) <<< 16)) ||| ((d.setWidth 64) <<< 24)) == ((256#64 * ((256#64 * ((256#64 * (0#64 + (d.setWidth 64))) + (c.setWidth 64))) + (b.setWidth 64))) + (a.setWidth 64))) = true := by
  rw [beq_iff_eq]
  apply BitVec.eq_of_toNat_eq
  have ha := a.isLt
  have hb := b.isLt
  have hc := c.isLt
  have hd := d.isLt
  have e0 : (0#64 ||| (a.setWidth 64) <<< 0).toNat = a.toNat := by rw [or_sh (k := 0) (by omega) (by rw [z0n]; omega), z0n]; omega
  have e1 : ((0#64 ||| (a.setWidth 64) <<< 0) ||| (b.setWidth 64) <<< 8).toNat = b.toNat * 256 + a.toNat := by rw [or_sh (k := 8) (by omega) (by rw [e0]; omega), e0]
  have e2 : (((0#64 ||| (a.setWidth 64) <<< 0) ||| (b.setWidth 64) <<< 8) ||| (c.setWidth 64) <<< 16).toNat = c.toNat * 65536 + (b.toNat * 256 + a.toNat) := by rw [or_sh (k := 16) (by omega) (by rw [e1]; omega), e1]
  have e3 : ((((0#64 ||| (a.setWidth 64) <<< 0) ||| (b.setWidth 64) <<< 8) ||| (c.setWidth 64) <<< 16) ||| (d.setWidth 64) <<< 24).toNat = d.toNat * 16777216 + (c.toNat * 65536 + (b.toNat * 256 + a.toNat)) := by rw [or_sh (k := 24) (by omega) (by rw [e2]; omega), e2]
  rw [e3, add_n, mul_n, add_n, mul_n, add_n, mul_n, add_n, z0n, c256, by8, by8, by8, by8]
  omega
/-- The law's call, of a slice of twenty bytes. -/
def LF (c0 : Array Value) (T0 : TypeId) (z0 : Nat × Nat) (m0 cap0 : Nat) (y0 y1 : BitVec 64) : Spc :=
  ⟨fun ls => .call 5 #[.slice (some ⟨(lget ls 0).n, m0, none⟩) 20 cap0, .int .i64 (ii (y0)), .int .i64 (ii (y1))], fun ls => [.cells c0 T0 z0], 0, .normal, fun ls => [.bool true], fun ls => [.cells c0 T0 z0], fun ls => []⟩
theorem fields_spec (c0 : Array Value) (T0 : TypeId) (z0 : Nat × Nat) (m0 cap0 : Nat) (b0 : Nat → BitVec 8) (hc0 : ∀ k, k < 20 → c0[m0 + k]? = some (.int .u8 (nn (b0 k)))) (y0 y1 : BitVec 64) : SpcOk Try.prog (fun _ => True) (LF c0 T0 z0 m0 cap0 y0 y1) := by
  cases h0 : (BitVec.slt y0 18446744073709551611#64)
  · cases h1 : (BitVec.slt 30#64 y0)
    · cases h2 : (y0 == 0#64)
      · cases h3 : (y0 == 4#64)
        · cases h4 : (y0 == 8#64)
          · cases h5 : (y0 == 16#64)
            · cases h6 : (y0 == 12#64)
              · cases h7 : (y0 == 14#64)
                · cases h8 : (y1 == 1#64)
                  · cases h9 : (y1 == 2#64)
                    · cases h10 : (y1 == 4#64)
                      · cases h11 : (y1 == 8#64)
                        · exact p36_barbicanlaw11_SockFields c0 T0 z0 m0 cap0 b0 hc0 y0 y1  h0 h1 h2 h3 h4 h5 h6 h7 h8 h9 h10 h11
                        · have e11 := eq_of_beq h11
                          subst e11
                          exact p35_barbicanlaw11_SockFields c0 T0 z0 m0 cap0 b0 hc0 y0 _ rfl h0 h1 h2 h3 h4 h5 h6 h7 h8 h9 h10
                      · have e10 := eq_of_beq h10
                        subst e10
                        exact p34_barbicanlaw11_SockFields c0 T0 z0 m0 cap0 b0 hc0 y0 _ rfl h0 h1 h2 h3 h4 h5 h6 h7 h8 h9
                    · have e9 := eq_of_beq h9
                      subst e9
                      exact p33_barbicanlaw11_SockFields c0 T0 z0 m0 cap0 b0 hc0 y0 _ rfl h0 h1 h2 h3 h4 h5 h6 h7 h8
                  · have e8 := eq_of_beq h8
                    subst e8
                    exact p32_barbicanlaw11_SockFields c0 T0 z0 m0 cap0 b0 hc0 y0 _ rfl h0 h1 h2 h3 h4 h5 h6 h7
                · have e7 := eq_of_beq h7
                  subst e7
                  cases h8 : (y1 == 1#64)
                  · cases h9 : (y1 == 2#64)
                    · cases h10 : (y1 == 4#64)
                      · cases h11 : (y1 == 8#64)
                        · exact p31_barbicanlaw11_SockFields c0 T0 z0 m0 cap0 b0 hc0 y1  h0 h1 h2 h3 h4 h5 h6 h8 h9 h10 h11
                        · have e11 := eq_of_beq h11
                          subst e11
                          exact p30_barbicanlaw11_SockFields c0 T0 z0 m0 cap0 b0 hc0   h0 h1 h2 h3 h4 h5 h6 h8 h9 h10
                      · have e10 := eq_of_beq h10
                        subst e10
                        exact p29_barbicanlaw11_SockFields c0 T0 z0 m0 cap0 b0 hc0   h0 h1 h2 h3 h4 h5 h6 h8 h9
                    · have e9 := eq_of_beq h9
                      subst e9
                      have h := p28_barbicanlaw11_SockFields c0 T0 z0 m0 cap0 b0 hc0   h0 h1 h2 h3 h4 h5 h6 h8
                      unfold sq28_barbicanlaw11_SockFields at h
                      rw [fb2 (b0 14) (b0 15)] at h
                      exact h
                  · have e8 := eq_of_beq h8
                    subst e8
                    have h := p27_barbicanlaw11_SockFields c0 T0 z0 m0 cap0 b0 hc0   h0 h1 h2 h3 h4 h5 h6
                    unfold sq27_barbicanlaw11_SockFields at h
                    rw [fb1 (b0 14)] at h
                    exact h
              · have e6 := eq_of_beq h6
                subst e6
                cases h7 : (y1 == 1#64)
                · cases h8 : (y1 == 2#64)
                  · cases h9 : (y1 == 4#64)
                    · cases h10 : (y1 == 8#64)
                      · exact p26_barbicanlaw11_SockFields c0 T0 z0 m0 cap0 b0 hc0 y1  h0 h1 h2 h3 h4 h5 h7 h8 h9 h10
                      · have e10 := eq_of_beq h10
                        subst e10
                        exact p25_barbicanlaw11_SockFields c0 T0 z0 m0 cap0 b0 hc0   h0 h1 h2 h3 h4 h5 h7 h8 h9
                    · have e9 := eq_of_beq h9
                      subst e9
                      exact p24_barbicanlaw11_SockFields c0 T0 z0 m0 cap0 b0 hc0   h0 h1 h2 h3 h4 h5 h7 h8
                  · have e8 := eq_of_beq h8
                    subst e8
                    have h := p23_barbicanlaw11_SockFields c0 T0 z0 m0 cap0 b0 hc0   h0 h1 h2 h3 h4 h5 h7
                    unfold sq23_barbicanlaw11_SockFields at h
                    rw [fb2 (b0 12) (b0 13)] at h
                    exact h
                · have e7 := eq_of_beq h7
                  subst e7
                  have h := p22_barbicanlaw11_SockFields c0 T0 z0 m0 cap0 b0 hc0   h0 h1 h2 h3 h4 h5
                  unfold sq22_barbicanlaw11_SockFields at h
                  rw [fb1 (b0 12)] at h
                  exact h
            · have e5 := eq_of_beq h5
              subst e5
              cases h6 : (y1 == 1#64)
              · cases h7 : (y1 == 2#64)
                · cases h8 : (y1 == 4#64)
                  · cases h9 : (y1 == 8#64)
                    · exact p21_barbicanlaw11_SockFields c0 T0 z0 m0 cap0 b0 hc0 y1  h0 h1 h2 h3 h4 h6 h7 h8 h9
                    · have e9 := eq_of_beq h9
                      subst e9
                      exact p20_barbicanlaw11_SockFields c0 T0 z0 m0 cap0 b0 hc0   h0 h1 h2 h3 h4 h6 h7 h8
                  · have e8 := eq_of_beq h8
                    subst e8
                    have h := p19_barbicanlaw11_SockFields c0 T0 z0 m0 cap0 b0 hc0   h0 h1 h2 h3 h4 h6 h7
                    unfold sq19_barbicanlaw11_SockFields at h
                    rw [fb4 (b0 16) (b0 17) (b0 18) (b0 19)] at h
                    exact h
                · have e7 := eq_of_beq h7
                  subst e7
                  have h := p18_barbicanlaw11_SockFields c0 T0 z0 m0 cap0 b0 hc0   h0 h1 h2 h3 h4 h6
                  unfold sq18_barbicanlaw11_SockFields at h
                  rw [fb2 (b0 16) (b0 17)] at h
                  exact h
              · have e6 := eq_of_beq h6
                subst e6
                have h := p17_barbicanlaw11_SockFields c0 T0 z0 m0 cap0 b0 hc0   h0 h1 h2 h3 h4
                unfold sq17_barbicanlaw11_SockFields at h
                rw [fb1 (b0 16)] at h
                exact h
          · have e4 := eq_of_beq h4
            subst e4
            cases h5 : (y1 == 1#64)
            · cases h6 : (y1 == 2#64)
              · cases h7 : (y1 == 4#64)
                · cases h8 : (y1 == 8#64)
                  · exact p16_barbicanlaw11_SockFields c0 T0 z0 m0 cap0 b0 hc0 y1  h0 h1 h2 h3 h5 h6 h7 h8
                  · have e8 := eq_of_beq h8
                    subst e8
                    exact p15_barbicanlaw11_SockFields c0 T0 z0 m0 cap0 b0 hc0   h0 h1 h2 h3 h5 h6 h7
                · have e7 := eq_of_beq h7
                  subst e7
                  have h := p14_barbicanlaw11_SockFields c0 T0 z0 m0 cap0 b0 hc0   h0 h1 h2 h3 h5 h6
                  unfold sq14_barbicanlaw11_SockFields at h
                  rw [fb4 (b0 8) (b0 9) (b0 10) (b0 11)] at h
                  exact h
              · have e6 := eq_of_beq h6
                subst e6
                have h := p13_barbicanlaw11_SockFields c0 T0 z0 m0 cap0 b0 hc0   h0 h1 h2 h3 h5
                unfold sq13_barbicanlaw11_SockFields at h
                rw [fb2 (b0 8) (b0 9)] at h
                exact h
            · have e5 := eq_of_beq h5
              subst e5
              have h := p12_barbicanlaw11_SockFields c0 T0 z0 m0 cap0 b0 hc0   h0 h1 h2 h3
              unfold sq12_barbicanlaw11_SockFields at h
              rw [fb1 (b0 8)] at h
              exact h
        · have e3 := eq_of_beq h3
          subst e3
          cases h4 : (y1 == 1#64)
          · cases h5 : (y1 == 2#64)
            · cases h6 : (y1 == 4#64)
              · cases h7 : (y1 == 8#64)
                · exact p11_barbicanlaw11_SockFields c0 T0 z0 m0 cap0 b0 hc0 y1  h0 h1 h2 h4 h5 h6 h7
                · have e7 := eq_of_beq h7
                  subst e7
                  exact p10_barbicanlaw11_SockFields c0 T0 z0 m0 cap0 b0 hc0   h0 h1 h2 h4 h5 h6
              · have e6 := eq_of_beq h6
                subst e6
                have h := p9_barbicanlaw11_SockFields c0 T0 z0 m0 cap0 b0 hc0   h0 h1 h2 h4 h5
                unfold sq9_barbicanlaw11_SockFields at h
                rw [fb4 (b0 4) (b0 5) (b0 6) (b0 7)] at h
                exact h
            · have e5 := eq_of_beq h5
              subst e5
              have h := p8_barbicanlaw11_SockFields c0 T0 z0 m0 cap0 b0 hc0   h0 h1 h2 h4
              unfold sq8_barbicanlaw11_SockFields at h
              rw [fb2 (b0 4) (b0 5)] at h
              exact h
          · have e4 := eq_of_beq h4
            subst e4
            have h := p7_barbicanlaw11_SockFields c0 T0 z0 m0 cap0 b0 hc0   h0 h1 h2
            unfold sq7_barbicanlaw11_SockFields at h
            rw [fb1 (b0 4)] at h
            exact h
      · have e2 := eq_of_beq h2
        subst e2
        cases h3 : (y1 == 1#64)
        · cases h4 : (y1 == 2#64)
          · cases h5 : (y1 == 4#64)
            · cases h6 : (y1 == 8#64)
              · exact p6_barbicanlaw11_SockFields c0 T0 z0 m0 cap0 b0 hc0 y1  h0 h1 h3 h4 h5 h6
              · have e6 := eq_of_beq h6
                subst e6
                exact p5_barbicanlaw11_SockFields c0 T0 z0 m0 cap0 b0 hc0   h0 h1 h3 h4 h5
            · have e5 := eq_of_beq h5
              subst e5
              have h := p4_barbicanlaw11_SockFields c0 T0 z0 m0 cap0 b0 hc0   h0 h1 h3 h4
              unfold sq4_barbicanlaw11_SockFields at h
              rw [fb4 (b0 0) (b0 1) (b0 2) (b0 3)] at h
              exact h
          · have e4 := eq_of_beq h4
            subst e4
            have h := p3_barbicanlaw11_SockFields c0 T0 z0 m0 cap0 b0 hc0   h0 h1 h3
            unfold sq3_barbicanlaw11_SockFields at h
            rw [fb2 (b0 0) (b0 1)] at h
            exact h
        · have e3 := eq_of_beq h3
          subst e3
          have h := p2_barbicanlaw11_SockFields c0 T0 z0 m0 cap0 b0 hc0   h0 h1
          unfold sq2_barbicanlaw11_SockFields at h
          rw [fb1 (b0 0)] at h
          exact h
    · exact p1_barbicanlaw11_SockFields c0 T0 z0 m0 cap0 b0 hc0 y0 y1  h0 h1
  · exact p0_barbicanlaw11_SockFields c0 T0 z0 m0 cap0 b0 hc0 y0 y1  h0
theorem below_of_chg {w w' : World} {ls : List L1} {H : List Obj} (h : Chg (touched ls H) w.heap.size w w') (hs : SatL ls H w) (hs' : SatL ls H w') : Below w.heap.size w w' := by
  refine ⟨h.os, h.tape, h.output, h.size, fun k hk => ?_⟩
  by_cases ht : touched ls H k
  · obtain ⟨j, ob, l, hj, hr, hl, rfl⟩ := ht
    rw [hs.holds j ob l hj hr hl, hs'.holds j ob l hj hr hl]
  · exact h.block k hk ht
/-- The law's call, of twenty bytes that lie in memory. -/
theorem fields_calls (c0 : Array Value) (T0 : TypeId) (z0 : Nat × Nat) (m0 cap0 : Nat) (b0 : Nat → BitVec 8) (hc0 : ∀ k, k < 20 → c0[m0 + k]? = some (.int .u8 (nn (b0 k)))) (y0 y1 : BitVec 64) (b : Nat) (w : World) (hb : w.heap[b]? = some (.cells c0 T0 z0)) :
    Calls Try.prog 5 #[.slice (some ⟨b, m0, none⟩) 20 cap0, .int .i64 (ii y0), .int .i64 (ii y1)] w fun e w' => e = .returned (.bool true) ∧ Below w.heap.size w w' := by
  have hs : SatL [⟨b, fun _ => undef⟩] [.cells c0 T0 z0] w := by
    refine ⟨fun j ob l hj hr hl => ?_, fun i j ob p l l' hi hir hj hjr hl hl' e => ?_⟩
    · match j, hj, hl with
      | 0, hj, hl => simp at hj hl; subst hj; subst hl; exact hb
    · match i, j, hi, hj with
      | 0, 0, _, _ => rfl
  have h := fields_spec c0 T0 z0 m0 cap0 b0 hc0 y0 y1 [⟨b, fun _ => undef⟩] w rfl hs trivial
  refine h.2.mono fun e w' ⟨v, he, ms, hlen, hv, hsat, _, hch⟩ => ?_
  obtain rfl : ms = [] := List.eq_nil_of_length_eq_zero hlen
  have hv : [v] = [Value.bool true] := hv
  have hs2 : SatL [⟨b, fun _ => undef⟩] [.cells c0 T0 z0] w' := hsat
  simp at hv
  exact ⟨by rw [he, hv], below_of_chg hch hs hs2⟩
/-- The law's call, of a slice of another length. -/
theorem other_calls (a0 : Option Addr) (n0 cap0 : Nat) (hn0 : (((n0 : Int)) == (20)) = false) (y0 y1 : BitVec 64) (w : World) :
    Calls Try.prog 5 #[.slice a0 n0 cap0, .int .i64 (ii y0), .int .i64 (ii y1)] w fun e w' => e = .returned (.bool true) ∧ Below w.heap.size w w' := by
  have hs : SatL [] [] w := ⟨fun j ob l hj => by simp at hj, fun i j ob p l l' hi => by simp at hi⟩
  have h := p0_barbicanlaw11_SockFields_s1 a0 n0 cap0 hn0 y0 y1 [] w rfl hs trivial
  refine h.2.mono fun e w' ⟨v, he, ms, hlen, hv, hsat, _, hch⟩ => ?_
  obtain rfl : ms = [] := List.eq_nil_of_length_eq_zero hlen
  have hv : [v] = [Value.bool true] := hv
  have hs2 : SatL [] [] w' := hsat
  simp at hv
  exact ⟨by rw [he, hv], below_of_chg hch hs hs2⟩
end Go.Proofs.Ytmopkmjddaaknaa
