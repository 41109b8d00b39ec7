/-
  Contract of Pow of the program.
-/
import Derived.Test.YtclggnaljijjoaaPowPure
import Derived.Test.YtclggnaljijjoaaLaw8
import Derived.Lib.ItoaNum
namespace Go.Proofs.Ytclggnaljijjoaa
open Go.RowKit
theorem two_wds (n : Nat) (h : n < 18446744073709551616) : nrm (two n) = wds n := by rw [nrm_wds (two_ws h), two_val]
theorem NatPost.err {v : Nat} {w w' : World} {e : Ending} (h : NatPost v w e w') (hl : lngB v = true) : e = .returned (.tuple #[.slice none 0 0, .int .i64 3]) ∧ Below w.heap.size w w' := by
  obtain ⟨A, n, c, k, h1, h2, h3⟩ := h
  rw [if_pos hl] at h2
  obtain ⟨rfl, rfl, rfl, rfl⟩ := h2
  exact ⟨h1, h3⟩
theorem bit_test (n i : Nat) (hn : n < 9223372036854775808) : bits BinOp.and IntKind.i64 ((n : Int) / 2 ^ i) 1 = ((n / 2 ^ i % 2 : Nat) : Int) := by
  have h1 : n / 2 ^ i ≤ n := Nat.div_le_self _ _
  have e : ((n : Int) / 2 ^ i) = ((n / 2 ^ i : Nat) : Int) := by rw [Int.natCast_ediv, Int.natCast_pow]; rfl
  rw [e]
  obtain ⟨m, hm⟩ : ∃ m, n / 2 ^ i = m := ⟨_, rfl⟩
  rw [hm] at h1 ⊢
  show IntKind.i64.wrap ((BitVec.ofInt 64 (m : Int) &&& BitVec.ofInt 64 1).toNat : Int) = _
  have e1 : (BitVec.ofInt 64 1).toNat = 1 := by decide
  have e2 : (BitVec.ofInt 64 (m : Int)).toNat = m := by
    rw [BitVec.ofInt_natCast, BitVec.toNat_ofNat]; exact Nat.mod_eq_of_lt (by omega)
  rw [BitVec.toNat_and, e1, e2, Nat.and_one_is_mod, IntKind.wrap_i64]
  omega
set_option maxRecDepth 100000 in
set_option maxHeartbeats 4000000 in
theorem pow_any (b n : Nat) (w : World) (hb : b < 4294967296) (hn : n < 9223372036854775808) :
    Calls Try.prog 33 #[.int .u32 b, .int .i64 n] w (NatPost (b ^ n) w) := by
  obtain ⟨F, hF⟩ : ∃ F, (wds b).length = F := ⟨_, rfl⟩
  obtain ⟨O, hO⟩ : ∃ O, (wds 1).length = O := ⟨_, rfl⟩
  have K1 := Lib.hid (fun W => show Calls Try.prog 14 #[.int .u64 b] W (Told (wds b) F W) from by
    have := (of_any b (by omega) W).mono fun _ _ y => y.told (n := F) (by rw [two_wds b (by omega)]; exact hF)
    rw [two_wds b (by omega)] at this; exact this)
  have K2 := Lib.hid (fun W => show Calls Try.prog 14 #[.int .u64 1] W (Told (wds 1) O W) from by
    have := (of_any 1 (by omega) W).mono fun _ _ y => y.told (n := O) (by rw [two_wds 1 (by omega)]; exact hO)
    rw [two_wds 1 (by omega)] at this; exact this)
  have hbl := Lib.bitLen_le n 64 (by omega) (by omega)
  have c3 := fun W => (Try.bits_Len (n : Int) W (by omega) (by omega)).mono fun _ _ (h : _ ∧ _ = W) => And.intro h.1 h.2.symm
  rw [Int.toNat_natCast] at c3
  obtain ⟨q0, hq0⟩ : ∃ q0, Lib.bitLen n = q0 := ⟨_, rfl⟩
  rw [hq0] at c3 hbl
  have hz : n / 2 ^ q0 = 0 := by
    rw [← hq0]
    rcases Nat.eq_zero_or_pos n with h0 | h0
    · rw [h0]; exact Nat.zero_div _
    · exact Nat.div_eq_of_lt (Lib.bitLenAux_bounds 64 n (by omega) (by omega)).2.2
  have HZ := Lib.hid (show b ^ (n / 2 ^ q0) = 1 by rw [hz]; rfl)
  have HF := Lib.hid hF
  have HO := Lib.hid hO
  have hF1 : F ≤ 2 := by rw [← hF, ← two_wds b (by omega)]; exact nrm_len _
  have k1 : IntKind.u64.wrap (b : Int) = (b : Int) := IntWalk.u64_in _ (by omega)
  have k2 : IntKind.u64.wrap (n : Int) = (n : Int) := IntWalk.u64_in _ (by omega)
  have HB := Lib.hid hb
  have HN := Lib.hid hn
  have n0 : (0 : Int) ≤ (n : Int) := by omega
  clear hb hn hF hO hq0 hz
  go_enter Try.func33, Try.ntmps33
  go_wp2_with fail
  refine (K1.out _).mono ?_
  rintro e w1 ⟨A1, c1, rfl, ⟨hc1, r1⟩, b1⟩
  go_wp2_with fail
  refine (K2.out _).mono ?_
  rintro e w2 ⟨A2, c2, rfl, ⟨hc2, r2⟩, b2⟩
  go_wp2_with fail
  refine (c3 _).mono ?_
  rintro e w' ⟨rfl, rfl⟩
  have HR1 := Lib.hid (r1.step b2)
  have HR2 := Lib.hid r2
  have HB2 := Lib.hid (below_le b1 b2)
  clear r1 r2 b1 b2 c3
  go_wp2
  go_loopw [7, 8] (fun v i wr => ∃ (q : Nat) (A : Option Addr) (N c : Nat), v = .slice A N c ∧ i = .int .i64 ((q : Int) - 1) ∧ q ≤ 64 ∧ Hid ((wds (b ^ (n / 2 ^ q))).length = N) ∧ N ≤ c ∧ Hid (RW wr wr.heap.size A (wds (b ^ (n / 2 ^ q)))) ∧ Hid (lngB (b ^ (n / 2 ^ q)) = false) ∧ Below w2.heap.size w2 wr) (fun _ i _ => (intOf i + 1).toNat)
  case atStart => exact ⟨q0, A2, O, c2, rfl, rfl, hbl, Lib.hid (by rw [HZ.out]; exact HO.out), hc2, Lib.hid (by rw [HZ.out]; exact HR2.out), Lib.hid (by rw [HZ.out]; exact lng_small (by omega)), Below.refl _ _⟩
  case round =>
    obtain ⟨q, A, N, c, rfl, rfl, hq, HNq, hNc, HR, HL, hbw⟩ := hrel
    by_cases h0 : q = 0
    · subst h0
      have HE := Lib.hid (show b ^ (n / 2 ^ 0) = b ^ n by rw [Nat.pow_zero, Nat.div_one])
      have HX := Lib.hid (NatPost.ok (w := w) HL.out HNq.out.symm hNc HR.out (below_le HB2.out hbw))
      go_wp2
      go_ret2
      rw [← HE.out]
      exact HX.out
    · obtain ⟨i, rfl⟩ : ∃ i, q = i + 1 := ⟨q - 1, by omega⟩
      have hNl := lng_le HL.out
      rw [HNq.out] at hNl
      have C1 := Lib.hid (mul_ok A A N c N c (wds (b ^ (n / 2 ^ (i + 1)))) (wds (b ^ (n / 2 ^ (i + 1)))) wr HNq.out hNc (by omega) HR.out HNq.out hNc (by omega) HR.out (by rw [wds_val, HL.out]; rfl))
      rw [wds_val] at C1
      clear h0
      cases hsq : lngB (b ^ (n / 2 ^ (i + 1)) * b ^ (n / 2 ^ (i + 1)))
      · obtain ⟨N3, hN3⟩ : ∃ N3, (wds (b ^ (n / 2 ^ (i + 1)) * b ^ (n / 2 ^ (i + 1)))).length = N3 := ⟨_, rfl⟩
        have C2 := Lib.hid (C1.out.mono fun _ _ x => x.one hsq hN3)
        have hi1 : (i : Int) ≤ 63 := by omega
        have hbt := bit_test n i HN.out
        have hhalf := half_pow b n i
        have hbit : n / 2 ^ i % 2 = 0 ∨ n / 2 ^ i % 2 = 1 := by omega
        rcases hbit with hbit | hbit
        · rw [hbit, Nat.pow_zero, Nat.mul_one] at hhalf
          rw [hhalf] at C2 hsq hN3
          have hT : (bits BinOp.and IntKind.i64 ((n : Int) / 2 ^ i) 1 == 1) = false := by rw [hbt, hbit]; rfl
          have HN3 := Lib.hid hN3
          have HSQ := Lib.hid hsq
          clear hbit hbt hhalf hN3 hsq C1 hNl
          go_wp2_with fail
          refine C2.out.mono ?_
          rintro e w3 ⟨A3, c3, rfl, ⟨hc3, r3⟩, b3⟩
          have HR3 := Lib.hid r3
          have HB3 := Lib.hid (below_le hbw b3)
          clear r3 b3 C2
          go_wp2
          go_roundw
          case rel => exact ⟨i, A3, N3, c3, rfl, by go_num, by omega, HN3, hc3, HR3, HSQ, HB3.out⟩
          case measure => simp [intOf]
        · rw [hbit, Nat.pow_one] at hhalf
          have hT : (bits BinOp.and IntKind.i64 ((n : Int) / 2 ^ i) 1 == 1) = true := by rw [hbt, hbit]; rfl
          have hN3l := lng_le hsq
          rw [hN3] at hN3l
          have C4 := Lib.hid (fun W A5 c5 (h5 : N3 ≤ c5) (r5 : RW W W.heap.size A5 (wds (b ^ (n / 2 ^ (i + 1)) * b ^ (n / 2 ^ (i + 1))))) (r6 : RW W W.heap.size A1 (wds b)) =>
            show Calls Try.prog 25 #[.slice A5 N3 c5, .slice A1 F c1] W (NatPost (b ^ (n / 2 ^ i)) W) from by
              have := mul_ok A5 A1 N3 c5 F c1 _ _ W hN3 h5 (by omega) r5 HF.out hc1 (by omega) r6 (by rw [wds_val, wds_val, hsq, lng_small HB.out]; rfl)
              rw [wds_val, wds_val, hhalf] at this
              exact this)
          clear hbit hbt hhalf hN3 hsq C1 hNl hN3l
          cases hmu : lngB (b ^ (n / 2 ^ i))
          · obtain ⟨N4, hN4⟩ : ∃ N4, (wds (b ^ (n / 2 ^ i))).length = N4 := ⟨_, rfl⟩
            have HN4 := Lib.hid hN4
            have HMU := Lib.hid hmu
            clear hN4 hmu
            go_wp2_with fail
            refine C2.out.mono ?_
            rintro e w3 ⟨A3, c3, rfl, ⟨hc3, r3⟩, b3⟩
            have D4 := Lib.hid ((C4.out w3 A3 c3 hc3 r3 ((HR1.out.step hbw).step b3)).mono fun _ _ x => x.one HMU.out HN4.out)
            have hbw3 := below_le hbw b3
            clear r3 b3 C2 C4
            go_wp2_with fail
            refine D4.out.mono ?_
            rintro e w4 ⟨A4, c4, rfl, ⟨hc4, r4⟩, b4⟩
            have HR4 := Lib.hid r4
            have HB4 := Lib.hid (below_le hbw3 b4)
            clear r4 b4 D4
            go_wp2
            go_roundw
            case rel => exact ⟨i, A4, N4, c4, rfl, by go_num, by omega, HN4, hc4, HR4, HMU, HB4.out⟩
            case measure => simp [intOf]
          · have HMU := Lib.hid hmu
            have HLN := Lib.hid (pow_le b _ n (Nat.div_le_self n (2 ^ i)) hmu)
            clear hmu
            go_wp2_with fail
            refine C2.out.mono ?_
            rintro e w3 ⟨A3, c3, rfl, ⟨hc3, r3⟩, b3⟩
            have D4 := Lib.hid ((C4.out w3 A3 c3 hc3 r3 ((HR1.out.step hbw).step b3)).mono fun _ _ x => x.err HMU.out)
            have hbw3 := below_le hbw b3
            clear r3 b3 C2 C4
            go_wp2_with fail
            refine D4.out.mono ?_
            rintro e w4 ⟨rfl, b4⟩
            have HB4 := Lib.hid (below_le HB2.out (below_le hbw3 b4))
            clear b4 D4
            go_wp2
            go_ret2
            exact NatPost.long HLN.out HB4.out
      · have HSQ := Lib.hid hsq
        have HLN := Lib.hid (show lngB (b ^ n) = true by rw [sq_pow] at hsq; exact pow_le b _ n (sq_le n i) hsq)
        have C2 := Lib.hid (C1.out.mono fun _ _ x => x.err hsq)
        clear hsq hNl C1
        go_wp2_with fail
        refine C2.out.mono ?_
        rintro e w3 ⟨rfl, b3⟩
        have HB3 := Lib.hid (below_le HB2.out (below_le hbw b3))
        clear b3 C2
        go_wp2
        go_ret2
        exact NatPost.long HLN.out HB3.out
end Go.Proofs.Ytclggnaljijjoaa
