/-
  An angle's sine and cosine of the rest of its quarter, of the program and of the reference.
-/
import Derived.Test.YtbinpcoaghpcdaaLa
import Derived.Test.YtbinpcoaghpcdaaRq
namespace Go.Proofs.Ytbinpcoaghpcdaa
open Go.RowKit
/-- The sums that a sine and a cosine are told by; d is 1 or -1. -/
def sS (z : Nat) (d : Int) : Nat → Nat
  | 0 => 4607182418800017408
  | j + 1 => subF 4607182418800017408 (divF (mulF z (sS z d j)) (floatOfInt .f64 (2 * (10 - (j : Int)) * (2 * (10 - (j : Int)) + d))))
structure SerQ (z : Nat) (d : Int) : Prop where
  hl : ∀ j, j < 10 → ∃ m q, Ieee.double.mul z (sS z d j) = some m ∧ Ieee.double.div m (floatOfInt .f64 (2 * (10 - (j : Int)) * (2 * (10 - (j : Int)) + d))) = some q ∧ Ieee.double.sub 4607182418800017408 q = some (sS z d (j + 1))
set_option maxRecDepth 100000 in
set_option maxHeartbeats 1000000 in
theorem series_any (z : Nat) (d : Int) (hd : d = 1 ∨ d = -1) (Q : SerQ z d) (w : World) : Calls Try.prog 75 #[.float .f64 z, .int .i64 d] w fun e w' => e = .returned (.float .f64 (sS z d 10)) ∧ w = w' := by
  obtain ⟨hl⟩ := Q
  obtain ⟨R, hR⟩ : ∃ R, sS z d 10 = R := ⟨_, rfl⟩
  rw [hR]
  have HR := Lib.hid hR
  have HL := Lib.hid hl
  have HD := Lib.hid hd
  clear hl hR hd
  go_enter Try.func75, Try.ntmps75
  go_wp2_with fail
  go_loopw [5, 6] (fun vp vi wr => ∃ j : Nat, ∃ i : Int, vp = .float .f64 (sS z d j) ∧ vi = .int .i64 i ∧ Hid (j ≤ 10 ∧ i = 10 - (j : Int)) ∧ w = wr) (fun _ vi _ => (intOf vi).toNat)
  case atStart => exact ⟨0, 10, rfl, rfl, Lib.hid ⟨by omega, by omega⟩, rfl⟩
  case round =>
    obtain ⟨j, i, rfl, rfl, HI, rfl⟩ := hrel
    rcases Int.lt_or_le i 1 with h0 | h0
    · have t1 : decide (1 ≤ i) = false := decide_eq_false (by omega)
      have hpp : sS z d j = R := by rw [show j = 10 by have := HI.out; omega]; exact HR.out
      rw [hpp]
      clear h0 hpp
      go_wp2
      go_ret
      exact ⟨rfl, rfl⟩
    · obtain ⟨m, q, d1, d2, d3⟩ := HL.out j (by have := HI.out; omega)
      rw [show 10 - (j : Int) = i by have := HI.out; omega] at d2
      obtain ⟨p, hP⟩ : ∃ p, sS z d j = p := ⟨_, rfl⟩
      obtain ⟨p2, hP2⟩ : ∃ p2, sS z d (j + 1) = p2 := ⟨_, rfl⟩
      rw [hP] at d1 ⊢
      rw [hP2] at d3
      obtain ⟨i2, hi2⟩ : ∃ i2, 2 * i = i2 := ⟨_, rfl⟩
      obtain ⟨i3, hi3⟩ : ∃ i3, i2 + d = i3 := ⟨_, rfl⟩
      obtain ⟨E, hE⟩ : ∃ E, i2 * i3 = E := ⟨_, rfl⟩
      have hEb : -1000 ≤ E ∧ E ≤ 1000 := by
        have a1 := HI.out
        have a2 := HD.out
        have b1 : i2 * i3 ≤ 20 * i3 := Int.mul_le_mul_of_nonneg_right (by omega) (by omega)
        have b2 : 0 ≤ i2 * i3 := Int.mul_nonneg (by omega) (by omega)
        omega
      have k1 : IntKind.i64.wrap (2 * i) = i2 := by rw [IntWalk.i64_in _ (by have := HI.out; omega)]; exact hi2
      have k2 : IntKind.i64.wrap (i2 + d) = i3 := by rw [IntWalk.i64_in _ (by have := HI.out; have := HD.out; omega)]; exact hi3
      have k3 : IntKind.i64.wrap (i2 * i3) = E := by rw [IntWalk.i64_in _ (by omega)]; exact hE
      rw [hi2, hi3, hE] at d2
      have x1 := Lib.hid (fun W => times_any d1 W)
      have x2 := wDiv d2
      have x3 := wSub d3
      have t1 : decide (1 ≤ i) = true := decide_eq_true (by omega)
      obtain ⟨i4, hi4⟩ : ∃ i4, i - 1 = i4 := ⟨_, rfl⟩
      have k4 : IntKind.i64.wrap (i - 1) = i4 := by rw [IntWalk.i64_in _ (by have := HI.out; omega)]; exact hi4
      have H2 := Lib.hid (show sS z d (j + 1) = p2 ∧ (j + 1 ≤ 10 ∧ i4 = 10 - ((j + 1 : Nat) : Int)) ∧ i4 < i ∧ 1 ≤ i from ⟨hP2, ⟨by have := HI.out; omega, by have := HI.out; omega⟩, by omega, by omega⟩)
      clear d1 d2 d3 hP hP2 hi2 hi3 hE hEb hi4 h0
      go_wp2_with fail
      refine (x1.out _).mono ?_
      rintro e w' ⟨rfl, rfl⟩
      go_wp2
      go_roundw
      case rel => exact ⟨j + 1, i4, by rw [H2.out.1], rfl, Lib.hid H2.out.2.1, trivial⟩
      case measure => have := H2.out.2.2; simp [intOf]; omega
theorem sin_ints {i : Int} (h1 : 1 ≤ i) (h2 : i ≤ 10) : Ieee.double.add (floatOfInt .f64 (2 * i)) 4607182418800017408 = some (floatOfInt .f64 (2 * i + 1)) ∧ Ieee.double.mul (floatOfInt .f64 (2 * i)) (floatOfInt .f64 (2 * i + 1)) = some (floatOfInt .f64 (2 * i * (2 * i + 1))) ∧
    Ieee.double.sub (floatOfInt .f64 (2 * i)) 4607182418800017408 = some (floatOfInt .f64 (2 * i - 1)) ∧ Ieee.double.mul (floatOfInt .f64 (2 * i - 1)) (floatOfInt .f64 (2 * i)) = some (floatOfInt .f64 (2 * i * (2 * i + -1))) := by
  have h : i = 1 ∨ i = 2 ∨ i = 3 ∨ i = 4 ∨ i = 5 ∨ i = 6 ∨ i = 7 ∨ i = 8 ∨ i = 9 ∨ i = 10 := by omega
  rcases h with rfl | rfl | rfl | rfl | rfl | rfl | rfl | rfl | rfl | rfl <;> exact ⟨by decide +kernel, by decide +kernel, by decide +kernel, by decide +kernel⟩
theorem and_three (n : Int) : bits BinOp.and IntKind.i64 n 3 = n % 4 := by
  show IntKind.i64.wrap ((BitVec.ofInt 64 n &&& BitVec.ofInt 64 3).toNat : Int) = _
  have e1 : (BitVec.ofInt 64 3).toNat = 3 := by decide
  rw [BitVec.toNat_and, e1, show (3 : Nat) = 2 ^ 2 - 1 from rfl, Nat.and_two_pow_sub_one_eq_mod, BitVec.toNat_ofInt]
  have h : ((n % ((2 ^ 64 : Nat) : Int)).toNat % 2 ^ 2 : Nat) = ((n % 4).toNat : Nat) := by
    have e2 : ((2 ^ 64 : Nat) : Int) = 18446744073709551616 := by decide
    rw [e2]
    omega
  rw [h, IntWalk.i64_in _ (by omega)]
  omega
theorem below_setRow {B g : Nat} {a w : World} (h : Below B a w) (hg : B ≤ g) (c : Array Value) : Below B a (w.setRow g c) :=
  ⟨h.os, h.tape, h.output, by rw [setRow_size]; exact h.size, fun k hk => (setRow_other w g k c (by omega)).trans (h.block k hk)⟩
/-- What is told of an angle: the rest r of its quarter, and the quarter m. -/
structure TurnQ (x t s k a b c r z : Nat) (n m : Int) : Prop where
  m1 : Ieee.double.mul x 4603909380684499075 = some t
  m2 : Ieee.double.add t 4602678819172646912 = some s
  hf : fnan s = false
  hk : itg .down s = k
  hk2 : fnan k = false
  m3 : Ieee.double.mul k 4609753056924401664 = some a
  m4 : Ieee.double.sub x a = some b
  m5 : Ieee.double.mul k 4454258360616903473 = some c
  m6 : Ieee.double.sub b c = some r
  m7 : Ieee.double.mul r r = some z
  q1 : SerQ z 1
  q2 : SerQ z (-1)
  cv : ∀ W : World, (convert 22 3 (.float .f64 k)).run Try.prog W = .ok (.int .i64 n) W
  hm : n % 4 = m
  m8 : Ieee.double.mul r (sS z 1 10) = some (mulF r (sS z 1 10))
set_option maxRecDepth 100000 in
set_option maxHeartbeats 2000000 in
theorem vturned_low (x t s k a b c r z : Nat) (n m : Int) (w : World) (hx : x < 18446744073709551616) (g1 : (FloatKind.f64.format.order (rung x) 4697254411347427328 == some .gt) = false) (Q : TurnQ x t s k a b c r z n m) : Calls Try.prog 49 #[.float .f64 x] w fun e w' => e = .returned (.tuple #[.float .f64 (mulF r (sS z 1 10)), .float .f64 (sS z (-1) 10), .int .i64 m]) ∧ w = w' := by
  obtain ⟨m1, m2, hf, hk, _, m3, m4, m5, m6, m7, ⟨l1⟩, ⟨l2⟩, cv, hm, m8⟩ := Q
  have C1 := Lib.hid (fun W => abs_any x W hx)
  have C2 := Lib.hid (fun W => Floor_real s W hf)
  rw [hk] at C2
  have C3 := Lib.hid (fun c W => of_any c W)
  have L1 := Lib.hid l1
  have L2 := Lib.hid l2
  have w1' := wMul m1
  have w2' := wAdd m2
  have w3 := wMul m3
  have w4 := wSub m4
  have w5 := wMul m5
  have w6 := wSub m6
  have w7 := wMul m7
  obtain ⟨S, hS⟩ : ∃ S, sS z 1 10 = S := ⟨_, rfl⟩
  obtain ⟨C, hC⟩ : ∃ C, sS z (-1) 10 = C := ⟨_, rfl⟩
  rw [hS] at m8 ⊢
  rw [hC]
  obtain ⟨T, hT⟩ : ∃ T, mulF r S = T := ⟨_, rfl⟩
  rw [hT] at m8 ⊢
  have w8 := wMul m8
  have HS := Lib.hid hS
  have HC := Lib.hid hC
  have HN := Lib.hid hm
  obtain ⟨v, hv⟩ : ∃ v, rung x = v := ⟨_, rfl⟩
  rw [hv] at C1 g1
  clear m1 m2 hf hk m3 m4 m5 m6 m7 m8 l1 l2 hS hC hT hm hx hv
  go_enter Try.func49, Try.ntmps49
  go_wp2_with fail
  refine (C1.out _).mono ?_
  rintro e w' ⟨rfl, rfl⟩
  go_wp2_with fail
  refine (C3.out _ _).mono ?_
  rintro e w' ⟨rfl, rfl⟩
  go_wp2_with fail
  refine (C2.out _).mono ?_
  rintro e w' ⟨rfl, rfl⟩
  go_wp2_with fail
  refine (C3.out _ _).mono ?_
  rintro e w' ⟨rfl, rfl⟩
  go_wp2_with fail
  refine (C3.out _ _).mono ?_
  rintro e w' ⟨rfl, rfl⟩
  go_wp2_with fail
  go_loopw [8, 9, 10] (fun vp vc vi wr => ∃ j : Nat, ∃ i : Int, vp = .float .f64 (sS z 1 j) ∧ vc = .float .f64 (sS z (-1) j) ∧ vi = .int .i64 i ∧ Hid (j ≤ 10 ∧ i = 10 - (j : Int)) ∧ w = wr) (fun _ _ vi _ => (intOf vi).toNat)
  case atStart => exact ⟨0, 10, rfl, rfl, rfl, Lib.hid ⟨by omega, by omega⟩, rfl⟩
  case round =>
    obtain ⟨j, i, rfl, rfl, rfl, HI, rfl⟩ := hrel
    rcases Int.lt_or_le i 1 with h0 | h0
    · have t1 : decide (1 ≤ i) = false := decide_eq_false (by omega)
      have hp1 : sS z 1 j = S := by rw [show j = 10 by have := HI.out; omega]; exact HS.out
      have hp2 : sS z (-1) j = C := by rw [show j = 10 by have := HI.out; omega]; exact HC.out
      rw [hp1, hp2]
      clear h0 hp1 hp2
      obtain ⟨T4, hT4⟩ : ∃ T4, Int.tmod n 4 = T4 := ⟨_, rfl⟩
      have hn4 : -4 < T4 ∧ T4 < 4 ∧ (T4 < 0 → T4 + 4 = m) ∧ (0 ≤ T4 → T4 = m) := by
        have := HN.out
        have h3 := Int.tmod_eq_emod (a := n) (b := 4)
        rw [hT4] at h3
        split at h3 <;> omega
      have k5 : IntKind.i64.wrap T4 = T4 := IntWalk.i64_in _ (by omega)
      rcases Int.lt_or_le T4 0 with hlt | hlt
      · have t5 : decide (T4 < 0) = true := decide_eq_true hlt
        have k6 : IntKind.i64.wrap (T4 + 4) = m := by rw [IntWalk.i64_in _ (by omega)]; exact hn4.2.2.1 hlt
        clear hlt hn4
        go_wp2
        refine bodyPost_ret (results_three rfl _ _ _) rfl ?_
        exact ⟨rfl, rfl⟩
      · have t5 : decide (T4 < 0) = false := decide_eq_false (by omega)
        have hm2 := hn4.2.2.2 hlt
        clear hlt hn4
        subst hm2
        go_wp2
        refine bodyPost_ret (results_three rfl _ _ _) rfl ?_
        exact ⟨rfl, rfl⟩
    · obtain ⟨f, q, d1, d2, d3⟩ := L1.out j (by have := HI.out; omega)
      obtain ⟨f', q', d1', d2', d3'⟩ := L2.out j (by have := HI.out; omega)
      rw [show 10 - (j : Int) = i by have := HI.out; omega] at d2 d2'
      obtain ⟨s1, s2, s3, s4⟩ := sin_ints h0 (by have := HI.out; omega)
      obtain ⟨p, hP⟩ : ∃ p, sS z 1 j = p := ⟨_, rfl⟩
      obtain ⟨p2, hP2⟩ : ∃ p2, sS z 1 (j + 1) = p2 := ⟨_, rfl⟩
      obtain ⟨p', hP'⟩ : ∃ p', sS z (-1) j = p' := ⟨_, rfl⟩
      obtain ⟨p2', hP2'⟩ : ∃ p2', sS z (-1) (j + 1) = p2' := ⟨_, rfl⟩
      rw [hP, hP']
      rw [hP] at d1
      rw [hP2] at d3
      rw [hP'] at d1'
      rw [hP2'] at d3'
      obtain ⟨i2, hi2⟩ : ∃ i2, 2 * i = i2 := ⟨_, rfl⟩
      have k1 : IntKind.i64.wrap (2 * i) = i2 := by rw [IntWalk.i64_in _ (by have := HI.out; omega)]; exact hi2
      rw [hi2] at d2 d2' s1 s2 s3 s4
      obtain ⟨F, hF⟩ : ∃ F, floatOfInt .f64 i2 = F := ⟨_, rfl⟩
      obtain ⟨E1, hE1⟩ : ∃ E1, floatOfInt .f64 (i2 * (i2 + 1)) = E1 := ⟨_, rfl⟩
      obtain ⟨E2, hE2⟩ : ∃ E2, floatOfInt .f64 (i2 * (i2 + -1)) = E2 := ⟨_, rfl⟩
      obtain ⟨A, hA⟩ : ∃ A, floatOfInt .f64 (i2 + 1) = A := ⟨_, rfl⟩
      obtain ⟨B, hB⟩ : ∃ B, floatOfInt .f64 (i2 - 1) = B := ⟨_, rfl⟩
      rw [hE1] at d2 s2
      rw [hE2] at d2' s4
      rw [hF] at s1 s2 s3 s4
      rw [hA] at s1 s2
      rw [hB] at s3 s4
      have x1 := wMul d1
      have x2 := wDiv d2
      have x3 := wSub d3
      have x1' := wMul d1'
      have x2' := wDiv d2'
      have x3' := wSub d3'
      have y1 := wAdd s1
      have y2 := wMul s2
      have y3 := wSub s3
      have y4 := wMul s4
      have t1 : decide (1 ≤ i) = true := decide_eq_true (by omega)
      obtain ⟨i4, hi4⟩ : ∃ i4, i - 1 = i4 := ⟨_, rfl⟩
      have k4 : IntKind.i64.wrap (i - 1) = i4 := by rw [IntWalk.i64_in _ (by have := HI.out; omega)]; exact hi4
      have H2 := Lib.hid (show (sS z 1 (j + 1) = p2 ∧ sS z (-1) (j + 1) = p2') ∧ (j + 1 ≤ 10 ∧ i4 = 10 - ((j + 1 : Nat) : Int)) ∧ i4 < i ∧ 1 ≤ i from ⟨⟨hP2, hP2'⟩, ⟨by have := HI.out; omega, by have := HI.out; omega⟩, by omega, by omega⟩)
      clear d1 d2 d3 d1' d2' d3' hP hP2 hP' hP2' hi2 hi4 h0 s1 s2 s3 s4 hE1 hE2 hA hB
      go_wp2
      go_roundw
      case rel => exact ⟨j + 1, i4, by rw [H2.out.1.1], by rw [H2.out.1.2], rfl, Lib.hid H2.out.2.1, trivial⟩
      case measure => have := H2.out.2.2; simp [intOf]; omega
set_option maxRecDepth 100000 in
set_option maxHeartbeats 2000000 in
theorem fturned_low (x t s k a b c r z : Nat) (n m : Int) (w : World) (hx : x < 18446744073709551616) (g1 : (FloatKind.f64.format.order (rung x) 4697254411347427328 == some .gt) = false) (nx : fnan x = false) (Q : TurnQ x t s k a b c r z n m) : Calls Try.prog 47 #[.float .f64 x] w fun e w' => e = .returned (.agg #[.int .i64 m, .float .f64 (mulF r (sS z 1 10)), .float .f64 (sS z (-1) 10)]) ∧ Below w.heap.size w w' := by
  obtain ⟨m1, m2, hf, hk, hk2, m3, m4, m5, m6, m7, q1, q2, cv, hm, m8⟩ := Q
  have C1 := Lib.hid (fun W => nabs_any x W hx nx)
  have C2 := Lib.hid (fun W => nFloor_real hf hk hk2 W)
  have C3 := Lib.hid (fun c W => const_any c W)
  have S1 := Lib.hid (fun W => series_any z 1 (Or.inl rfl) q1 W)
  have S2 := Lib.hid (fun W => series_any z (-1) (Or.inr rfl) q2 W)
  have w1' := Lib.hid (fun W => times_any m1 W)
  have w2' := wAdd m2
  have w3 := Lib.hid (fun W => times_any m3 W)
  have w4 := wSub m4
  have w5 := Lib.hid (fun W => times_any m5 W)
  have w6 := wSub m6
  have w7 := Lib.hid (fun W => times_any m7 W)
  obtain ⟨S, hS⟩ : ∃ S, sS z 1 10 = S := ⟨_, rfl⟩
  obtain ⟨C, hC⟩ : ∃ C, sS z (-1) 10 = C := ⟨_, rfl⟩
  rw [hS] at m8 S1 ⊢
  rw [hC] at S2 ⊢
  obtain ⟨T, hT⟩ : ∃ T, mulF r S = T := ⟨_, rfl⟩
  rw [hT] at m8 ⊢
  have w8 := Lib.hid (fun W => times_any m8 W)
  have hb : bits BinOp.and IntKind.i64 n 3 = m := by rw [and_three]; exact hm
  obtain ⟨v, hv⟩ : ∃ v, rung x = v := ⟨_, rfl⟩
  rw [hv] at C1 g1
  have HG := Lib.hid (heap_alloc_last w (.cells #[.int .i64 0, .float .f64 0, .float .f64 0] 41))
  have BG := Lib.hid ((Below.refl w.heap.size w).alloc (Nat.le_refl _) (.cells #[.int .i64 0, .float .f64 0, .float .f64 0] 41))
  clear m1 m2 hf hk hk2 m3 m4 m5 m6 m7 m8 q1 q2 hS hC hT hm hx hv nx
  go_enter Try.func47, Try.ntmps47
  go_wp2_with fail
  refine (C1.out _).mono ?_
  rintro e w' ⟨rfl, rfl⟩
  go_wp2_with fail
  refine (C3.out _ _).mono ?_
  rintro e w' ⟨rfl, rfl⟩
  go_wp2_with fail
  refine (w1'.out _).mono ?_
  rintro e w' ⟨rfl, rfl⟩
  go_wp2_with fail
  refine (C2.out _).mono ?_
  rintro e w' ⟨rfl, rfl⟩
  go_wp2_with fail
  refine (C3.out _ _).mono ?_
  rintro e w' ⟨rfl, rfl⟩
  go_wp2_with fail
  refine (w3.out _).mono ?_
  rintro e w' ⟨rfl, rfl⟩
  go_wp2_with fail
  refine (C3.out _ _).mono ?_
  rintro e w' ⟨rfl, rfl⟩
  go_wp2_with fail
  refine (w5.out _).mono ?_
  rintro e w' ⟨rfl, rfl⟩
  go_wp2_with fail
  refine (w7.out _).mono ?_
  rintro e w' ⟨rfl, rfl⟩
  go_wp2_with fail
  refine (S1.out _).mono ?_
  rintro e w' ⟨rfl, rfl⟩
  go_wp2_with fail
  refine (w8.out _).mono ?_
  rintro e w' ⟨rfl, rfl⟩
  go_wp2_with fail
  refine (S2.out _).mono ?_
  rintro e w' ⟨rfl, rfl⟩
  go_wp2_with (first | (refine wpList_store_row rfl 41 _ _ rfl w.heap.size #[.int .i64 m, .float .f64 T, .float .f64 C] rfl rfl 41 #[.int .i64 0, .float .f64 0, .float .f64 0] HG.out (by first | kernel_rfl | rfl) rfl (by first | kernel_rfl | rfl) ?_))
  exact bodyPost_ret (results_cell_one rfl _ _ _ _ _ rfl (run_loadVar_row _ w.heap.size 41 41 _ (0, 0) _ (setRow_heap _ _ _ _ _ _ HG.out) Try.underlying41 rfl (by first | kernel_rfl | rfl))) rfl ⟨rfl, below_setRow BG.out (Nat.le_refl _) _⟩
set_option maxRecDepth 100000 in
set_option maxHeartbeats 2000000 in
theorem vturned_high (y x t s k a b c r z : Nat) (n m : Int) (w : World) (hx : y < 18446744073709551616) (g1 : (FloatKind.f64.format.order (rung y) 4697254411347427328 == some .gt) = true) (hr : restV y 4618760256179416344 = x) (Q : TurnQ x t s k a b c r z n m) : Calls Try.prog 49 #[.float .f64 y] w fun e w' => e = .returned (.tuple #[.float .f64 (mulF r (sS z 1 10)), .float .f64 (sS z (-1) 10), .int .i64 m]) ∧ Below w.heap.size w w' := by
  obtain ⟨m1, m2, hf, hk, _, m3, m4, m5, m6, m7, ⟨l1⟩, ⟨l2⟩, cv, hm, m8⟩ := Q
  have C1 := Lib.hid (fun W => abs_any y W hx)
  have C2 := Lib.hid (fun W => Floor_real s W hf)
  rw [hk] at C2
  have C3 := Lib.hid (fun c W => of_any c W)
  have L1 := Lib.hid l1
  have L2 := Lib.hid l2
  have w1' := wMul m1
  have w2' := wAdd m2
  have w3 := wMul m3
  have w4 := wSub m4
  have w5 := wMul m5
  have w6 := wSub m6
  have w7 := wMul m7
  obtain ⟨S, hS⟩ : ∃ S, sS z 1 10 = S := ⟨_, rfl⟩
  obtain ⟨C, hC⟩ : ∃ C, sS z (-1) 10 = C := ⟨_, rfl⟩
  rw [hS] at m8 ⊢
  rw [hC]
  obtain ⟨T, hT⟩ : ∃ T, mulF r S = T := ⟨_, rfl⟩
  rw [hT] at m8 ⊢
  have w8 := wMul m8
  have HS := Lib.hid hS
  have HC := Lib.hid hC
  have HN := Lib.hid hm
  have C4 := Lib.hid (fun W => qrest_any y 4618760256179416344 W hx (by omega))
  rw [hr] at C4
  obtain ⟨v, hv⟩ : ∃ v, rung y = v := ⟨_, rfl⟩
  rw [hv] at C1 g1
  clear m1 m2 hf hk m3 m4 m5 m6 m7 m8 l1 l2 hS hC hT hm hx hv hr
  go_enter Try.func49, Try.ntmps49
  go_wp2_with fail
  refine (C1.out _).mono ?_
  rintro e w' ⟨rfl, rfl⟩
  go_wp2_with fail
  refine (C3.out _ _).mono ?_
  rintro e w' ⟨rfl, rfl⟩
  go_wp2_with fail
  refine (C4.out _).mono ?_
  rintro e w1 ⟨rfl, b1⟩
  go_wp2_with fail
  refine (C3.out _ _).mono ?_
  rintro e w' ⟨rfl, rfl⟩
  go_wp2_with fail
  refine (C2.out _).mono ?_
  rintro e w' ⟨rfl, rfl⟩
  go_wp2_with fail
  refine (C3.out _ _).mono ?_
  rintro e w' ⟨rfl, rfl⟩
  go_wp2_with fail
  refine (C3.out _ _).mono ?_
  rintro e w' ⟨rfl, rfl⟩
  go_wp2_with fail
  go_loopw [8, 9, 10] (fun vp vc vi wr => ∃ j : Nat, ∃ i : Int, vp = .float .f64 (sS z 1 j) ∧ vc = .float .f64 (sS z (-1) j) ∧ vi = .int .i64 i ∧ Hid (j ≤ 10 ∧ i = 10 - (j : Int)) ∧ w1 = wr) (fun _ _ vi _ => (intOf vi).toNat)
  case atStart => exact ⟨0, 10, rfl, rfl, rfl, Lib.hid ⟨by omega, by omega⟩, rfl⟩
  case round =>
    obtain ⟨j, i, rfl, rfl, rfl, HI, rfl⟩ := hrel
    rcases Int.lt_or_le i 1 with h0 | h0
    · have t1 : decide (1 ≤ i) = false := decide_eq_false (by omega)
      have hp1 : sS z 1 j = S := by rw [show j = 10 by have := HI.out; omega]; exact HS.out
      have hp2 : sS z (-1) j = C := by rw [show j = 10 by have := HI.out; omega]; exact HC.out
      rw [hp1, hp2]
      clear h0 hp1 hp2
      obtain ⟨T4, hT4⟩ : ∃ T4, Int.tmod n 4 = T4 := ⟨_, rfl⟩
      have hn4 : -4 < T4 ∧ T4 < 4 ∧ (T4 < 0 → T4 + 4 = m) ∧ (0 ≤ T4 → T4 = m) := by
        have := HN.out
        have h3 := Int.tmod_eq_emod (a := n) (b := 4)
        rw [hT4] at h3
        split at h3 <;> omega
      have k5 : IntKind.i64.wrap T4 = T4 := IntWalk.i64_in _ (by omega)
      rcases Int.lt_or_le T4 0 with hlt | hlt
      · have t5 : decide (T4 < 0) = true := decide_eq_true hlt
        have k6 : IntKind.i64.wrap (T4 + 4) = m := by rw [IntWalk.i64_in _ (by omega)]; exact hn4.2.2.1 hlt
        clear hlt hn4
        go_wp2
        refine bodyPost_ret (results_three rfl _ _ _) rfl ?_
        exact ⟨rfl, b1⟩
      · have t5 : decide (T4 < 0) = false := decide_eq_false (by omega)
        have hm2 := hn4.2.2.2 hlt
        clear hlt hn4
        subst hm2
        go_wp2
        refine bodyPost_ret (results_three rfl _ _ _) rfl ?_
        exact ⟨rfl, b1⟩
    · obtain ⟨f, q, d1, d2, d3⟩ := L1.out j (by have := HI.out; omega)
      obtain ⟨f', q', d1', d2', d3'⟩ := L2.out j (by have := HI.out; omega)
      rw [show 10 - (j : Int) = i by have := HI.out; omega] at d2 d2'
      obtain ⟨s1, s2, s3, s4⟩ := sin_ints h0 (by have := HI.out; omega)
      obtain ⟨p, hP⟩ : ∃ p, sS z 1 j = p := ⟨_, rfl⟩
      obtain ⟨p2, hP2⟩ : ∃ p2, sS z 1 (j + 1) = p2 := ⟨_, rfl⟩
      obtain ⟨p', hP'⟩ : ∃ p', sS z (-1) j = p' := ⟨_, rfl⟩
      obtain ⟨p2', hP2'⟩ : ∃ p2', sS z (-1) (j + 1) = p2' := ⟨_, rfl⟩
      rw [hP, hP']
      rw [hP] at d1
      rw [hP2] at d3
      rw [hP'] at d1'
      rw [hP2'] at d3'
      obtain ⟨i2, hi2⟩ : ∃ i2, 2 * i = i2 := ⟨_, rfl⟩
      have k1 : IntKind.i64.wrap (2 * i) = i2 := by rw [IntWalk.i64_in _ (by have := HI.out; omega)]; exact hi2
      rw [hi2] at d2 d2' s1 s2 s3 s4
      obtain ⟨F, hF⟩ : ∃ F, floatOfInt .f64 i2 = F := ⟨_, rfl⟩
      obtain ⟨E1, hE1⟩ : ∃ E1, floatOfInt .f64 (i2 * (i2 + 1)) = E1 := ⟨_, rfl⟩
      obtain ⟨E2, hE2⟩ : ∃ E2, floatOfInt .f64 (i2 * (i2 + -1)) = E2 := ⟨_, rfl⟩
      obtain ⟨A, hA⟩ : ∃ A, floatOfInt .f64 (i2 + 1) = A := ⟨_, rfl⟩
      obtain ⟨B, hB⟩ : ∃ B, floatOfInt .f64 (i2 - 1) = B := ⟨_, rfl⟩
      rw [hE1] at d2 s2
      rw [hE2] at d2' s4
      rw [hF] at s1 s2 s3 s4
      rw [hA] at s1 s2
      rw [hB] at s3 s4
      have x1 := wMul d1
      have x2 := wDiv d2
      have x3 := wSub d3
      have x1' := wMul d1'
      have x2' := wDiv d2'
      have x3' := wSub d3'
      have y1 := wAdd s1
      have y2 := wMul s2
      have y3 := wSub s3
      have y4 := wMul s4
      have t1 : decide (1 ≤ i) = true := decide_eq_true (by omega)
      obtain ⟨i4, hi4⟩ : ∃ i4, i - 1 = i4 := ⟨_, rfl⟩
      have k4 : IntKind.i64.wrap (i - 1) = i4 := by rw [IntWalk.i64_in _ (by have := HI.out; omega)]; exact hi4
      have H2 := Lib.hid (show (sS z 1 (j + 1) = p2 ∧ sS z (-1) (j + 1) = p2') ∧ (j + 1 ≤ 10 ∧ i4 = 10 - ((j + 1 : Nat) : Int)) ∧ i4 < i ∧ 1 ≤ i from ⟨⟨hP2, hP2'⟩, ⟨by have := HI.out; omega, by have := HI.out; omega⟩, by omega, by omega⟩)
      clear d1 d2 d3 d1' d2' d3' hP hP2 hP' hP2' hi2 hi4 h0 s1 s2 s3 s4 hE1 hE2 hA hB
      go_wp2
      go_roundw
      case rel => exact ⟨j + 1, i4, by rw [H2.out.1.1], by rw [H2.out.1.2], rfl, Lib.hid H2.out.2.1, trivial⟩
      case measure => have := H2.out.2.2; simp [intOf]; omega
set_option maxRecDepth 100000 in
set_option maxHeartbeats 2000000 in
theorem fturned_high (y x t s k a b c r z : Nat) (n m : Int) (w : World) (hx : y < 18446744073709551616) (g1 : (FloatKind.f64.format.order (rung y) 4697254411347427328 == some .gt) = true) (ny : fnan y = false) (hr : restV y 4618760256179416344 = x) (Q : TurnQ x t s k a b c r z n m) : Calls Try.prog 47 #[.float .f64 y] w fun e w' => e = .returned (.agg #[.int .i64 m, .float .f64 (mulF r (sS z 1 10)), .float .f64 (sS z (-1) 10)]) ∧ Below w.heap.size w w' := by
  obtain ⟨m1, m2, hf, hk, hk2, m3, m4, m5, m6, m7, q1, q2, cv, hm, m8⟩ := Q
  have C1 := Lib.hid (fun W => nabs_any y W hx ny)
  have C2 := Lib.hid (fun W => nFloor_real hf hk hk2 W)
  have C3 := Lib.hid (fun c W => const_any c W)
  have S1 := Lib.hid (fun W => series_any z 1 (Or.inl rfl) q1 W)
  have S2 := Lib.hid (fun W => series_any z (-1) (Or.inr rfl) q2 W)
  have w1' := Lib.hid (fun W => times_any m1 W)
  have w2' := wAdd m2
  have w3 := Lib.hid (fun W => times_any m3 W)
  have w4 := wSub m4
  have w5 := Lib.hid (fun W => times_any m5 W)
  have w6 := wSub m6
  have w7 := Lib.hid (fun W => times_any m7 W)
  obtain ⟨S, hS⟩ : ∃ S, sS z 1 10 = S := ⟨_, rfl⟩
  obtain ⟨C, hC⟩ : ∃ C, sS z (-1) 10 = C := ⟨_, rfl⟩
  rw [hS] at m8 S1 ⊢
  rw [hC] at S2 ⊢
  obtain ⟨T, hT⟩ : ∃ T, mulF r S = T := ⟨_, rfl⟩
  rw [hT] at m8 ⊢
  have w8 := Lib.hid (fun W => times_any m8 W)
  have hb : bits BinOp.and IntKind.i64 n 3 = m := by rw [and_three]; exact hm
  have C4 := Lib.hid (fun W => nbin_rest y 4618760256179416344 W hx (by omega))
  rw [hr] at C4
  obtain ⟨v, hv⟩ : ∃ v, rung y = v := ⟨_, rfl⟩
  rw [hv] at C1 g1
  clear m1 m2 hf hk hk2 m3 m4 m5 m6 m7 m8 q1 q2 hS hC hT hm hx hv hr ny
  go_enter Try.func47, Try.ntmps47
  go_wp2_with fail
  refine (C1.out _).mono ?_
  rintro e w' ⟨rfl, rfl⟩
  go_wp2_with fail
  refine (C3.out _ _).mono ?_
  rintro e w' ⟨rfl, rfl⟩
  go_wp2_with fail
  refine (C4.out _).mono ?_
  rintro e w1 ⟨rfl, b1⟩
  go_wp2_with fail
  refine (C3.out _ _).mono ?_
  rintro e w' ⟨rfl, rfl⟩
  go_wp2_with fail
  refine (w1'.out _).mono ?_
  rintro e w' ⟨rfl, rfl⟩
  go_wp2_with fail
  refine (C2.out _).mono ?_
  rintro e w' ⟨rfl, rfl⟩
  go_wp2_with fail
  refine (C3.out _ _).mono ?_
  rintro e w' ⟨rfl, rfl⟩
  go_wp2_with fail
  refine (w3.out _).mono ?_
  rintro e w' ⟨rfl, rfl⟩
  go_wp2_with fail
  refine (C3.out _ _).mono ?_
  rintro e w' ⟨rfl, rfl⟩
  go_wp2_with fail
  refine (w5.out _).mono ?_
  rintro e w' ⟨rfl, rfl⟩
  go_wp2_with fail
  refine (w7.out _).mono ?_
  rintro e w' ⟨rfl, rfl⟩
  go_wp2_with fail
  refine (S1.out _).mono ?_
  rintro e w' ⟨rfl, rfl⟩
  go_wp2_with fail
  refine (w8.out _).mono ?_
  rintro e w' ⟨rfl, rfl⟩
  go_wp2_with fail
  refine (S2.out _).mono ?_
  rintro e w' ⟨rfl, rfl⟩
  have HG := Lib.hid ((b1.block w.heap.size (by simp)).trans (heap_alloc_last w (.cells #[.int .i64 0, .float .f64 0, .float .f64 0] 41)))
  have BG := Lib.hid (((Below.refl w.heap.size w).alloc (Nat.le_refl _) (.cells #[.int .i64 0, .float .f64 0, .float .f64 0] 41)).trans (b1.mono (by simp)))
  go_wp2_with (first | (refine wpList_store_row rfl 41 _ _ rfl w.heap.size #[.int .i64 m, .float .f64 T, .float .f64 C] rfl rfl 41 #[.int .i64 0, .float .f64 0, .float .f64 0] HG.out (by first | kernel_rfl | rfl) rfl (by first | kernel_rfl | rfl) ?_))
  exact bodyPost_ret (results_cell_one rfl _ _ _ _ _ rfl (run_loadVar_row _ w.heap.size 41 41 _ (0, 0) _ (setRow_heap _ _ _ _ _ _ HG.out) Try.underlying41 rfl (by first | kernel_rfl | rfl))) rfl ⟨rfl, below_setRow BG.out (Nat.le_refl _) _⟩
end Go.Proofs.Ytbinpcoaghpcdaa
