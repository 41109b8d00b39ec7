/-
  The law NumberRests: what is left by % of the program.
-/
import Derived.Test.YtacmbbjmcdbcnaaAwake
namespace Go.Proofs.Ytacmbbjmcdbcnaa
open Go.RowKit
theorem read_word (s : Bool) {r : Nat} (h : r < 9218868437227405312) : ∃ m e, Ieee.double.read (Ieee.double.word s r) = .number s m e ∧ -1074 ≤ e ∧ fmag r = m * 2 ^ (e + 1074).toNat := by
  obtain ⟨a, b, _⟩ := word_rung s (r := r) (by omega)
  have := read_num (w := Ieee.double.word s r) (by rw [a]; exact h)
  rw [a, b] at this
  exact this
theorem fmag_fl {N : Nat} (h : N < 9007199254740992) {K : Nat} (hK : K = 1074) : fmag (fl N) = N * 2 ^ K ∧ fl N < 9218868437227405312 := by
  obtain ⟨r, hr⟩ := rep_of (N := N * 2 ^ K) rfl h
  have hlt : r < 9218868437227405312 := by
    obtain ⟨J, hJ⟩ : ∃ J : Nat, J = 2046 := ⟨_, rfl⟩
    have e1 := fmag_make 4503599627370496 J (by omega) (by omega)
    rw [show J * 4503599627370496 + 4503599627370496 = 9218868437227405312 by rw [hJ]] at e1
    refine fmag_lt.1 ?_
    rw [hr, e1]
    have h1 : N * 2 ^ K < 9007199254740992 * 2 ^ K := Nat.mul_lt_mul_of_pos_right h (Nat.two_pow_pos K)
    have h2 : 9007199254740992 * 2 ^ K ≤ 4503599627370496 * 2 ^ J := by
      rw [show (9007199254740992 : Nat) = 4503599627370496 * 2 by rfl, Nat.mul_assoc]
      refine Nat.mul_le_mul_left _ ?_
      rw [show 2 * 2 ^ K = 2 ^ (K + 1) by rw [Nat.pow_succ, Nat.mul_comm]]
      exact Nat.pow_le_pow_right (by omega) (by omega)
    omega
  have := near_gen false (r := r) (m := N) (a := K) (b := 0) (e := 0) hlt (by omega) (by rw [hr, Nat.pow_zero, Nat.mul_one])
  rw [fl_near, this]
  exact ⟨hr, hlt⟩
/-- The float of a whole number. -/
theorem near_int {n : Int} (h1 : -9007199254740992 < n) (h2 : n < 9007199254740992) : FloatKind.f64.nearest n = Ieee.double.word (decide (n < 0)) (fl n.natAbs) := by
  obtain ⟨K, hK⟩ : ∃ K : Nat, K = 1074 := ⟨_, rfl⟩
  obtain ⟨a, b⟩ := fmag_fl (N := n.natAbs) (by omega) hK
  exact near_gen (decide (n < 0)) (r := fl n.natAbs) (m := n.natAbs) (a := K) (b := 0) (e := 0) b (by omega) (by rw [a, Nat.pow_zero, Nat.mul_one])
theorem mul_signed {s : Bool} {x y r : Nat} (hx : x < 9218868437227405312) (hy : y < 9218868437227405312) (hr : r < 9218868437227405312) {K : Nat} (hK : K = 1074) (h : fmag x * fmag y = fmag r * 2 ^ K) : Ieee.double.mul (Ieee.double.word s x) (Ieee.double.word false y) = some (Ieee.double.word s r) := by
  obtain ⟨m, i, a1, a2, a3⟩ := read_word s hx
  obtain ⟨n, j, b1, b2, b3⟩ := read_word false hy
  unfold Ieee.Format.mul
  rw [a1, b1]
  simp only [Ieee.Datum.product, Option.map_some, Bool.xor_false]
  refine congrArg some ?_
  refine near_gen s (a := (i + 1074).toNat + (j + 1074).toNat) (b := K) hr (by omega) ?_
  rw [← h, a3, b3, Nat.pow_add]
  grind
theorem add_nought {s : Bool} {x : Nat} (hx : x < 9218868437227405312) (h : s = true → 0 < x) : Ieee.double.add (Ieee.double.word s x) 0 = some (Ieee.double.word s x) := by
  obtain ⟨m, i, a1, a2, a3⟩ := read_word s hx
  obtain ⟨n, j, b1, b2, b3⟩ := read_word false (r := 0) (by omega)
  unfold Ieee.Format.add
  rw [a1, show Ieee.double.read 0 = Ieee.double.read (Ieee.double.word false 0) from rfl, b1]
  have hn : n = 0 := (Nat.mul_eq_zero.1 (show n * 2 ^ (j + 1074).toNat = 0 from b3.symm)).resolve_right (by have := Nat.two_pow_pos (j + 1074).toNat; omega)
  subst hn
  simp only [Ieee.Datum.sum, Option.map_some, signed_eq, Nat.zero_mul, Int.natCast_zero, Int.neg_zero, ite_self, Int.add_zero, Bool.false_eq_true]
  obtain ⟨base, hbase⟩ : ∃ base, min i j = base := ⟨_, rfl⟩
  rw [hbase]
  have u1 := scale_up (m := m) (i := i) (base := base) (by omega) (by omega)
  rw [← a3] at u1
  obtain ⟨X, hX⟩ : ∃ X, m * 2 ^ (i - base).toNat = X := ⟨_, rfl⟩
  rw [hX] at u1 ⊢
  have hneg : (if (if s = true then -(X : Int) else (X : Int)) = 0 then s && false else decide ((if s = true then -(X : Int) else (X : Int)) < 0)) = s := by
    cases s
    · simp
    · have hx0 := fmag_pos.2 (h rfl)
      have hX0 : 0 < X := by
        rcases Nat.eq_zero_or_pos X with h1 | h1
        · rw [h1, Nat.zero_mul] at u1; omega
        · exact h1
      simp; omega
  have habs : (if s = true then -(X : Int) else (X : Int)).natAbs = X := by cases s <;> simp
  rw [hneg, habs]
  refine congrArg some ?_
  exact near_fmag s hx (by omega) u1
theorem modm_mult {N M a b : Nat} (hM : 0 < M) (hMl : M < 9007199254740992) (ha : a = fl (N * M)) (hNM : N * M < 9007199254740992) (hb : b = fl M) : modm a b = 0 := by
  obtain ⟨K, hK⟩ : ∃ K : Nat, K = 1074 := ⟨_, rfl⟩
  obtain ⟨a1, _⟩ := fmag_fl hNM hK
  obtain ⟨b1, _⟩ := fmag_fl hMl hK
  subst ha hb
  have h0 : 0 < fl M := fmag_pos.1 (by rw [b1]; exact Nat.mul_pos hM (Nat.two_pow_pos K))
  refine (modm_eq h0 ?_).symm
  rw [fmag_zero, a1, b1, Nat.mul_mod_mul_right, Nat.mul_mod_left, Nat.zero_mul]
theorem rem_any (x y : Nat) (hx : x < 18446744073709551616) (hx2 : rung x < 9218868437227405312) (hy : y < 18446744073709551616) (hY : 0 < rung y) (hY2 : rung y < 9218868437227405312) (w : World) :
    Calls Try.prog 26 #[.string ⟨#[37]⟩, .float .f64 x, .float .f64 y] w fun e w' => e = .returned (.tuple #[.float .f64 (Ieee.double.word (fneg x) (modm (rung x) (rung y))), .int .i64 0]) ∧ Below w.heap.size w w' := by
  have h := binary_at 4 (by omega) x y _ w (fun W => rest_any x y _ W (fun W => Mod_fin x y hx hx2 hy hY hY2 W))
  rw [cn_real (by
    have h1 := modm_lt (rung x) hY
    have h2 := (word_rung (fneg x) (r := modm (rung x) (rung y)) (by omega)).1
    unfold fnan; rw [h2]; exact decide_eq_false (by omega))] at h
  exact h
theorem fnan_fin {r : Nat} (s : Bool) (h : r < 9218868437227405312) : fnan (Ieee.double.word s r) = false := by
  unfold fnan
  rw [(word_rung s (r := r) (by omega)).1]
  exact decide_eq_false (by omega)
set_option maxRecDepth 100000 in
theorem rests_bad (n : Int) (y : Nat) (p : Nat) (w : World) (hy : y < 18446744073709551616) (hb : fnan y = true ∨ finf y = true ∨ rung y = 0) :
    Calls Try.prog 10 #[.int .i32 n, .float .f64 y, .int .u16 p] w fun e w' => e = .returned (.bool true) ∧ Below w.heap.size w w' := by
  have C1 := Lib.hid (fun W => isNaN_any y W)
  have C2 := Lib.hid (fun W => isInf0_any y W hy)
  have C3 := Lib.hid (fun W => awake_any W)
  have h1 := ord_zero y
  cases e1 : fnan y
  · cases e2 : finf y
    · have e3 : rung y = 0 := by rcases hb with h | h | h; · rw [h] at e1; cases e1
                                 · rw [h] at e2; cases e2
                                 · exact h
      rw [decide_eq_true e3] at h1
      rw [e1] at C1
      rw [e2] at C2
      clear e1 e2 e3 hb hy
      go_enter Try.func10, Try.ntmps10
      go_wp2_with fail
      refine (C1.out _).mono ?_
      rintro e w' ⟨rfl, rfl⟩
      go_wp2_with fail
      refine (C2.out _).mono ?_
      rintro e w' ⟨rfl, rfl⟩
      go_wp2_with fail
      refine (C3.out _).mono ?_
      rintro e w' ⟨rfl, b⟩
      go_wp2
      go_ret
      exact ⟨rfl, b⟩
    · rw [e1] at C1
      rw [e2] at C2
      clear e1 e2 hb hy h1
      go_enter Try.func10, Try.ntmps10
      go_wp2_with fail
      refine (C1.out _).mono ?_
      rintro e w' ⟨rfl, rfl⟩
      go_wp2_with fail
      refine (C2.out _).mono ?_
      rintro e w' ⟨rfl, rfl⟩
      go_wp2_with fail
      refine (C3.out _).mono ?_
      rintro e w' ⟨rfl, b⟩
      go_wp2
      go_ret
      exact ⟨rfl, b⟩
  · rw [e1] at C1
    clear e1 hb hy h1
    go_enter Try.func10, Try.ntmps10
    go_wp2_with fail
    refine (C1.out _).mono ?_
    rintro e w' ⟨rfl, rfl⟩
    go_wp2_with fail
    refine (C3.out _).mono ?_
    rintro e w' ⟨rfl, b⟩
    go_wp2
    go_ret
    exact ⟨rfl, b⟩
set_option maxRecDepth 100000 in
set_option maxHeartbeats 1000000 in
theorem rests_ok (n : Int) (y : Nat) (p : Nat) (w : World) (hn1 : -2147483648 ≤ n) (hn2 : n < 2147483648) (hp : p < 65536) (hy : y < 18446744073709551616) (e1 : fnan y = false) (e2 : finf y = false) (hY : 0 < rung y) :
    Calls Try.prog 10 #[.int .i32 n, .float .f64 y, .int .u16 p] w fun e w' => e = .returned (.bool true) ∧ Below w.heap.size w w' := by
  have C1 := Lib.hid (fun W => isNaN_any y W)
  have C2 := Lib.hid (fun W => isInf0_any y W hy)
  rw [e1] at C1
  rw [e2] at C2
  have h1 := ord_zero y
  rw [decide_eq_false (by omega)] at h1
  have C3 := Lib.hid (fun W => awake_any W)
  have hY2 : rung y < 9218868437227405312 := by unfold fnan at e1; unfold finf at e2; have := of_decide_eq_false e1; have := of_decide_eq_false e2; omega
  obtain ⟨K, hK⟩ : ∃ K : Nat, K = 1074 := ⟨_, rfl⟩
  -- the whole number, as a float
  obtain ⟨fa1, fa2⟩ := fmag_fl (N := n.natAbs) (by omega) hK
  have ha := near_int (n := n) (by omega) (by omega)
  obtain ⟨s, hs⟩ : ∃ s, decide (n < 0) = s := ⟨_, rfl⟩
  rw [hs] at ha
  obtain ⟨a1, a2, a3⟩ := word_rung s (r := fl n.natAbs) (by omega)
  -- the multiple
  obtain ⟨M, hM⟩ : ∃ M, p + 1 = M := ⟨_, rfl⟩
  have hMl : M < 9007199254740992 := by omega
  obtain ⟨fm1, fm2⟩ := fmag_fl hMl hK
  have hb := near_int (n := (M : Int)) (by omega) (by omega)
  rw [decide_eq_false (by omega), Int.natAbs_natCast, word_false] at hb
  have hprod : n.natAbs * M < 9007199254740992 := by
    have h2 : n.natAbs * M ≤ 2147483648 * 65536 := Nat.mul_le_mul (by omega) (by omega)
    omega
  obtain ⟨fp1, fp2⟩ := fmag_fl hprod hK
  have hmul := mul_signed (s := s) (x := fl n.natAbs) (y := fl M) (r := fl (n.natAbs * M)) fa2 fm2 fp2 hK (by rw [fa1, fm1, fp1]; grind)
  rw [word_false] at hmul
  have hs0 : s = true → 0 < n.natAbs := fun e => by rw [e] at hs; have := of_decide_eq_true hs; omega
  have hadd := add_nought (s := s) (x := fl (n.natAbs * M)) fp2 (fun e => fmag_pos.1 (by rw [fp1]; exact Nat.mul_pos (Nat.mul_pos (hs0 e) (by omega)) (Nat.two_pow_pos K)))
  obtain ⟨c1, c2, c3⟩ := word_rung s (r := fl (n.natAbs * M)) (by omega)
  obtain ⟨m1, m2, m3⟩ := pos_rung (x := fl M) (by omega)
  have hM0 : 0 < fl M := fmag_pos.1 (by rw [fm1]; exact Nat.mul_pos (by omega) (Nat.two_pow_pos K))
  have C4 := Lib.hid (fun W => rem_any (Ieee.double.word s (fl n.natAbs)) y a3 (by rw [a1]; exact fa2) hy hY hY2 W)
  have C5 := Lib.hid (fun W => rem_any (Ieee.double.word s (fl (n.natAbs * M))) (fl M) c3 (by rw [c1]; exact fp2) (by omega) (by rw [m1]; exact hM0) (by rw [m1]; exact fm2) W)
  rw [a1, a2] at C4
  rw [c1, c2, m1, modm_mult (N := n.natAbs) (by omega) hMl rfl hprod rfl] at C5
  have hr := modm_lt (fl n.natAbs) hY
  obtain ⟨r1, r2, r3⟩ := word_rung s (r := modm (fl n.natAbs) (rung y)) (by omega)
  obtain ⟨z1, z2, z3⟩ := word_rung s (r := 0) (by omega)
  have C6 := Lib.hid (fun W => abs_any (Ieee.double.word s (modm (fl n.natAbs) (rung y))) W r3)
  have C7 := Lib.hid (fun W => abs_any y W hy)
  have C8 := Lib.hid (fun W => signbit_any (Ieee.double.word s (modm (fl n.natAbs) (rung y))) W r3)
  have C9 := Lib.hid (fun W => signbit_any (Ieee.double.word s 0) W z3)
  rw [r1] at C6
  rw [r2] at C8
  rw [z2] at C9
  have h2 : (FloatKind.f64.format.order (modm (fl n.natAbs) (rung y)) (rung y) == some .gt || FloatKind.f64.format.order (modm (fl n.natAbs) (rung y)) (rung y) == some .eq) = false := by
    rw [show FloatKind.f64.format.order (modm (fl n.natAbs) (rung y)) (rung y) = some (compare ((modm (fl n.natAbs) (rung y) : Nat) : Int) ((rung y : Nat) : Int)) from order_ge (by omega) (by omega), cmp_gt, cmp_eq]
    simp; omega
  have h3 := ord_zero (Ieee.double.word s 0)
  rw [z1, decide_eq_true rfl] at h3
  have ha2 : floatOfInt .f64 n = Ieee.double.word s (fl n.natAbs) := ha
  have hb2 : floatOfInt .f64 (M : Int) = fl M := hb
  have k1 : IntKind.i64.wrap (p : Int) = (p : Int) := IntWalk.i64_in _ (by omega)
  have k2 : IntKind.i64.wrap ((p : Int) + 1) = (M : Int) := by rw [IntWalk.i64_in _ (by omega)]; omega
  obtain ⟨a, hA⟩ : ∃ a, Ieee.double.word s (fl n.natAbs) = a := ⟨_, rfl⟩
  obtain ⟨b, hB⟩ : ∃ b, fl M = b := ⟨_, rfl⟩
  obtain ⟨c, hC⟩ : ∃ c, Ieee.double.word s (fl (n.natAbs * M)) = c := ⟨_, rfl⟩
  obtain ⟨q, hQ⟩ : ∃ q, modm (fl n.natAbs) (rung y) = q := ⟨_, rfl⟩
  obtain ⟨d, hD⟩ : ∃ d, Ieee.double.word s q = d := ⟨_, rfl⟩
  obtain ⟨z, hZ⟩ : ∃ z, Ieee.double.word s 0 = z := ⟨_, rfl⟩
  obtain ⟨Y, hYY⟩ : ∃ Y, rung y = Y := ⟨_, rfl⟩
  rw [hA] at ha2 hmul C4
  rw [hB] at hb2 hmul C5
  rw [hC] at hmul hadd C5
  rw [hQ] at C4 C6 C8 h2
  rw [hD] at C4 C6 C8
  rw [hZ] at C5 C9 h3
  rw [hYY] at C7 h2
  have h5 : (binOp BinOp.mul 22 (.float .f64 a) (.float .f64 b)).run Try.prog w = .ok (.float .f64 c) w := run_float_arith _ _ _ _ _ _ _ hmul
  have h6 : ∀ W, (binOp BinOp.mul 22 (.float .f64 a) (.float .f64 b)).run Try.prog W = .ok (.float .f64 c) W := fun W => run_float_arith _ _ _ _ _ _ _ hmul
  have h7 : ∀ W, (binOp BinOp.add 22 (.float .f64 c) (.float .f64 0)).run Try.prog W = .ok (.float .f64 c) W := fun W => run_float_arith _ _ _ _ _ _ _ hadd
  clear hn1 hn2 hp hy e1 e2 hY hY2 hK fa1 fa2 ha a1 a2 a3 hM hMl fm1 fm2 hb hprod fp1 fp2 hmul hs0 hadd c1 c2 c3 m1 m2 m3 hM0 hr r1 r2 r3 z1 z2 z3 hA hB hC hQ hD hZ hYY h5
  go_enter Try.func10, Try.ntmps10
  go_wp2_with fail
  refine (C1.out _).mono ?_
  rintro e w' ⟨rfl, rfl⟩
  go_wp2_with fail
  refine (C2.out _).mono ?_
  rintro e w' ⟨rfl, rfl⟩
  go_wp2_with fail
  refine (C4.out _).mono ?_
  rintro e w4 ⟨rfl, b4⟩
  go_wp2_with fail
  refine (C6.out _).mono ?_
  rintro e w' ⟨rfl, rfl⟩
  go_wp2_with fail
  refine (C7.out _).mono ?_
  rintro e w' ⟨rfl, rfl⟩
  go_wp2_with fail
  refine (C8.out _).mono ?_
  rintro e w' ⟨rfl, rfl⟩
  go_wp2_with fail
  refine (C5.out _).mono ?_
  rintro e w5 ⟨rfl, b5⟩
  have B5 := below_le b4 b5
  go_wp2_with fail
  refine (C9.out _).mono ?_
  rintro e w' ⟨rfl, rfl⟩
  go_wp2_with fail
  refine (C3.out _).mono ?_
  rintro e w6 ⟨rfl, b6⟩
  have B6 := below_le B5 b6
  go_wp2
  go_ret
  exact ⟨rfl, B6⟩
theorem rests_any (n : Int) (y : Nat) (p : Nat) (w : World) (hn1 : -2147483648 ≤ n) (hn2 : n < 2147483648) (hp : p < 65536) (hy : y < 18446744073709551616) :
    Calls Try.prog 10 #[.int .i32 n, .float .f64 y, .int .u16 p] w fun e w' => e = .returned (.bool true) ∧ Below w.heap.size w w' := by
  cases e1 : fnan y
  · cases e2 : finf y
    · rcases Nat.eq_zero_or_pos (rung y) with h | h
      · exact rests_bad n y p w hy (.inr (.inr h))
      · exact rests_ok n y p w hn1 hn2 hp hy e1 e2 h
    · exact rests_bad n y p w hy (.inr (.inl e2))
  · exact rests_bad n y p w hy (.inl e1)
end Go.Proofs.Ytacmbbjmcdbcnaa
