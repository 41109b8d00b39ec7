/-
  Plain facts on the sum of Exp: it is a float above a quarter and below two. Ldexp of any such float.
-/
import Derived.Test.YtbinpcoaghpcdaaRd
import Derived.Test.YtbinpcoaghpcdaaEx
import Derived.Test.YtbinpcoaghpcdaaLdn
namespace Go.Proofs.Ytbinpcoaghpcdaa
open Go.RowKit
theorem fl_fin {N K : Nat} (h : N < 9007199254740992) (hK : K = 1074) : Fin64 (fl N) ∧ mg (fl N) = N * 2 ^ K ∧ fneg (fl N) = false := by
  obtain ⟨h1, h2⟩ := fmag_fl h hK
  obtain ⟨p1, p2, _⟩ := pos_rung (x := fl N) (by omega)
  refine ⟨⟨by omega, by rw [p1]; exact h2⟩, ?_, p2⟩
  unfold mg; rw [p1]; exact h1
theorem one_fin {K : Nat} (hK : K = 1074) : Fin64 4607182418800017408 ∧ mg 4607182418800017408 = 2 ^ K ∧ fneg 4607182418800017408 = false ∧ sv 4607182418800017408 = ((2 ^ K : Nat) : Int) := by
  obtain ⟨d, hd⟩ : ∃ d : Nat, d = 1022 := ⟨_, rfl⟩
  obtain ⟨a, b, c⟩ := mg_const (c := 4607182418800017408) (M := 4503599627370496) (d := d) (e := 0) (g := d) (by omega) (by omega) (by omega) (by omega) (by omega)
  have e : 4503599627370496 * 2 ^ 0 * 2 ^ d = 2 ^ K := by rw [Nat.pow_zero, Nat.mul_one, show (4503599627370496 : Nat) = 2 ^ 52 from rfl, ← Nat.pow_add, show 52 + d = K by omega]
  refine ⟨a, by rw [b, e], by decide, ?_⟩
  unfold sv
  rw [if_neg (by decide), b, e]
/-- 1 and what is less than it. -/
theorem add_one_bd {q m J : Nat} (hq : Fin64 q) (hJ : J = 1071) (hm : m ≤ 7) (h : mg q ≤ m * 2 ^ J) : Ieee.double.add 4607182418800017408 q = some (addF 4607182418800017408 q) ∧ Fin64 (addF 4607182418800017408 q) ∧ fneg (addF 4607182418800017408 q) = false ∧ (8 - m) * 2 ^ J ≤ mg (addF 4607182418800017408 q) ∧ mg (addF 4607182418800017408 q) ≤ (8 + m) * 2 ^ J := by
  obtain ⟨K, hK⟩ : ∃ K : Nat, K = 1074 := ⟨_, rfl⟩
  obtain ⟨L, hL⟩ : ∃ L : Nat, L = 2098 := ⟨_, rfl⟩
  obtain ⟨o1, o2, o3, o4⟩ := one_fin hK
  obtain ⟨a1, a2, a3, a4⟩ := addF_core o1 hq
  have hs := sv_abs q
  have hJp := Nat.two_pow_pos J
  have hKJ : 2 ^ K = 8 * 2 ^ J := by rw [show K = 3 + J by omega, Nat.pow_add]
  have hJL : 15 * 2 ^ J < 2 ^ L := by
    have h1 : 2 ^ (J + 4) ≤ 2 ^ L := Nat.pow_le_pow_right (by omega) (by omega)
    rw [Nat.pow_add] at h1; omega
  rw [o4, hKJ] at a3 a4
  have e1 : (8 - m) * 2 ^ J + m * 2 ^ J = 8 * 2 ^ J := by rw [← Nat.add_mul, show 8 - m + m = 8 by omega]
  have e2 : (8 + m) * 2 ^ J = 8 * 2 ^ J + m * 2 ^ J := Nat.add_mul _ _ _
  have e3 : (8 + m) * 2 ^ J ≤ 15 * 2 ^ J := Nat.mul_le_mul_right _ (by omega)
  have e4 : 1 * 2 ^ J ≤ (8 - m) * 2 ^ J := Nat.mul_le_mul_right _ (by omega)
  have b1 := nearly_cap (M := 8 + m) (j := J) (by omega) a4 (by omega) (by rw [Nat.mul_one]; omega)
  have b2 := nearly_floor (M := 8 - m) (j := J) a4 (by omega) hL (by omega) (by rw [Nat.mul_one]; omega)
  refine ⟨a1, ⟨a2, (fmag_fin hL).1 (by omega)⟩, ?_, b2, b1⟩
  rw [a3, if_neg (by omega), decide_eq_false (by omega)]
theorem sub_one_bd {q m J : Nat} (hq : Fin64 q) (hJ : J = 1071) (hm : m ≤ 7) (hn : fneg q = false) (h : mg q ≤ m * 2 ^ J) : Ieee.double.sub 4607182418800017408 q = some (subF 4607182418800017408 q) ∧ Fin64 (subF 4607182418800017408 q) ∧ fneg (subF 4607182418800017408 q) = false ∧ (8 - m) * 2 ^ J ≤ mg (subF 4607182418800017408 q) ∧ mg (subF 4607182418800017408 q) ≤ 8 * 2 ^ J := by
  obtain ⟨K, hK⟩ : ∃ K : Nat, K = 1074 := ⟨_, rfl⟩
  obtain ⟨L, hL⟩ : ∃ L : Nat, L = 2098 := ⟨_, rfl⟩
  obtain ⟨o1, o2, o3, o4⟩ := one_fin hK
  obtain ⟨a1, a2, a3, a4⟩ := subF_core o1 hq
  have hs : sv q = (mg q : Int) := by unfold sv; rw [hn, if_neg (by simp)]
  have hJp := Nat.two_pow_pos J
  have hKJ : 2 ^ K = 8 * 2 ^ J := by rw [show K = 3 + J by omega, Nat.pow_add]
  have hJL : 15 * 2 ^ J < 2 ^ L := by
    have h1 : 2 ^ (J + 4) ≤ 2 ^ L := Nat.pow_le_pow_right (by omega) (by omega)
    rw [Nat.pow_add] at h1; omega
  rw [o4, hKJ] at a3 a4
  have e1 : (8 - m) * 2 ^ J + m * 2 ^ J = 8 * 2 ^ J := by rw [← Nat.add_mul, show 8 - m + m = 8 by omega]
  have e4 : 1 * 2 ^ J ≤ (8 - m) * 2 ^ J := Nat.mul_le_mul_right _ (by omega)
  have b1 := nearly_cap (M := 8) (j := J) (by omega) a4 (by omega) (by rw [Nat.mul_one]; omega)
  have b2 := nearly_floor (M := 8 - m) (j := J) a4 (by omega) hL (by omega) (by rw [Nat.mul_one]; omega)
  refine ⟨a1, ⟨a2, (fmag_fin hL).1 (by omega)⟩, ?_, b2, b1⟩
  rw [a3, if_neg (by omega), decide_eq_false (by omega)]
/-- A product, a quotient: how great. -/
theorem mul_bd {x y m j K : Nat} (hx : Fin64 x) (hy : Fin64 y) (hK : K = 1074) (hm : m < 9007199254740992) (hj : j ≤ 2000) (hJ : mg x * mg y ≤ m * 2 ^ j * 2 ^ K) : Ieee.double.mul x y = some (mulF x y) ∧ Fin64 (mulF x y) ∧ mg (mulF x y) ≤ m * 2 ^ j := by
  obtain ⟨L, hL⟩ : ∃ L : Nat, L = 2098 := ⟨_, rfl⟩
  obtain ⟨a1, a2, a3, a4⟩ := mulF_core hx hy hK
  have b1 := nearly_cap (M := m) (j := j) (Nat.two_pow_pos K) a4 hm hJ
  refine ⟨a1, ⟨a2, (fmag_fin hL).1 (Nat.lt_of_le_of_lt b1 ?_)⟩, b1⟩
  have h1 : m * 2 ^ j < 2 ^ 53 * 2 ^ j := Nat.mul_lt_mul_of_pos_right (by omega) (Nat.two_pow_pos j)
  refine Nat.lt_of_lt_of_le h1 ?_
  rw [← Nat.pow_add]; exact Nat.pow_le_pow_right (by omega) (by omega)
theorem div_bd {x y m j K : Nat} (hx : Fin64 x) (hy : Fin64 y) (hy0 : 0 < mg y) (hK : K = 1074) (hm : m < 9007199254740992) (hj : j ≤ 2000) (hJ : mg x * 2 ^ K ≤ m * 2 ^ j * mg y) : Ieee.double.div x y = some (divF x y) ∧ Fin64 (divF x y) ∧ mg (divF x y) ≤ m * 2 ^ j := by
  obtain ⟨L, hL⟩ : ∃ L : Nat, L = 2098 := ⟨_, rfl⟩
  obtain ⟨a1, a2, a3, a4⟩ := divF_core hx hy (fmag_pos.1 hy0) hK
  have b1 := nearly_cap (M := m) (j := j) hy0 a4 hm hJ
  refine ⟨a1, ⟨a2, (fmag_fin hL).1 (Nat.lt_of_le_of_lt b1 ?_)⟩, b1⟩
  have h1 : m * 2 ^ j < 2 ^ 53 * 2 ^ j := Nat.mul_lt_mul_of_pos_right (by omega) (Nat.two_pow_pos j)
  refine Nat.lt_of_lt_of_le h1 ?_
  rw [← Nat.pow_add]; exact Nat.pow_le_pow_right (by omega) (by omega)
/-- A round of Exp's sum. -/
theorem eS_step {r p i m J : Nat} (hr : Fin64 r) (hJ : J = 1071) (hr2 : mg r ≤ 4 * 2 ^ J) (hp : Fin64 p) (hp2 : mg p ≤ 12 * 2 ^ J) (hi : 1 ≤ i) (hi2 : i ≤ 14) (hm : m ≤ 7) (hmi : 6 ≤ m * i) :
    Ieee.double.mul p r = some (mulF p r) ∧ Ieee.double.div (mulF p r) (fl i) = some (divF (mulF p r) (fl i)) ∧ Ieee.double.add 4607182418800017408 (divF (mulF p r) (fl i)) = some (addF 4607182418800017408 (divF (mulF p r) (fl i))) ∧
      Fin64 (addF 4607182418800017408 (divF (mulF p r) (fl i))) ∧ fneg (addF 4607182418800017408 (divF (mulF p r) (fl i))) = false ∧ (8 - m) * 2 ^ J ≤ mg (addF 4607182418800017408 (divF (mulF p r) (fl i))) ∧ mg (addF 4607182418800017408 (divF (mulF p r) (fl i))) ≤ (8 + m) * 2 ^ J := by
  obtain ⟨K, hK⟩ : ∃ K : Nat, K = 1074 := ⟨_, rfl⟩
  have hKJ : 2 ^ K = 8 * 2 ^ J := by rw [show K = 3 + J by omega, Nat.pow_add]
  obtain ⟨a1, a2, a3⟩ := mul_bd (m := 6) (j := J) hp hr hK (by omega) (by omega) (by
    rw [hKJ]
    have := Nat.mul_le_mul hp2 hr2
    generalize 2 ^ J = P at *
    grind)
  obtain ⟨f1, f2, f3⟩ := fl_fin (N := i) (by omega) hK
  obtain ⟨b1, b2, b3⟩ := div_bd (m := m) (j := J) a2 f1 (by rw [f2]; exact Nat.mul_pos (by omega) (Nat.two_pow_pos K)) hK (by omega) (by omega) (by
    rw [f2]
    have h1 : mg (mulF p r) * 2 ^ K ≤ 6 * 2 ^ J * 2 ^ K := Nat.mul_le_mul_right _ a3
    have h2 : 6 * (2 ^ J * 2 ^ K) ≤ m * i * (2 ^ J * 2 ^ K) := Nat.mul_le_mul_right _ hmi
    have e1 : 6 * 2 ^ J * 2 ^ K = 6 * (2 ^ J * 2 ^ K) := Nat.mul_assoc _ _ _
    have e2 : m * 2 ^ J * (i * 2 ^ K) = m * i * (2 ^ J * 2 ^ K) := by grind
    omega)
  exact ⟨a1, b1, add_one_bd b2 hJ hm b3⟩
theorem eS_range {r J : Nat} (hr : Fin64 r) (hJ : J = 1071) (hr2 : mg r ≤ 4 * 2 ^ J) : ∀ j, j ≤ 13 → Fin64 (eS r j) ∧ mg (eS r j) ≤ 12 * 2 ^ J := by
  intro j
  induction j with
  | zero =>
    intro _
    obtain ⟨K, hK⟩ : ∃ K : Nat, K = 1074 := ⟨_, rfl⟩
    have hKJ : 2 ^ K = 8 * 2 ^ J := by rw [show K = 3 + J by omega, Nat.pow_add]
    obtain ⟨o1, o2, o3, o4⟩ := one_fin hK
    exact ⟨o1, by show mg 4607182418800017408 ≤ _; rw [o2, hKJ]; exact Nat.mul_le_mul_right _ (by omega)⟩
  | succ j ih =>
    intro hj
    obtain ⟨h1, h2⟩ := ih (by omega)
    obtain ⟨_, _, _, h3, _, _, h4⟩ := eS_step (i := 14 - j) (m := 3) hr hJ hr2 h1 h2 (by omega) (by omega) (by omega) (by omega)
    exact ⟨h3, Nat.le_trans h4 (Nat.mul_le_mul_right _ (by omega))⟩
theorem eS_ok {r J : Nat} (hr : Fin64 r) (hJ : J = 1071) (hr2 : mg r ≤ 4 * 2 ^ J) :
    (∀ j, j < 14 → ∃ d q, Ieee.double.mul (eS r j) r = some d ∧ Ieee.double.div d (fl (14 - j)) = some q ∧ Ieee.double.add 4607182418800017408 q = some (eS r (j + 1))) ∧
      Fin64 (eS r 14) ∧ fneg (eS r 14) = false ∧ 2 * 2 ^ J ≤ mg (eS r 14) ∧ mg (eS r 14) ≤ 14 * 2 ^ J := by
  refine ⟨fun j hj => ?_, ?_⟩
  · obtain ⟨h1, h2⟩ := eS_range hr hJ hr2 j (by omega)
    obtain ⟨a, b, c, _⟩ := eS_step (i := 14 - j) (m := 6) hr hJ hr2 h1 h2 (by omega) (by omega) (by omega) (by omega)
    exact ⟨_, _, a, b, c⟩
  · obtain ⟨h1, h2⟩ := eS_range hr hJ hr2 13 (by omega)
    obtain ⟨_, _, _, d, e, f, g⟩ := eS_step (i := 1) (m := 6) hr hJ hr2 h1 h2 (by omega) (by omega) (by omega) (by omega)
    exact ⟨d, e, f, g⟩
set_option maxHeartbeats 1000000 in
theorem ldexp_down_f {M k D : Nat} (x v r : Nat) (a1 : 4503599627370496 ≤ M) (a2 : M < 9007199254740992) (hx : x = k * 4503599627370496 + M) (h2 : x < 9218868437227405312) (hD : k < D) (hD2 : D ≤ k + 53) (hv : v = (k + 53 - D) * 4503599627370496 + M) (hr : Ieee.double.mul 4368491638549381120 v = some r) (w : World) :
    Calls Try.prog 69 #[.float .f64 x, .int .i64 (-(D : Int))] w fun e w' => e = .returned (.float .f64 r) ∧ w = w' := by
  have h1 : 4503599627370496 ≤ x := by omega
  obtain ⟨p1, p2, p3⟩ := pos_rung (x := x) (by omega)
  have C1 := Lib.hid (fun W => isNaN_any x W)
  have C2 := Lib.hid (fun W => isInf0_any x W (by omega))
  rw [show fnan x = false from by unfold fnan; rw [p1]; exact decide_eq_false (by omega)] at C1
  rw [show finf x = false from by unfold finf; rw [p1]; exact decide_eq_false (by omega)] at C2
  have C3 := Lib.hid (fun W => normalize_any x W h1 h2)
  have h3 := ord_zero x
  rw [p1, decide_eq_false (by omega)] at h3
  have h5 := f64bits_run x w
  have h6 := not_exp x (by omega)
  obtain ⟨t, ht2⟩ : ∃ t, M = 4503599627370496 + t := ⟨M - 4503599627370496, by omega⟩
  rw [show x % 4503599627370496 = t by omega] at h6
  have h7 := and_2047 (k + 1) (by omega)
  obtain ⟨Q, hQ⟩ : ∃ Q, k + 54 - D = Q := ⟨_, rfl⟩
  have h8 := or_exp t Q (by omega) (by omega)
  have e8 : t + Q * 4503599627370496 = v := by
    rw [hv, ht2, ← hQ, show k + 54 - D = (k + 53 - D) + 1 by omega]; omega
  rw [e8] at h8
  have h9 := f64from_run v w
  have h11 : (binOp BinOp.mul 22 (.float .f64 4368491638549381120) (.float .f64 v)).run Try.prog w = .ok (.float .f64 r) w := run_float_arith _ _ _ _ _ _ _ hr
  have k1 : (x : Int) / 4503599627370496 = ((k + 1 : Nat) : Int) := by omega
  have k2 : IntKind.i64.wrap ((k + 1 : Nat) : Int) = ((k + 1 : Nat) : Int) := IntWalk.i64_in _ (by omega)
  have k3 : IntKind.i64.wrap (((k + 1 : Nat) : Int) - 1023) = (k : Int) - 1022 := by rw [IntWalk.i64_in _ (by omega)]; omega
  obtain ⟨X0, hX0⟩ : ∃ X0, -(D : Int) = X0 := ⟨_, rfl⟩
  have k4 : IntKind.i64.wrap X0 = X0 := IntWalk.i64_in _ (by omega)
  have k4' : IntKind.i64.wrap (X0 + 0) = X0 := by rw [Int.add_zero]; exact k4
  have k5 : IntKind.i64.wrap (X0 + ((k : Int) - 1022)) = (Q : Int) - 1076 := by rw [IntWalk.i64_in _ (by omega)]; omega
  have k9 : IntKind.i64.wrap ((Q : Int) - 1076 + 53) = (Q : Int) - 1023 := by rw [IntWalk.i64_in _ (by omega)]; omega
  have k6 : IntKind.i64.wrap ((Q : Int) - 1023 + 1023) = (Q : Int) := by rw [IntWalk.i64_in _ (by omega)]; omega
  have k7 : IntKind.u64.wrap (Q : Int) = (Q : Int) := by rw [IntKind.wrap_u64]; omega
  have k8 : IntKind.u64.wrap ((Q : Int) * 4503599627370496) = ((Q * 4503599627370496 : Nat) : Int) := by rw [IntKind.wrap_u64]; omega
  have t1 : decide ((Q : Int) - 1076 < -1075) = false := decide_eq_false (by omega)
  have t2 : decide (1023 < (Q : Int) - 1076) = false := decide_eq_false (by omega)
  have t3 : decide ((Q : Int) - 1076 < -1022) = true := decide_eq_true (by omega)
  obtain ⟨q, hq⟩ : ∃ q, k + 1 = q := ⟨_, rfl⟩
  obtain ⟨X1, hX1⟩ : ∃ X1, (k : Int) - 1022 = X1 := ⟨_, rfl⟩
  obtain ⟨X3, hX3⟩ : ∃ X3, (Q : Int) - 1076 = X3 := ⟨_, rfl⟩
  obtain ⟨X4, hX4⟩ : ∃ X4, (Q : Int) - 1023 = X4 := ⟨_, rfl⟩
  rw [hq] at h7 k1 k2 k3
  rw [hX1] at k3 k5
  rw [hX3] at k5 k9 t1 t2 t3
  rw [hX4] at k9 k6
  rw [hX0]
  rw [← k8] at h8
  clear h1 h2 hx a1 a2 hD hD2 hv hr p1 p2 p3 ht2 hQ e8 k8 hq hX1 hX0 hX3 hX4
  go_enter Try.func69, Try.ntmps69
  go_wp2_with fail
  refine (C2.out _).mono ?_
  rintro e w' ⟨rfl, rfl⟩
  go_wp2_with fail
  refine (C1.out _).mono ?_
  rintro e w' ⟨rfl, rfl⟩
  go_wp2_with fail
  refine (C3.out _).mono ?_
  rintro e w' ⟨rfl, rfl⟩
  go_wp2
  go_ret
  exact ⟨rfl, rfl⟩
set_option maxHeartbeats 1000000 in
theorem ldexp_down_u {M k D : Nat} (x : Nat) (a1 : 4503599627370496 ≤ M) (a2 : M < 9007199254740992) (hx : x = k * 4503599627370496 + M) (h2 : x < 9218868437227405312) (hD : k + 53 < D) (hD2 : D < 1048576) (w : World) :
    Calls Try.prog 69 #[.float .f64 x, .int .i64 (-(D : Int))] w fun e w' => e = .returned (.float .f64 0) ∧ w = w' := by
  have h1 : 4503599627370496 ≤ x := by omega
  obtain ⟨p1, p2, p3⟩ := pos_rung (x := x) (by omega)
  have C1 := Lib.hid (fun W => isNaN_any x W)
  have C2 := Lib.hid (fun W => isInf0_any x W (by omega))
  rw [show fnan x = false from by unfold fnan; rw [p1]; exact decide_eq_false (by omega)] at C1
  rw [show finf x = false from by unfold finf; rw [p1]; exact decide_eq_false (by omega)] at C2
  have C3 := Lib.hid (fun W => normalize_any x W h1 h2)
  have C4 := Lib.hid (fun W => copysign_any 0 x W (by omega) (by omega))
  rw [p2, show Ieee.double.word false (rung 0) = 0 by decide] at C4
  have h3 := ord_zero x
  rw [p1, decide_eq_false (by omega)] at h3
  have h5 := f64bits_run x w
  have h7 := and_2047 (k + 1) (by omega)
  have k1 : (x : Int) / 4503599627370496 = ((k + 1 : Nat) : Int) := by omega
  have k2 : IntKind.i64.wrap ((k + 1 : Nat) : Int) = ((k + 1 : Nat) : Int) := IntWalk.i64_in _ (by omega)
  have k3 : IntKind.i64.wrap (((k + 1 : Nat) : Int) - 1023) = (k : Int) - 1022 := by rw [IntWalk.i64_in _ (by omega)]; omega
  obtain ⟨X0, hX0⟩ : ∃ X0, -(D : Int) = X0 := ⟨_, rfl⟩
  have k4 : IntKind.i64.wrap X0 = X0 := IntWalk.i64_in _ (by omega)
  have k4' : IntKind.i64.wrap (X0 + 0) = X0 := by rw [Int.add_zero]; exact k4
  obtain ⟨X2, hX2⟩ : ∃ X2, X0 + ((k : Int) - 1022) = X2 := ⟨_, rfl⟩
  have k5 : IntKind.i64.wrap (X0 + ((k : Int) - 1022)) = X2 := by rw [IntWalk.i64_in _ (by omega)]; exact hX2
  have t1 : decide (X2 < -1075) = true := decide_eq_true (by omega)
  obtain ⟨q, hq⟩ : ∃ q, k + 1 = q := ⟨_, rfl⟩
  obtain ⟨X1, hX1⟩ : ∃ X1, (k : Int) - 1022 = X1 := ⟨_, rfl⟩
  rw [hq] at h7 k1 k2 k3
  rw [hX1] at k3 k5
  rw [hX0]
  clear h1 h2 hx a1 a2 hD hD2 p1 p2 p3 hq hX1 hX0 hX2
  go_enter Try.func69, Try.ntmps69
  go_wp2_with fail
  refine (C2.out _).mono ?_
  rintro e w' ⟨rfl, rfl⟩
  go_wp2_with fail
  refine (C1.out _).mono ?_
  rintro e w' ⟨rfl, rfl⟩
  go_wp2_with fail
  refine (C3.out _).mono ?_
  rintro e w' ⟨rfl, rfl⟩
  go_wp2_with fail
  refine (C4.out _).mono ?_
  rintro e w' ⟨rfl, rfl⟩
  go_wp2
  go_ret
  exact ⟨rfl, rfl⟩
theorem scl_lt {x b : Nat} (_ : x < 9218868437227405312) : scl x b < 18446744073709551616 := by unfold scl; split <;> omega
/-- Ldexp of any normal float above 0. -/
theorem Ld_any {x : Nat} {b : Int} (h1 : 4503599627370496 ≤ x) (h2 : x < 9218868437227405312) (hb : -1048576 < b) (hb2 : b < 1048576) : ∃ u, u < 18446744073709551616 ∧ ∀ w : World, Calls Try.prog 40 #[.float .f64 x, .int .i64 b] w fun e w' => e = .returned (.float .f64 u) ∧ w = w' := by
  rcases Int.lt_or_le b 0 with h | h
  · obtain ⟨M, k, a1, a2, a3, a4⟩ := fmag_split h1
    obtain ⟨D, hD⟩ : ∃ D : Nat, b = -(D : Int) := ⟨(-b).toNat, by omega⟩
    have key : ∃ u, u < 18446744073709551616 ∧ ∀ w : World, Calls Try.prog 69 #[.float .f64 x, .int .i64 (-(D : Int))] w fun e w' => e = .returned (.float .f64 u) ∧ w = w' := by
      by_cases c1 : D ≤ k
      · exact ⟨_, by omega, fun w => ldexp_down_n x ((k - D) * 4503599627370496 + M) a1 a2 a3 h2 c1 rfl w⟩
      · by_cases c2 : D ≤ k + 53
        · obtain ⟨v, hv⟩ : ∃ v, (k + 53 - D) * 4503599627370496 + M = v := ⟨_, rfl⟩
          have hv2 : v < 9218868437227405312 := by omega
          obtain ⟨p1, p2, _⟩ := pos_rung (x := v) (by omega)
          obtain ⟨K, hK⟩ : ∃ K : Nat, K = 1074 := ⟨_, rfl⟩
          obtain ⟨a, b, _⟩ := mulF_core (x := 4368491638549381120) (y := v) ⟨by omega, by decide⟩ ⟨by omega, by rw [p1]; exact hv2⟩ hK
          exact ⟨_, b, fun w => ldexp_down_f x v _ a1 a2 a3 h2 (by omega) c2 hv.symm a w⟩
        · exact ⟨0, by omega, fun w => ldexp_down_u x a1 a2 a3 h2 (by omega) (by omega) w⟩
    obtain ⟨u, hu, hc⟩ := key
    rw [← hD] at hc
    refine ⟨u, hu, fun w => ?_⟩
    have C := Lib.hid (hc w)
    clear hc hu h1 h2 hb hb2 h hD a1 a2 a3 a4
    go_enter Try.func40, Try.ntmps40
    go_wp2_with fail
    refine C.out.mono ?_
    rintro e w' ⟨rfl, rfl⟩
    go_wp2
    go_ret
    exact ⟨rfl, rfl⟩
  · obtain ⟨B, rfl⟩ := Int.eq_ofNat_of_zero_le h
    exact ⟨scl x B, scl_lt h2, fun w => ldexp_any x B w h1 h2 (by omega)⟩
end Go.Proofs.Ytbinpcoaghpcdaa
