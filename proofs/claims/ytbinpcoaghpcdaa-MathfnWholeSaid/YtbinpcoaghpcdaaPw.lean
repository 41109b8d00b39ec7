/-
  Powers by squares, of the program and of the reference.
-/
import Derived.Test.YtbinpcoaghpcdaaLh
namespace Go.Proofs.Ytbinpcoaghpcdaa
open Go.RowKit
def bq (a : Nat) : Nat → Nat
  | 0 => a
  | j + 1 => mulF (bq a j) (bq a j)
def rq (a n : Nat) : Nat → Nat
  | 0 => 4607182418800017408
  | j + 1 => if n / 2 ^ j % 2 = 1 then mulF (rq a n j) (bq a j) else rq a n j
theorem rq_stop {a n j : Nat} (h : n / 2 ^ j = 0) (k : Nat) : rq a n (j + k) = rq a n j := by
  induction k with
  | zero => rfl
  | succ k ih =>
    show (if n / 2 ^ (j + k) % 2 = 1 then _ else rq a n (j + k)) = _
    have : n / 2 ^ (j + k) = 0 := by rw [Nat.pow_add, ← Nat.div_div_eq_div_mul, h, Nat.zero_div]
    rw [this, if_neg (by omega), ih]
/-- Products of powers are no NaN. -/
structure PwQ (a n : Nat) : Prop where
  m1 : ∀ j, Ieee.double.mul (rq a n j) (bq a j) = some (mulF (rq a n j) (bq a j))
  m2 : ∀ j, Ieee.double.mul (bq a j) (bq a j) = some (bq a (j + 1))
set_option maxRecDepth 100000 in
set_option maxHeartbeats 1000000 in
theorem squared_any (a n : Nat) (hn : n ≤ 1024) (Q : PwQ a n) (w : World) : Calls Try.prog 79 #[.float .f64 a, .int .i64 (n : Nat)] w fun e w' => e = .returned (.float .f64 (rq a n 11)) ∧ w = w' := by
  obtain ⟨m1, m2⟩ := Q
  have M1 := Lib.hid m1
  have M2 := Lib.hid m2
  have HN := Lib.hid hn
  obtain ⟨R, hR⟩ : ∃ R, rq a n 11 = R := ⟨_, rfl⟩
  rw [hR]
  have HR11 := Lib.hid hR
  clear m1 m2 hn hR
  go_enter Try.func79, Try.ntmps79
  go_wp2_with fail
  go_loopw [1, 5, 6] (fun vn vr vb wr => ∃ j B m : Nat, vr = .float .f64 (rq a n j) ∧ vb = .float .f64 B ∧ vn = .int .i64 (m : Nat) ∧ Hid (m = n / 2 ^ j ∧ j ≤ 11 ∧ (m ≠ 0 → B = bq a j)) ∧ w = wr) (fun vn _ _ _ => (intOf vn).toNat)
  case atStart => exact ⟨0, a, n, rfl, rfl, rfl, Lib.hid ⟨by rw [Nat.pow_zero, Nat.div_one], by omega, fun _ => rfl⟩, rfl⟩
  case round =>
    obtain ⟨j, B, m, rfl, rfl, rfl, HI, rfl⟩ := hrel
    rcases Nat.eq_zero_or_pos m with h0 | h0
    · subst h0
      have hpp : rq a n j = rq a n 11 := by
        have := rq_stop (a := a) HI.out.1.symm (11 - j)
        rw [show j + (11 - j) = 11 by have := HI.out; omega] at this
        exact this.symm
      rw [hpp, HR11.out]
      go_wp2
      go_ret
      exact ⟨rfl, rfl⟩
    · have hj : j < 11 := by
        rcases Nat.lt_or_ge j 11 with h | h
        · exact h
        · have h1 := HI.out.1
          have h2 := HN.out
          rw [show j = 11 by have := HI.out; omega, Nat.div_eq_of_lt (by omega)] at h1
          omega
      have hB := HI.out.2.2 (by omega)
      subst hB
      have hm := HI.out.1
      have d1 := M1.out j
      have d2 := M2.out j
      have hrq : rq a n (j + 1) = if m % 2 = 1 then mulF (rq a n j) (bq a j) else rq a n j := by rw [hm]; rfl
      have hm2 : m / 2 = n / 2 ^ (j + 1) := by rw [hm, Nat.pow_succ, Nat.div_div_eq_div_mul]
      have hms : m ≤ 1024 := by rw [hm]; exact Nat.le_trans (Nat.div_le_self _ _) HN.out
      have t1 : decide (0 < m) = true := decide_eq_true (by omega)
      obtain ⟨P, hP⟩ : ∃ P, rq a n j = P := ⟨_, rfl⟩
      obtain ⟨S, hS⟩ : ∃ S, bq a j = S := ⟨_, rfl⟩
      obtain ⟨S2, hS2⟩ : ∃ S2, bq a (j + 1) = S2 := ⟨_, rfl⟩
      rw [hP, hS] at d1 hrq
      rw [hS, hS2] at d2
      rw [hP, hS]
      obtain ⟨P2, hP2⟩ : ∃ P2, mulF P S = P2 := ⟨_, rfl⟩
      rw [hP2] at d1 hrq
      obtain ⟨m2, hm3⟩ : ∃ m2, m / 2 = m2 := ⟨_, rfl⟩
      rw [hm3] at hm2
      have k1 : (m : Int) / 2 = (m2 : Int) := by omega
      have k2 : IntKind.i64.wrap (m2 : Int) = (m2 : Int) := IntWalk.i64_in _ (by omega)
      have x1 := Lib.hid (fun W => times_any d1 W)
      have x2 := Lib.hid (fun W => times_any d2 W)
      have H2 := Lib.hid (show m2 = n / 2 ^ (j + 1) ∧ j + 1 ≤ 11 ∧ bq a (j + 1) = S2 ∧ m2 < m from ⟨hm2, by omega, hS2, by omega⟩)
      rcases Nat.mod_two_eq_zero_or_one m with hp | hp
      · rw [hp, if_neg (by omega)] at hrq
        have HR := Lib.hid hrq
        have t2 : (m : Int) % 2 = 0 := by omega
        clear d1 d2 hrq hm hm2 hm3 hms hP hS hS2 hP2 hj hp
        clear h0
        go_wp2_with fail
        refine (x2.out _).mono ?_
        rintro e w' ⟨rfl, rfl⟩
        go_wp2
        go_roundw
        case rel => exact ⟨j + 1, S2, m2, by rw [HR.out], rfl, rfl, Lib.hid ⟨H2.out.1, H2.out.2.1, fun _ => H2.out.2.2.1.symm⟩, trivial⟩
        case measure => have := H2.out; simp [intOf]; omega
      · rw [hp, if_pos rfl] at hrq
        have HR := Lib.hid hrq
        have t2 : (m : Int) % 2 = 1 := by omega
        clear d1 d2 hrq hm hm2 hm3 hms hP hS hS2 hP2 hj hp
        clear h0
        go_wp2_with fail
        refine (x1.out _).mono ?_
        rintro e w' ⟨rfl, rfl⟩
        go_wp2_with fail
        refine (x2.out _).mono ?_
        rintro e w' ⟨rfl, rfl⟩
        go_wp2
        go_roundw
        case rel => exact ⟨j + 1, S2, m2, by rw [HR.out], rfl, rfl, Lib.hid ⟨H2.out.1, H2.out.2.1, fun _ => H2.out.2.2.1.symm⟩, trivial⟩
        case measure => have := H2.out; simp [intOf]; omega
set_option maxRecDepth 100000 in
set_option maxHeartbeats 1000000 in
theorem vpower_any (a y n : Nat) (hn : n ≤ 1024) (hy : y < 18446744073709551616) (Q : PwQ a n) (hcv : ∀ W : World, (convert 22 3 (.float .f64 (rung y))).run Try.prog W = .ok (.int .i64 (n : Nat)) W) (g : (FloatKind.f64.format.order y 0 == some .lt) = false) (w : World) : Calls Try.prog 66 #[.float .f64 a, .float .f64 y] w fun e w' => e = .returned (.float .f64 (rq a n 11)) ∧ w = w' := by
  obtain ⟨m1, m2⟩ := Q
  have M1 := Lib.hid m1
  have M2 := Lib.hid m2
  have HN := Lib.hid hn
  have C1 := Lib.hid (fun W => abs_any y W hy)
  obtain ⟨R, hR⟩ : ∃ R, rq a n 11 = R := ⟨_, rfl⟩
  rw [hR]
  have HR11 := Lib.hid hR
  clear m1 m2 hn hy hR
  go_enter Try.func66, Try.ntmps66
  go_wp2_with fail
  refine (C1.out _).mono ?_
  rintro e w' ⟨rfl, rfl⟩
  go_wp2_with fail
  go_loopw [5, 6, 7] (fun vr vb vn wr => ∃ j B m : Nat, vr = .float .f64 (rq a n j) ∧ vb = .float .f64 B ∧ vn = .int .i64 (m : Nat) ∧ Hid (m = n / 2 ^ j ∧ j ≤ 11 ∧ (m ≠ 0 → B = bq a j)) ∧ w = wr) (fun _ _ vn _ => (intOf vn).toNat)
  case atStart => exact ⟨0, a, n, rfl, rfl, rfl, Lib.hid ⟨by rw [Nat.pow_zero, Nat.div_one], by omega, fun _ => rfl⟩, rfl⟩
  case round =>
    obtain ⟨j, B, m, rfl, rfl, rfl, HI, rfl⟩ := hrel
    rcases Nat.eq_zero_or_pos m with h0 | h0
    · subst h0
      have hpp : rq a n j = rq a n 11 := by
        have := rq_stop (a := a) HI.out.1.symm (11 - j)
        rw [show j + (11 - j) = 11 by have := HI.out; omega] at this
        exact this.symm
      rw [hpp, HR11.out]
      go_wp2
      go_ret
      exact ⟨rfl, rfl⟩
    · have hj : j < 11 := by
        rcases Nat.lt_or_ge j 11 with h | h
        · exact h
        · have h1 := HI.out.1
          have h2 := HN.out
          rw [show j = 11 by have := HI.out; omega, Nat.div_eq_of_lt (by omega)] at h1
          omega
      have hB := HI.out.2.2 (by omega)
      subst hB
      have hm := HI.out.1
      have d1 := M1.out j
      have d2 := M2.out j
      have hrq : rq a n (j + 1) = if m % 2 = 1 then mulF (rq a n j) (bq a j) else rq a n j := by rw [hm]; rfl
      have hm2 : m / 2 = n / 2 ^ (j + 1) := by rw [hm, Nat.pow_succ, Nat.div_div_eq_div_mul]
      have hms : m ≤ 1024 := by rw [hm]; exact Nat.le_trans (Nat.div_le_self _ _) HN.out
      have t1 : decide (0 < m) = true := decide_eq_true (by omega)
      obtain ⟨P, hP⟩ : ∃ P, rq a n j = P := ⟨_, rfl⟩
      obtain ⟨S, hS⟩ : ∃ S, bq a j = S := ⟨_, rfl⟩
      obtain ⟨S2, hS2⟩ : ∃ S2, bq a (j + 1) = S2 := ⟨_, rfl⟩
      rw [hP, hS] at d1 hrq
      rw [hS, hS2] at d2
      rw [hP, hS]
      obtain ⟨P2, hP2⟩ : ∃ P2, mulF P S = P2 := ⟨_, rfl⟩
      rw [hP2] at d1 hrq
      obtain ⟨m2, hm3⟩ : ∃ m2, m / 2 = m2 := ⟨_, rfl⟩
      rw [hm3] at hm2
      have k1 : (m : Int) / 2 = (m2 : Int) := by omega
      have k2 : IntKind.i64.wrap (m2 : Int) = (m2 : Int) := IntWalk.i64_in _ (by omega)
      have x1 := wMul d1
      have x2 := wMul d2
      have H2 := Lib.hid (show m2 = n / 2 ^ (j + 1) ∧ j + 1 ≤ 11 ∧ bq a (j + 1) = S2 ∧ m2 < m from ⟨hm2, by omega, hS2, by omega⟩)
      rcases Nat.mod_two_eq_zero_or_one m with hp | hp
      · rw [hp, if_neg (by omega)] at hrq
        have HR := Lib.hid hrq
        have t2 : (m : Int) % 2 = 0 := by omega
        clear d1 d2 hrq hm hm2 hm3 hms hP hS hS2 hP2 hj hp
        rcases Nat.eq_zero_or_pos m2 with hz | hz
        · subst hz
          clear h0
          go_wp2
          go_roundw
          case rel => exact ⟨j + 1, S, 0, by rw [HR.out], rfl, rfl, Lib.hid ⟨H2.out.1, H2.out.2.1, fun h => absurd rfl h⟩, trivial⟩
          case measure => have := H2.out; simp [intOf]; omega
        · have k3 : decide (0 < m2) = true := decide_eq_true (by omega)
          clear h0 hz
          go_wp2
          go_roundw
          case rel => exact ⟨j + 1, S2, m2, by rw [HR.out], rfl, rfl, Lib.hid ⟨H2.out.1, H2.out.2.1, fun _ => H2.out.2.2.1.symm⟩, trivial⟩
          case measure => have := H2.out; simp [intOf]; omega
      · rw [hp, if_pos rfl] at hrq
        have HR := Lib.hid hrq
        have t2 : (m : Int) % 2 = 1 := by omega
        clear d1 d2 hrq hm hm2 hm3 hms hP hS hS2 hP2 hj hp
        rcases Nat.eq_zero_or_pos m2 with hz | hz
        · subst hz
          clear h0
          go_wp2
          go_roundw
          case rel => exact ⟨j + 1, S, 0, by rw [HR.out], rfl, rfl, Lib.hid ⟨H2.out.1, H2.out.2.1, fun h => absurd rfl h⟩, trivial⟩
          case measure => have := H2.out; simp [intOf]; omega
        · have k3 : decide (0 < m2) = true := decide_eq_true (by omega)
          clear h0 hz
          go_wp2
          go_roundw
          case rel => exact ⟨j + 1, S2, m2, by rw [HR.out], rfl, rfl, Lib.hid ⟨H2.out.1, H2.out.2.1, fun _ => H2.out.2.2.1.symm⟩, trivial⟩
          case measure => have := H2.out; simp [intOf]; omega
set_option maxRecDepth 100000 in
set_option maxHeartbeats 1000000 in
theorem vpower_neg (a y n u : Nat) (hn : n ≤ 1024) (hy : y < 18446744073709551616) (Q : PwQ a n) (hcv : ∀ W : World, (convert 22 3 (.float .f64 (rung y))).run Try.prog W = .ok (.int .i64 (n : Nat)) W) (g : (FloatKind.f64.format.order y 0 == some .lt) = true) (hd : Ieee.double.div 4607182418800017408 (rq a n 11) = some u) (w : World) : Calls Try.prog 66 #[.float .f64 a, .float .f64 y] w fun e w' => e = .returned (.float .f64 u) ∧ w = w' := by
  obtain ⟨m1, m2⟩ := Q
  have M1 := Lib.hid m1
  have M2 := Lib.hid m2
  have HN := Lib.hid hn
  have C1 := Lib.hid (fun W => abs_any y W hy)
  obtain ⟨R, hR⟩ : ∃ R, rq a n 11 = R := ⟨_, rfl⟩
  rw [hR] at hd
  have wd := wDiv hd
  have HR11 := Lib.hid hR
  clear m1 m2 hn hy hR hd
  go_enter Try.func66, Try.ntmps66
  go_wp2_with fail
  refine (C1.out _).mono ?_
  rintro e w' ⟨rfl, rfl⟩
  go_wp2_with fail
  go_loopw [5, 6, 7] (fun vr vb vn wr => ∃ j B m : Nat, vr = .float .f64 (rq a n j) ∧ vb = .float .f64 B ∧ vn = .int .i64 (m : Nat) ∧ Hid (m = n / 2 ^ j ∧ j ≤ 11 ∧ (m ≠ 0 → B = bq a j)) ∧ w = wr) (fun _ _ vn _ => (intOf vn).toNat)
  case atStart => exact ⟨0, a, n, rfl, rfl, rfl, Lib.hid ⟨by rw [Nat.pow_zero, Nat.div_one], by omega, fun _ => rfl⟩, rfl⟩
  case round =>
    obtain ⟨j, B, m, rfl, rfl, rfl, HI, rfl⟩ := hrel
    rcases Nat.eq_zero_or_pos m with h0 | h0
    · subst h0
      have hpp : rq a n j = rq a n 11 := by
        have := rq_stop (a := a) HI.out.1.symm (11 - j)
        rw [show j + (11 - j) = 11 by have := HI.out; omega] at this
        exact this.symm
      rw [hpp, HR11.out]
      go_wp2
      go_ret
      exact ⟨rfl, rfl⟩
    · have hj : j < 11 := by
        rcases Nat.lt_or_ge j 11 with h | h
        · exact h
        · have h1 := HI.out.1
          have h2 := HN.out
          rw [show j = 11 by have := HI.out; omega, Nat.div_eq_of_lt (by omega)] at h1
          omega
      have hB := HI.out.2.2 (by omega)
      subst hB
      have hm := HI.out.1
      have d1 := M1.out j
      have d2 := M2.out j
      have hrq : rq a n (j + 1) = if m % 2 = 1 then mulF (rq a n j) (bq a j) else rq a n j := by rw [hm]; rfl
      have hm2 : m / 2 = n / 2 ^ (j + 1) := by rw [hm, Nat.pow_succ, Nat.div_div_eq_div_mul]
      have hms : m ≤ 1024 := by rw [hm]; exact Nat.le_trans (Nat.div_le_self _ _) HN.out
      have t1 : decide (0 < m) = true := decide_eq_true (by omega)
      obtain ⟨P, hP⟩ : ∃ P, rq a n j = P := ⟨_, rfl⟩
      obtain ⟨S, hS⟩ : ∃ S, bq a j = S := ⟨_, rfl⟩
      obtain ⟨S2, hS2⟩ : ∃ S2, bq a (j + 1) = S2 := ⟨_, rfl⟩
      rw [hP, hS] at d1 hrq
      rw [hS, hS2] at d2
      rw [hP, hS]
      obtain ⟨P2, hP2⟩ : ∃ P2, mulF P S = P2 := ⟨_, rfl⟩
      rw [hP2] at d1 hrq
      obtain ⟨m2, hm3⟩ : ∃ m2, m / 2 = m2 := ⟨_, rfl⟩
      rw [hm3] at hm2
      have k1 : (m : Int) / 2 = (m2 : Int) := by omega
      have k2 : IntKind.i64.wrap (m2 : Int) = (m2 : Int) := IntWalk.i64_in _ (by omega)
      have x1 := wMul d1
      have x2 := wMul d2
      have H2 := Lib.hid (show m2 = n / 2 ^ (j + 1) ∧ j + 1 ≤ 11 ∧ bq a (j + 1) = S2 ∧ m2 < m from ⟨hm2, by omega, hS2, by omega⟩)
      rcases Nat.mod_two_eq_zero_or_one m with hp | hp
      · rw [hp, if_neg (by omega)] at hrq
        have HR := Lib.hid hrq
        have t2 : (m : Int) % 2 = 0 := by omega
        clear d1 d2 hrq hm hm2 hm3 hms hP hS hS2 hP2 hj hp
        rcases Nat.eq_zero_or_pos m2 with hz | hz
        · subst hz
          clear h0
          go_wp2
          go_roundw
          case rel => exact ⟨j + 1, S, 0, by rw [HR.out], rfl, rfl, Lib.hid ⟨H2.out.1, H2.out.2.1, fun h => absurd rfl h⟩, trivial⟩
          case measure => have := H2.out; simp [intOf]; omega
        · have k3 : decide (0 < m2) = true := decide_eq_true (by omega)
          clear h0 hz
          go_wp2
          go_roundw
          case rel => exact ⟨j + 1, S2, m2, by rw [HR.out], rfl, rfl, Lib.hid ⟨H2.out.1, H2.out.2.1, fun _ => H2.out.2.2.1.symm⟩, trivial⟩
          case measure => have := H2.out; simp [intOf]; omega
      · rw [hp, if_pos rfl] at hrq
        have HR := Lib.hid hrq
        have t2 : (m : Int) % 2 = 1 := by omega
        clear d1 d2 hrq hm hm2 hm3 hms hP hS hS2 hP2 hj hp
        rcases Nat.eq_zero_or_pos m2 with hz | hz
        · subst hz
          clear h0
          go_wp2
          go_roundw
          case rel => exact ⟨j + 1, S, 0, by rw [HR.out], rfl, rfl, Lib.hid ⟨H2.out.1, H2.out.2.1, fun h => absurd rfl h⟩, trivial⟩
          case measure => have := H2.out; simp [intOf]; omega
        · have k3 : decide (0 < m2) = true := decide_eq_true (by omega)
          clear h0 hz
          go_wp2
          go_roundw
          case rel => exact ⟨j + 1, S2, m2, by rw [HR.out], rfl, rfl, Lib.hid ⟨H2.out.1, H2.out.2.1, fun _ => H2.out.2.2.1.symm⟩, trivial⟩
          case measure => have := H2.out; simp [intOf]; omega
end Go.Proofs.Ytbinpcoaghpcdaa
