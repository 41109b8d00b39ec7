/-
  Sines, cosines and tangents of the program and of the reference: what both tell of a finite angle.
-/
import Derived.Test.YtbinpcoaghpcdaaAn
namespace Go.Proofs.Ytbinpcoaghpcdaa
open Go.RowKit
theorem sS_range {z J : Nat} {d : Int} (hz : Fin64 z) (hn : fneg z = false) (hJ : J = 1071) (h : mg z ≤ 8 * 2 ^ J) (hd : d = 1 ∨ d = -1) : (∀ j, j ≤ 10 → Fin64 (sS z d j) ∧ fneg (sS z d j) = false ∧ 4 * 2 ^ J ≤ mg (sS z d j) ∧ mg (sS z d j) ≤ 8 * 2 ^ J) ∧ SerQ z d := by
  obtain ⟨K, hK⟩ : ∃ K : Nat, K = 1074 := ⟨_, rfl⟩
  have hKJ : 2 ^ K = 8 * 2 ^ J := by rw [show K = 3 + J by omega, Nat.pow_add]
  have step : ∀ j, j < 10 → (Fin64 (sS z d j) ∧ fneg (sS z d j) = false ∧ 4 * 2 ^ J ≤ mg (sS z d j) ∧ mg (sS z d j) ≤ 8 * 2 ^ J) → ∃ f q, Ieee.double.mul z (sS z d j) = some f ∧ Ieee.double.div f (floatOfInt .f64 (2 * (10 - (j : Int)) * (2 * (10 - (j : Int)) + d))) = some q ∧ Ieee.double.sub 4607182418800017408 q = some (sS z d (j + 1)) ∧
      (Fin64 (sS z d (j + 1)) ∧ fneg (sS z d (j + 1)) = false ∧ 4 * 2 ^ J ≤ mg (sS z d (j + 1)) ∧ mg (sS z d (j + 1)) ≤ 8 * 2 ^ J) := by
    rintro j hj ⟨p1, p2, p3, p4⟩
    obtain ⟨a1, a2, a3⟩ := mul_bd (m := 8) (j := J) hz p1 hK (by omega) (by omega) (by rw [hKJ]; exact Nat.mul_le_mul h p4)
    obtain ⟨_, _, a4, _⟩ := mulF_core hz p1 hK
    rw [hn, p2] at a4
    obtain ⟨i2, hi2⟩ : ∃ i2, 2 * (10 - (j : Int)) = i2 := ⟨_, rfl⟩
    obtain ⟨E, hE⟩ : ∃ E, i2 * (i2 + d) = E := ⟨_, rfl⟩
    have hEb : 2 ≤ E ∧ E ≤ 1000 := by
      have b1 : i2 * (i2 + d) ≤ 20 * (i2 + d) := Int.mul_le_mul_of_nonneg_right (by omega) (by omega)
      have b2 : 2 * (i2 + d) ≤ i2 * (i2 + d) := Int.mul_le_mul_of_nonneg_right (by omega) (by omega)
      omega
    obtain ⟨f1, f2, f3, _⟩ := float_int (n := E) hK (by omega) (by omega)
    rw [decide_eq_false (by omega)] at f3
    have hk : 0 < E.natAbs := by omega
    obtain ⟨b1, b2, b3⟩ := div_bd (m := 4) (j := J) a2 f1 (by rw [f2]; exact Nat.mul_pos hk (Nat.two_pow_pos K)) hK (by omega) (by omega) (by
      rw [f2]
      have c1 : mg (mulF z (sS z d j)) * 2 ^ K ≤ 8 * 2 ^ J * 2 ^ K := Nat.mul_le_mul_right _ a3
      have c2 : 8 * (2 ^ J * 2 ^ K) ≤ 4 * E.natAbs * (2 ^ J * 2 ^ K) := Nat.mul_le_mul_right _ (by omega)
      have e1 : 8 * 2 ^ J * 2 ^ K = 8 * (2 ^ J * 2 ^ K) := Nat.mul_assoc _ _ _
      have e2 : 4 * 2 ^ J * (E.natAbs * 2 ^ K) = 4 * E.natAbs * (2 ^ J * 2 ^ K) := by grind
      omega)
    obtain ⟨_, _, b4, _⟩ := divF_core a2 f1 (fmag_pos.1 (show 0 < mg (floatOfInt .f64 E) by rw [f2]; exact Nat.mul_pos hk (Nat.two_pow_pos K))) hK
    rw [a4, f3] at b4
    obtain ⟨c1, c2, c3, c4, c5⟩ := sub_one_bd (m := 4) b2 hJ (by omega) b4 b3
    have hs : sS z d (j + 1) = subF 4607182418800017408 (divF (mulF z (sS z d j)) (floatOfInt .f64 E)) := by rw [← hE, ← hi2]; rfl
    rw [hi2, hE]
    refine ⟨_, _, a1, b1, ?_, ?_⟩
    · rw [hs]; exact c1
    · rw [hs]; exact ⟨c2, c3, c4, c5⟩
  have all : ∀ j, j ≤ 10 → Fin64 (sS z d j) ∧ fneg (sS z d j) = false ∧ 4 * 2 ^ J ≤ mg (sS z d j) ∧ mg (sS z d j) ≤ 8 * 2 ^ J := by
    intro j
    induction j with
    | zero =>
      intro _
      obtain ⟨o1, o2, o3, _⟩ := one_fin hK
      rw [hKJ] at o2
      exact ⟨o1, o3, by show _ ≤ mg 4607182418800017408; rw [o2]; omega, by show mg 4607182418800017408 ≤ _; rw [o2]; exact Nat.le_refl _⟩
    | succ j ih => intro hj; obtain ⟨_, _, _, _, _, r⟩ := step j (by omega) (ih (by omega)); exact r
  exact ⟨all, ⟨fun j hj => by obtain ⟨f, q, a, b, c, _⟩ := step j hj (all j (by omega)); exact ⟨f, q, a, b, c⟩⟩⟩
theorem turn_q {x K : Nat} (hx : Fin64 x) (hK : K = 1074) (h : mg x ≤ 1048576 * 2 ^ K) : ∃ t s k a b c r z n m J, TurnQ x t s k a b c r z n m ∧ (0 ≤ m ∧ m < 4) ∧ J = 1071 ∧ Fin64 (mulF r (sS z 1 10)) ∧ Fin64 (sS z (-1) 10) ∧ 4 * 2 ^ J ≤ mg (sS z (-1) 10) := by
  obtain ⟨J, hJ⟩ : ∃ J : Nat, J = 1071 := ⟨_, rfl⟩
  obtain ⟨g, hg⟩ : ∃ g : Nat, g = 978 := ⟨_, rfl⟩
  have hKJ : 2 ^ K = 8 * 2 ^ J := by rw [show K = 3 + J by omega, Nat.pow_add]
  have hs := sv_abs x
  have hs1 : -(1048576 * ((2 ^ K : Nat) : Int)) ≤ sv x ∧ sv x ≤ 1048576 * ((2 ^ K : Nat) : Int) := by
    generalize 2 ^ K = U at h
    omega
  obtain ⟨n, hn, m1, m2, f1, f2, m3, m4, m5, m6, fr, r1, r2, cv⟩ := tn_red hx hK hg hs1
  obtain ⟨r, hr⟩ : ∃ r, tnR x = r := ⟨_, rfl⟩
  rw [hr] at m6 fr r1 r2
  have hr2 := sv_abs r
  have hmr : mg r ≤ 8 * 2 ^ J := by rw [hKJ] at r1 r2; omega
  obtain ⟨z1, z2, z3⟩ := mul_bd (m := 8) (j := J) fr fr hK (by omega) (by omega) (by rw [hKJ]; exact Nat.mul_le_mul hmr hmr)
  obtain ⟨_, _, z4, _⟩ := mulF_core fr fr hK
  rw [Bool.xor_self] at z4
  obtain ⟨s1, q1⟩ := sS_range z2 z4 hJ z3 (Or.inl rfl)
  obtain ⟨s2, q2⟩ := sS_range z2 z4 hJ z3 (Or.inr rfl)
  obtain ⟨a1, a2, a3, a4⟩ := s1 10 (by omega)
  obtain ⟨b1, b2, b3, b4⟩ := s2 10 (by omega)
  obtain ⟨S1, S2, S3⟩ := mul_bd (m := 8) (j := J) fr a1 hK (by omega) (by omega) (by rw [hKJ]; exact Nat.mul_le_mul hmr a4)
  exact ⟨_, _, _, _, _, _, r, _, n, n % 4, J, ⟨m1, m2, f1, rfl, f2, m3, m4, m5, m6, z1, q1, q2, cv, rfl, S1⟩, by omega, hJ, S2, b1, b3⟩
/-- What both tell of a finite angle: its sine's and cosine's amounts, and its quarter. -/
structure TurnIs (x S C : Nat) (m : Int) : Prop where
  hm : 0 ≤ m ∧ m < 4
  hS : Fin64 S
  hC : Fin64 C
  hC0 : 0 < rung C
  f : ∀ w : World, Calls Try.prog 47 #[.float .f64 x] w fun e w' => e = .returned (.agg #[.int .i64 m, .float .f64 S, .float .f64 C]) ∧ Below w.heap.size w w'
  v : ∀ w : World, Calls Try.prog 49 #[.float .f64 x] w fun e w' => e = .returned (.tuple #[.float .f64 S, .float .f64 C, .int .i64 m]) ∧ Below w.heap.size w w'
theorem turned_both {x : Nat} (hx : Fin64 x) : ∃ S C m, TurnIs x S C m := by
  obtain ⟨K, hK⟩ : ∃ K : Nat, K = 1074 := ⟨_, rfl⟩
  obtain ⟨p1, p2, p3⟩ := pos_fin hx.2
  have pos : ∀ J : Nat, J = 1071 → ∀ C, 4 * 2 ^ J ≤ mg C → 0 < rung C := fun J _ C h => fmag_pos.1 (show 0 < mg C by have := Nat.two_pow_pos J; omega)
  cases g1 : (FloatKind.f64.format.order (rung x) 4697254411347427328 == some .gt)
  · have hle : rung x ≤ 4697254411347427328 := by
      rw [(ord_real (fnan_of p1) (show fnan 4697254411347427328 = false by decide)).1] at g1
      have h1 := of_decide_eq_false g1
      have f1 := (pos_rung (x := rung x) (by have := hx.2; omega)).2.2
      have f2 := (pos_rung (x := 4697254411347427328) (by omega)).2.2
      rw [f1, f2] at h1
      omega
    have hmx : mg x ≤ 1048576 * 2 ^ K := by
      obtain ⟨_, f2, _⟩ := fl_fin (N := 1048576) (by omega) hK
      have h4 : mg (fl 1048576) = fmag 4697254411347427328 := by rw [show fl 1048576 = 4697254411347427328 by decide +kernel]; unfold mg; rw [show rung 4697254411347427328 = 4697254411347427328 by decide]
      rw [f2] at h4
      rw [h4]
      unfold mg
      rcases Nat.eq_or_lt_of_le hle with h | h
      · rw [h]; exact Nat.le_refl _
      · exact Nat.le_of_lt (fmag_step h)
    obtain ⟨t, s, k, a, b, c, r, z, n, m, J, Q, hm, hJ, q1, q2, q3⟩ := turn_q hx hK hmx
    exact ⟨_, _, m, hm, q1, q2, pos J hJ _ q3, fun w => fturned_low x t s k a b c r z n m w hx.1 g1 (fnan_of hx) Q, fun w => (vturned_low x t s k a b c r z n m w hx.1 g1 Q).mono fun e w' ⟨h1, h2⟩ => ⟨h1, by subst h2; exact Below.refl _ _⟩⟩
  · obtain ⟨y, hy⟩ : ∃ y, restV x 4618760256179416344 = y := ⟨_, rfl⟩
    have hy2 : y = Ieee.double.word (fneg x) (modm (rung x) 4618760256179416344) := by
      rw [← hy]
      unfold restV
      have e1 := fnan_of hx
      have e2 : finf x = false := by unfold finf; exact decide_eq_false (by have := hx.2; omega)
      have e3 : fnan 4618760256179416344 = false := by decide
      have e4 : rung 4618760256179416344 = 4618760256179416344 := by decide
      rw [e1, e2, e3, e4, if_neg (by simp), if_neg (by omega)]
    have hl := modm_lt (rung x) (Y := 4618760256179416344) (by omega)
    obtain ⟨a1, a2, a3⟩ := word_rung (fneg x) (r := modm (rung x) 4618760256179416344) (by omega)
    have hf : Fin64 y := by rw [hy2]; exact ⟨a3, by rw [a1]; omega⟩
    have hmx : mg y ≤ 1048576 * 2 ^ K := by
      obtain ⟨_, f2, _⟩ := fl_fin (N := 1048576) (by omega) hK
      have h4 : mg (fl 1048576) = fmag 4697254411347427328 := by rw [show fl 1048576 = 4697254411347427328 by decide +kernel]; unfold mg; rw [show rung 4697254411347427328 = 4697254411347427328 by decide]
      rw [f2] at h4
      rw [h4, hy2]
      unfold mg
      rw [a1]
      exact Nat.le_of_lt (fmag_step (by omega))
    obtain ⟨t, s, k, a, b, c, r, z, n, m, J, Q, hm, hJ, q1, q2, q3⟩ := turn_q hf hK hmx
    exact ⟨_, _, m, hm, q1, q2, pos J hJ _ q3, fun w => fturned_high x y t s k a b c r z n m w hx.1 g1 (fnan_of hx) hy Q, fun w => vturned_high x y t s k a b c r z n m w hx.1 g1 hy Q⟩
theorem fangled_no (x : Nat) (w : World) (hx : x < 18446744073709551616) (h : ¬ rung x < 9218868437227405312) : Calls Try.prog 46 #[.float .f64 x] w fun e w' => e = .returned (.bool false) ∧ w = w' := by
  have CX := Lib.hid (fun W => isNaN_any x W)
  have CI := Lib.hid (fun W => isInf0_any x W hx)
  cases e1 : fnan x
  · have e2 : finf x = true := by
      cases e3 : finf x
      · exact absurd (fin_of e3 e1) h
      · rfl
    rw [e1] at CX
    rw [e2] at CI
    clear hx h e1 e2
    go_enter Try.func46, Try.ntmps46
    go_wp2_with fail
    refine (CX.out _).mono ?_
    rintro e w' ⟨rfl, rfl⟩
    go_wp2_with fail
    refine (CI.out _).mono ?_
    rintro e w' ⟨rfl, rfl⟩
    go_wp2
    go_ret
    exact ⟨rfl, rfl⟩
  · rw [e1] at CX
    clear hx h e1 CI
    go_enter Try.func46, Try.ntmps46
    go_wp2_with fail
    refine (CX.out _).mono ?_
    rintro e w' ⟨rfl, rfl⟩
    go_wp2
    go_ret
    exact ⟨rfl, rfl⟩
theorem fangled_yes (x : Nat) (w : World) (hx : Fin64 x) : Calls Try.prog 46 #[.float .f64 x] w fun e w' => e = .returned (.bool true) ∧ w = w' := by
  have CX := Lib.hid (fun W => isNaN_any x W)
  have CI := Lib.hid (fun W => isInf0_any x W hx.1)
  rw [fnan_of hx] at CX
  rw [show finf x = false from by unfold finf; exact decide_eq_false (by have := hx.2; omega)] at CI
  clear hx
  go_enter Try.func46, Try.ntmps46
  go_wp2_with fail
  refine (CX.out _).mono ?_
  rintro e w' ⟨rfl, rfl⟩
  go_wp2_with fail
  refine (CI.out _).mono ?_
  rintro e w' ⟨rfl, rfl⟩
  go_wp2
  go_ret
  exact ⟨rfl, rfl⟩
theorem vfinite_no (x : Nat) (w : World) (hx : x < 18446744073709551616) (h : ¬ rung x < 9218868437227405312) : Calls Try.prog 48 #[.float .f64 x] w fun e w' => e = .returned (.bool false) ∧ w = w' := by
  have CX := Lib.hid (fun W => isNaN_any x W)
  have CI := Lib.hid (fun W => isInf0_any x W hx)
  cases e1 : fnan x
  · have e2 : finf x = true := by
      cases e3 : finf x
      · exact absurd (fin_of e3 e1) h
      · rfl
    rw [e1] at CX
    rw [e2] at CI
    clear hx h e1 e2
    go_enter Try.func48, Try.ntmps48
    go_wp2_with fail
    refine (CX.out _).mono ?_
    rintro e w' ⟨rfl, rfl⟩
    go_wp2_with fail
    refine (CI.out _).mono ?_
    rintro e w' ⟨rfl, rfl⟩
    go_wp2
    go_ret
    exact ⟨rfl, rfl⟩
  · rw [e1] at CX
    clear hx h e1 CI
    go_enter Try.func48, Try.ntmps48
    go_wp2_with fail
    refine (CX.out _).mono ?_
    rintro e w' ⟨rfl, rfl⟩
    go_wp2
    go_ret
    exact ⟨rfl, rfl⟩
theorem vfinite_yes (x : Nat) (w : World) (hx : Fin64 x) : Calls Try.prog 48 #[.float .f64 x] w fun e w' => e = .returned (.bool true) ∧ w = w' := by
  have CX := Lib.hid (fun W => isNaN_any x W)
  have CI := Lib.hid (fun W => isInf0_any x W hx.1)
  rw [fnan_of hx] at CX
  rw [show finf x = false from by unfold finf; exact decide_eq_false (by have := hx.2; omega)] at CI
  clear hx
  go_enter Try.func48, Try.ntmps48
  go_wp2_with fail
  refine (CX.out _).mono ?_
  rintro e w' ⟨rfl, rfl⟩
  go_wp2_with fail
  refine (CI.out _).mono ?_
  rintro e w' ⟨rfl, rfl⟩
  go_wp2
  go_ret
  exact ⟨rfl, rfl⟩
end Go.Proofs.Ytbinpcoaghpcdaa
