/-
  The contract of awake; the laws MathfnExps and MathfnPowers.
-/
import Derived.Test.YtbinpcoaghpcdaaPz
namespace Go.Proofs.Ytbinpcoaghpcdaa
open Go.RowKit
theorem exp_zero (w : World) : Calls Try.prog 11 #[.float .f64 0] w fun e w' => e = .returned (.float .f64 4607182418800017408) ∧ w = w' := by
  have hl : ∀ j, j < 14 → eS 0 j = 4607182418800017408 ∧ Ieee.double.mul (eS 0 j) 0 = some 0 ∧ Ieee.double.div 0 (fl (14 - j)) = some 0 ∧ Ieee.double.add 4607182418800017408 0 = some (eS 0 (j + 1)) := by decide +kernel
  have hp : eS 0 14 = 4607182418800017408 := by decide +kernel
  have hc : ∀ W : World, (convert 22 3 (.float .f64 0)).run Try.prog W = .ok (.int .i64 0) W := fun W => by
    obtain ⟨K, hK⟩ : ∃ K : Nat, K = 1074 := ⟨_, rfl⟩
    have h0 : mg 0 = 0 * 2 ^ K := by rw [Nat.zero_mul]; decide
    have := conv_sv (z := 0) (c := 0) (pos_fin (by omega)).1 hK h0 (by omega) W
    rw [show fneg 0 = false by decide, if_neg (by simp)] at this
    exact this
  have C9 := Lib.hid (fun W => ldexp_any 4607182418800017408 0 W (by omega) (by omega) (by omega))
  rw [show scl 4607182418800017408 0 = 4607182418800017408 by decide] at C9
  exact fExp_main 0 0 4602678819172646912 0 0 0 0 0 4607182418800017408 4607182418800017408 0 w (by decide) (by decide +kernel) (by decide +kernel) (by decide +kernel) (by decide +kernel) (by decide) (by decide) (by decide +kernel) (by decide +kernel) (by decide +kernel) (by decide +kernel) (by decide +kernel) (fun j hj => ⟨0, 0, (hl j hj).2.1, (hl j hj).2.2.1, (hl j hj).2.2.2⟩) hp hc C9
theorem pow_awake (w : World) : Calls Try.prog 30 #[.float .f64 4611686018427387904, .float .f64 4621819117588971520] w fun e w' => e = .returned (.float .f64 4652218415073722368) ∧ w = w' := by
  obtain ⟨p1, p2, p3⟩ := pos_fin (v := 4611686018427387904) (by omega)
  obtain ⟨q1, q2, q3⟩ := pos_fin (v := 4621819117588971520) (by omega)
  obtain ⟨Q, _⟩ := pwq_of (a := 4611686018427387904) 10 (by omega)
  have wy : whl 4621819117588971520 = true := by decide +kernel
  have hc : ∀ W : World, (convert 22 3 (.float .f64 4621819117588971520)).run Try.prog W = .ok (.int .i64 ((10 : Nat) : Int)) W := fun W => by
    obtain ⟨K, hK⟩ : ∃ K : Nat, K = 1074 := ⟨_, rfl⟩
    obtain ⟨_, b, c⟩ := fl_fin (N := 10) (by omega) hK
    rw [show fl 10 = 4621819117588971520 by decide +kernel] at b c
    have := conv_sv q1 hK b (by omega) W
    rw [c, if_neg (by simp)] at this
    exact this
  have CM : AmtIs (rung 4611686018427387904) 4621819117588971520 4652218415073722368 := fun w => by
    have CS := Lib.hid (fun W => squared_any 4611686018427387904 10 (by omega) Q W)
    rw [show rq 4611686018427387904 10 11 = 4652218415073722368 by decide +kernel] at CS
    rw [p2]
    exact famount_pos 4611686018427387904 4621819117588971520 10 _ w (by omega) (by decide) (by decide +kernel) q1 wy (by decide +kernel) (by decide +kernel) hc CS
  have h := fPow_sign (x := 4611686018427387904) (by omega) (fnan_of p1) q1 (by rw [q2]; omega) (fun h => by rw [p3] at h; cases h) CM w
  unfold sgnd at h
  rw [p3, Bool.false_and, if_neg (by simp)] at h
  exact h
theorem awake_any (w : World) : Calls Try.prog 15 #[] w fun e w' => e = .returned (.bool true) ∧ w = w' := by
  have C1 := Lib.hid (fun W => pow_awake W)
  have C2 := Lib.hid (fun W => exp_zero W)
  have h1 : (FloatKind.f64.format.order 4652218415073722368 4652218415073722368 == some .eq) = true := by decide +kernel
  have h2 : (FloatKind.f64.format.order 4607182418800017408 4607182418800017408 == some .eq) = true := by decide +kernel
  go_enter Try.func15, Try.ntmps15
  go_wp2_with fail
  refine (C1.out _).mono ?_
  rintro e w' ⟨rfl, rfl⟩
  go_wp2_with fail
  refine (C2.out _).mono ?_
  rintro e w' ⟨rfl, rfl⟩
  go_wp2
  go_ret
  exact ⟨rfl, rfl⟩
theorem exps_any (x : Nat) (w : World) (hx : x < 18446744073709551616) : Calls Try.prog 3 #[.float .f64 x] w fun e w' => e = .returned (.bool true) ∧ Below w.heap.size w w' := by
  obtain ⟨u, _, hu1, hu2⟩ := exp_both hx
  obtain ⟨v, _, hv1, hv2⟩ := log_both hx
  have C1 := Lib.hid hu1
  have C2 := Lib.hid hu2
  have C3 := Lib.hid hv1
  have C4 := Lib.hid hv2
  have C5 := Lib.hid (fun x W => same_any x W)
  have C6 := Lib.hid (fun W => awake_any W)
  have B := Below.refl w.heap.size w
  clear hu1 hu2 hv1 hv2 hx
  go_enter Try.func3, Try.ntmps3
  go_wp2_with fail
  refine (C1.out _).mono ?_
  rintro e w' ⟨rfl, rfl⟩
  go_wp2_with fail
  refine (C2.out _).mono ?_
  rintro e w' ⟨rfl, rfl⟩
  go_wp2_with fail
  refine (C5.out _ _).mono ?_
  rintro e w' ⟨rfl, rfl⟩
  go_wp2_with fail
  refine (C3.out _).mono ?_
  rintro e w' ⟨rfl, rfl⟩
  go_wp2_with fail
  refine (C4.out _).mono ?_
  rintro e w' ⟨rfl, rfl⟩
  go_wp2_with fail
  refine (C5.out _ _).mono ?_
  rintro e w' ⟨rfl, rfl⟩
  go_wp2_with fail
  refine (C6.out _).mono ?_
  rintro e w' ⟨rfl, rfl⟩
  go_wp2
  go_ret
  exact ⟨rfl, B⟩
theorem powers_any (x y : Nat) (w : World) (hx : x < 18446744073709551616) (hy : y < 18446744073709551616) : Calls Try.prog 7 #[.float .f64 x, .float .f64 y] w fun e w' => e = .returned (.bool true) ∧ Below w.heap.size w w' := by
  obtain ⟨u, _, hu1, hu2⟩ := pow_both hx hy
  have C1 := Lib.hid hu1
  have C2 := Lib.hid hu2
  have C5 := Lib.hid (fun x W => same_any x W)
  have C6 := Lib.hid (fun W => awake_any W)
  have B := Below.refl w.heap.size w
  clear hu1 hu2 hx hy
  go_enter Try.func7, Try.ntmps7
  go_wp2_with fail
  refine (C1.out _).mono ?_
  rintro e w' ⟨rfl, rfl⟩
  go_wp2_with fail
  refine (C2.out _).mono ?_
  rintro e w' ⟨rfl, rfl⟩
  go_wp2_with fail
  refine (C5.out _ _).mono ?_
  rintro e w' ⟨rfl, rfl⟩
  go_wp2_with fail
  refine (C6.out _).mono ?_
  rintro e w' ⟨rfl, rfl⟩
  go_wp2
  go_ret
  exact ⟨rfl, B⟩
end Go.Proofs.Ytbinpcoaghpcdaa
