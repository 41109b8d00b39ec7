/-
  The law NumberWholes.
-/
import Derived.Test.YtacmbbjmcdbcnaaPlc
namespace Go.Proofs.Ytacmbbjmcdbcnaa
open Go.RowKit
set_option maxRecDepth 100000 in
theorem qplace_less (x : Nat) (l m : Int) (w : World) (h : m < l) : Calls Try.prog 24 #[.float .f64 x, .int .i64 l, .int .i64 m] w fun e w' => e = .returned (.int .i64 m) ∧ w = w' := by
  go_enter Try.func24, Try.ntmps24
  go_wp2
  go_ret
  exact ⟨rfl, rfl⟩
set_option maxRecDepth 100000 in
theorem qplace_top (x y : Nat) (l m : Int) (w : World) (h : ¬ m < l) (C1 : RowKit.Hid (∀ W, Calls Try.prog 16 #[.float .f64 x] W fun e w' => e = .returned (.float .f64 y) ∧ W = w'))
    (t1 : (FloatKind.f64.format.order y 4890909195324358656 == some .gt || FloatKind.f64.format.order y 4890909195324358656 == some .eq) = true) : Calls Try.prog 24 #[.float .f64 x, .int .i64 l, .int .i64 m] w fun e w' => e = .returned (.int .i64 m) ∧ w = w' := by
  go_enter Try.func24, Try.ntmps24
  go_wp2_with fail
  refine (C1.out _).mono ?_
  rintro e w' ⟨rfl, rfl⟩
  go_wp2
  go_ret
  exact ⟨rfl, rfl⟩
set_option maxRecDepth 100000 in
theorem qplace_low (x y : Nat) (l m : Int) (w : World) (h : ¬ m < l) (C1 : RowKit.Hid (∀ W, Calls Try.prog 16 #[.float .f64 x] W fun e w' => e = .returned (.float .f64 y) ∧ W = w'))
    (t1 : (FloatKind.f64.format.order y 4890909195324358656 == some .gt || FloatKind.f64.format.order y 4890909195324358656 == some .eq) = false)
    (t2 : (FloatKind.f64.format.order y 14114281232179134464 == some .gt) = false)
    (t3 : (FloatKind.f64.format.order y 14114281232179134464 == some .lt || FloatKind.f64.format.order y 14114281232179134464 == some .eq) = true) : Calls Try.prog 24 #[.float .f64 x, .int .i64 l, .int .i64 m] w fun e w' => e = .returned (.int .i64 l) ∧ w = w' := by
  go_enter Try.func24, Try.ntmps24
  go_wp2_with fail
  refine (C1.out _).mono ?_
  rintro e w' ⟨rfl, rfl⟩
  go_wp2
  go_ret
  exact ⟨rfl, rfl⟩
set_option maxRecDepth 100000 in
theorem qplace_mid (x y : Nat) (i l m : Int) (w : World) (h : ¬ m < l) (C1 : RowKit.Hid (∀ W, Calls Try.prog 16 #[.float .f64 x] W fun e w' => e = .returned (.float .f64 y) ∧ W = w'))
    (t1 : (FloatKind.f64.format.order y 4890909195324358656 == some .gt || FloatKind.f64.format.order y 4890909195324358656 == some .eq) = false)
    (t2 : (FloatKind.f64.format.order y 14114281232179134464 == some .gt) = true)
    (t3 : (FloatKind.f64.format.order y 14114281232179134464 == some .lt || FloatKind.f64.format.order y 14114281232179134464 == some .eq) = false)
    (hi : floatToIntVal .f64 y .i64 = some i) : Calls Try.prog 24 #[.float .f64 x, .int .i64 l, .int .i64 m] w fun e w' => e = .returned (.int .i64 (plV i l m)) ∧ w = w' := by
  have hc : (convert 22 3 (.float .f64 y)).run Try.prog w = .ok (.int .i64 i) w := run_convert_float_int w 22 3 .f64 .i64 _ _ (by kernel_rfl) (by kernel_rfl) hi
  clear hi
  unfold plV
  by_cases h1 : m < i
  · rw [if_neg (show ¬ i < l by omega), if_pos h1]
    go_enter Try.func24, Try.ntmps24
    go_wp2_with fail
    refine (C1.out _).mono ?_
    rintro e w' ⟨rfl, rfl⟩
    go_wp2
    go_ret
    exact ⟨rfl, rfl⟩
  · by_cases h2 : i < l
    · rw [if_pos h2, if_neg h]
      go_enter Try.func24, Try.ntmps24
      go_wp2_with fail
      refine (C1.out _).mono ?_
      rintro e w' ⟨rfl, rfl⟩
      go_wp2
      go_ret
      exact ⟨rfl, rfl⟩
    · rw [if_neg h2, if_neg h1]
      go_enter Try.func24, Try.ntmps24
      go_wp2_with fail
      refine (C1.out _).mono ?_
      rintro e w' ⟨rfl, rfl⟩
      go_wp2
      go_ret
      exact ⟨rfl, rfl⟩
theorem qplace_any (x : Nat) (l m : Int) (w : World) (hx : x < 18446744073709551616) (hl : -9223372036854775808 ≤ l ∧ l < 9223372036854775808) (hm : -9223372036854775808 ≤ m ∧ m < 9223372036854775808) : Calls Try.prog 24 #[.float .f64 x, .int .i64 l, .int .i64 m] w fun e w' => e = .returned (.int .i64 (plV (nearV (intV x)) l m)) ∧ w = w' := by
  obtain ⟨r1, r2⟩ := intV_real x hx
  have C1 := Lib.hid (fun W => qint_any x W)
  obtain ⟨y, hy⟩ : ∃ y, intV x = y := ⟨_, rfl⟩
  rw [hy] at C1 r1 r2 ⊢
  by_cases h : m < l
  · have e : plV (nearV y) l m = m := by unfold plV; (repeat' split) <;> omega
    rw [e]
    exact qplace_less x l m w h
  · rcases zones r2 r1 with ⟨h1, h2⟩ | ⟨h1, h2, h3, h4⟩ | ⟨h1, h2, h3, h4, h5, _⟩ | ⟨h1, h2, h3, h4, h5, h6, h7⟩
    · have e : plV (nearV y) l m = m := by
        unfold nearV
        rw [if_pos h1]
        unfold plV
        (repeat' split) <;> omega
      rw [e]
      exact qplace_top x y l m w h C1 ((oge_run _ _).trans h1)
    · have e : plV (nearV y) l m = l := by
        unfold nearV
        rw [if_neg (by rw [h1]; simp), if_pos h2]
        unfold plV
        (repeat' split) <;> omega
      rw [e]
      exact qplace_low x y l m w h C1 ((oge_run _ _).trans h1) h3 ((ole_run _ _).trans h4)
    · have e : plV (nearV y) l m = l := by
        unfold nearV
        rw [if_neg (by rw [h1]; simp), if_neg (by rw [h2]; simp), h5]
        unfold plV
        (repeat' split) <;> omega
      rw [e]
      exact qplace_low x y l m w h C1 ((oge_run _ _).trans h1) h3 ((ole_run _ _).trans h4)
    · have e : nearV y = wholeI y := by
        unfold nearV
        rw [if_neg (by rw [h1]; simp), if_neg (by rw [h2]; simp)]
      rw [e]
      exact qplace_mid x y _ l m w h C1 ((oge_run _ _).trans h1) h3 ((ole_run _ _).trans h4) h7
theorem idx_both (x : Nat) (hx : x < 18446744073709551616) : ∃ (n : Nat) (b : Bool), (∀ w, Calls Try.prog 12 #[.float .f64 x] w fun e w' => e = .returned (.tuple #[.int .u32 (n : Nat), .bool b]) ∧ w = w') ∧ (∀ w, Calls Try.prog 13 #[.float .f64 x] w fun e w' => e = .returned (.tuple #[.int .u32 (n : Nat), .bool b]) ∧ w = w') := by
  by_cases h : ∃ N, isIdx x N
  · obtain ⟨N, hN⟩ := h
    exact ⟨N, true, fun w => nidx_yes w hx hN, fun w => qidx_yes w hx hN⟩
  · exact ⟨0, false, fun w => nidx_no w hx (fun N hN => h ⟨N, hN⟩), fun w => qidx_no w hx (fun N hN => h ⟨N, hN⟩)⟩
set_option maxRecDepth 100000 in
set_option maxHeartbeats 1000000 in
theorem wholes_any (x : Nat) (l m : Int) (w : World) (hx : x < 18446744073709551616) (hl : -9223372036854775808 ≤ l ∧ l < 9223372036854775808) (hm : -9223372036854775808 ≤ m ∧ m < 9223372036854775808) : Calls Try.prog 3 #[.float .f64 x, .int .i64 l, .int .i64 m] w fun e w' => e = .returned (.bool true) ∧ Below w.heap.size w w' := by
  obtain ⟨n, b, I1, I2⟩ := idx_both x hx
  have C1 := Lib.hid I1
  have C2 := Lib.hid I2
  have C3 := Lib.hid (fun W => nint_any x W)
  have C4 := Lib.hid (fun W => qint_any x W)
  have CS := Lib.hid (fun a W => same_any a W)
  have C5 := Lib.hid (fun W => ni32_any x W hx)
  have C6 := Lib.hid (fun W => qi32_any x W hx)
  have C7 := Lib.hid (fun W => nu32_any x W hx)
  have C8 := Lib.hid (fun W => qu32_any x W hx)
  have C9 := Lib.hid (fun W => nu16_any x W hx)
  have C10 := Lib.hid (fun W => qu16_any x W hx)
  have C11 := Lib.hid (fun W => nplace_any x l m W hx hl hm)
  have C12 := Lib.hid (fun W => qplace_any x l m W hx hl hm)
  have CA := Lib.hid (fun W => awake_any W)
  obtain ⟨y, hy⟩ : ∃ y, intV x = y := ⟨_, rfl⟩
  obtain ⟨p, hp⟩ : ∃ p, plV (nearV (intV x)) l m = p := ⟨_, rfl⟩
  rw [hp] at C11 C12
  rw [hy] at C3 C4
  obtain ⟨i, hi⟩ : ∃ i, i32V x = i := ⟨_, rfl⟩
  obtain ⟨u, hu⟩ : ∃ u, u32V x = u := ⟨_, rfl⟩
  obtain ⟨v, hv⟩ : ∃ v, u16V x = v := ⟨_, rfl⟩
  rw [hi] at C5 C6
  rw [hu] at C7 C8
  rw [hv] at C9 C10
  clear I1 I2 hx hl hm hy hp hi hu hv
  go_enter Try.func3, Try.ntmps3
  go_wp2_with fail
  refine (C1.out _).mono ?_
  rintro e w' ⟨rfl, rfl⟩
  go_wp2_with fail
  refine (C2.out _).mono ?_
  rintro e w' ⟨rfl, rfl⟩
  go_wp2_with fail
  refine (C3.out _).mono ?_
  rintro e w' ⟨rfl, rfl⟩
  go_wp2_with fail
  refine (C4.out _).mono ?_
  rintro e w' ⟨rfl, rfl⟩
  go_wp2_with fail
  refine (CS.out _ _).mono ?_
  rintro e w' ⟨rfl, rfl⟩
  go_wp2_with fail
  refine (C5.out _).mono ?_
  rintro e w' ⟨rfl, rfl⟩
  go_wp2_with fail
  refine (C6.out _).mono ?_
  rintro e w1 ⟨rfl, b1⟩
  go_wp2_with fail
  refine (C7.out _).mono ?_
  rintro e w' ⟨rfl, rfl⟩
  go_wp2_with fail
  refine (C8.out _).mono ?_
  rintro e w2 ⟨rfl, b2⟩
  have B2 := below_le b1 b2
  go_wp2_with fail
  refine (C9.out _).mono ?_
  rintro e w' ⟨rfl, rfl⟩
  go_wp2_with fail
  refine (C10.out _).mono ?_
  rintro e w3 ⟨rfl, b3⟩
  have B3 := below_le B2 b3
  go_wp2_with fail
  refine (C11.out _).mono ?_
  rintro e w' ⟨rfl, rfl⟩
  go_wp2_with fail
  refine (C12.out _).mono ?_
  rintro e w' ⟨rfl, rfl⟩
  go_wp2_with fail
  refine (CA.out _).mono ?_
  rintro e w4 ⟨rfl, b4⟩
  have B4 := below_le B3 b4
  go_wp2
  go_ret
  exact ⟨rfl, B4⟩
end Go.Proofs.Ytacmbbjmcdbcnaa
