/-
  Contracts of Round of both; what a float operation without an answer draws.
-/
import Derived.Test.YtacmbbjmcdbcnaaRound
import Derived.Test.YtacmbbjmcdbcnaaCmps
namespace Go.Proofs.Ytacmbbjmcdbcnaa
open Go.RowKit
theorem cut_nan (x y t : Nat) : fnan ((Question.nanBits .f64 x y).cut t) = true ∧ (Question.nanBits .f64 x y).cut t < 18446744073709551616 := by
  show fnan (t % 2 * 2 ^ 63 + 0x7ff0000000000000 + 1 + t / 2 % (2 ^ 52 - 1)) = true ∧ t % 2 * 2 ^ 63 + 0x7ff0000000000000 + 1 + t / 2 % (2 ^ 52 - 1) < _
  have h1 : t / 2 % (2 ^ 52 - 1) < 2 ^ 52 - 1 := Nat.mod_lt _ (by omega)
  have h2 : t % 2 < 2 := Nat.mod_lt _ (by omega)
  obtain ⟨a, ha⟩ : ∃ a, t / 2 % (2 ^ 52 - 1) = a := ⟨_, rfl⟩
  obtain ⟨b, hb⟩ : ∃ b, t % 2 = b := ⟨_, rfl⟩
  rw [ha] at h1 ⊢
  rw [hb] at h2 ⊢
  unfold fnan rung
  refine ⟨decide_eq_true ?_, ?_⟩ <;> omega
theorem sub_none (t : TypeId) (x y : Nat) (w : World) (h : Ieee.double.sub x y = none) : ∃ r, (binOp .sub t (.float .f64 x) (.float .f64 y)).run Try.prog w = .ok (.float .f64 r) w.drew ∧ fnan r = true ∧ r < 18446744073709551616 := by
  have h2 : FloatKind.f64.format.sub x y = none := h
  have hf : (Question.nanBits .f64 x y).forced = false := rfl
  exact ⟨(Question.nanBits .f64 x y).cut (w.tape w.drawn (.nanBits .f64 x y)), by simp [binOp, Op.floatArith, h2, hf], cut_nan _ _ _⟩
theorem sub_nan {x y : Nat} (h : fnan x = true) : Ieee.double.sub x y = none := by
  obtain ⟨s, t, hr, _⟩ := read_nan_of h
  unfold Ieee.Format.sub
  rw [hr]
  rfl
theorem sub_infs {x : Nat} (h : finf x = true) : Ieee.double.sub x x = none := by
  have h1 : rung x = 9218868437227405312 := by unfold finf at h; exact of_decide_eq_true h
  unfold Ieee.Format.sub
  rw [read_inf h1]
  cases hs : fneg x <;> rfl
def oge (x y : Nat) : Bool := FloatKind.f64.format.order x y == some .gt || FloatKind.f64.format.order x y == some .eq
theorem oge_run (x y : Nat) : (FloatKind.f64.format.order x y == some .gt || FloatKind.f64.format.order x y == some .eq) = oge x y := rfl
theorem oge_nan {x y : Nat} (h : fnan x = true) : oge x y = false := by
  unfold oge
  rw [show FloatKind.f64.format.order x y = none from order_nan (.inl (of_decide_eq_true h))]
  rfl
theorem oge_nought {x : Nat} (h : rung x = 0) : oge x 4602678819172646912 = false := by
  unfold oge
  have h1 : frank x = 0 := by unfold frank; rw [h]; simp
  have h2 : frank 4602678819172646912 = 4602678819172646912 := by decide
  rw [show FloatKind.f64.format.order x 4602678819172646912 = some (compare (frank x) (frank 4602678819172646912)) from order_eq (by omega) (by decide), cmp_gt, cmp_eq, h1, h2]
  decide
theorem cn_real {x : Nat} (h : fnan x = false) : cn x = x := by unfold cn; rw [h, if_neg (by simp)]
theorem cn_nan {x : Nat} (h : fnan x = true) : cn x = 9221120237041090560 := by unfold cn; rw [if_pos h]
theorem nan_rung {x y : Nat} (h : rung x = rung y) : fnan x = fnan y := by unfold fnan; rw [h]
set_option maxRecDepth 100000 in
/-- Round of the program, out of what Floor tells, the difference and what is told in the end. -/
theorem nround_low (x y z : Nat) (w : World) (hx : x < 18446744073709551616) (hy : y < 18446744073709551616) (k n : Nat)
    (C1 : RowKit.Hid (Calls Try.prog 67 #[.float .f64 x] w fun e w' => e = .returned (.float .f64 y) ∧ w' = w.drewN k))
    (hs : ∃ d, (binOp .sub 22 (.float .f64 x) (.float .f64 y)).run Try.prog (w.drewN k) = .ok (.float .f64 d) (w.drewN n) ∧ oge d 4602678819172646912 = false)
    (hz : cn (Ieee.double.word (fneg x) (rung y)) = z) :
    Calls Try.prog 40 #[.float .f64 x] w fun e w' => e = .returned (.float .f64 z) ∧ w' = w.drewN n := by
  obtain ⟨d, hd, ho⟩ := hs
  have h2 := oge_run d 4602678819172646912
  rw [ho] at h2
  have C2 := Lib.hid (fun W => copysign_any y x W hy hx)
  have C3 := Lib.hid (fun a W => told_any a W)
  have HZ := Lib.hid hz
  clear hx hy hz ho
  go_enter Try.func40, Try.ntmps40
  go_wp2_with fail
  refine C1.out.mono ?_
  rintro e w' ⟨rfl, rfl⟩
  go_wp2_with fail
  refine (C2.out _).mono ?_
  rintro e w' ⟨rfl, rfl⟩
  go_wp2_with fail
  refine (C3.out _ _).mono ?_
  rintro e w' ⟨rfl, rfl⟩
  go_wp2
  go_ret
  exact ⟨congrArg (fun a => Ending.returned (.float .f64 a)) HZ.out, rfl⟩
set_option maxRecDepth 100000 in
theorem nround_up (x y d y2 z : Nat) (w : World) (hx : x < 18446744073709551616) (hy : y2 < 18446744073709551616)
    (C1 : RowKit.Hid (∀ W, Calls Try.prog 67 #[.float .f64 x] W fun e w' => e = .returned (.float .f64 y) ∧ W = w'))
    (hs : Ieee.double.sub x y = some d) (ho : oge d 4602678819172646912 = true) (ha : Ieee.double.add y 4607182418800017408 = some y2)
    (hz : cn (Ieee.double.word (fneg x) (rung y2)) = z) :
    Calls Try.prog 40 #[.float .f64 x] w fun e w' => e = .returned (.float .f64 z) ∧ w = w' := by
  have h2 := oge_run d 4602678819172646912
  rw [ho] at h2
  have h3 : (binOp BinOp.sub 22 (.float .f64 x) (.float .f64 y)).run Try.prog w = .ok (.float .f64 d) w := run_float_arith _ _ _ _ _ _ _ hs
  have h4 : (binOp BinOp.add 22 (.float .f64 y) (.float .f64 4607182418800017408)).run Try.prog w = .ok (.float .f64 y2) w := run_float_arith _ _ _ _ _ _ _ ha
  have C2 := Lib.hid (fun W => copysign_any y2 x W hy hx)
  have C3 := Lib.hid (fun a W => told_any a W)
  have HZ := Lib.hid hz
  clear hx hy hz ho hs ha
  go_enter Try.func40, Try.ntmps40
  go_wp2_with fail
  refine (C1.out _).mono ?_
  rintro e w' ⟨rfl, rfl⟩
  go_wp2_with fail
  refine (C2.out _).mono ?_
  rintro e w' ⟨rfl, rfl⟩
  go_wp2_with fail
  refine (C3.out _ _).mono ?_
  rintro e w' ⟨rfl, rfl⟩
  go_wp2
  go_ret
  exact ⟨congrArg (fun a => Ending.returned (.float .f64 a)) HZ.out, rfl⟩
set_option maxRecDepth 100000 in
/-- Round of the reference: of what is whole already, or none of the finite floats. -/
theorem qround_same (x y : Nat) (w : World) (hx : x < 18446744073709551616) (k : Nat)
    (C1 : RowKit.Hid (Calls Try.prog 67 #[.float .f64 x] w fun e w' => e = .returned (.float .f64 y) ∧ w' = w.drewN k))
    (hs : (fnan x = true ∨ finf x = true) ∨ (fnan x = false ∧ finf x = false ∧ oeq y x = true)) :
    Calls Try.prog 41 #[.float .f64 x] w fun e w' => e = .returned (.float .f64 (cn x)) ∧ w' = w.drewN k := by
  have C2 := Lib.hid (fun W => finite_any x W hx)
  have C3 := Lib.hid (fun a W => plain_any a W)
  rcases hs with h1 | ⟨h1, h2, h3⟩
  · have h2 : (!fnan x && !finf x) = false := by rcases h1 with h1 | h1 <;> rw [h1] <;> simp
    rw [h2] at C2
    clear hx h1 h2
    go_enter Try.func41, Try.ntmps41
    go_wp2_with fail
    refine C1.out.mono ?_
    rintro e w' ⟨rfl, rfl⟩
    go_wp2_with fail
    refine (C2.out _).mono ?_
    rintro e w' ⟨rfl, rfl⟩
    go_wp2_with fail
    refine (C3.out _ _).mono ?_
    rintro e w' ⟨rfl, rfl⟩
    go_wp2
    go_ret
    exact ⟨rfl, rfl⟩
  · rw [h1, h2] at C2
    have h4 := oeq_run y x
    rw [h3] at h4
    clear hx h1 h2 h3
    go_enter Try.func41, Try.ntmps41
    go_wp2_with fail
    refine C1.out.mono ?_
    rintro e w' ⟨rfl, rfl⟩
    go_wp2_with fail
    refine (C2.out _).mono ?_
    rintro e w' ⟨rfl, rfl⟩
    go_wp2_with fail
    refine (C3.out _ _).mono ?_
    rintro e w' ⟨rfl, rfl⟩
    go_wp2
    go_ret
    exact ⟨rfl, rfl⟩
set_option maxRecDepth 100000 in
theorem qround_up (x y d y2 : Nat) (w : World) (hx : x < 18446744073709551616) (hy : y2 < 18446744073709551616)
    (C1 : RowKit.Hid (∀ W, Calls Try.prog 67 #[.float .f64 x] W fun e w' => e = .returned (.float .f64 y) ∧ W = w'))
    (h1 : fnan x = false) (h2 : finf x = false) (h3 : oeq y x = false)
    (hs : Ieee.double.sub x y = some d) (ho : oge d 4602678819172646912 = true) (ha : Ieee.double.add y 4607182418800017408 = some y2) :
    Calls Try.prog 41 #[.float .f64 x] w fun e w' => e = .returned (.float .f64 (Ieee.double.word (fneg x) (rung y2))) ∧ w = w' := by
  have h4 := oge_run d 4602678819172646912
  rw [ho] at h4
  have h5 : (binOp BinOp.sub 22 (.float .f64 x) (.float .f64 y)).run Try.prog w = .ok (.float .f64 d) w := run_float_arith _ _ _ _ _ _ _ hs
  have h6 : (binOp BinOp.add 22 (.float .f64 y) (.float .f64 4607182418800017408)).run Try.prog w = .ok (.float .f64 y2) w := run_float_arith _ _ _ _ _ _ _ ha
  have C2 := Lib.hid (fun W => finite_any x W hx)
  rw [h1, h2] at C2
  have C3 := Lib.hid (fun W => copysign_any y2 x W hy hx)
  have h7 := oeq_run y x
  rw [h3] at h7
  clear hx hy ho hs h1 h2 h3 ha
  go_enter Try.func41, Try.ntmps41
  go_wp2_with fail
  refine (C1.out _).mono ?_
  rintro e w' ⟨rfl, rfl⟩
  go_wp2_with fail
  refine (C2.out _).mono ?_
  rintro e w' ⟨rfl, rfl⟩
  go_wp2_with fail
  refine (C3.out _).mono ?_
  rintro e w' ⟨rfl, rfl⟩
  go_wp2
  go_ret
  exact ⟨rfl, rfl⟩
set_option maxRecDepth 100000 in
theorem qround_low (x y d : Nat) (w : World) (hx : x < 18446744073709551616) (hy : y < 18446744073709551616)
    (C1 : RowKit.Hid (∀ W, Calls Try.prog 67 #[.float .f64 x] W fun e w' => e = .returned (.float .f64 y) ∧ W = w'))
    (h1 : fnan x = false) (h2 : finf x = false) (h3 : oeq y x = false)
    (hs : Ieee.double.sub x y = some d) (ho : oge d 4602678819172646912 = false) :
    Calls Try.prog 41 #[.float .f64 x] w fun e w' => e = .returned (.float .f64 (Ieee.double.word (fneg x) (rung y))) ∧ w = w' := by
  have h4 := oge_run d 4602678819172646912
  rw [ho] at h4
  have h5 : (binOp BinOp.sub 22 (.float .f64 x) (.float .f64 y)).run Try.prog w = .ok (.float .f64 d) w := run_float_arith _ _ _ _ _ _ _ hs
  have h6 : True := trivial
  have C2 := Lib.hid (fun W => finite_any x W hx)
  rw [h1, h2] at C2
  have C3 := Lib.hid (fun W => copysign_any y x W hy hx)
  have h7 := oeq_run y x
  rw [h3] at h7
  clear hx hy ho hs h1 h2 h3 h6
  go_enter Try.func41, Try.ntmps41
  go_wp2_with fail
  refine (C1.out _).mono ?_
  rintro e w' ⟨rfl, rfl⟩
  go_wp2_with fail
  refine (C2.out _).mono ?_
  rintro e w' ⟨rfl, rfl⟩
  go_wp2_with fail
  refine (C3.out _).mono ?_
  rintro e w' ⟨rfl, rfl⟩
  go_wp2
  go_ret
  exact ⟨rfl, rfl⟩
theorem word_real {x : Nat} (s : Bool) (h : fnan x = false) : fnan (Ieee.double.word s (rung x)) = false := by
  have h1 := (word_rung s (r := rung x) (Nat.mod_lt _ (by omega))).1
  rw [nan_rung h1]; exact h
theorem frank_rung {x y : Nat} (h : frank y = frank x) : rung y = rung x := by
  unfold frank at h
  cases h1 : fneg x <;> cases h2 : fneg y <;> rw [h1, h2] at h <;> simp at h <;> omega
theorem oeq_frank {x y : Nat} (hx : fnan x = false) (hy : fnan y = false) (h : oeq y x = true) : frank y = frank x := by
  unfold oeq at h
  unfold fnan at hx hy
  have hx := of_decide_eq_false hx
  have hy := of_decide_eq_false hy
  rw [show FloatKind.f64.format.order y x = some (compare (frank y) (frank x)) from order_eq (by omega) (by omega), cmp_eq] at h
  exact of_decide_eq_true h
theorem drew_one (w : World) (k : Nat) : (w.drewN k).drew = w.drewN (k + 1) := rfl
/-- Round of both tells the same. -/
theorem round_both (x : Nat) (hx : x < 18446744073709551616) : ∃ z, (∀ w, Calls Try.prog 40 #[.float .f64 x] w fun e w' => e = .returned (.float .f64 z) ∧ ∃ n, w' = w.drewN n) ∧ (∀ w, Calls Try.prog 41 #[.float .f64 x] w fun e w' => e = .returned (.float .f64 z) ∧ ∃ n, w' = w.drewN n) := by
  cases hn : fnan x
  · cases hi : finf x
    · obtain ⟨f1, f2⟩ := itg_real .down hn hi
      obtain ⟨y, hy⟩ : ∃ y, itg .down x = y := ⟨_, rfl⟩
      have C1 := Lib.hid (fun W => Floor_real x W hn)
      rw [hy] at f1 f2 C1
      have C0 : ∀ w : World, RowKit.Hid (Calls Try.prog 67 #[.float .f64 x] w fun e w' => e = .returned (.float .f64 y) ∧ w' = w.drewN 0) := fun w => Lib.hid ((C1.out w).mono fun e w' ⟨a, b⟩ => ⟨a, b.symm⟩)
      cases he : oeq y x
      · obtain ⟨d, hd⟩ := sub_fin hn hi f1
        cases ho : oge d 4602678819172646912
        · refine ⟨Ieee.double.word (fneg x) (rung y), fun w => ?_, fun w => (qround_low x y d w hx f2 C1 hn hi he hd ho).mono fun e w' ⟨a, b⟩ => ⟨a, 0, b.symm⟩⟩
          exact (nround_low x y _ w hx f2 0 0 (C0 w) ⟨d, run_float_arith _ _ _ _ _ _ _ hd, ho⟩ (cn_real (word_real _ f1))).mono fun e w' ⟨a, b⟩ => ⟨a, 0, b⟩
        · obtain ⟨y2, ha, r1, r2⟩ := add_one f1
          refine ⟨Ieee.double.word (fneg x) (rung y2), fun w => ?_, fun w => (qround_up x y d y2 w hx r2 C1 hn hi he hd ho ha).mono fun e w' ⟨a, b⟩ => ⟨a, 0, b.symm⟩⟩
          exact (nround_up x y d y2 _ w hx r2 C1 hd ho ha (cn_real (word_real _ r1))).mono fun e w' ⟨a, b⟩ => ⟨a, 0, b.symm⟩
      · have h1 := oeq_frank hn f1 he
        have h2 := frank_rung h1
        obtain ⟨d, hd, hd0, _⟩ := sub_alike hn hi h2 h1
        refine ⟨cn x, fun w => ?_, fun w => (qround_same x y w hx 0 (C0 w) (.inr ⟨hn, hi, he⟩)).mono fun e w' ⟨a, b⟩ => ⟨a, 0, b⟩⟩
        exact (nround_low x y _ w hx f2 0 0 (C0 w) ⟨d, run_float_arith _ _ _ _ _ _ _ hd, oge_nought hd0⟩ (by rw [h2, ← word_split x hx])).mono fun e w' ⟨a, b⟩ => ⟨a, 0, b⟩
    · have C1 := Lib.hid (fun W => Floor_real x W hn)
      rw [itg_inf .down hx hi] at C1
      have C0 : ∀ w : World, RowKit.Hid (Calls Try.prog 67 #[.float .f64 x] w fun e w' => e = .returned (.float .f64 x) ∧ w' = w.drewN 0) := fun w => Lib.hid ((C1.out w).mono fun e w' ⟨a, b⟩ => ⟨a, b.symm⟩)
      refine ⟨cn x, fun w => ?_, fun w => (qround_same x x w hx 0 (C0 w) (.inl (.inr hi))).mono fun e w' ⟨a, b⟩ => ⟨a, 0, b⟩⟩
      obtain ⟨r, h1, h2, _⟩ := sub_none 22 x x (w.drewN 0) (sub_infs hi)
      exact (nround_low x x _ w hx hx 0 1 (C0 w) ⟨r, h1, oge_nan h2⟩ (by rw [← word_split x hx])).mono fun e w' ⟨a, b⟩ => ⟨a, 1, b⟩
  · refine ⟨9221120237041090560, fun w => ?_, fun w => ?_⟩
    · obtain ⟨y, k, h1, h2, h3⟩ := Floor_nan x w hx hn
      obtain ⟨r, h4, h5, _⟩ := sub_none 22 x y (w.drewN k) (sub_nan hn)
      exact (nround_low x y _ w hx h2 k (k + 1) (Lib.hid h3) ⟨r, h4, oge_nan h5⟩ (cn_nan (by rw [nan_rung (word_rung (fneg x) (r := rung y) (Nat.mod_lt _ (by omega))).1]; exact h1))).mono fun e w' ⟨a, b⟩ => ⟨a, _, b⟩
    · obtain ⟨y, k, h1, h2, h3⟩ := Floor_nan x w hx hn
      exact (qround_same x y w hx k (Lib.hid h3) (.inl (.inl hn))).mono fun e w' ⟨a, b⟩ => ⟨by rw [a, cn_nan hn], k, b⟩
end Go.Proofs.Ytacmbbjmcdbcnaa
