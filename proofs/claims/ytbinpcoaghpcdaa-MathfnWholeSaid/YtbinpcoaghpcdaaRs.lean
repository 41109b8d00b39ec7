/-
  Contracts of math.Mod where an operand is no number, and of Rest of the reference there.
-/
import Derived.Test.YtbinpcoaghpcdaaNr
import Derived.Test.YtbinpcoaghpcdaaSums
namespace Go.Proofs.Ytbinpcoaghpcdaa
open Go.RowKit
theorem mnan_any (w : World) : Calls Try.prog 88 #[] w fun e w' => e = .returned (.float .f64 9221120237041090561) ∧ w = w' := by
  have h2 : (callFunc 34 #[.int .u64 9221120237041090561]).run Try.prog w = .ok (.value (.float .f64 9221120237041090561)) w := f64from_run 9221120237041090561 w
  go_enter Try.func88, Try.ntmps88
  go_wp2
  go_ret
  exact ⟨rfl, rfl⟩
theorem mod_n0 (x y : Nat) (w : World) (hx : x < 18446744073709551616) (h0 : rung y = 0) : Calls Try.prog 118 #[.float .f64 x, .float .f64 y] w fun e w' => e = .returned (.float .f64 9221120237041090561) ∧ w = w' := by
  have C0 := Lib.hid (fun W => mnan_any W)
  have C1 := Lib.hid (fun W => isInf0_any x W hx)
  have C2 := Lib.hid (fun W => isNaN_any x W)
  have C3 := Lib.hid (fun W => isNaN_any y W)
  have hz := ord_zero y
  rw [h0, decide_eq_true rfl] at hz
  clear C1 C2 C3 hx h0
  go_enter Try.func118, Try.ntmps118
  go_wp2_with fail
  refine (C0.out _).mono ?_
  rintro e w' ⟨rfl, rfl⟩
  go_wp2
  go_ret
  exact ⟨rfl, rfl⟩
theorem mod_n1 (x y : Nat) (w : World) (hx : x < 18446744073709551616) (h0 : 0 < rung y) (h1 : finf x = true) : Calls Try.prog 118 #[.float .f64 x, .float .f64 y] w fun e w' => e = .returned (.float .f64 9221120237041090561) ∧ w = w' := by
  have C0 := Lib.hid (fun W => mnan_any W)
  have C1 := Lib.hid (fun W => isInf0_any x W hx)
  have C2 := Lib.hid (fun W => isNaN_any x W)
  have C3 := Lib.hid (fun W => isNaN_any y W)
  have hz := ord_zero y
  rw [decide_eq_false (by omega)] at hz
  rw [h1] at C1
  clear C2 C3 hx h0 h1
  go_enter Try.func118, Try.ntmps118
  go_wp2_with fail
  refine (C1.out _).mono ?_
  rintro e w' ⟨rfl, rfl⟩
  go_wp2_with fail
  refine (C0.out _).mono ?_
  rintro e w' ⟨rfl, rfl⟩
  go_wp2
  go_ret
  exact ⟨rfl, rfl⟩
theorem mod_n2 (x y : Nat) (w : World) (hx : x < 18446744073709551616) (h0 : 0 < rung y) (h1 : finf x = false) (h2 : fnan x = true) : Calls Try.prog 118 #[.float .f64 x, .float .f64 y] w fun e w' => e = .returned (.float .f64 9221120237041090561) ∧ w = w' := by
  have C0 := Lib.hid (fun W => mnan_any W)
  have C1 := Lib.hid (fun W => isInf0_any x W hx)
  have C2 := Lib.hid (fun W => isNaN_any x W)
  have C3 := Lib.hid (fun W => isNaN_any y W)
  have hz := ord_zero y
  rw [decide_eq_false (by omega)] at hz
  rw [h1] at C1
  rw [h2] at C2
  clear C3 hx h0 h1 h2
  go_enter Try.func118, Try.ntmps118
  go_wp2_with fail
  refine (C1.out _).mono ?_
  rintro e w' ⟨rfl, rfl⟩
  go_wp2_with fail
  refine (C2.out _).mono ?_
  rintro e w' ⟨rfl, rfl⟩
  go_wp2_with fail
  refine (C0.out _).mono ?_
  rintro e w' ⟨rfl, rfl⟩
  go_wp2
  go_ret
  exact ⟨rfl, rfl⟩
theorem mod_n3 (x y : Nat) (w : World) (hx : x < 18446744073709551616) (h0 : 0 < rung y) (h1 : finf x = false) (h2 : fnan x = false) (h3 : fnan y = true) : Calls Try.prog 118 #[.float .f64 x, .float .f64 y] w fun e w' => e = .returned (.float .f64 9221120237041090561) ∧ w = w' := by
  have C0 := Lib.hid (fun W => mnan_any W)
  have C1 := Lib.hid (fun W => isInf0_any x W hx)
  have C2 := Lib.hid (fun W => isNaN_any x W)
  have C3 := Lib.hid (fun W => isNaN_any y W)
  have hz := ord_zero y
  rw [decide_eq_false (by omega)] at hz
  rw [h1] at C1
  rw [h2] at C2
  rw [h3] at C3
  clear hx h0 h1 h2 h3
  go_enter Try.func118, Try.ntmps118
  go_wp2_with fail
  refine (C1.out _).mono ?_
  rintro e w' ⟨rfl, rfl⟩
  go_wp2_with fail
  refine (C2.out _).mono ?_
  rintro e w' ⟨rfl, rfl⟩
  go_wp2_with fail
  refine (C3.out _).mono ?_
  rintro e w' ⟨rfl, rfl⟩
  go_wp2_with fail
  refine (C0.out _).mono ?_
  rintro e w' ⟨rfl, rfl⟩
  go_wp2
  go_ret
  exact ⟨rfl, rfl⟩
theorem mod_nan {x y : Nat} (hx : x < 18446744073709551616) (h : finf x = true ∨ fnan x = true ∨ fnan y = true ∨ rung y = 0) (w : World) : Calls Try.prog 118 #[.float .f64 x, .float .f64 y] w fun e w' => e = .returned (.float .f64 9221120237041090561) ∧ w = w' := by
  rcases Nat.eq_zero_or_pos (rung y) with h0 | h0
  · exact mod_n0 x y w hx h0
  · cases h1 : finf x
    · cases h2 : fnan x
      · refine mod_n3 x y w hx h0 h1 h2 ?_
        rcases h with h | h | h | h
        · rw [h1] at h; cases h
        · rw [h2] at h; cases h
        · exact h
        · omega
      · exact mod_n2 x y w hx h0 h1 h2
    · exact mod_n1 x y w hx h0 h1
theorem frexp_inf (w : World) : Calls Try.prog 73 #[.float .f64 9218868437227405312] w fun e w' => e = .returned (.tuple #[.float .f64 9218868437227405312, .int .i64 0]) ∧ w = w' := by
  have C2 := Lib.hid (fun W => isInf0_any 9218868437227405312 W (by omega))
  rw [show finf 9218868437227405312 = true by decide] at C2
  have h3 := ord_zero 9218868437227405312
  rw [show decide (rung 9218868437227405312 = 0) = false by decide] at h3
  go_enter Try.func73, Try.ntmps73
  go_wp2_with fail
  refine (C2.out _).mono ?_
  rintro e w' ⟨rfl, rfl⟩
  go_wp2
  go_ret2
  exact ⟨rfl, rfl⟩
theorem Frexp_inf (w : World) : Calls Try.prog 45 #[.float .f64 9218868437227405312] w fun e w' => e = .returned (.tuple #[.float .f64 9218868437227405312, .int .i64 0]) ∧ w = w' := by
  have C := Lib.hid (frexp_inf w)
  go_enter Try.func45, Try.ntmps45
  go_wp2_with fail
  refine C.out.mono ?_
  rintro e w' ⟨rfl, rfl⟩
  go_wp2
  go_ret2
  exact ⟨rfl, rfl⟩
theorem neg_neg {x : Nat} (hx : x < 18446744073709551616) : Op.negFloat .f64 (Op.negFloat .f64 x) = x := by
  have h := word_split x hx
  have hr : rung x < 9223372036854775808 := Nat.mod_lt _ (by omega)
  conv => lhs; rw [h]
  rw [neg_float (fneg x) hr, neg_float (!fneg x) hr, Bool.not_not]
  exact h.symm
set_option maxRecDepth 100000 in
set_option maxHeartbeats 1000000 in
theorem mod_inf (x y : Nat) (hx : x < 18446744073709551616) (hx2 : rung x < 9218868437227405312) (hy64 : y < 18446744073709551616) (hY : rung y = 9218868437227405312) (w : World) :
    Calls Try.prog 118 #[.float .f64 x, .float .f64 y] w fun e w' => e = .returned (.float .f64 x) ∧ w = w' := by
  have C1 := Lib.hid (fun W => isNaN_any x W)
  have C2 := Lib.hid (fun W => isInf0_any x W hx)
  have C3 := Lib.hid (fun W => isNaN_any y W)
  have C4 := Lib.hid (fun W => abs_any y W hy64)
  have e1 : fnan x = false := by unfold fnan; exact decide_eq_false (by omega)
  rw [e1] at C1
  rw [show finf x = false from by unfold finf; exact decide_eq_false (by omega)] at C2
  rw [show fnan y = false from by unfold fnan; exact decide_eq_false (by omega)] at C3
  rw [hY] at C4
  have C5 := Lib.hid (fun W => Frexp_inf W)
  have h1 := ord_zero y
  rw [decide_eq_false (by omega)] at h1
  have h2 := ord_below x
  rw [e1, Bool.not_false, Bool.true_and] at h2
  have key : ∀ z : Nat, rung z < 9218868437227405312 → (FloatKind.f64.format.order z 9218868437227405312 == some .gt || FloatKind.f64.format.order z 9218868437227405312 == some .eq) = false := by
    intro z hz
    obtain ⟨e2, _, e3⟩ := pos_rung (x := 9218868437227405312) (by omega)
    rw [show FloatKind.f64.format.order z 9218868437227405312 = some (compare (frank z) (frank 9218868437227405312)) from order_eq (by omega) (by omega), cmp_gt, cmp_eq, e3]
    have : frank z < 9218868437227405312 := by unfold frank; split <;> omega
    simp; omega
  have hn2 := neg_neg hx
  cases hs : fneg x && decide (0 < rung x)
  · rw [hs] at h2
    have h3 := key x hx2
    clear hx hx2 hy64 hY key e1 hs hn2
    go_enter Try.func118, Try.ntmps118
    go_wp2_with fail
    refine (C2.out _).mono ?_
    rintro e w' ⟨rfl, rfl⟩
    go_wp2_with fail
    refine (C1.out _).mono ?_
    rintro e w' ⟨rfl, rfl⟩
    go_wp2_with fail
    refine (C3.out _).mono ?_
    rintro e w' ⟨rfl, rfl⟩
    go_wp2_with fail
    refine (C4.out _).mono ?_
    rintro e w' ⟨rfl, rfl⟩
    go_wp2_with fail
    refine (C5.out _).mono ?_
    rintro e w' ⟨rfl, rfl⟩
    go_wp2
    go_loopw [7] (fun rv wr => rv = .float .f64 x ∧ w = wr) (fun rv _ => fOf rv)
    case atStart => exact ⟨rfl, rfl⟩
    case round =>
      obtain ⟨rfl, rfl⟩ := hrel
      go_wp2
      go_ret
      exact ⟨rfl, rfl⟩
  · rw [hs] at h2
    have h3 := key (Op.negFloat .f64 x) (by
      have hr : rung x < 9223372036854775808 := by omega
      rw [word_split x hx, neg_float (fneg x) hr, (word_rung (!fneg x) hr).1]; exact hx2)
    obtain ⟨z, hz⟩ : ∃ z, Op.negFloat .f64 x = z := ⟨_, rfl⟩
    rw [hz] at h3 hn2
    have hn1 : (Op.unary UnOp.neg (.float .f64 x)).run Try.prog w = .ok (.float .f64 z) w := by rw [← hz]; rfl
    have hn3 : (Op.unary UnOp.neg (.float .f64 z)).run Try.prog w = .ok (.float .f64 x) w := by rw [← hn2]; rfl
    clear hx hx2 hy64 hY key e1 hs hn2 hz
    go_enter Try.func118, Try.ntmps118
    go_wp2_with fail
    refine (C2.out _).mono ?_
    rintro e w' ⟨rfl, rfl⟩
    go_wp2_with fail
    refine (C1.out _).mono ?_
    rintro e w' ⟨rfl, rfl⟩
    go_wp2_with fail
    refine (C3.out _).mono ?_
    rintro e w' ⟨rfl, rfl⟩
    go_wp2_with fail
    refine (C4.out _).mono ?_
    rintro e w' ⟨rfl, rfl⟩
    go_wp2_with fail
    refine (C5.out _).mono ?_
    rintro e w' ⟨rfl, rfl⟩
    go_wp2
    go_loopw [7] (fun rv wr => rv = .float .f64 z ∧ w = wr) (fun rv _ => fOf rv)
    case atStart => exact ⟨rfl, rfl⟩
    case round =>
      obtain ⟨rfl, rfl⟩ := hrel
      go_wp2
      go_ret
      exact ⟨rfl, rfl⟩
theorem Mod_of {x y r : Nat} (w : World) (h : Calls Try.prog 118 #[.float .f64 x, .float .f64 y] w fun e w' => e = .returned (.float .f64 r) ∧ w = w') :
    Calls Try.prog 113 #[.float .f64 x, .float .f64 y] w fun e w' => e = .returned (.float .f64 r) ∧ w = w' := by
  have C := Lib.hid h
  clear h
  go_enter Try.func113, Try.ntmps113
  go_wp2_with fail
  refine C.out.mono ?_
  rintro e w' ⟨rfl, rfl⟩
  go_wp2
  go_ret
  exact ⟨rfl, rfl⟩
noncomputable def restV (x y : Nat) : Nat := if finf x = true ∨ fnan x = true ∨ fnan y = true ∨ rung y = 0 then 9221120237041090560 else if rung y = 9218868437227405312 then x else Ieee.double.word (fneg x) (modm (rung x) (rung y))
theorem fin_of {x : Nat} (h1 : finf x = false) (h2 : fnan x = false) : rung x < 9218868437227405312 := by
  unfold fnan at h2; unfold finf at h1; have := of_decide_eq_false h1; have := of_decide_eq_false h2; omega
theorem rest2_any (x y : Nat) (w : World) (hx : x < 18446744073709551616) (hy : y < 18446744073709551616) : Calls Try.prog 98 #[.agg #[.float .f64 x, .float .f64 y]] w fun e w' => ∃ z, e = .returned (.float .f64 z) ∧ Hid (cn z = restV x y) ∧ Below w.heap.size w w' := by
  unfold restV
  by_cases h : finf x = true ∨ fnan x = true ∨ fnan y = true ∨ rung y = 0
  · rw [if_pos h]
    exact (rest_any x y _ w (fun W => Mod_of W (mod_nan hx h W))).mono fun e w' ⟨a, b⟩ => ⟨_, a, Lib.hid (by decide), b⟩
  · rw [if_neg h]
    have e1 : finf x = false := Bool.eq_false_iff.2 (fun e => h (.inl e))
    have e2 : fnan x = false := Bool.eq_false_iff.2 (fun e => h (.inr (.inl e)))
    have e3 : fnan y = false := Bool.eq_false_iff.2 (fun e => h (.inr (.inr (.inl e))))
    have e4 : rung y ≠ 0 := fun e => h (.inr (.inr (.inr e)))
    have hx2 := fin_of e1 e2
    by_cases h5 : rung y = 9218868437227405312
    · rw [if_pos h5]
      exact (rest_any x y _ w (fun W => Mod_of W (mod_inf x y hx hx2 hy h5 W))).mono fun e w' ⟨a, b⟩ => ⟨_, a, Lib.hid (cn_real e2), b⟩
    · rw [if_neg h5]
      have hy2 : rung y < 9218868437227405312 := by unfold fnan at e3; have := of_decide_eq_false e3; omega
      refine (rest_any x y _ w (fun W => Mod_fin x y hx hx2 hy (by omega) hy2 W)).mono fun e w' ⟨a, b⟩ => ⟨_, a, Lib.hid (cn_real ?_), b⟩
      have h6 := modm_lt (rung x) (Y := rung y) (by omega)
      unfold fnan
      rw [(word_rung (fneg x) (r := modm (rung x) (rung y)) (by omega)).1]
      exact decide_eq_false (by omega)
theorem nbin_rest (x y : Nat) (w : World) (hx : x < 18446744073709551616) (hy : y < 18446744073709551616) : Calls Try.prog 74 #[.string ⟨#[37]⟩, .float .f64 x, .float .f64 y] w fun e w' => e = .returned (.tuple #[.float .f64 (restV x y), .int .i64 0]) ∧ Below w.heap.size w w' :=
  binary_at2 4 (by omega) x y _ w (fun W => rest2_any x y W hx hy)

end Go.Proofs.Ytbinpcoaghpcdaa
