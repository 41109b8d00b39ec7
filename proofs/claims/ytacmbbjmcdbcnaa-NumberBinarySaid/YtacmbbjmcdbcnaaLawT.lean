/-
  The law NumberBinary.
-/
import Derived.Test.YtacmbbjmcdbcnaaRq
namespace Go.Proofs.Ytacmbbjmcdbcnaa
open Go.RowKit
theorem int_near (n : Int) : floatOfInt .f64 n = Ieee.double.nearest (decide (n < 0)) n.natAbs 0 := by
  unfold floatOfInt FloatKind.nearest FloatKind.encode Ieee.Format.write
  rfl
theorem cn_int (n : Int) : cn (floatOfInt .f64 n) = floatOfInt .f64 n := by
  refine cn_real ?_
  rw [int_near]
  obtain ⟨r, h1, h2⟩ := near_rung (decide (n < 0)) n.natAbs 0
  rw [h1]
  unfold fnan
  rw [(word_rung (decide (n < 0)) (r := r) (by omega)).1]
  exact decide_eq_false (by omega)
set_option maxRecDepth 100000 in
theorem binaryLaw_low (op : ByteArray) (x y r : Nat) (k : Int) (w : World)
    (C1 : RowKit.Hid (∀ W, Calls Try.prog 26 #[.string op, .float .f64 x, .float .f64 y] W fun e w' => e = .returned (.tuple #[.float .f64 r, .int .i64 k]) ∧ Below W.heap.size W w'))
    (C2 : RowKit.Hid (∀ W, Calls Try.prog 27 #[.string op, .float .f64 x, .float .f64 y] W fun e w' => e = .returned (.tuple #[.float .f64 r, .int .i64 k]) ∧ Below W.heap.size W w')) :
    Calls Try.prog 4 #[.string op, .float .f64 x, .float .f64 y] w fun e w' => e = .returned (.bool true) ∧ Below w.heap.size w w' := by
  have CS := Lib.hid (fun a W => same_any a W)
  have CA := Lib.hid (fun W => awake_any W)
  go_enter Try.func4, Try.ntmps4
  go_wp2_with fail
  refine (C1.out _).mono ?_
  rintro e w1 ⟨rfl, b1⟩
  go_wp2_with fail
  refine (C2.out _).mono ?_
  rintro e w2 ⟨rfl, b2⟩
  have B2 := below_le b1 b2
  go_wp2_with fail
  refine (CS.out _ _).mono ?_
  rintro e w' ⟨rfl, rfl⟩
  go_wp2_with fail
  refine (CA.out _).mono ?_
  rintro e w3 ⟨rfl, b3⟩
  have B3 := below_le B2 b3
  go_wp2
  go_ret
  exact ⟨rfl, B3⟩
theorem binary_any (op : ByteArray) (x y : Nat) (w : World) (hx : x < 18446744073709551616) (hy : y < 18446744073709551616) : Calls Try.prog 4 #[.string op, .float .f64 x, .float .f64 y] w fun e w' => e = .returned (.bool true) ∧ Below w.heap.size w w' := by
  by_cases h0 : op = ⟨#[43]⟩
  · subst h0
    exact binaryLaw_low _ x y _ _ w (Lib.hid (fun W => nbin_sum x y W)) (Lib.hid (fun W => qbin_sum x y W))
  by_cases h1 : op = ⟨#[45]⟩
  · subst h1
    exact binaryLaw_low _ x y _ _ w (Lib.hid (fun W => nbin_difference x y W)) (Lib.hid (fun W => qbin_difference x y W))
  by_cases h2 : op = ⟨#[42]⟩
  · subst h2
    exact binaryLaw_low _ x y _ _ w (Lib.hid (fun W => nbin_product x y W)) (Lib.hid (fun W => qbin_product x y W))
  by_cases h3 : op = ⟨#[47]⟩
  · subst h3
    exact binaryLaw_low _ x y _ _ w (Lib.hid (fun W => nbin_quotient x y W)) (Lib.hid (fun W => qbin_quotient x y W))
  by_cases h4 : op = ⟨#[37]⟩
  · subst h4
    exact binaryLaw_low _ x y _ _ w (Lib.hid (fun W => nbin_rest x y W hx hy)) (Lib.hid (fun W => qbin_rest x y W hx hy))
  by_cases h5 : op = ⟨#[38]⟩
  · subst h5
    exact binaryLaw_low _ x y _ _ w (Lib.hid (fun W => by have h := binary_at 5 (by omega) x y _ W (fun V => and_any x y V hx hy); rw [cn_int] at h; exact h)) (Lib.hid (fun W => qbin_and x y W hx hy))
  by_cases h6 : op = ⟨#[124]⟩
  · subst h6
    exact binaryLaw_low _ x y _ _ w (Lib.hid (fun W => by have h := binary_at 6 (by omega) x y _ W (fun V => or_any x y V hx hy); rw [cn_int] at h; exact h)) (Lib.hid (fun W => qbin_or x y W hx hy))
  by_cases h7 : op = ⟨#[94]⟩
  · subst h7
    exact binaryLaw_low _ x y _ _ w (Lib.hid (fun W => by have h := binary_at 7 (by omega) x y _ W (fun V => xor_any x y V hx hy); rw [cn_int] at h; exact h)) (Lib.hid (fun W => qbin_xor x y W hx hy))
  by_cases h8 : op = ⟨#[60, 60]⟩
  · subst h8
    exact binaryLaw_low _ x y _ _ w (Lib.hid (fun W => by have h := binary_at 8 (by omega) x y _ W (fun V => left_any x y V hx hy); rw [cn_int] at h; exact h)) (Lib.hid (fun W => qbin_left x y W hx hy))
  by_cases h9 : op = ⟨#[62, 62]⟩
  · subst h9
    exact binaryLaw_low _ x y _ _ w (Lib.hid (fun W => by have h := binary_at 9 (by omega) x y _ W (fun V => right_any x y V hx hy); rw [cn_int] at h; exact h)) (Lib.hid (fun W => qbin_right x y W hx hy))
  by_cases h10 : op = ⟨#[62, 62, 62]⟩
  · subst h10
    exact binaryLaw_low _ x y _ _ w (Lib.hid (fun W => by have h := binary_at 10 (by omega) x y _ W (fun V => unsigned_any x y V hx hy); rw [cn_int] at h; exact h)) (Lib.hid (fun W => qbin_unsigned x y W hx hy))
  refine binaryLaw_low _ x y 0 1 w (Lib.hid (fun W => binary_none op (fun k hk => ?_) x y W)) (Lib.hid (fun W => (qbin_none op x y W ?_ ?_ ?_ ?_ ?_ ?_ ?_ ?_ ?_ ?_ ?_).mono fun e w' ⟨a, b⟩ => ⟨a, by subst b; exact Below.refl _ _⟩))
  · match k, hk with
    | 0, _ => exact str_ne (Ne.symm h0)
    | 1, _ => exact str_ne (Ne.symm h1)
    | 2, _ => exact str_ne (Ne.symm h2)
    | 3, _ => exact str_ne (Ne.symm h3)
    | 4, _ => exact str_ne (Ne.symm h4)
    | 5, _ => exact str_ne (Ne.symm h5)
    | 6, _ => exact str_ne (Ne.symm h6)
    | 7, _ => exact str_ne (Ne.symm h7)
    | 8, _ => exact str_ne (Ne.symm h8)
    | 9, _ => exact str_ne (Ne.symm h9)
    | 10, _ => exact str_ne (Ne.symm h10)
  · have := str_ne h0; rwa [ByteArray.toList_mk [43]] at this
  · have := str_ne h1; rwa [ByteArray.toList_mk [45]] at this
  · have := str_ne h2; rwa [ByteArray.toList_mk [42]] at this
  · have := str_ne h3; rwa [ByteArray.toList_mk [47]] at this
  · have := str_ne h4; rwa [ByteArray.toList_mk [37]] at this
  · have := str_ne h8; rwa [ByteArray.toList_mk [60, 60]] at this
  · have := str_ne h9; rwa [ByteArray.toList_mk [62, 62]] at this
  · have := str_ne h10; rwa [ByteArray.toList_mk [62, 62, 62]] at this
  · have := str_ne h5; rwa [ByteArray.toList_mk [38]] at this
  · have := str_ne h6; rwa [ByteArray.toList_mk [124]] at this
  · have := str_ne h7; rwa [ByteArray.toList_mk [94]] at this
end Go.Proofs.Ytacmbbjmcdbcnaa
