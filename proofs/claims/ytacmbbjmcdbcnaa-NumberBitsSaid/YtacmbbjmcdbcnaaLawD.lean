/-
  The law NumberBits.
-/
import Derived.Test.YtacmbbjmcdbcnaaShf
namespace Go.Proofs.Ytacmbbjmcdbcnaa
open Go.RowKit
theorem u32V_shift : u32V 4629700416936869888 % 32 = 0 := by decide +kernel
theorem bits_and (a b : Int) (ha1 : -2147483648 ≤ a) (ha2 : a < 2147483648) (hb1 : -2147483648 ≤ b) (hb2 : b < 2147483648) (w : World) :
    Calls Try.prog 26 #[.string ⟨#[38]⟩, .float .f64 (floatOfInt .f64 a), .float .f64 (floatOfInt .f64 b)] w fun e w' => e = .returned (.tuple #[.float .f64 (floatOfInt .f64 (bits BinOp.and IntKind.i32 a b)), .int .i64 0]) ∧ Below w.heap.size w w' := by
  have h := binary_at 5 (by omega) _ _ _ w (fun W => and_any (floatOfInt .f64 a) (floatOfInt .f64 b) W (fint_real a).2 (fint_real b).2)
  rw [i32V_int ha1 ha2, i32V_int hb1 hb2, cn_real (fint_real _).1] at h
  exact h
theorem bits_or (a b : Int) (ha1 : -2147483648 ≤ a) (ha2 : a < 2147483648) (hb1 : -2147483648 ≤ b) (hb2 : b < 2147483648) (w : World) :
    Calls Try.prog 26 #[.string ⟨#[124]⟩, .float .f64 (floatOfInt .f64 a), .float .f64 (floatOfInt .f64 b)] w fun e w' => e = .returned (.tuple #[.float .f64 (floatOfInt .f64 (bits BinOp.or IntKind.i32 a b)), .int .i64 0]) ∧ Below w.heap.size w w' := by
  have h := binary_at 6 (by omega) _ _ _ w (fun W => or_any (floatOfInt .f64 a) (floatOfInt .f64 b) W (fint_real a).2 (fint_real b).2)
  rw [i32V_int ha1 ha2, i32V_int hb1 hb2, cn_real (fint_real _).1] at h
  exact h
theorem bits_xor (a b : Int) (ha1 : -2147483648 ≤ a) (ha2 : a < 2147483648) (hb1 : -2147483648 ≤ b) (hb2 : b < 2147483648) (w : World) :
    Calls Try.prog 26 #[.string ⟨#[94]⟩, .float .f64 (floatOfInt .f64 a), .float .f64 (floatOfInt .f64 b)] w fun e w' => e = .returned (.tuple #[.float .f64 (floatOfInt .f64 (bits BinOp.xor IntKind.i32 a b)), .int .i64 0]) ∧ Below w.heap.size w w' := by
  have h := binary_at 7 (by omega) _ _ _ w (fun W => xor_any (floatOfInt .f64 a) (floatOfInt .f64 b) W (fint_real a).2 (fint_real b).2)
  rw [i32V_int ha1 ha2, i32V_int hb1 hb2, cn_real (fint_real _).1] at h
  exact h
theorem bits_up (a : Int) (ha1 : -2147483648 ≤ a) (ha2 : a < 2147483648) (w : World) :
    Calls Try.prog 26 #[.string ⟨#[60, 60]⟩, .float .f64 (floatOfInt .f64 a), .float .f64 4629700416936869888] w fun e w' => e = .returned (.tuple #[.float .f64 (floatOfInt .f64 a), .int .i64 0]) ∧ Below w.heap.size w w' := by
  have h := binary_at 8 (by omega) _ _ _ w (fun W => left_any (floatOfInt .f64 a) 4629700416936869888 W (fint_real a).2 (by omega))
  rw [i32V_int ha1 ha2, u32V_shift, cn_real (fint_real _).1] at h
  have e : IntKind.i32.wrap (a * 2 ^ min 0 32) = a := by
    rw [show min 0 32 = 0 by rfl, IntKind.wrap_i32]
    simp
    omega
  rw [e] at h
  exact h
theorem bits_not (a : Int) (ha1 : -2147483648 ≤ a) (ha2 : a < 2147483648) (w : World) :
    Calls Try.prog 28 #[.string ⟨#[126]⟩, .float .f64 (floatOfInt .f64 a)] w fun e w' => e = .returned (.tuple #[.float .f64 (floatOfInt .f64 (bits BinOp.xor IntKind.i32 (-1) a)), .int .i64 0]) ∧ Below w.heap.size w w' := by
  have h := nunary_any 2 (floatOfInt .f64 a) (by omega) w (fint_real a).2
  have h1 : unR 2 (floatOfInt .f64 a) = notV (floatOfInt .f64 a) := by unfold unR; rw [if_neg (by omega), if_neg (by omega)]
  rw [h1, notV_eq, i32V_int ha1 ha2, cn_real (fint_real _).1] at h
  exact h
theorem self_eq {v : Nat} (h : fnan v = false) : (FloatKind.f64.format.order v v == some .eq) = true := oeq_of h h rfl
set_option maxRecDepth 100000 in
set_option maxHeartbeats 1000000 in
theorem bits_any (a b : Int) (x : Nat) (w : World) (ha1 : -2147483648 ≤ a) (ha2 : a < 2147483648) (hb1 : -2147483648 ≤ b) (hb2 : b < 2147483648) (hx : x < 18446744073709551616) :
    Calls Try.prog 9 #[.int .i32 a, .int .i32 b, .float .f64 x] w fun e w' => e = .returned (.bool true) ∧ Below w.heap.size w w' := by
  have K1 := Lib.hid (fun W => bits_and a b ha1 ha2 hb1 hb2 W)
  have K2 := Lib.hid (fun W => bits_or a b ha1 ha2 hb1 hb2 W)
  have K3 := Lib.hid (fun W => bits_xor a b ha1 ha2 hb1 hb2 W)
  have K4 := Lib.hid (fun W => bits_not a ha1 ha2 W)
  have K5 := Lib.hid (fun W => bits_up a ha1 ha2 W)
  have K6 := Lib.hid (fun W => nu32_any x W hx)
  have K7 := Lib.hid (fun W => ni32_any x W hx)
  have K8 := Lib.hid (fun W => ni32_any (floatOfInt .f64 a) W (fint_real a).2)
  rw [i32V_int ha1 ha2] at K8
  have hu0 : IntKind.u32.wrap a = a % 4294967296 := IntKind.wrap_u32 a
  obtain ⟨u, hu⟩ : ∃ u, a % 4294967296 = u := ⟨_, rfl⟩
  rw [hu] at hu0
  obtain ⟨v1, v2⟩ := i32V_u32 (u := u) (by omega) (by omega)
  have K9 := Lib.hid (fun W => ni32_any (floatOfInt .f64 u) W (fint_real u).2)
  rw [v1, show wrap32 u = a by unfold wrap32; omega] at K9
  have K10 := Lib.hid (fun W => nu32_any (floatOfInt .f64 u) W (fint_real u).2)
  rw [v2] at K10
  have CA := Lib.hid (fun W => awake_any W)
  have hw : wrap32 (u32V x : Nat) = i32V x := rfl
  have t1 := self_eq (fint_real (bits BinOp.and IntKind.i32 a b)).1
  have t2 := self_eq (fint_real (bits BinOp.or IntKind.i32 a b)).1
  have t3 := self_eq (fint_real (bits BinOp.xor IntKind.i32 a b)).1
  have t4 := self_eq (fint_real (bits BinOp.xor IntKind.i32 (-1) a)).1
  have t5 := self_eq (fint_real a).1
  obtain ⟨n1, e1⟩ : ∃ n, bits BinOp.and IntKind.i32 a b = n := ⟨_, rfl⟩
  obtain ⟨n2, e2⟩ : ∃ n, bits BinOp.or IntKind.i32 a b = n := ⟨_, rfl⟩
  obtain ⟨n3, e3⟩ : ∃ n, bits BinOp.xor IntKind.i32 a b = n := ⟨_, rfl⟩
  obtain ⟨n4, e4⟩ : ∃ n, bits BinOp.xor IntKind.i32 (-1) a = n := ⟨_, rfl⟩
  rw [e1] at K1 t1
  rw [e2] at K2 t2
  rw [e3] at K3 t3
  rw [e4] at K4 t4
  obtain ⟨r1, f1⟩ : ∃ r, floatOfInt .f64 n1 = r := ⟨_, rfl⟩
  obtain ⟨r2, f2⟩ : ∃ r, floatOfInt .f64 n2 = r := ⟨_, rfl⟩
  obtain ⟨r3, f3⟩ : ∃ r, floatOfInt .f64 n3 = r := ⟨_, rfl⟩
  obtain ⟨r4, f4⟩ : ∃ r, floatOfInt .f64 n4 = r := ⟨_, rfl⟩
  obtain ⟨fa, f5⟩ : ∃ r, floatOfInt .f64 a = r := ⟨_, rfl⟩
  obtain ⟨fb, f6⟩ : ∃ r, floatOfInt .f64 b = r := ⟨_, rfl⟩
  obtain ⟨fu, f7⟩ : ∃ r, floatOfInt .f64 u = r := ⟨_, rfl⟩
  rw [f1] at K1 t1
  rw [f2] at K2 t2
  rw [f3] at K3 t3
  rw [f4] at K4 t4
  rw [f5] at K1 K2 K3 K4 K5 K8 t5
  rw [f6] at K1 K2 K3
  rw [f7] at K9 K10
  obtain ⟨ux, hux⟩ : ∃ n, u32V x = n := ⟨_, rfl⟩
  obtain ⟨ix, hix⟩ : ∃ n, i32V x = n := ⟨_, rfl⟩
  rw [hux] at K6 hw
  rw [hix] at K7 hw
  have hsg : IntKind.i32.signed = true := rfl
  clear ha1 ha2 hb1 hb2 hx v1 v2 hux hix
  go_enter Try.func9, Try.ntmps9
  go_wp2_with fail
  refine (K1.out _).mono ?_
  rintro e w1 ⟨rfl, b1⟩
  go_wp2_with fail
  refine (K2.out _).mono ?_
  rintro e w2 ⟨rfl, b2⟩
  have B2 := below_le b1 b2
  go_wp2_with fail
  refine (K3.out _).mono ?_
  rintro e w3 ⟨rfl, b3⟩
  have B3 := below_le B2 b3
  go_wp2_with fail
  refine (K4.out _).mono ?_
  rintro e w4 ⟨rfl, b4⟩
  have B4 := below_le B3 b4
  go_wp2_with fail
  refine (K5.out _).mono ?_
  rintro e w5 ⟨rfl, b5⟩
  have B5 := below_le B4 b5
  clear b1 b2 b3 b4 b5 B2 B3 B4
  go_wp2_with fail
  refine (K6.out _).mono ?_
  rintro e w' ⟨rfl, rfl⟩
  go_wp2_with fail
  refine (K7.out _).mono ?_
  rintro e w' ⟨rfl, rfl⟩
  go_wp2_with fail
  refine (K8.out _).mono ?_
  rintro e w' ⟨rfl, rfl⟩
  go_wp2_with fail
  refine (K9.out _).mono ?_
  rintro e w' ⟨rfl, rfl⟩
  go_wp2_with fail
  refine (K10.out _).mono ?_
  rintro e w' ⟨rfl, rfl⟩
  go_wp2_with fail
  refine (CA.out _).mono ?_
  rintro e w6 ⟨rfl, b6⟩
  have B6 := below_le B5 b6
  go_wp2
  go_ret
  exact ⟨rfl, B6⟩
end Go.Proofs.Ytacmbbjmcdbcnaa
