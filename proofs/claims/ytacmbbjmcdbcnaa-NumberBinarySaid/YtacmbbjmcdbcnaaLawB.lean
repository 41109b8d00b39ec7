/-
  The methods of two numbers that go by bits; the law NumberBits.
-/
import Derived.Test.YtacmbbjmcdbcnaaSing
import Derived.Test.YtacmbbjmcdbcnaaLawN
import Derived.Test.YtacmbbjmcdbcnaaRC
namespace Go.Proofs.Ytacmbbjmcdbcnaa
open Go.RowKit
theorem trn_fl {N : Nat} (h : N < 9007199254740992) : trn (fl N) = N := by
  obtain ⟨K, hK⟩ : ∃ K : Nat, K = 1074 := ⟨_, rfl⟩
  rw [trn_eq hK, (fmag_fl h hK).1, Nat.mul_div_cancel _ (Nat.two_pow_pos K)]
theorem u32V_int {n : Int} (h1 : -9007199254740992 < n) (h2 : n < 9007199254740992) : (u32V (floatOfInt .f64 n) : Int) = n % 4294967296 := by
  obtain ⟨K, hK⟩ : ∃ K : Nat, K = 1074 := ⟨_, rfl⟩
  have h3 := near_int h1 h2
  have h4 := (fmag_fl (N := n.natAbs) (by omega) hK).2
  obtain ⟨a, b, _⟩ := word_rung (decide (n < 0)) (r := fl n.natAbs) (by omega)
  rw [show floatOfInt .f64 n = FloatKind.f64.nearest n from rfl, h3]
  unfold u32V
  have e1 : fnan (Ieee.double.word (decide (n < 0)) (fl n.natAbs)) = false := fnan_fin _ h4
  have e2 : finf (Ieee.double.word (decide (n < 0)) (fl n.natAbs)) = false := by unfold finf; rw [a]; exact decide_eq_false (by omega)
  rw [e1, e2, if_neg (by simp), a, b, trn_fl (by omega)]
  by_cases hn : n < 0
  · rw [decide_eq_true hn, if_pos rfl]; omega
  · rw [decide_eq_false hn, if_neg (by simp)]; omega
theorem i32V_int {a : Int} (h1 : -2147483648 ≤ a) (h2 : a < 2147483648) : i32V (floatOfInt .f64 a) = a := by
  unfold i32V
  rw [u32V_int (by omega) (by omega)]
  unfold wrap32
  omega
theorem i32V_u32 {u : Int} (h1 : 0 ≤ u) (h2 : u < 4294967296) : i32V (floatOfInt .f64 u) = wrap32 u ∧ (u32V (floatOfInt .f64 u) : Int) = u := by
  have h3 := u32V_int (n := u) (by omega) (by omega)
  unfold i32V
  rw [h3]
  exact ⟨by rw [show u % 4294967296 = u by omega], by omega⟩
set_option maxRecDepth 100000 in
theorem and_any (x y : Nat) (w : World) (hx : x < 18446744073709551616) (hy : y < 18446744073709551616) : Calls Try.prog 86 #[.agg #[.float .f64 x, .float .f64 y]] w fun e w' => e = .returned (.float .f64 (floatOfInt .f64 (bits BinOp.and IntKind.i32 (i32V x) (i32V y)))) ∧ Below w.heap.size w w' := by
  have C1 := Lib.hid (fun W => ni32_any x W hx)
  have C2 := Lib.hid (fun W => ni32_any y W hy)
  have HB := Lib.hid (Below.alloc (Below.refl w.heap.size w) (Nat.le_refl _) (.cells #[.float .f64 x, .float .f64 y] 66))
  obtain ⟨i, hi⟩ : ∃ i, i32V x = i := ⟨_, rfl⟩
  obtain ⟨j, hj⟩ : ∃ j, i32V y = j := ⟨_, rfl⟩
  rw [hi] at C1 ⊢
  rw [hj] at C2 ⊢
  clear hx hy hi hj
  go_enter Try.func86, Try.ntmps86
  go_wp2
  go_quiet (first | (go_at_call 17; with_reducible exact quiet_eq (C1.out _)) | (go_at_call 17; with_reducible exact quiet_eq (C2.out _)))
  go_wp2
  go_ret
  exact ⟨rfl, below_drewN' HB.out _⟩
set_option maxRecDepth 100000 in
theorem or_any (x y : Nat) (w : World) (hx : x < 18446744073709551616) (hy : y < 18446744073709551616) : Calls Try.prog 87 #[.agg #[.float .f64 x, .float .f64 y]] w fun e w' => e = .returned (.float .f64 (floatOfInt .f64 (bits BinOp.or IntKind.i32 (i32V x) (i32V y)))) ∧ Below w.heap.size w w' := by
  have C1 := Lib.hid (fun W => ni32_any x W hx)
  have C2 := Lib.hid (fun W => ni32_any y W hy)
  have HB := Lib.hid (Below.alloc (Below.refl w.heap.size w) (Nat.le_refl _) (.cells #[.float .f64 x, .float .f64 y] 66))
  obtain ⟨i, hi⟩ : ∃ i, i32V x = i := ⟨_, rfl⟩
  obtain ⟨j, hj⟩ : ∃ j, i32V y = j := ⟨_, rfl⟩
  rw [hi] at C1 ⊢
  rw [hj] at C2 ⊢
  clear hx hy hi hj
  go_enter Try.func87, Try.ntmps87
  go_wp2
  go_quiet (first | (go_at_call 17; with_reducible exact quiet_eq (C1.out _)) | (go_at_call 17; with_reducible exact quiet_eq (C2.out _)))
  go_wp2
  go_ret
  exact ⟨rfl, below_drewN' HB.out _⟩
set_option maxRecDepth 100000 in
theorem xor_any (x y : Nat) (w : World) (hx : x < 18446744073709551616) (hy : y < 18446744073709551616) : Calls Try.prog 88 #[.agg #[.float .f64 x, .float .f64 y]] w fun e w' => e = .returned (.float .f64 (floatOfInt .f64 (bits BinOp.xor IntKind.i32 (i32V x) (i32V y)))) ∧ Below w.heap.size w w' := by
  have C1 := Lib.hid (fun W => ni32_any x W hx)
  have C2 := Lib.hid (fun W => ni32_any y W hy)
  have HB := Lib.hid (Below.alloc (Below.refl w.heap.size w) (Nat.le_refl _) (.cells #[.float .f64 x, .float .f64 y] 66))
  obtain ⟨i, hi⟩ : ∃ i, i32V x = i := ⟨_, rfl⟩
  obtain ⟨j, hj⟩ : ∃ j, i32V y = j := ⟨_, rfl⟩
  rw [hi] at C1 ⊢
  rw [hj] at C2 ⊢
  clear hx hy hi hj
  go_enter Try.func88, Try.ntmps88
  go_wp2
  go_quiet (first | (go_at_call 17; with_reducible exact quiet_eq (C1.out _)) | (go_at_call 17; with_reducible exact quiet_eq (C2.out _)))
  go_wp2
  go_ret
  exact ⟨rfl, below_drewN' HB.out _⟩
theorem places_any (x y : Nat) (w : World) (hy : y < 18446744073709551616) : Calls Try.prog 107 #[.agg #[.float .f64 x, .float .f64 y]] w fun e w' => e = .returned (.int .u32 ((u32V y % 32 : Nat) : Int)) ∧ Below w.heap.size w w' := by
  have C1 := Lib.hid (fun W => nu32_any y W hy)
  have HB := Lib.hid (Below.alloc (Below.refl w.heap.size w) (Nat.le_refl _) (.cells #[.float .f64 x, .float .f64 y] 66))
  have hv := u32V_lt y
  obtain ⟨v, hvv⟩ : ∃ v, u32V y = v := ⟨_, rfl⟩
  rw [hvv] at C1 hv ⊢
  have k1 : (v : Int) % 32 = ((v % 32 : Nat) : Int) := by omega
  have HK := Lib.hid k1
  have HV := Lib.hid hv
  clear hy hvv k1 hv
  go_enter Try.func107, Try.ntmps107
  go_wp2_with fail
  refine (C1.out _).mono ?_
  rintro e w' ⟨rfl, rfl⟩
  go_wp2
  go_ret
  exact ⟨congrArg (fun z => Ending.returned (.int .u32 z)) HK.out, HB.out⟩
end Go.Proofs.Ytacmbbjmcdbcnaa
