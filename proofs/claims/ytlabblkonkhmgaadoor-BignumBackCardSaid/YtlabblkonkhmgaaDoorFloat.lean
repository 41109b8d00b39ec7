/-
  Contract of Float of the program.
-/
import Derived.Test.YtlabblkonkhmgaaDoorRShr
import Derived.Test.YtlabblkonkhmgaaDoorWordN
import Derived.Test.YtlabblkonkhmgaaDoorLdexp
namespace Go.Proofs.YtlabblkonkhmgaaDoor
open Go.RowKit
theorem get_zero {l : List Nat} (h : Ws l) : l.getD 0 0 = val l % 4294967296 := by
  cases l with
  | nil => rfl
  | cons a r =>
    have := h.getD 0
    simp only [List.getD_cons_zero] at this ⊢
    simp only [val]
    omega
theorem get_one {l : List Nat} (h : Ws l) : l.getD 1 0 = val l / 4294967296 % 4294967296 := by
  cases l with
  | nil => rfl
  | cons a r =>
    have h0 := h.getD 0
    have h1 := get_zero (l := r) (fun x hx => h x (List.mem_cons_of_mem _ hx))
    simp only [List.getD_cons_zero] at h0
    simp only [List.getD_cons_succ, val]
    omega
theorem fl_pos {N : Nat} (h : 0 < N) (hN : N < 2 ^ 65) : 4503599627370496 ≤ fl N ∧ fl N < 9218868437227405312 := by
  obtain ⟨a1, a2⟩ := log2_two N h
  have hL : N.log2 < 65 := by
    have : 2 ^ N.log2 < 2 ^ 65 := Nat.lt_of_le_of_lt a1 hN
    exact (Nat.pow_lt_pow_iff_right (a := 2) (by omega)).1 this
  rcases Nat.lt_or_ge N.log2 52 with h1 | h1
  · rw [fl_low a1 a2 (by omega)]
    have h3 : N * 2 ^ (52 - N.log2) < 9007199254740992 := by
      have : N * 2 ^ (52 - N.log2) < 2 ^ (N.log2 + 1) * 2 ^ (52 - N.log2) := Nat.mul_lt_mul_of_pos_right a2 (Nat.two_pow_pos _)
      rw [← Nat.pow_add, show N.log2 + 1 + (52 - N.log2) = 53 by omega] at this
      exact this
    omega
  · obtain ⟨r1, r2⟩ := evn_range a1 a2 h1
    rw [fl_high a1 a2 h1]
    omega
/-- The double of a natural is that of its highest 64 bits, scaled. -/
theorem fl_top64 {v n : Nat} (h1 : 2 ^ (n - 1) ≤ v) (h2 : v < 2 ^ n) (h0 : 0 < n) : stk v (n - 64) < 18446744073709551616 ∧ 0 < stk v (n - 64) ∧ fl v = scl (fl (stk v (n - 64))) (n - 64) := by
  rcases Nat.lt_or_ge 64 n with h | h
  · obtain ⟨b, rfl⟩ : ∃ b, n = 64 + b := ⟨n - 64, by omega⟩
    have a1 : 2 ^ (63 + b) ≤ v := by rw [show 63 + b = 64 + b - 1 by omega]; exact h1
    have a2 : v < 2 ^ (63 + b + 1) := by rw [show 63 + b + 1 = 64 + b by omega]; exact h2
    rw [Nat.add_sub_cancel_left]
    obtain ⟨s1, s2⟩ := stk_range a1 a2
    have := Nat.two_pow_pos 63
    exact ⟨s2, by omega, fl_stk a1 a2⟩
  · rw [show n - 64 = 0 by omega]
    have e : stk v 0 = v := by unfold stk; rw [Nat.pow_zero, Nat.mod_one, if_pos rfl, Nat.div_one]
    have hv : v < 2 ^ 64 := Nat.lt_of_lt_of_le h2 (Nat.pow_le_pow_right (by omega) h)
    have hp := Nat.two_pow_pos (n - 1)
    have hf := fl_pos (N := v) (by omega) (Nat.lt_of_lt_of_le hv (by decide))
    rw [e, scl_zero hf.2]
    exact ⟨hv, by omega, rfl⟩
theorem or_one64 (x : Nat) (hx : x < 18446744073709551616) : bits BinOp.or IntKind.u64 (x : Int) 1 = ((x / 2 * 2 + 1 : Nat) : Int) := by
  have h := or_u64 x 1 hx (by omega)
  rw [show ((1 : Nat) : Int) = 1 from rfl] at h
  rw [h]
  have e : x ||| 1 = x / 2 * 2 + 1 := by
    have h1 : x = 2 * (x / 2) + x % 2 := by omega
    have h2 := Nat.two_pow_add_eq_or_of_lt (i := 1) (b := 1) (by omega) (x / 2)
    rcases Nat.mod_two_eq_zero_or_one x with h3 | h3
    · rw [h3, Nat.add_zero] at h1
      rw [Nat.pow_one] at h2
      rw [← h1] at h2
      omega
    · have h4 := Nat.two_pow_add_eq_or_of_lt (i := 1) (b := 1) (by omega) (x / 2)
      rw [Nat.pow_one] at h4
      have h5 : x = 2 * (x / 2) ||| 1 := by rw [← h4]; omega
      rw [h5, Nat.or_assoc, Nat.or_self, ← h5]
      omega
  rw [e]
theorem join64 (y z : Nat) (hy : y < 4294967296) (hz : z < 4294967296) : bits BinOp.or IntKind.u64 (IntKind.u64.wrap ((y : Int) * 4294967296)) (z : Int) = ((z + y * 4294967296 : Nat) : Int) := by
  have e : IntKind.u64.wrap ((y : Int) * 4294967296) = ((y * 4294967296 : Nat) : Int) := by rw [IntKind.wrap_u64]; omega
  rw [e, or_u64 (y * 4294967296) z (by omega) (by omega)]
  have := Nat.two_pow_add_eq_or_of_lt (i := 32) (b := z) hz y
  rw [show y * 4294967296 = 2 ^ 32 * y by rw [Nat.mul_comm], ← this, Nat.add_comm]
set_option maxHeartbeats 1000000 in
theorem pfloat_top (A : Option Addr) (n c : Nat) (l : List Nat) (w : World) (hn : l.length = n) (hc : n ≤ c) (hm : n ≤ 35184372087808) (h : RW w w.heap.size A l) (hb : 1024 < btl l) :
    Calls Tryd.prog 16 #[.slice A n c] w fun e w' => e = .returned (.float .f64 (fl (val l))) ∧ Below w.heap.size w w' := by
  have C1 := Lib.hid (bits_any A n c l w.heap.size w hn hc (by omega) h)
  have C2 := Lib.hid (fun W => inf1_any W)
  have h0 : nrm l ≠ [] := by intro e; unfold btl at hb; rw [if_pos e] at hb; omega
  obtain ⟨b1, b2, b3⟩ := btl_bounds h.1 h0
  obtain ⟨K, hK⟩ : ∃ K, K = 1024 := ⟨_, rfl⟩
  have hf : fl (val l) = 9218868437227405312 := fl_top K hK (Nat.le_trans (Nat.pow_le_pow_right (by omega) (by omega)) b1)
  rw [hf]
  obtain ⟨m, hm2⟩ : ∃ m, btl l = m := ⟨_, rfl⟩
  rw [hm2] at C1 hb
  have t1 : (1024 : Int) < (m : Int) := by omega
  clear hn hc hm h h0 b1 b2 b3 hK hf hm2 hb
  go_enter Tryd.func16, Tryd.ntmps16
  go_wp2_with fail
  refine C1.out.mono ?_
  rintro e w' ⟨rfl, rfl⟩
  go_wp2_with fail
  refine (C2.out _).mono ?_
  rintro e w' ⟨rfl, rfl⟩
  go_wp2
  go_ret
  exact ⟨rfl, Below.refl _ _⟩
set_option maxRecDepth 100000 in
set_option maxHeartbeats 1000000 in
theorem pfloat_ok (A : Option Addr) (n c : Nat) (l : List Nat) (w : World) (hn : l.length = n) (hc : n ≤ c) (hm : n ≤ 35184372087808) (h : RW w w.heap.size A l) (hb : btl l ≤ 1024) :
    Calls Tryd.prog 16 #[.slice A n c] w fun e w' => e = .returned (.float .f64 (fl (val l))) ∧ Below w.heap.size w w' := by
  have C1 := Lib.hid (bits_any A n c l w.heap.size w hn hc (by omega) h)
  have C2 := Lib.hid (pshr_any A n c ((btl l - 64 : Nat) : Int) l w hn hc hm h)
  rw [Int.toNat_natCast] at C2
  obtain ⟨v, hv⟩ : ∃ v, val l = v := ⟨_, rfl⟩
  -- what is told of the number
  have hT : stk v (btl l - 64) < 18446744073709551616 ∧ (∀ W, Calls Tryd.prog 47 #[.float .f64 (fl (stk v (btl l - 64))), .int .i64 (btl l - 64 : Nat)] W fun e w' => e = .returned (.float .f64 (fl v)) ∧ W = w') := by
    by_cases h0 : nrm l = []
    · have e1 : btl l = 0 := by unfold btl; rw [if_pos h0]
      have e2 : v = 0 := by rw [← hv, ← val_nrm, h0]; rfl
      rw [e1, e2]
      have e3 : stk 0 (0 - 64) = 0 := by decide
      rw [e3, fl_zero]
      exact ⟨by omega, fun W => ldexp_zero _ W⟩
    · obtain ⟨b1, b2, b3⟩ := btl_bounds h.1 h0
      rw [hv] at b1 b2
      obtain ⟨s1, s2, s3⟩ := fl_top64 b1 b2 b3
      have hf := fl_pos s2 (Nat.lt_trans s1 (by decide))
      refine ⟨s1, fun W => ?_⟩
      rw [s3]
      exact ldexp_any _ _ W hf.1 hf.2 (by omega)
  rw [hv] at C2 ⊢
  obtain ⟨m, hm2⟩ : ∃ m, btl l = m := ⟨_, rfl⟩
  rw [hm2] at C1 C2 hT hb
  obtain ⟨b, hb2⟩ : ∃ b, m - 64 = b := ⟨_, rfl⟩
  rw [hb2] at C2 hT
  obtain ⟨u, hu⟩ : ∃ u, fl v = u := ⟨_, rfl⟩
  rw [hu] at hT ⊢
  obtain ⟨hlt, hL⟩ := hT
  have C4 := Lib.hid hL
  have HST : Hid (stk v b < 18446744073709551616) := Lib.hid hlt
  have t1 : decide ((1024 : Int) < (m : Int)) = false := decide_eq_false (by omega)
  have k1 : IntKind.i64.wrap ((m : Int) - 64) = (m : Int) - 64 := IntWalk.i64_in _ (by omega)
  have k2 : max ((m : Int) - 64) 0 = (b : Int) := by omega
  clear hn hc hm h hb hv hm2 hb2 hlt hL hu
  go_enter Tryd.func16, Tryd.ntmps16
  go_wp2_with fail
  refine C1.out.mono ?_
  rintro e w' ⟨rfl, rfl⟩
  go_wp2_with fail
  refine C2.out.mono ?_
  rintro e w2 ⟨A2, n2, c2, he, hn2, hc2, r2, hb2⟩
  obtain ⟨H, hH⟩ : ∃ H, v / 2 ^ b = H := ⟨_, rfl⟩
  obtain ⟨lb, hlb⟩ : ∃ lb, decide (v % 2 ^ b ≠ 0) = lb := ⟨_, rfl⟩
  have hs : stk v b = if lb = true then H / 2 * 2 + 1 else H := by
    unfold stk
    rw [hH, ← hlb]
    by_cases h0 : v % 2 ^ b = 0
    · simp [h0]
    · simp [h0]
  rw [hH] at hn2 r2
  rw [hlb] at he
  subst he
  rw [hs] at C4
  have hHl : H < 18446744073709551616 := by
    have := HST.out
    rw [hs] at this
    split at this <;> omega
  have hn22 : n2 ≤ 2 := by
    have := nrm_len (two H)
    rw [two_wds' H hHl, ← hn2] at this
    exact this
  have W1 := Lib.hid (fun W (hW : Below w2.heap.size w2 W) => show Calls Tryd.prog 46 #[.slice A2 n2 c2, .int .i64 1] W fun e w' => e = .returned (.int .u32 (H / 4294967296 : Nat)) ∧ W = w' from by
    have := word_nat A2 n2 c2 1 (wds H) w2.heap.size W hn2.symm (by omega) (r2.below hW)
    rw [get_one (wds_ws H), wds_val, Nat.mod_eq_of_lt (by omega)] at this
    exact this)
  have W0 := Lib.hid (fun W (hW : Below w2.heap.size w2 W) => show Calls Tryd.prog 46 #[.slice A2 n2 c2, .int .i64 0] W fun e w' => e = .returned (.int .u32 (H % 4294967296 : Nat)) ∧ W = w' from by
    have := word_nat A2 n2 c2 0 (wds H) w2.heap.size W hn2.symm (by omega) (r2.below hW)
    rw [get_zero (wds_ws H), wds_val] at this
    exact this)
  have hj := join64 (H / 4294967296) (H % 4294967296) (by omega) (by omega)
  rw [show H % 4294967296 + H / 4294967296 * 4294967296 = H by omega] at hj
  have ho := or_one64 H hHl
  have hy := show H / 4294967296 < 4294967296 by omega
  have hz := show H % 4294967296 < 4294967296 by omega
  obtain ⟨y, hyy⟩ : ∃ y, H / 4294967296 = y := ⟨_, rfl⟩
  obtain ⟨z, hzz⟩ : ∃ z, H % 4294967296 = z := ⟨_, rfl⟩
  rw [hyy] at W1 hj hy
  rw [hzz] at W0 hj hz
  have y1 : IntKind.u64.wrap (y : Int) = (y : Int) := by rw [IntKind.wrap_u64]; omega
  have z1 : IntKind.u64.wrap (z : Int) = (z : Int) := by rw [IntKind.wrap_u64]; omega
  have HB := Lib.hid hb2
  have hbd := Below.refl w2.heap.size w2
  clear hyy hzz hy hz hH hlb hs hHl hn2 hn22 hc2 r2 hb2 HST C1 C2 t1 k1 k2
  cases lb
  · rw [if_neg (by decide)] at C4
    clear ho
    go_wp2_with (first
      | (go_at_call 46; (with_reducible refine (W1.out _ ?_).mono ?_); exact hbd; rintro e w' ⟨rfl, rfl⟩)
      | (go_at_call 46; (with_reducible refine (W0.out _ ?_).mono ?_); exact hbd; rintro e w' ⟨rfl, rfl⟩)
      | fail)
    refine (C4.out _).mono ?_
    rintro e w' ⟨rfl, rfl⟩
    go_wp2
    go_ret
    exact ⟨rfl, HB.out⟩
  · rw [if_pos rfl] at C4
    go_wp2_with (first
      | (go_at_call 46; (with_reducible refine (W1.out _ ?_).mono ?_); exact hbd; rintro e w' ⟨rfl, rfl⟩)
      | (go_at_call 46; (with_reducible refine (W0.out _ ?_).mono ?_); exact hbd; rintro e w' ⟨rfl, rfl⟩)
      | fail)
    refine (C4.out _).mono ?_
    rintro e w' ⟨rfl, rfl⟩
    go_wp2
    go_ret
    exact ⟨rfl, HB.out⟩
theorem pfloat_any (A : Option Addr) (n c : Nat) (l : List Nat) (w : World) (hn : l.length = n) (hc : n ≤ c) (hm : n ≤ 35184372087808) (h : RW w w.heap.size A l) :
    Calls Tryd.prog 16 #[.slice A n c] w fun e w' => e = .returned (.float .f64 (fl (val l))) ∧ Below w.heap.size w w' := by
  by_cases hb : 1024 < btl l
  · exact pfloat_top A n c l w hn hc hm h hb
  · exact pfloat_ok A n c l w hn hc hm h (by omega)
end Go.Proofs.YtlabblkonkhmgaaDoor
