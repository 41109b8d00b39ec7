/-
  Contract of Near of the reference where the answer is exact and of few bits.
-/
import Derived.Test.YtbinpcoaghpcdaaLdn
namespace Go.Proofs.Ytbinpcoaghpcdaa
open Go.RowKit
set_option maxHeartbeats 1000000 in
theorem rnear_none (A : Option Addr) (n c : Nat) (ex : Int) (l : List Nat) (w : World) (hn : l.length = n) (hc : n ≤ c) (hm : n ≤ 35184372087808) (h : RW w w.heap.size A l) (hb : btl l = 0) :
    Calls Try.prog 92 #[.slice A n c, .int .i64 ex] w fun e w' => e = .returned (.float .f64 0) ∧ Below w.heap.size w w' := by
  have C1 := Lib.hid (rbits_any A n c l w.heap.size w hn hc (by omega) h)
  rw [hb] at C1
  clear hn hc hm h hb
  go_enter Try.func92, Try.ntmps92
  go_wp2_with fail
  refine C1.out.mono ?_
  rintro e w' ⟨rfl, hbw⟩
  go_wp2
  go_ret
  exact ⟨rfl, hbw⟩
set_option maxRecDepth 100000 in
set_option maxHeartbeats 1000000 in
theorem rnear_in (A : Option Addr) (n c u0 : Nat) (ex : Int) (l : List Nat) (w : World) (hn : l.length = n) (hc : n ≤ c) (hm : n ≤ 35184372087808) (h : RW w w.heap.size A l) (hb : btl l ≤ 53) (hb0 : 0 < btl l) (he1 : -1074 ≤ ex) (he2 : ex ≤ 1023) (htop : (btl l : Int) + ex ≤ 1024) (hcut : ¬ (btl l : Int) - 53 + ex < -1074)
    (C3 : RowKit.Hid (∀ W, Calls Try.prog 40 #[.float .f64 (fl (val l)), .int .i64 ex] W fun e w' => e = .returned (.float .f64 u0) ∧ W = w')) :
    Calls Try.prog 92 #[.slice A n c, .int .i64 ex] w fun e w' => e = .returned (.float .f64 u0) ∧ Below w.heap.size w w' := by
  have C1 := Lib.hid (rbits_any A n c l w.heap.size w hn hc (by omega) h)
  have HWS := Lib.hid h.1
  have h0 : nrm l ≠ [] := by intro e; unfold btl at hb0; rw [if_pos e] at hb0; omega
  obtain ⟨b1, b2, b3⟩ := btl_bounds h.1 h0
  have hv53 : val l < 9007199254740992 := Nat.lt_of_lt_of_le b2 (Nat.le_trans (Nat.pow_le_pow_right (by omega) hb) (by decide))
  have C2 := Lib.hid (fun W (hW : Below w.heap.size w W) => (rnorm_any A n c l W.heap.size W hn hc (by omega) ((h.below hW).more hW.size)).mono (fun e w' x => SlPost.of h.1.nrm x))
  have hnl : (nrm l).length ≤ n := by have := nrm_len l; omega
  have HV : Hid (∀ k, val ((nrm l).drop k) < 9007199254740992) := Lib.hid (fun k => Nat.lt_of_le_of_lt (val_drop_le _ _) (by rw [val_nrm]; exact hv53))
  have HVN : Hid (val (nrm l) = val l) := Lib.hid (val_nrm l)
  obtain ⟨u, hu⟩ : ∃ u, fl (val l) = u := ⟨_, rfl⟩
  rw [hu] at C3
  have HU := Lib.hid hu
  obtain ⟨L, hL⟩ : ∃ L, nrm l = L := ⟨_, rfl⟩
  rw [hL] at C2 HV HVN hnl
  obtain ⟨N, hN⟩ : ∃ N, L.length = N := ⟨_, rfl⟩
  rw [hN] at hnl
  have HN := Lib.hid hN
  obtain ⟨m, hm2⟩ : ∃ m, btl l = m := ⟨_, rfl⟩
  rw [hm2] at C1 hb hb0 htop hcut
  have t0 : ((m : Int) == 0) = false := by rw [beq_eq_false_iff_ne]; omega
  have k1 : IntKind.i64.wrap ((m : Int)) = (m : Int) := IntWalk.i64_in _ (by omega)
  obtain ⟨X1, hX1⟩ : ∃ X1, (m : Int) + ex = X1 := ⟨_, rfl⟩
  obtain ⟨X2, hX2⟩ : ∃ X2, (m : Int) - 53 = X2 := ⟨_, rfl⟩
  obtain ⟨X3, hX3⟩ : ∃ X3, -1074 - ex = X3 := ⟨_, rfl⟩
  obtain ⟨X4, hX4⟩ : ∃ X4, X2 + ex = X4 := ⟨_, rfl⟩
  have k2 : IntKind.i64.wrap ((m : Int) + ex) = X1 := by rw [IntWalk.i64_in _ (by omega)]; exact hX1
  have k3 : IntKind.i64.wrap ((m : Int) - 53) = X2 := by rw [IntWalk.i64_in _ (by omega)]; exact hX2
  have k4 : IntKind.i64.wrap (X2 + ex) = X4 := by rw [IntWalk.i64_in _ (by omega)]; exact hX4
  have k5 : IntKind.i64.wrap (-1074 - ex) = X3 := by rw [IntWalk.i64_in _ (by omega)]; exact hX3
  have t1 : decide ((1024 : Int) < X1) = false := decide_eq_false (by omega)
  have t2 : decide (X4 < -1074) = false := decide_eq_false (by omega)
  have t3 : decide (X2 ≤ 0) = true := decide_eq_true (by omega)
  have t4 : X3 ≤ 0 := by omega
  have hnm : N ≤ 35184372087808 := by omega
  clear hn hc hm h hm2 hb hb0 h0 b1 b2 b3 hv53 hu hL hN hnl HWS he1 he2 htop hX1 hX2 hX3 hX4 hcut
  go_enter Try.func92, Try.ntmps92
  go_wp2_with fail
  refine C1.out.mono ?_
  rintro e w1 ⟨rfl, hbw⟩
  go_wp2_with fail
  refine (C2.out _ hbw).mono ?_
  rintro e w2 ⟨v2, rfl, ⟨A2, c2, rfl, hc2, r2⟩, hb2⟩
  rw [HN.out] at hc2 ⊢
  have HB := Lib.hid (below_le hbw hb2)
  have HR := Lib.hid r2
  have HC2 := Lib.hid hc2
  clear r2 hb2 hbw hc2
  go_wp2
  go_loopw [7, 9] (fun fv iv wr => ∃ (k : Nat), iv = .int .i64 ((k : Int) - 1) ∧ k ≤ N ∧ fv = .float .f64 (fl (val (L.drop k))) ∧ w2 = wr) (fun _ iv _ => (intOf iv + 1).toNat)
  case atStart => exact ⟨N, rfl, Nat.le_refl _, by rw [← HN.out, List.drop_length]; exact congrArg (Value.float .f64) fl_zero.symm, rfl⟩
  case round =>
    obtain ⟨k, rfl, hk, rfl, rfl⟩ := hrel
    by_cases hk0 : k = 0
    · subst hk0
      have e : fl (val (L.drop 0)) = u := by rw [List.drop_zero, HVN.out]; exact HU.out
      rw [e]
      clear e hk C2 C1
      go_wp2_with fail
      refine (C3.out _).mono ?_
      rintro e w' ⟨rfl, rfl⟩
      go_wp2
      go_ret
      exact ⟨rfl, HB.out⟩
    · obtain ⟨j, rfl⟩ : ∃ j, k = j + 1 := ⟨k - 1, by omega⟩
      rw [show (((j + 1 : Nat) : Int) - 1) = (j : Int) by omega]
      obtain ⟨ab, ao, rfl, hab, hca⟩ := HR.out.2 (by have := HN.out; omega)
      have hcl := hca j _ (getD_some (by have := HN.out; omega))
      have hyl := HR.out.1.getD j
      have hnx := val_drop_next (l := L) (k := j) (by have := HN.out; omega)
      have hv1 := HV.out j
      have hv2 := HV.out (j + 1)
      obtain ⟨y, hy⟩ : ∃ y, L.getD j 0 = y := ⟨_, rfl⟩
      rw [hy] at hcl hyl hnx
      have HNX := Lib.hid (show fl (val (L.drop j)) = fl (val (L.drop (j + 1)) * 4294967296 + y) by rw [hnx]; congr 1; omega)
      obtain ⟨x, hx⟩ : ∃ x, val (L.drop (j + 1)) = x := ⟨_, rfl⟩
      rw [hx] at hnx hv2 HNX ⊢
      have e32 : fl 4294967296 = 4751297606875873280 := by
        rw [fl_low (N := 4294967296) (L := 32) (by decide) (by decide) (by decide)]
      have hmul : (binOp BinOp.mul 22 (.float .f64 (fl x)) (.float .f64 4751297606875873280)).run Try.prog w2 = .ok (.float .f64 (fl (x * 4294967296))) w2 := run_float_arith _ _ _ _ _ _ _ (by
        have := fl_mul (a := x) (b := 4294967296) (by omega) (by omega) (by omega)
        rw [e32] at this
        exact this)
      have hadd : (binOp BinOp.add 22 (.float .f64 (fl (x * 4294967296))) (.float .f64 (floatOfInt FloatKind.f64 (y : Int)))).run Try.prog w2 = .ok (.float .f64 (fl (x * 4294967296 + y))) w2 := run_float_arith _ _ _ _ _ _ _ (fl_add (a := x * 4294967296) (b := y) (by omega) (by omega) (by omega))
      have hjn : (j : Int) < (N : Int) := by omega
      have HJ := Lib.hid hk
      clear hk hk0 hab hca hyl hnx hv1 hv2 hy hx e32 C1 C2 C3
      go_wp2
      go_roundw
      case rel => exact ⟨j, by go_num, by have := HJ.out; omega, by rw [HNX.out], trivial⟩
      case measure => simp [intOf]
set_option maxRecDepth 100000 in
set_option maxHeartbeats 1000000 in
theorem rnear_under (A : Option Addr) (n c u0 : Nat) (ex : Int) (l : List Nat) (w : World) (hn : l.length = n) (hc : n ≤ c) (hm : n ≤ 35184372087808) (h : RW w w.heap.size A l) (hb : btl l ≤ 53) (hb0 : 0 < btl l) (he1 : -1074 ≤ ex) (he2 : ex ≤ 1023) (hcut : (btl l : Int) - 53 + ex < -1074)
    (C3 : RowKit.Hid (∀ W, Calls Try.prog 40 #[.float .f64 (fl (val l)), .int .i64 ex] W fun e w' => e = .returned (.float .f64 u0) ∧ W = w')) :
    Calls Try.prog 92 #[.slice A n c, .int .i64 ex] w fun e w' => e = .returned (.float .f64 u0) ∧ Below w.heap.size w w' := by
  have C1 := Lib.hid (rbits_any A n c l w.heap.size w hn hc (by omega) h)
  have HWS := Lib.hid h.1
  have h0 : nrm l ≠ [] := by intro e; unfold btl at hb0; rw [if_pos e] at hb0; omega
  obtain ⟨b1, b2, b3⟩ := btl_bounds h.1 h0
  have hv53 : val l < 9007199254740992 := Nat.lt_of_lt_of_le b2 (Nat.le_trans (Nat.pow_le_pow_right (by omega) hb) (by decide))
  have C2 := Lib.hid (fun W (hW : Below w.heap.size w W) => (rnorm_any A n c l W.heap.size W hn hc (by omega) ((h.below hW).more hW.size)).mono (fun e w' x => SlPost.of h.1.nrm x))
  have hnl : (nrm l).length ≤ n := by have := nrm_len l; omega
  have HV : Hid (∀ k, val ((nrm l).drop k) < 9007199254740992) := Lib.hid (fun k => Nat.lt_of_le_of_lt (val_drop_le _ _) (by rw [val_nrm]; exact hv53))
  have HVN : Hid (val (nrm l) = val l) := Lib.hid (val_nrm l)
  obtain ⟨u, hu⟩ : ∃ u, fl (val l) = u := ⟨_, rfl⟩
  rw [hu] at C3
  have HU := Lib.hid hu
  obtain ⟨L, hL⟩ : ∃ L, nrm l = L := ⟨_, rfl⟩
  rw [hL] at C2 HV HVN hnl
  obtain ⟨N, hN⟩ : ∃ N, L.length = N := ⟨_, rfl⟩
  rw [hN] at hnl
  have HN := Lib.hid hN
  obtain ⟨m, hm2⟩ : ∃ m, btl l = m := ⟨_, rfl⟩
  rw [hm2] at C1 hb hb0 hcut
  have t0 : ((m : Int) == 0) = false := by rw [beq_eq_false_iff_ne]; omega
  have k1 : IntKind.i64.wrap ((m : Int)) = (m : Int) := IntWalk.i64_in _ (by omega)
  obtain ⟨X1, hX1⟩ : ∃ X1, (m : Int) + ex = X1 := ⟨_, rfl⟩
  obtain ⟨X2, hX2⟩ : ∃ X2, (m : Int) - 53 = X2 := ⟨_, rfl⟩
  obtain ⟨X3, hX3⟩ : ∃ X3, -1074 - ex = X3 := ⟨_, rfl⟩
  obtain ⟨X4, hX4⟩ : ∃ X4, X2 + ex = X4 := ⟨_, rfl⟩
  have k2 : IntKind.i64.wrap ((m : Int) + ex) = X1 := by rw [IntWalk.i64_in _ (by omega)]; exact hX1
  have k3 : IntKind.i64.wrap ((m : Int) - 53) = X2 := by rw [IntWalk.i64_in _ (by omega)]; exact hX2
  have k4 : IntKind.i64.wrap (X2 + ex) = X4 := by rw [IntWalk.i64_in _ (by omega)]; exact hX4
  have k5 : IntKind.i64.wrap (-1074 - ex) = X3 := by rw [IntWalk.i64_in _ (by omega)]; exact hX3
  have t1 : decide ((1024 : Int) < X1) = false := decide_eq_false (by omega)
  have t2 : decide (X4 < -1074) = true := decide_eq_true (by omega)
  have t3 : X2 ≤ 0 := by omega
  have t4 : decide (X3 ≤ 0) = true := decide_eq_true (by omega)
  have hnm : N ≤ 35184372087808 := by omega
  clear hn hc hm h hm2 hb hb0 h0 b1 b2 b3 hv53 hu hL hN hnl HWS he1 he2 hX1 hX2 hX3 hX4 hcut
  go_enter Try.func92, Try.ntmps92
  go_wp2_with fail
  refine C1.out.mono ?_
  rintro e w1 ⟨rfl, hbw⟩
  go_wp2_with fail
  refine (C2.out _ hbw).mono ?_
  rintro e w2 ⟨v2, rfl, ⟨A2, c2, rfl, hc2, r2⟩, hb2⟩
  rw [HN.out] at hc2 ⊢
  have HB := Lib.hid (below_le hbw hb2)
  have HR := Lib.hid r2
  have HC2 := Lib.hid hc2
  clear r2 hb2 hbw hc2
  go_wp2
  go_loopw [7, 9] (fun fv iv wr => ∃ (k : Nat), iv = .int .i64 ((k : Int) - 1) ∧ k ≤ N ∧ fv = .float .f64 (fl (val (L.drop k))) ∧ w2 = wr) (fun _ iv _ => (intOf iv + 1).toNat)
  case atStart => exact ⟨N, rfl, Nat.le_refl _, by rw [← HN.out, List.drop_length]; exact congrArg (Value.float .f64) fl_zero.symm, rfl⟩
  case round =>
    obtain ⟨k, rfl, hk, rfl, rfl⟩ := hrel
    by_cases hk0 : k = 0
    · subst hk0
      have e : fl (val (L.drop 0)) = u := by rw [List.drop_zero, HVN.out]; exact HU.out
      rw [e]
      clear e hk C2 C1
      go_wp2_with fail
      refine (C3.out _).mono ?_
      rintro e w' ⟨rfl, rfl⟩
      go_wp2
      go_ret
      exact ⟨rfl, HB.out⟩
    · obtain ⟨j, rfl⟩ : ∃ j, k = j + 1 := ⟨k - 1, by omega⟩
      rw [show (((j + 1 : Nat) : Int) - 1) = (j : Int) by omega]
      obtain ⟨ab, ao, rfl, hab, hca⟩ := HR.out.2 (by have := HN.out; omega)
      have hcl := hca j _ (getD_some (by have := HN.out; omega))
      have hyl := HR.out.1.getD j
      have hnx := val_drop_next (l := L) (k := j) (by have := HN.out; omega)
      have hv1 := HV.out j
      have hv2 := HV.out (j + 1)
      obtain ⟨y, hy⟩ : ∃ y, L.getD j 0 = y := ⟨_, rfl⟩
      rw [hy] at hcl hyl hnx
      have HNX := Lib.hid (show fl (val (L.drop j)) = fl (val (L.drop (j + 1)) * 4294967296 + y) by rw [hnx]; congr 1; omega)
      obtain ⟨x, hx⟩ : ∃ x, val (L.drop (j + 1)) = x := ⟨_, rfl⟩
      rw [hx] at hnx hv2 HNX ⊢
      have e32 : fl 4294967296 = 4751297606875873280 := by
        rw [fl_low (N := 4294967296) (L := 32) (by decide) (by decide) (by decide)]
      have hmul : (binOp BinOp.mul 22 (.float .f64 (fl x)) (.float .f64 4751297606875873280)).run Try.prog w2 = .ok (.float .f64 (fl (x * 4294967296))) w2 := run_float_arith _ _ _ _ _ _ _ (by
        have := fl_mul (a := x) (b := 4294967296) (by omega) (by omega) (by omega)
        rw [e32] at this
        exact this)
      have hadd : (binOp BinOp.add 22 (.float .f64 (fl (x * 4294967296))) (.float .f64 (floatOfInt FloatKind.f64 (y : Int)))).run Try.prog w2 = .ok (.float .f64 (fl (x * 4294967296 + y))) w2 := run_float_arith _ _ _ _ _ _ _ (fl_add (a := x * 4294967296) (b := y) (by omega) (by omega) (by omega))
      have hjn : (j : Int) < (N : Int) := by omega
      have HJ := Lib.hid hk
      clear hk hk0 hab hca hyl hnx hv1 hv2 hy hx e32 C1 C2 C3
      go_wp2
      go_roundw
      case rel => exact ⟨j, by go_num, by have := HJ.out; omega, by rw [HNX.out], trivial⟩
      case measure => simp [intOf]
/-- Near where the answer is a float and the natural is of few bits. -/
theorem rnear_ex (A : Option Addr) (n c u : Nat) (ex : Int) (l : List Nat) (w : World) (hn : l.length = n) (hc : n ≤ c) (hm : n ≤ 35184372087808) (h : RW w w.heap.size A l) (hv : val l < 9007199254740992) (he1 : -1074 ≤ ex) (he2 : ex ≤ 1023) (hu : u < 9218868437227405312) (hfu : val l * 2 ^ (ex + 1074).toNat = fmag u) :
    Calls Try.prog 92 #[.slice A n c, .int .i64 ex] w fun e w' => e = .returned (.float .f64 u) ∧ Below w.heap.size w w' := by
  by_cases h0 : btl l = 0
  · have h1 : val l = 0 := by
      rw [← val_nrm l, (btl_zero h.1).1 h0]; rfl
    have h2 : u = 0 := by
      rw [h1, Nat.zero_mul] at hfu
      rcases Nat.eq_zero_or_pos u with h3 | h3
      · exact h3
      · have := fmag_pos.2 h3; omega
    rw [h2]
    exact rnear_none A n c ex l w hn hc hm h h0
  · obtain ⟨b1, b2, b3⟩ := btl_bounds h.1 (fun e => h0 ((btl_zero h.1).2 e))
    have hv0 : 0 < val l := Nat.lt_of_lt_of_le (Nat.two_pow_pos _) b1
    have hb : btl l ≤ 53 := by
      have h6 : 2 ^ (btl l - 1) < 2 ^ 53 := by have : (2 : Nat) ^ 53 = 9007199254740992 := rfl; omega
      have := (Nat.pow_lt_pow_iff_right (a := 2) (by omega)).1 h6
      omega
    have htop : (btl l : Int) + ex ≤ 1024 := by
      obtain ⟨K, hK⟩ : ∃ K : Nat, K = 2098 := ⟨_, rfl⟩
      have h1 := fmag_inf hu K hK
      rw [← hfu] at h1
      have h2 : 2 ^ (btl l - 1) * 2 ^ (ex + 1074).toNat ≤ val l * 2 ^ (ex + 1074).toNat := Nat.mul_le_mul_right _ b1
      rw [← Nat.pow_add] at h2
      have := (Nat.pow_lt_pow_iff_right (a := 2) (by omega)).1 (Nat.lt_of_le_of_lt h2 h1)
      omega
    have C3 := Lib.hid (fun W => Ldexp_fl hv0 hv hu he1 hfu W)
    by_cases hcut : (btl l : Int) - 53 + ex < -1074
    · exact rnear_under A n c u ex l w hn hc hm h hb (by omega) he1 he2 hcut C3
    · exact rnear_in A n c u ex l w hn hc hm h hb (by omega) he1 he2 htop hcut C3

end Go.Proofs.Ytbinpcoaghpcdaa
