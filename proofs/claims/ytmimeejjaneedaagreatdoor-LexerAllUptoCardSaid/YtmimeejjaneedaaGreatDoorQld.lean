/-
  Merged texts (BG, Nv, Dq, De, Le, Ma, Nk, Nl, Nm, ZzH, ZzD, Nc, Nd, ZzG).
-/
import Derived.Test.YtmimeejjaneedaaGreatDoorQlc
open Go.RowKit
set_option maxRecDepth 100000
set_option maxHeartbeats 40000000
namespace Go.Proofs.YtmimeejjaneedaaGreatDoor
section
theorem Rv {M k D : Nat} (x u : Nat) (a1 : 4503599627370496 ≤ M) (a2 : M < 9007199254740992) (hx : x = k * 4503599627370496 + M) (h2 : x < 9218868437227405312) (hD : D ≤ k) (hu : u = (k - D) * 4503599627370496 + M) (w : World) :
  Cq 344 #[.float .f64 x, .int .i64 (-(D : Int))] (.float .f64 u) w := by
 have h1 : 4503599627370496 ≤ x := by omega
 obtain ⟨p1, p2, p3⟩ := Ec (x := x) (by omega)
 have C1 := Lh (fun W => Ga x W)
 have C2 := Lh (fun W => Fw x W (by omega))
 rw [show Hj x = false from by unfold Hj; rw [p1]; exact decide_eq_false (by omega)] at C1
 rw [show Ih x = false from by unfold Ih; rw [p1]; exact decide_eq_false (by omega)] at C2
 have C3 := Lh (fun W => F5 x W h1 h2)
 have h3 := Hc x
 rw [p1, decide_eq_false (by omega)] at h3
 have h5 := Dz x w
 have h6 := Js x (by omega)
 obtain ⟨t, ht2⟩ : ∃ t, M = 4503599627370496 + t := ⟨M - 4503599627370496, by omega⟩
 rw [show x % 4503599627370496 = t by omega] at h6
 have h7 := Hs (k + 1) (by omega)
 obtain ⟨Q, hQ⟩ : ∃ Q, k + 1 - D = Q := ⟨_, rfl⟩
 have h8 := Nk t Q (by omega) (by omega)
 have e8 : t + Q * 4503599627370496 = u := by
  rw [hu, ht2, ← hQ, show k + 1 - D = (k - D) + 1 by omega]; omega
 rw [e8] at h8
 have h9 := Df u w
 have h10 := one_mul (y := u) (by omega) (by omega)
 have h11 : (binOp BinOp.mul 22 (.float .f64 4607182418800017408) (.float .f64 u)).run Tryz.prog w = .ok (.float .f64 u) w := run_float_arith _ _ _ _ _ _ _ h10
 have k1 : (x : Int) / 4503599627370496 = ((k + 1 : Nat) : Int) := by omega
 have k2 : IntKind.i64.wrap ((k + 1 : Nat) : Int) = ((k + 1 : Nat) : Int) := IntWalk.i64_in _ (by omega)
 have k3 : IntKind.i64.wrap (((k + 1 : Nat) : Int) - 1023) = (k : Int) - 1022 := by rw [IntWalk.i64_in _ (by omega)]; omega
 obtain ⟨X0, hX0⟩ : ∃ X0, -(D : Int) = X0 := ⟨_, rfl⟩
 have k4 : IntKind.i64.wrap X0 = X0 := IntWalk.i64_in _ (by omega)
 have k4' : IntKind.i64.wrap (X0 + 0) = X0 := by rw [Int.add_zero]; exact k4
 have k5 : IntKind.i64.wrap (X0 + ((k : Int) - 1022)) = (Q : Int) - 1023 := by rw [IntWalk.i64_in _ (by omega)]; omega
 have k6 : IntKind.i64.wrap ((Q : Int) - 1023 + 1023) = (Q : Int) := by rw [IntWalk.i64_in _ (by omega)]; omega
 have k7 : IntKind.u64.wrap (Q : Int) = (Q : Int) := by rw [IntKind.wrap_u64]; omega
 have k8 : IntKind.u64.wrap ((Q : Int) * 4503599627370496) = ((Q * 4503599627370496 : Nat) : Int) := by rw [IntKind.wrap_u64]; omega
 have t1 : decide ((Q : Int) - 1023 < -1075) = false := decide_eq_false (by omega)
 have t2 : decide (1023 < (Q : Int) - 1023) = false := decide_eq_false (by omega)
 have t3 : decide ((Q : Int) - 1023 < -1022) = false := decide_eq_false (by omega)
 obtain ⟨q, hq⟩ : ∃ q, k + 1 = q := ⟨_, rfl⟩
 obtain ⟨X1, hX1⟩ : ∃ X1, (k : Int) - 1022 = X1 := ⟨_, rfl⟩
 obtain ⟨X3, hX3⟩ : ∃ X3, (Q : Int) - 1023 = X3 := ⟨_, rfl⟩
 rw [hq] at h7 k1 k2 k3
 rw [hX1] at k3 k5
 rw [hX3] at k5 k6 t1 t2 t3
 rw [hX0]
 rw [← k8] at h8
 clear h1 h2 hx a1 a2 hD hu p1 p2 p3 ht2 hQ e8 h10 k8 hq hX1 hX0 hX3
 go_enter Tryz.func344, Tryz.ntmps344
 go_wp2_with fail
 refine Sm (C2.out _) ?_
 go_wp2_with fail
 refine Sm (C1.out _) ?_
 go_wp2_with fail
 refine Sm (C3.out _) ?_
 go_wp2
 go_ret
 exact ⟨rfl, rfl⟩
theorem R9 {M k D : Nat} (x v r : Nat) (a1 : 4503599627370496 ≤ M) (a2 : M < 9007199254740992) (hx : x = k * 4503599627370496 + M) (h2 : x < 9218868437227405312) (hD : k < D) (hD2 : D ≤ k + 52) (hv : v = (k + 53 - D) * 4503599627370496 + M) (hr : Ieee.double.mul 4368491638549381120 v = some r) (w : World) :
  Cq 344 #[.float .f64 x, .int .i64 (-(D : Int))] (.float .f64 r) w := by
 have h1 : 4503599627370496 ≤ x := by omega
 obtain ⟨p1, p2, p3⟩ := Ec (x := x) (by omega)
 have C1 := Lh (fun W => Ga x W)
 have C2 := Lh (fun W => Fw x W (by omega))
 rw [show Hj x = false from by unfold Hj; rw [p1]; exact decide_eq_false (by omega)] at C1
 rw [show Ih x = false from by unfold Ih; rw [p1]; exact decide_eq_false (by omega)] at C2
 have C3 := Lh (fun W => F5 x W h1 h2)
 have h3 := Hc x
 rw [p1, decide_eq_false (by omega)] at h3
 have h5 := Dz x w
 have h6 := Js x (by omega)
 obtain ⟨t, ht2⟩ : ∃ t, M = 4503599627370496 + t := ⟨M - 4503599627370496, by omega⟩
 rw [show x % 4503599627370496 = t by omega] at h6
 have h7 := Hs (k + 1) (by omega)
 obtain ⟨Q, hQ⟩ : ∃ Q, k + 54 - D = Q := ⟨_, rfl⟩
 have h8 := Nk t Q (by omega) (by omega)
 have e8 : t + Q * 4503599627370496 = v := by
  rw [hv, ht2, ← hQ, show k + 54 - D = (k + 53 - D) + 1 by omega]; omega
 rw [e8] at h8
 have h9 := Df v w
 have h11 : (binOp BinOp.mul 22 (.float .f64 4368491638549381120) (.float .f64 v)).run Tryz.prog w = .ok (.float .f64 r) w := run_float_arith _ _ _ _ _ _ _ hr
 have k1 : (x : Int) / 4503599627370496 = ((k + 1 : Nat) : Int) := by omega
 have k2 : IntKind.i64.wrap ((k + 1 : Nat) : Int) = ((k + 1 : Nat) : Int) := IntWalk.i64_in _ (by omega)
 have k3 : IntKind.i64.wrap (((k + 1 : Nat) : Int) - 1023) = (k : Int) - 1022 := by rw [IntWalk.i64_in _ (by omega)]; omega
 obtain ⟨X0, hX0⟩ : ∃ X0, -(D : Int) = X0 := ⟨_, rfl⟩
 have k4 : IntKind.i64.wrap X0 = X0 := IntWalk.i64_in _ (by omega)
 have k4' : IntKind.i64.wrap (X0 + 0) = X0 := by rw [Int.add_zero]; exact k4
 have k5 : IntKind.i64.wrap (X0 + ((k : Int) - 1022)) = (Q : Int) - 1076 := by rw [IntWalk.i64_in _ (by omega)]; omega
 have k9 : IntKind.i64.wrap ((Q : Int) - 1076 + 53) = (Q : Int) - 1023 := by rw [IntWalk.i64_in _ (by omega)]; omega
 have k6 : IntKind.i64.wrap ((Q : Int) - 1023 + 1023) = (Q : Int) := by rw [IntWalk.i64_in _ (by omega)]; omega
 have k7 : IntKind.u64.wrap (Q : Int) = (Q : Int) := by rw [IntKind.wrap_u64]; omega
 have k8 : IntKind.u64.wrap ((Q : Int) * 4503599627370496) = ((Q * 4503599627370496 : Nat) : Int) := by rw [IntKind.wrap_u64]; omega
 have t1 : decide ((Q : Int) - 1076 < -1075) = false := decide_eq_false (by omega)
 have t2 : decide (1023 < (Q : Int) - 1076) = false := decide_eq_false (by omega)
 have t3 : decide ((Q : Int) - 1076 < -1022) = true := decide_eq_true (by omega)
 obtain ⟨q, hq⟩ : ∃ q, k + 1 = q := ⟨_, rfl⟩
 obtain ⟨X1, hX1⟩ : ∃ X1, (k : Int) - 1022 = X1 := ⟨_, rfl⟩
 obtain ⟨X3, hX3⟩ : ∃ X3, (Q : Int) - 1076 = X3 := ⟨_, rfl⟩
 obtain ⟨X4, hX4⟩ : ∃ X4, (Q : Int) - 1023 = X4 := ⟨_, rfl⟩
 rw [hq] at h7 k1 k2 k3
 rw [hX1] at k3 k5
 rw [hX3] at k5 k9 t1 t2 t3
 rw [hX4] at k9 k6
 rw [hX0]
 rw [← k8] at h8
 clear h1 h2 hx a1 a2 hD hD2 hv hr p1 p2 p3 ht2 hQ e8 k8 hq hX1 hX0 hX3 hX4
 go_enter Tryz.func344, Tryz.ntmps344
 go_wp2_with fail
 refine Sm (C2.out _) ?_
 go_wp2_with fail
 refine Sm (C1.out _) ?_
 go_wp2_with fail
 refine Sm (C3.out _) ?_
 go_wp2
 go_ret
 exact ⟨rfl, rfl⟩
theorem Xd {y D u : Nat} (h0 : 4503599627370496 ≤ y) (hy : y < 9218868437227405312) (hu0 : 0 < u) (h : Ay u * 2 ^ D = Ay y) (w : World) :
  Cq 344 #[.float .f64 y, .int .i64 (-(D : Int))] (.float .f64 u) w := by
 obtain ⟨M, k, a1, a2, a3, a4⟩ := El h0
 have hu1 := Gg.2 hu0
 have huy : u ≤ y := by
  rcases Nat.lt_or_ge y u with h1 | h1
  ·have h2 := Es h1
   have h3 : Ay u * 1 ≤ Ay u * 2 ^ D := Nat.mul_le_mul_left _ (Nat.two_pow_pos D)
   omega
  ·exact h1
 by_cases hDk : D ≤ k
 ·refine Rv y u a1 a2 a3 hy hDk ?_ w
  refine J4 ?_
  rw [Ba _ _ a1 a2]
  refine (Dt (x := M) (a := k - D) (b := D) (y := Ay u) ?_).symm
  rw [show k - D + D = k by omega, ← a4, h]
 ·obtain ⟨j, rfl⟩ : ∃ j, D = k + j := ⟨D - k, by omega⟩
  have hM : Ay u * 2 ^ j = M := by
   refine Dt (x := Ay u) (a := j) (b := k) (y := M) ?_
   rw [Nat.add_comm j k, h, a4]
  have hj : j < 53 := by
   have h3 : 1 * 2 ^ j ≤ Ay u * 2 ^ j := Nat.mul_le_mul_right _ hu1
   have h6 : 2 ^ j < 2 ^ 53 := by have : (2 : Nat) ^ 53 = 9007199254740992 := rfl; omega
   exact (Nat.pow_lt_pow_iff_right (a := 2) (by omega)).1 h6
  refine R9 y ((k + 53 - (k + j)) * 4503599627370496 + M) u a1 a2 a3 hy (by omega) (by omega) rfl ?_ w
  obtain ⟨J, hJ⟩ : ∃ J : Nat, J = 969 := ⟨_, rfl⟩
  obtain ⟨L, hL⟩ : ∃ L : Nat, L = 1074 := ⟨_, rfl⟩
  have e1 := Ba 4503599627370496 J (by omega) (by omega)
  rw [show J * 4503599627370496 + 4503599627370496 = 4368491638549381120 by rw [hJ]] at e1
  refine Ln (K := L) (by omega) (by omega) (by omega) hL ?_
  rw [e1, Ba _ _ a1 a2, ← hM, show (4503599627370496 : Nat) = 2 ^ 52 from rfl, ← Nat.pow_add, Nat.mul_comm, Nat.mul_assoc, Nat.mul_assoc, ← Nat.pow_add, ← Nat.pow_add, show j + (k + 53 - (k + j) + (52 + J)) = L by omega]
theorem M9 {y D u : Nat} (h0 : 4503599627370496 ≤ y) (hy : y < 9218868437227405312) (hu0 : 0 < u) (h : Ay u * 2 ^ D = Ay y) (w : World) :
  Cq 312 #[.float .f64 y, .int .i64 (-(D : Int))] (.float .f64 u) w := by
 have C := Lh (Xd h0 hy hu0 h w)
 obtain ⟨X, hX⟩ : ∃ X, -(D : Int) = X := ⟨_, rfl⟩
 rw [hX] at C ⊢
 clear h0 hy hu0 h hX
 go_enter Tryz.func312, Tryz.ntmps312
 go_wp2_with fail
 refine C.out.mono ?_
 rintro e w' ⟨rfl, rfl⟩
 go_wp2
 go_ret
 exact ⟨rfl, rfl⟩
theorem Aer {N u : Nat} {e : Int} (hN0 : 0 < N) (hN : N < 9007199254740992) (hu : u < 9218868437227405312) (he : -1074 ≤ e) (h : N * 2 ^ (e + 1074).toNat = Ay u) (w : World) :
  Cp 312 #[.float .f64 (fl N), .int .i64 e] w fun r w' => r = .returned (.float .f64 u) ∧ w = w' := by
 obtain ⟨K, hK⟩ : ∃ K : Nat, K = 1074 := ⟨_, rfl⟩
 obtain ⟨f1, f2⟩ := Aah hN hK
 have f3 := (Wo hN0 (Nat.lt_trans hN (by decide))).1
 have hu0 : 0 < u := by
  refine Gg.1 ?_
  rw [← h]
  exact Nat.mul_pos hN0 (Nat.two_pow_pos _)
 by_cases hs : 0 ≤ e
 ·obtain ⟨D, rfl⟩ : ∃ D : Nat, e = D := ⟨e.toNat, by omega⟩
  refine Qc (by omega) f2 hu ?_ w
  rw [← h, f1, show ((D : Int) + 1074).toNat = K + D by omega, Nat.pow_add, Nat.mul_assoc]
 ·obtain ⟨D, rfl⟩ : ∃ D : Nat, e = -(D : Int) := ⟨(-e).toNat, by omega⟩
  refine M9 f3 f2 hu0 ?_ w
  rw [← h, f1, Nat.mul_assoc, ← Nat.pow_add, show (-(D : Int) + 1074).toNat + D = K by omega]

open Go.RowKit
theorem M2 (A : Option Addr) (n c : Nat) (ex : Int) (l : List Nat) (w : World) (hn : l.length = n) (hc : n ≤ c) (hm : n ≤ 35184372087808) (h : RW w w.heap.size A l) (hb : btl l = 0) :
  Ct 266 #[.slice A n c, .int .i64 ex] (.float .f64 0) w := by
 have C1 := Lh (Cl A n c l w.heap.size w hn hc (by omega) h)
 rw [hb] at C1
 clear hn hc hm h hb
 go_enter Tryz.func266, Tryz.ntmps266
 go_wp2_with fail
 refine C1.out.mono ?_
 rintro e w' ⟨rfl, hbw⟩
 go_wp2
 go_ret
 exact ⟨rfl, hbw⟩
theorem Aff (A : Option Addr) (n c u0 : Nat) (ex : Int) (l : List Nat) (w : World) (hn : l.length = n) (hc : n ≤ c) (hm : n ≤ 35184372087808) (h : RW w w.heap.size A l) (hb : btl l ≤ 53) (hb0 : 0 < btl l) (he1 : -1074 ≤ ex) (he2 : ex ≤ 1023) (htop : (btl l : Int) + ex ≤ 1024) (hcut : ¬ (btl l : Int) - 53 + ex < -1074)
  (C3 : RowKit.Hid (∀ W, Cq 312 #[.float .f64 (fl (val l)), .int .i64 ex] (.float .f64 u0) W)) :
  Ct 266 #[.slice A n c, .int .i64 ex] (.float .f64 u0) w := by
 have C1 := Lh (Cl A n c l w.heap.size w hn hc (by omega) h)
 have HWS := Lh h.1
 have h0 : nrm l ≠ [] := by intro e; unfold btl at hb0; rw [if_pos e] at hb0; omega
 obtain ⟨b1, b2, b3⟩ := Bc h.1 h0
 have hv53 : val l < 9007199254740992 := Nat.lt_of_lt_of_le b2 (Nat.le_trans (Nat.pow_le_pow_right (by omega) hb) (by decide))
 have C2 := Lh (fun W (hW : Below w.heap.size w W) => (Bs A n c l W.heap.size W hn hc (by omega) ((h.below hW).more hW.size)).mono (fun e w' x => SlPost.of h.1.nrm x))
 have hnl : (nrm l).length ≤ n := by have := Aw l; omega
 have HV : Hid (∀ k, val ((nrm l).drop k) < 9007199254740992) := Lh (fun k => Nat.lt_of_le_of_lt (Ls _ _) (by rw [Ar]; exact hv53))
 have HVN : Hid (val (nrm l) = val l) := Lh (Ar l)
 obtain ⟨u, hu⟩ : ∃ u, fl (val l) = u := ⟨_, rfl⟩
 rw [hu] at C3
 have HU := Lh hu
 obtain ⟨L, hL⟩ : ∃ L, nrm l = L := ⟨_, rfl⟩
 rw [hL] at C2 HV HVN hnl
 obtain ⟨N, hN⟩ : ∃ N, L.length = N := ⟨_, rfl⟩
 rw [hN] at hnl
 have HN := Lh hN
 obtain ⟨m, hm2⟩ : ∃ m, btl l = m := ⟨_, rfl⟩
 rw [hm2] at C1 hb hb0 htop hcut
 have t0 : ((m : Int) == 0) = false := by rw [beq_eq_false_iff_ne]; omega
 have k1 : IntKind.i64.wrap ((m : Int)) = (m : Int) := IntWalk.i64_in _ (by omega)
 obtain ⟨X1, hX1⟩ : ∃ X1, (m : Int) + ex = X1 := ⟨_, rfl⟩
 obtain ⟨X2, hX2⟩ : ∃ X2, (m : Int) - 53 = X2 := ⟨_, rfl⟩
 obtain ⟨X3, hX3⟩ : ∃ X3, -1074 - ex = X3 := ⟨_, rfl⟩
 obtain ⟨X4, hX4⟩ : ∃ X4, X2 + ex = X4 := ⟨_, rfl⟩
 have k2 : IntKind.i64.wrap ((m : Int) + ex) = X1 := by rw [IntWalk.i64_in _ (by omega)]; exact hX1
 have k3 : IntKind.i64.wrap ((m : Int) - 53) = X2 := by rw [IntWalk.i64_in _ (by omega)]; exact hX2
 have k4 : IntKind.i64.wrap (X2 + ex) = X4 := by rw [IntWalk.i64_in _ (by omega)]; exact hX4
 have k5 : IntKind.i64.wrap (-1074 - ex) = X3 := by rw [IntWalk.i64_in _ (by omega)]; exact hX3
 have t1 : decide ((1024 : Int) < X1) = false := decide_eq_false (by omega)
 have t2 : decide (X4 < -1074) = false := decide_eq_false (by omega)
 have t3 : decide (X2 ≤ 0) = true := decide_eq_true (by omega)
 have t4 : X3 ≤ 0 := by omega
 have hnm : N ≤ 35184372087808 := by omega
 clear hn hc hm h hm2 hb hb0 h0 b1 b2 b3 hv53 hu hL hN hnl HWS he1 he2 htop hX1 hX2 hX3 hX4 hcut
 go_enter Tryz.func266, Tryz.ntmps266
 go_wp2_with fail
 refine C1.out.mono ?_
 rintro e w1 ⟨rfl, hbw⟩
 go_wp2_with fail
 refine (C2.out _ hbw).mono ?_
 rintro e w2 ⟨v2, rfl, ⟨A2, c2, rfl, hc2, r2⟩, hb2⟩
 rw [HN.out] at hc2 ⊢
 have HB := Lh (Aa hbw hb2)
 have HR := Lh r2
 have HC2 := Lh hc2
 clear r2 hb2 hbw hc2
 go_wp2
 go_loopw [7, 9] (fun fv iv wr => ∃ (k : Nat), iv = .int .i64 ((k : Int) - 1) ∧ k ≤ N ∧ fv = .float .f64 (fl (val (L.drop k))) ∧ w2 = wr) (fun _ iv _ => (intOf iv + 1).toNat)
 case atStart => exact ⟨N, rfl, Nat.le_refl _, by rw [← HN.out, List.drop_length]; exact congrArg (Value.float .f64) fl_zero.symm, rfl⟩
 case round =>
  obtain ⟨k, rfl, hk, rfl, rfl⟩ := hrel
  by_cases hk0 : k = 0
  ·subst hk0
   have e : fl (val (L.drop 0)) = u := by rw [List.drop_zero, HVN.out]; exact HU.out
   rw [e]
   clear e hk C2 C1
   go_wp2_with fail
   refine Sm (C3.out _) ?_
   go_wp2
   go_ret
   exact ⟨rfl, HB.out⟩
  ·obtain ⟨j, rfl⟩ : ∃ j, k = j + 1 := ⟨k - 1, by omega⟩
   rw [show (((j + 1 : Nat) : Int) - 1) = (j : Int) by omega]
   obtain ⟨ab, ao, rfl, hab, hca⟩ := HR.out.2 (by have := HN.out; omega)
   have hcl := hca j _ (getD_some (by have := HN.out; omega))
   have hyl := HR.out.1.getD j
   have hnx := Io (l := L) (k := j) (by have := HN.out; omega)
   have hv1 := HV.out j
   have hv2 := HV.out (j + 1)
   obtain ⟨y, hy⟩ : ∃ y, L.getD j 0 = y := ⟨_, rfl⟩
   rw [hy] at hcl hyl hnx
   have HNX := Lh (show fl (val (L.drop j)) = fl (val (L.drop (j + 1)) * 4294967296 + y) by rw [hnx]; congr 1; omega)
   obtain ⟨x, hx⟩ : ∃ x, val (L.drop (j + 1)) = x := ⟨_, rfl⟩
   rw [hx] at hnx hv2 HNX ⊢
   have e32 : fl 4294967296 = 4751297606875873280 := by
    rw [Ns (N := 4294967296) (L := 32) (by decide) (by decide) (by decide)]
   have hmul : (binOp BinOp.mul 22 (.float .f64 (fl x)) (.float .f64 4751297606875873280)).run Tryz.prog w2 = .ok (.float .f64 (fl (x * 4294967296))) w2 := run_float_arith _ _ _ _ _ _ _ (by
    have := Adz (a := x) (b := 4294967296) (by omega) (by omega) (by omega)
    rw [e32] at this
    exact this)
   have hadd : (binOp BinOp.add 22 (.float .f64 (fl (x * 4294967296))) (.float .f64 (floatOfInt FloatKind.f64 (y : Int)))).run Tryz.prog w2 = .ok (.float .f64 (fl (x * 4294967296 + y))) w2 := run_float_arith _ _ _ _ _ _ _ (Adl (a := x * 4294967296) (b := y) (by omega) (by omega) (by omega))
   have hjn : (j : Int) < (N : Int) := by omega
   have HJ := Lh hk
   clear hk hk0 hab hca hyl hnx hv1 hv2 hy hx e32 C1 C2 C3
   go_wp2
   go_roundw
   case rel => exact ⟨j, by go_num, by have := HJ.out; omega, by rw [HNX.out], trivial⟩
   case measure => simp [intOf]
theorem Tu (A : Option Addr) (n c u0 : Nat) (ex : Int) (l : List Nat) (w : World) (hn : l.length = n) (hc : n ≤ c) (hm : n ≤ 35184372087808) (h : RW w w.heap.size A l) (hb : btl l ≤ 53) (hb0 : 0 < btl l) (he1 : -1074 ≤ ex) (he2 : ex ≤ 1023) (hcut : (btl l : Int) - 53 + ex < -1074)
  (C3 : RowKit.Hid (∀ W, Cq 312 #[.float .f64 (fl (val l)), .int .i64 ex] (.float .f64 u0) W)) :
  Ct 266 #[.slice A n c, .int .i64 ex] (.float .f64 u0) w := by
 have C1 := Lh (Cl A n c l w.heap.size w hn hc (by omega) h)
 have HWS := Lh h.1
 have h0 : nrm l ≠ [] := by intro e; unfold btl at hb0; rw [if_pos e] at hb0; omega
 obtain ⟨b1, b2, b3⟩ := Bc h.1 h0
 have hv53 : val l < 9007199254740992 := Nat.lt_of_lt_of_le b2 (Nat.le_trans (Nat.pow_le_pow_right (by omega) hb) (by decide))
 have C2 := Lh (fun W (hW : Below w.heap.size w W) => (Bs A n c l W.heap.size W hn hc (by omega) ((h.below hW).more hW.size)).mono (fun e w' x => SlPost.of h.1.nrm x))
 have hnl : (nrm l).length ≤ n := by have := Aw l; omega
 have HV : Hid (∀ k, val ((nrm l).drop k) < 9007199254740992) := Lh (fun k => Nat.lt_of_le_of_lt (Ls _ _) (by rw [Ar]; exact hv53))
 have HVN : Hid (val (nrm l) = val l) := Lh (Ar l)
 obtain ⟨u, hu⟩ : ∃ u, fl (val l) = u := ⟨_, rfl⟩
 rw [hu] at C3
 have HU := Lh hu
 obtain ⟨L, hL⟩ : ∃ L, nrm l = L := ⟨_, rfl⟩
 rw [hL] at C2 HV HVN hnl
 obtain ⟨N, hN⟩ : ∃ N, L.length = N := ⟨_, rfl⟩
 rw [hN] at hnl
 have HN := Lh hN
 obtain ⟨m, hm2⟩ : ∃ m, btl l = m := ⟨_, rfl⟩
 rw [hm2] at C1 hb hb0 hcut
 have t0 : ((m : Int) == 0) = false := by rw [beq_eq_false_iff_ne]; omega
 have k1 : IntKind.i64.wrap ((m : Int)) = (m : Int) := IntWalk.i64_in _ (by omega)
 obtain ⟨X1, hX1⟩ : ∃ X1, (m : Int) + ex = X1 := ⟨_, rfl⟩
 obtain ⟨X2, hX2⟩ : ∃ X2, (m : Int) - 53 = X2 := ⟨_, rfl⟩
 obtain ⟨X3, hX3⟩ : ∃ X3, -1074 - ex = X3 := ⟨_, rfl⟩
 obtain ⟨X4, hX4⟩ : ∃ X4, X2 + ex = X4 := ⟨_, rfl⟩
 have k2 : IntKind.i64.wrap ((m : Int) + ex) = X1 := by rw [IntWalk.i64_in _ (by omega)]; exact hX1
 have k3 : IntKind.i64.wrap ((m : Int) - 53) = X2 := by rw [IntWalk.i64_in _ (by omega)]; exact hX2
 have k4 : IntKind.i64.wrap (X2 + ex) = X4 := by rw [IntWalk.i64_in _ (by omega)]; exact hX4
 have k5 : IntKind.i64.wrap (-1074 - ex) = X3 := by rw [IntWalk.i64_in _ (by omega)]; exact hX3
 have t1 : decide ((1024 : Int) < X1) = false := decide_eq_false (by omega)
 have t2 : decide (X4 < -1074) = true := decide_eq_true (by omega)
 have t3 : X2 ≤ 0 := by omega
 have t4 : decide (X3 ≤ 0) = true := decide_eq_true (by omega)
 have hnm : N ≤ 35184372087808 := by omega
 clear hn hc hm h hm2 hb hb0 h0 b1 b2 b3 hv53 hu hL hN hnl HWS he1 he2 hX1 hX2 hX3 hX4 hcut
 go_enter Tryz.func266, Tryz.ntmps266
 go_wp2_with fail
 refine C1.out.mono ?_
 rintro e w1 ⟨rfl, hbw⟩
 go_wp2_with fail
 refine (C2.out _ hbw).mono ?_
 rintro e w2 ⟨v2, rfl, ⟨A2, c2, rfl, hc2, r2⟩, hb2⟩
 rw [HN.out] at hc2 ⊢
 have HB := Lh (Aa hbw hb2)
 have HR := Lh r2
 have HC2 := Lh hc2
 clear r2 hb2 hbw hc2
 go_wp2
 go_loopw [7, 9] (fun fv iv wr => ∃ (k : Nat), iv = .int .i64 ((k : Int) - 1) ∧ k ≤ N ∧ fv = .float .f64 (fl (val (L.drop k))) ∧ w2 = wr) (fun _ iv _ => (intOf iv + 1).toNat)
 case atStart => exact ⟨N, rfl, Nat.le_refl _, by rw [← HN.out, List.drop_length]; exact congrArg (Value.float .f64) fl_zero.symm, rfl⟩
 case round =>
  obtain ⟨k, rfl, hk, rfl, rfl⟩ := hrel
  by_cases hk0 : k = 0
  ·subst hk0
   have e : fl (val (L.drop 0)) = u := by rw [List.drop_zero, HVN.out]; exact HU.out
   rw [e]
   clear e hk C2 C1
   go_wp2_with fail
   refine Sm (C3.out _) ?_
   go_wp2
   go_ret
   exact ⟨rfl, HB.out⟩
  ·obtain ⟨j, rfl⟩ : ∃ j, k = j + 1 := ⟨k - 1, by omega⟩
   rw [show (((j + 1 : Nat) : Int) - 1) = (j : Int) by omega]
   obtain ⟨ab, ao, rfl, hab, hca⟩ := HR.out.2 (by have := HN.out; omega)
   have hcl := hca j _ (getD_some (by have := HN.out; omega))
   have hyl := HR.out.1.getD j
   have hnx := Io (l := L) (k := j) (by have := HN.out; omega)
   have hv1 := HV.out j
   have hv2 := HV.out (j + 1)
   obtain ⟨y, hy⟩ : ∃ y, L.getD j 0 = y := ⟨_, rfl⟩
   rw [hy] at hcl hyl hnx
   have HNX := Lh (show fl (val (L.drop j)) = fl (val (L.drop (j + 1)) * 4294967296 + y) by rw [hnx]; congr 1; omega)
   obtain ⟨x, hx⟩ : ∃ x, val (L.drop (j + 1)) = x := ⟨_, rfl⟩
   rw [hx] at hnx hv2 HNX ⊢
   have e32 : fl 4294967296 = 4751297606875873280 := by
    rw [Ns (N := 4294967296) (L := 32) (by decide) (by decide) (by decide)]
   have hmul : (binOp BinOp.mul 22 (.float .f64 (fl x)) (.float .f64 4751297606875873280)).run Tryz.prog w2 = .ok (.float .f64 (fl (x * 4294967296))) w2 := run_float_arith _ _ _ _ _ _ _ (by
    have := Adz (a := x) (b := 4294967296) (by omega) (by omega) (by omega)
    rw [e32] at this
    exact this)
   have hadd : (binOp BinOp.add 22 (.float .f64 (fl (x * 4294967296))) (.float .f64 (floatOfInt FloatKind.f64 (y : Int)))).run Tryz.prog w2 = .ok (.float .f64 (fl (x * 4294967296 + y))) w2 := run_float_arith _ _ _ _ _ _ _ (Adl (a := x * 4294967296) (b := y) (by omega) (by omega) (by omega))
   have hjn : (j : Int) < (N : Int) := by omega
   have HJ := Lh hk
   clear hk hk0 hab hca hyl hnx hv1 hv2 hy hx e32 C1 C2 C3
   go_wp2
   go_roundw
   case rel => exact ⟨j, by go_num, by have := HJ.out; omega, by rw [HNX.out], trivial⟩
   case measure => simp [intOf]
theorem Aed (A : Option Addr) (n c u : Nat) (ex : Int) (l : List Nat) (w : World) (hn : l.length = n) (hc : n ≤ c) (hm : n ≤ 35184372087808) (h : RW w w.heap.size A l) (hv : val l < 9007199254740992) (he1 : -1074 ≤ ex) (he2 : ex ≤ 1023) (hu : u < 9218868437227405312) (hfu : val l * 2 ^ (ex + 1074).toNat = Ay u) :
  Ct 266 #[.slice A n c, .int .i64 ex] (.float .f64 u) w := by
 by_cases h0 : btl l = 0
 ·have h1 : val l = 0 := by
   rw [← Ar l, (Vo h.1).1 h0]; rfl
  have h2 : u = 0 := by
   rw [h1, Nat.zero_mul] at hfu
   rcases Nat.eq_zero_or_pos u with h3 | h3
   ·exact h3
   ·have := Gg.2 h3; omega
  rw [h2]
  exact M2 A n c ex l w hn hc hm h h0
 ·obtain ⟨b1, b2, b3⟩ := Bc h.1 (fun e => h0 ((Vo h.1).2 e))
  have hv0 : 0 < val l := Nat.lt_of_lt_of_le (Nat.two_pow_pos _) b1
  have hb : btl l ≤ 53 := by
   have h6 : 2 ^ (btl l - 1) < 2 ^ 53 := by have : (2 : Nat) ^ 53 = 9007199254740992 := rfl; omega
   have := (Nat.pow_lt_pow_iff_right (a := 2) (by omega)).1 h6
   omega
  have htop : (btl l : Int) + ex ≤ 1024 := by
   obtain ⟨K, hK⟩ : ∃ K : Nat, K = 2098 := ⟨_, rfl⟩
   have h1 := Vd hu K hK
   rw [← hfu] at h1
   have h2 : 2 ^ (btl l - 1) * 2 ^ (ex + 1074).toNat ≤ val l * 2 ^ (ex + 1074).toNat := Nat.mul_le_mul_right _ b1
   rw [← Nat.pow_add] at h2
   have := (Nat.pow_lt_pow_iff_right (a := 2) (by omega)).1 (Nat.lt_of_le_of_lt h2 h1)
   omega
  have C3 := Lh (fun W => Aer hv0 hv hu he1 hfu W)
  by_cases hcut : (btl l : Int) - 53 + ex < -1074
  ·exact Tu A n c u ex l w hn hc hm h hb (by omega) he1 he2 hcut C3
  ·exact Aff A n c u ex l w hn hc hm h hb (by omega) he1 he2 htop hcut C3

open Go.RowKit
theorem T7 (A : Option Addr) (n c d u : Nat) (ex : Int) (l : List Nat) (w : World) (hn : l.length = n) (hc : n ≤ c) (hm : n ≤ 35184372087808) (h : RW w w.heap.size A l) (hb : btl l = 54 + d) (hd : d ≤ 32768) (he2 : (d : Int) + ex ≤ 970) (he3 : -1075 ≤ (d : Int) + ex)
  (C5 : RowKit.Hid (∀ W, Cq 312 #[.float .f64 (fl (evn (val l) (d + 1))), .int .i64 (ex + (((54 + d : Nat) : Int) - 53))] (.float .f64 u) W)) :
  Ct 266 #[.slice A n c, .int .i64 ex] (.float .f64 u) w := by
 have C1 := Lh (Cl A n c l w.heap.size w hn hc (by omega) h)
 have h0 : nrm l ≠ [] := by intro e; unfold btl at hb; rw [if_pos e] at hb; omega
 obtain ⟨b1, b2, b3⟩ := Bc h.1 h0
 rw [hb] at C1 b1 b2
 have C2 := Lh (fun W (hW : Below w.heap.size w W) => Do A n c (((54 + d : Nat) : Int) - 53) l W hn hc hm ((h.below hW).more hW.size))
 have C3 := Lh (fun W (hW : Below w.heap.size w W) => Do A n c (((54 + d : Nat) : Int) - 53 - 1) l W hn hc hm ((h.below hW).more hW.size))
 rw [show (((54 + d : Nat) : Int) - 53).toNat = d + 1 by omega] at C2
 rw [show (((54 + d : Nat) : Int) - 53 - 1).toNat = d by omega] at C3
 obtain ⟨v, hv⟩ : ∃ v, val l = v := ⟨_, rfl⟩
 rw [hv] at C2 C3 C5 b1 b2
 have a1 : 2 ^ (52 + (d + 1)) ≤ v := by rw [show 52 + (d + 1) = 54 + d - 1 by omega]; exact b1
 have a2 : v < 2 ^ (52 + (d + 1) + 1) := by rw [show 52 + (d + 1) + 1 = 54 + d by omega]; exact b2
 obtain ⟨r1, r2⟩ := Hx a1 a2 (by omega)
 rw [show 52 + (d + 1) - 52 = d + 1 by omega] at r1 r2
 have hq1 : 4503599627370496 ≤ v / 2 ^ (d + 1) := by
  rw [Nat.le_div_iff_mul_le (Nat.two_pow_pos _), show 4503599627370496 = 2 ^ 52 from rfl, ← Nat.pow_add]; exact a1
 have hpq : v / 2 ^ (d + 1) = v / 2 ^ d / 2 := by rw [Nat.pow_succ, Nat.div_div_eq_div_mul]
 have hev := Oc v d
 obtain ⟨E, hE⟩ : ∃ E, evn v (d + 1) = E := ⟨_, rfl⟩
 rw [hE] at C5 r1 r2 hev
 have hPl : v / 2 ^ d < 18446744073709551616 := by
  have : v / 2 ^ d < 2 ^ 54 := by rw [Nat.div_lt_iff_lt_mul (Nat.two_pow_pos _), ← Nat.pow_add]; exact b2
  exact Nat.lt_trans this (by decide)
 obtain ⟨m, hm2⟩ : ∃ m, 54 + d = m := ⟨_, rfl⟩
 rw [hm2] at C1 C2 C3 C5
 have hm3 : 53 < (m : Int) ∧ (m : Int) + ex ≤ 1024 ∧ (m : Int) ≤ 33000 ∧ -1074 ≤ (m : Int) - 53 + ex := by omega
 obtain ⟨m1, m2, m3, m4⟩ := hm3
 obtain ⟨X1, hX1⟩ : ∃ X1, (m : Int) + ex = X1 := ⟨_, rfl⟩
 obtain ⟨X4, hX4⟩ : ∃ X4, (m : Int) - 53 + ex = X4 := ⟨_, rfl⟩
 obtain ⟨X7, hX7⟩ : ∃ X7, ex + ((m : Int) - 53) = X7 := ⟨_, rfl⟩
 rw [hX7] at C5
 have t0 : ((m : Int) == 0) = false := by rw [beq_eq_false_iff_ne]; omega
 have t1 : decide ((1024 : Int) < X1) = false := decide_eq_false (by omega)
 have k1 : IntKind.i64.wrap ((m : Int)) = (m : Int) := IntWalk.i64_in _ (by omega)
 have k2 : IntKind.i64.wrap ((m : Int) + ex) = X1 := by rw [IntWalk.i64_in _ (by omega)]; exact hX1
 have k3 : IntKind.i64.wrap ((m : Int) - 53) = (m : Int) - 53 := IntWalk.i64_in _ (by omega)
 have k4 : IntKind.i64.wrap ((m : Int) - 53 + ex) = X4 := by rw [IntWalk.i64_in _ (by omega)]; exact hX4
 have k5 : IntKind.i64.wrap ((m : Int) + 1) = (m : Int) + 1 := IntWalk.i64_in _ (by omega)
 have k6 : IntKind.i64.wrap ((m : Int) - 53 - 1) = (m : Int) - 53 - 1 := IntWalk.i64_in _ (by omega)
 have k7 : IntKind.i64.wrap (ex + ((m : Int) - 53)) = X7 := by rw [IntWalk.i64_in _ (by omega)]; exact hX7
 have t2 : decide (X4 < -1074) = false := decide_eq_false (by omega)
 have t3 : decide ((m : Int) - 53 ≤ 0) = false := decide_eq_false (by omega)
 have t4 : decide ((m : Int) + 1 < (m : Int) - 53) = false := decide_eq_false (by omega)
 have HEV := Lh hev
 have HR1 := Lh r1
 have HR2 := Lh r2
 clear hn hc hm h hb hd h0 b1 b2 b3 hv a1 a2 hE hev r1 r2 hm2 he2 he3 hX1 hX4 hX7
 unfold ShrQ at C2 C3
 obtain ⟨mo, hmo⟩ : ∃ mo, decide (v % 2 ^ d ≠ 0) = mo := ⟨_, rfl⟩
 obtain ⟨mq, hmq⟩ : ∃ mq, decide (v % 2 ^ (d + 1) ≠ 0) = mq := ⟨_, rfl⟩
 obtain ⟨Q, hQ⟩ : ∃ Q, v / 2 ^ (d + 1) = Q := ⟨_, rfl⟩
 obtain ⟨P, hP⟩ : ∃ P, v / 2 ^ d = P := ⟨_, rfl⟩
 rw [hmq, hQ] at C2
 rw [hmo, hP] at C3
 rw [hmo, hQ, hP] at HEV
 rw [hQ] at hq1 hpq
 rw [hP] at hpq hPl
 clear hmo hmq hQ hP
 obtain ⟨NQ, hNQ⟩ : ∃ NQ, (wds Q).length = NQ := ⟨_, rfl⟩
 obtain ⟨NP, hNP⟩ : ∃ NP, (wds P).length = NP := ⟨_, rfl⟩
 have hNQ0 : 0 < NQ := by rw [← hNQ]; exact Md (by omega)
 have hNP0 : 0 < NP := by rw [← hNP]; exact Md (by omega)
 have hNQ2 : NQ ≤ 2 := by
  have := Aw (two Q)
  rw [Fk Q (by omega), hNQ] at this
  exact this
 have g1 := Ci (Az Q)
 have g2 := Ci (Az P)
 rw [Ag] at g1 g2
 have o1 := Fg (Q % 4294967296) (by omega)
 have o2 := Fg (P % 4294967296) (by omega)
 rw [show Q % 4294967296 % 2 = Q % 2 by omega] at o1
 rw [show P % 4294967296 % 2 = P % 2 by omega] at o2
 obtain ⟨x, hx⟩ : ∃ x, Q % 4294967296 = x := ⟨_, rfl⟩
 obtain ⟨y, hy⟩ : ∃ y, P % 4294967296 = y := ⟨_, rfl⟩
 rw [hx] at g1 o1
 rw [hy] at g2 o2
 have HNQ := Lh hNQ
 have HNP := Lh hNP
 have HNQ2 := Lh hNQ2
 have HQ1 := Lh hq1
 have HPQ := Lh hpq
 have HPL := Lh hPl
 have n1 : decide ((0 : Int) < (NQ : Int)) = true := decide_eq_true (by omega)
 have n2 : decide ((0 : Int) < (NP : Int)) = true := decide_eq_true (by omega)
 have n3 : (0 : Int) < (NQ : Int) := by omega
 have n4 : (0 : Int) < (NP : Int) := by omega
 clear hx hy hNQ hNP hNQ2 hq1 hpq hPl m1 m2 m3 m4
 go_enter Tryz.func266, Tryz.ntmps266
 go_wp2_with fail
 refine C1.out.mono ?_
 rintro e w1 ⟨rfl, hb1⟩
 go_wp2_with fail
 refine (C2.out _ hb1).mono ?_
 rintro e w2 ⟨A2, N2, c2, rfl, rfl, hc2, q2, hb2⟩
 rw [HNQ.out] at hc2 ⊢
 have hb12 := Aa hb1 hb2
 have HC2 := Lh hc2
 clear hc2
 go_wp2_with fail
 refine (C3.out _ hb12).mono ?_
 rintro e w3 ⟨A3, N3, c3, rfl, rfl, hc3, p3, hb3⟩
 rw [HNP.out] at hc3 ⊢
 have HC3 := Lh hc3
 have hb13 := Aa hb12 hb3
 have q3 := q2.step hb3
 have HB := Lh hb13
 have HQ3 := Lh q3
 obtain ⟨ab, ao, rfl, _, hca⟩ := q3.2 (by rw [HNQ.out]; exact hNQ0)
 obtain ⟨pb, po, rfl, _, hcb⟩ := p3.2 (by rw [HNP.out]; exact hNP0)
 have l1 := hca 0 _ (getD_some (by rw [HNQ.out]; exact hNQ0))
 have l2 := hcb 0 _ (getD_some (by rw [HNP.out]; exact hNP0))
 rw [g1, Nat.add_zero] at l1
 rw [g2, Nat.add_zero] at l2
 clear g1 g2 hca hcb q2 q3 p3 hb1 hb2 hb3 hb12 hb13 hc3 C1 C2 C3 hNQ0 hNP0
 cases hpo : decide (P % 2 = 1)
 ·have hp0 : P % 2 = 0 := by have := of_decide_eq_false hpo; omega
  rw [hp0] at o2
  have HE : Hid (E = Q) := Lh (by rw [HEV.out, hpo]; rfl)
  clear hpo hp0 o1
  obtain rfl : Q = E := HE.out.symm
  go_wp2_with fail
  have K1 := Lh (show Cp 309 #[.slice (some ⟨ab, ao, none⟩) NQ c2, .int .i64 1] w3 fun e w' => e = .returned (.int .u64 (Q / 4294967296 : Nat)) ∧ w3 = w' from by
   have := Aj (some ⟨ab, ao, none⟩) NQ c2 1 (wds (Q)) w3.heap.size w3 HNQ.out (by have := HNQ2.out; omega) HQ3.out
   rw [E9 (Az _), Ag, Nat.mod_eq_of_lt (by have := HR2.out; omega)] at this
   exact this)
  have K0 := Lh (show Cp 309 #[.slice (some ⟨ab, ao, none⟩) NQ c2, .int .i64 0] w3 fun e w' => e = .returned (.int .u64 ((Q) % 4294967296 : Nat)) ∧ w3 = w' from by
   have := Aj (some ⟨ab, ao, none⟩) NQ c2 0 (wds (Q)) w3.heap.size w3 HNQ.out (by have := HNQ2.out; omega) HQ3.out
   rw [Ci (Az _), Ag] at this
   exact this)
  have hj := Gq ((Q) / 4294967296) ((Q) % 4294967296) (by have := HR2.out; omega) (by omega)
  rw [show (Q) % 4294967296 + (Q) / 4294967296 * 4294967296 = Q by omega] at hj
  obtain ⟨yy, hyy⟩ : ∃ yy, (Q) / 4294967296 = yy := ⟨_, rfl⟩
  obtain ⟨zz, hzz⟩ : ∃ zz, (Q) % 4294967296 = zz := ⟨_, rfl⟩
  rw [hyy] at K1 hj
  rw [hzz] at K0 hj
  obtain ⟨e9, he9⟩ : ∃ e9, Q = e9 := ⟨_, rfl⟩
  rw [he9] at hj C5
  clear hyy hzz he9
  refine K1.out.mono ?_
  rintro e w' ⟨rfl, rfl⟩
  go_wp2_with fail
  refine K0.out.mono ?_
  rintro e w' ⟨rfl, rfl⟩
  go_wp2_with fail
  refine Sm (C5.out _) ?_
  go_wp2
  go_ret
  exact ⟨rfl, HB.out⟩
 ·have hp1 : P % 2 = 1 := of_decide_eq_true hpo
  rw [hp1] at o2
  cases mo
  ·cases hqo : decide (Q % 2 = 1)
   ·have hq0 : Q % 2 = 0 := by have := of_decide_eq_false hqo; omega
    rw [hq0] at o1
    have HE : Hid (E = Q) := Lh (by rw [HEV.out, hpo, hqo]; rfl)
    clear hpo hp1 hqo hq0
    obtain rfl : Q = E := HE.out.symm
    go_wp2_with fail
    have K1 := Lh (show Cp 309 #[.slice (some ⟨ab, ao, none⟩) NQ c2, .int .i64 1] w3 fun e w' => e = .returned (.int .u64 (Q / 4294967296 : Nat)) ∧ w3 = w' from by
     have := Aj (some ⟨ab, ao, none⟩) NQ c2 1 (wds (Q)) w3.heap.size w3 HNQ.out (by have := HNQ2.out; omega) HQ3.out
     rw [E9 (Az _), Ag, Nat.mod_eq_of_lt (by have := HR2.out; omega)] at this
     exact this)
    have K0 := Lh (show Cp 309 #[.slice (some ⟨ab, ao, none⟩) NQ c2, .int .i64 0] w3 fun e w' => e = .returned (.int .u64 ((Q) % 4294967296 : Nat)) ∧ w3 = w' from by
     have := Aj (some ⟨ab, ao, none⟩) NQ c2 0 (wds (Q)) w3.heap.size w3 HNQ.out (by have := HNQ2.out; omega) HQ3.out
     rw [Ci (Az _), Ag] at this
     exact this)
    have hj := Gq ((Q) / 4294967296) ((Q) % 4294967296) (by have := HR2.out; omega) (by omega)
    rw [show (Q) % 4294967296 + (Q) / 4294967296 * 4294967296 = Q by omega] at hj
    obtain ⟨yy, hyy⟩ : ∃ yy, (Q) / 4294967296 = yy := ⟨_, rfl⟩
    obtain ⟨zz, hzz⟩ : ∃ zz, (Q) % 4294967296 = zz := ⟨_, rfl⟩
    rw [hyy] at K1 hj
    rw [hzz] at K0 hj
    obtain ⟨e9, he9⟩ : ∃ e9, Q = e9 := ⟨_, rfl⟩
    rw [he9] at hj C5
    clear hyy hzz he9
    refine K1.out.mono ?_
    rintro e w' ⟨rfl, rfl⟩
    go_wp2_with fail
    refine K0.out.mono ?_
    rintro e w' ⟨rfl, rfl⟩
    go_wp2_with fail
    refine Sm (C5.out _) ?_
    go_wp2
    go_ret
    exact ⟨rfl, HB.out⟩
   ·have hq0 : Q % 2 = 1 := of_decide_eq_true hqo
    rw [hq0] at o1
    have HE : Hid (E = Q + 1) := Lh (by rw [HEV.out, hpo, hqo]; rfl)
    clear hpo hp1 hqo hq0
    have C6 := Lh (E1 (some ⟨ab, ao, none⟩) (some ⟨w3.heap.size, 0, none⟩) NQ c2 1 1 (wds Q) [1] (w3.alloc (.cells #[.int .u32 1] 156)) HNQ.out (by have := HNQ2.out; omega) (HQ3.out.step ((Below.refl w3.heap.size w3).alloc (Nat.le_refl _) _)) rfl (by omega) ((Mw w3).more (by simp)))
    rw [Ag, show val [1] = 1 from rfl] at C6
    go_wp2_with fail
    refine C6.out.mono ?_
    rintro e w5 ⟨v5, rfl, ⟨A5, c5, rfl, hc5, r5⟩, b5⟩
    have HB5 := Lh (Aa HB.out (Aa ((Below.refl w3.heap.size w3).alloc (Nat.le_refl _) _) b5))
    obtain ⟨N5, hN5⟩ : ∃ N5, (wds (Q + 1)).length = N5 := ⟨_, rfl⟩
    have hN52 : N5 ≤ 2 := by
     have := Aw (two (Q + 1))
     rw [Fk (Q + 1) (by have := HPQ.out; have := HPL.out; omega), hN5] at this
     exact this
    rw [hN5] at hc5 ⊢
    have HN5 := Lh hN5
    have HN52 := Lh hN52
    have HR5 := Lh r5
    clear hc5 r5 b5 hN5 hN52 C6
    go_wp2_with fail
    obtain rfl : E = Q + 1 := HE.out
    have K1 := Lh (show Cp 309 #[.slice A5 N5 c5, .int .i64 1] w5 fun e w' => e = .returned (.int .u64 ((Q + 1) / 4294967296 : Nat)) ∧ w5 = w' from by
     have := Aj A5 N5 c5 1 (wds (Q + 1)) w5.heap.size w5 HN5.out (by have := HN52.out; omega) HR5.out
     rw [E9 (Az _), Ag, Nat.mod_eq_of_lt (by have := HR2.out; omega)] at this
     exact this)
    have K0 := Lh (show Cp 309 #[.slice A5 N5 c5, .int .i64 0] w5 fun e w' => e = .returned (.int .u64 ((Q + 1) % 4294967296 : Nat)) ∧ w5 = w' from by
     have := Aj A5 N5 c5 0 (wds (Q + 1)) w5.heap.size w5 HN5.out (by have := HN52.out; omega) HR5.out
     rw [Ci (Az _), Ag] at this
     exact this)
    have hj := Gq ((Q + 1) / 4294967296) ((Q + 1) % 4294967296) (by have := HR2.out; omega) (by omega)
    rw [show (Q + 1) % 4294967296 + (Q + 1) / 4294967296 * 4294967296 = Q + 1 by omega] at hj
    obtain ⟨yy, hyy⟩ : ∃ yy, (Q + 1) / 4294967296 = yy := ⟨_, rfl⟩
    obtain ⟨zz, hzz⟩ : ∃ zz, (Q + 1) % 4294967296 = zz := ⟨_, rfl⟩
    rw [hyy] at K1 hj
    rw [hzz] at K0 hj
    obtain ⟨e9, he9⟩ : ∃ e9, Q + 1 = e9 := ⟨_, rfl⟩
    rw [he9] at hj C5
    clear hyy hzz he9
    refine K1.out.mono ?_
    rintro e w' ⟨rfl, rfl⟩
    go_wp2_with fail
    refine K0.out.mono ?_
    rintro e w' ⟨rfl, rfl⟩
    go_wp2_with fail
    refine Sm (C5.out _) ?_
    go_wp2
    go_ret
    exact ⟨rfl, HB5.out⟩
  ·have HE : Hid (E = Q + 1) := Lh (by rw [HEV.out, hpo]; rfl)
   clear hpo hp1 o1
   have C6 := Lh (E1 (some ⟨ab, ao, none⟩) (some ⟨w3.heap.size, 0, none⟩) NQ c2 1 1 (wds Q) [1] (w3.alloc (.cells #[.int .u32 1] 156)) HNQ.out (by have := HNQ2.out; omega) (HQ3.out.step ((Below.refl w3.heap.size w3).alloc (Nat.le_refl _) _)) rfl (by omega) ((Mw w3).more (by simp)))
   rw [Ag, show val [1] = 1 from rfl] at C6
   go_wp2_with fail
   refine C6.out.mono ?_
   rintro e w5 ⟨v5, rfl, ⟨A5, c5, rfl, hc5, r5⟩, b5⟩
   have HB5 := Lh (Aa HB.out (Aa ((Below.refl w3.heap.size w3).alloc (Nat.le_refl _) _) b5))
   obtain ⟨N5, hN5⟩ : ∃ N5, (wds (Q + 1)).length = N5 := ⟨_, rfl⟩
   have hN52 : N5 ≤ 2 := by
    have := Aw (two (Q + 1))
    rw [Fk (Q + 1) (by have := HPQ.out; have := HPL.out; omega), hN5] at this
    exact this
   rw [hN5] at hc5 ⊢
   have HN5 := Lh hN5
   have HN52 := Lh hN52
   have HR5 := Lh r5
   clear hc5 r5 b5 hN5 hN52 C6
   go_wp2_with fail
   obtain rfl : E = Q + 1 := HE.out
   have K1 := Lh (show Cp 309 #[.slice A5 N5 c5, .int .i64 1] w5 fun e w' => e = .returned (.int .u64 ((Q + 1) / 4294967296 : Nat)) ∧ w5 = w' from by
    have := Aj A5 N5 c5 1 (wds (Q + 1)) w5.heap.size w5 HN5.out (by have := HN52.out; omega) HR5.out
    rw [E9 (Az _), Ag, Nat.mod_eq_of_lt (by have := HR2.out; omega)] at this
    exact this)
   have K0 := Lh (show Cp 309 #[.slice A5 N5 c5, .int .i64 0] w5 fun e w' => e = .returned (.int .u64 ((Q + 1) % 4294967296 : Nat)) ∧ w5 = w' from by
    have := Aj A5 N5 c5 0 (wds (Q + 1)) w5.heap.size w5 HN5.out (by have := HN52.out; omega) HR5.out
    rw [Ci (Az _), Ag] at this
    exact this)
   have hj := Gq ((Q + 1) / 4294967296) ((Q + 1) % 4294967296) (by have := HR2.out; omega) (by omega)
   rw [show (Q + 1) % 4294967296 + (Q + 1) / 4294967296 * 4294967296 = Q + 1 by omega] at hj
   obtain ⟨yy, hyy⟩ : ∃ yy, (Q + 1) / 4294967296 = yy := ⟨_, rfl⟩
   obtain ⟨zz, hzz⟩ : ∃ zz, (Q + 1) % 4294967296 = zz := ⟨_, rfl⟩
   rw [hyy] at K1 hj
   rw [hzz] at K0 hj
   obtain ⟨e9, he9⟩ : ∃ e9, Q + 1 = e9 := ⟨_, rfl⟩
   rw [he9] at hj C5
   clear hyy hzz he9
   refine K1.out.mono ?_
   rintro e w' ⟨rfl, rfl⟩
   go_wp2_with fail
   refine K0.out.mono ?_
   rintro e w' ⟨rfl, rfl⟩
   go_wp2_with fail
   refine Sm (C5.out _) ?_
   go_wp2
   go_ret
   exact ⟨rfl, HB5.out⟩

open Go.RowKit
theorem Abm (A : Option Addr) (n c d mm u : Nat) (ex : Int) (l : List Nat) (w : World) (hn : l.length = n) (hc : n ≤ c) (hm : n ≤ 35184372087808) (h : RW w w.heap.size A l) (hb : btl l = mm) (hd : d ≤ 32768) (hmm : mm ≤ 32768) (hcut : -1074 - ex = ((d + 1 : Nat) : Int)) (hlo : d + 1 < mm) (hhi : mm < 54 + d)
  (C5 : RowKit.Hid (∀ W, Cq 312 #[.float .f64 (fl (evn (val l) (d + 1))), .int .i64 (ex + ((d + 1 : Nat) : Int))] (.float .f64 u) W)) :
  Ct 266 #[.slice A n c, .int .i64 ex] (.float .f64 u) w := by
 have C1 := Lh (Cl A n c l w.heap.size w hn hc (by omega) h)
 have h0 : nrm l ≠ [] := by intro e; unfold btl at hb; rw [if_pos e] at hb; omega
 obtain ⟨b1, b2, b3⟩ := Bc h.1 h0
 rw [hb] at C1 b1 b2
 have C2 := Lh (fun W (hW : Below w.heap.size w W) => Do A n c ((d + 1 : Nat) : Int) l W hn hc hm ((h.below hW).more hW.size))
 have C3 := Lh (fun W (hW : Below w.heap.size w W) => Do A n c (((d + 1 : Nat) : Int) - 1) l W hn hc hm ((h.below hW).more hW.size))
 rw [show (((d + 1 : Nat) : Int)).toNat = d + 1 by omega] at C2
 rw [show (((d + 1 : Nat) : Int) - 1).toNat = d by omega] at C3
 obtain ⟨v, hv⟩ : ∃ v, val l = v := ⟨_, rfl⟩
 rw [hv] at C2 C3 C5 b1 b2
 have hq1 : 1 ≤ v / 2 ^ (d + 1) := by
  rw [Nat.le_div_iff_mul_le (Nat.two_pow_pos _), Nat.one_mul]
  exact Nat.le_trans (Nat.pow_le_pow_right (by omega) (by omega)) b1
 have hq2 : v / 2 ^ (d + 1) < 2 ^ 53 := by
  rw [Nat.div_lt_iff_lt_mul (Nat.two_pow_pos _), ← Nat.pow_add]
  exact Nat.lt_of_lt_of_le b2 (Nat.pow_le_pow_right (by omega) (by omega))
 have hq3 : (2 : Nat) ^ 53 = 9007199254740992 := rfl
 have hpq : v / 2 ^ (d + 1) = v / 2 ^ d / 2 := by rw [Nat.pow_succ, Nat.div_div_eq_div_mul]
 have hev := Oc v d
 obtain ⟨E, hE⟩ : ∃ E, evn v (d + 1) = E := ⟨_, rfl⟩
 rw [hE] at C5 hev
 have r1 : 1 ≤ E := by omega
 have r2 : E ≤ 9007199254740992 := by
  rw [hev]
  have : ∀ b : Bool, b.toNat ≤ 1 := by intro b; cases b <;> decide
  have := this (decide (v / 2 ^ d % 2 = 1) && (decide (v % 2 ^ d ≠ 0) || decide (v / 2 ^ (d + 1) % 2 = 1)))
  omega
 have hPl : v / 2 ^ d < 18446744073709551616 := by
  omega
 obtain ⟨m, hm2⟩ : ∃ m, mm = m := ⟨_, rfl⟩
 rw [hm2] at C1
 obtain ⟨X1, hX1⟩ : ∃ X1, (m : Int) + ex = X1 := ⟨_, rfl⟩
 obtain ⟨X2, hX2⟩ : ∃ X2, (m : Int) - 53 = X2 := ⟨_, rfl⟩
 obtain ⟨X4, hX4⟩ : ∃ X4, X2 + ex = X4 := ⟨_, rfl⟩
 obtain ⟨X3, hX3⟩ : ∃ X3, ((d + 1 : Nat) : Int) = X3 := ⟨_, rfl⟩
 obtain ⟨X6, hX6⟩ : ∃ X6, X3 - 1 = X6 := ⟨_, rfl⟩
 obtain ⟨X7, hX7⟩ : ∃ X7, ex + X3 = X7 := ⟨_, rfl⟩
 rw [hX3] at C2 C3 C5 hcut
 rw [hX6] at C3
 rw [hX7] at C5
 have t0 : ((m : Int) == 0) = false := by rw [beq_eq_false_iff_ne]; omega
 have t1 : decide ((1024 : Int) < X1) = false := decide_eq_false (by omega)
 have k1 : IntKind.i64.wrap ((m : Int)) = (m : Int) := IntWalk.i64_in _ (by omega)
 have k2 : IntKind.i64.wrap ((m : Int) + ex) = X1 := by rw [IntWalk.i64_in _ (by omega)]; exact hX1
 have k3 : IntKind.i64.wrap ((m : Int) - 53) = X2 := by rw [IntWalk.i64_in _ (by omega)]; exact hX2
 have k8 : IntKind.i64.wrap (-1074 - ex) = X3 := by rw [IntWalk.i64_in _ (by omega)]; exact hcut
 have k4 : IntKind.i64.wrap (X2 + ex) = X4 := by rw [IntWalk.i64_in _ (by omega)]; exact hX4
 have k5 : IntKind.i64.wrap ((m : Int) + 1) = (m : Int) + 1 := IntWalk.i64_in _ (by omega)
 have k6 : IntKind.i64.wrap (X3 - 1) = X6 := by rw [IntWalk.i64_in _ (by omega)]; exact hX6
 have k7 : IntKind.i64.wrap (ex + X3) = X7 := by rw [IntWalk.i64_in _ (by omega)]; exact hX7
 have t2 : decide (X4 < -1074) = true := decide_eq_true (by omega)
 have t3 : decide (X3 ≤ 0) = false := decide_eq_false (by omega)
 have t4 : decide ((m : Int) + 1 < X3) = false := decide_eq_false (by omega)
 have HEV := Lh hev
 have HR1 := Lh r1
 have HR2 := Lh r2
 clear hn hc hm h hb hd h0 b1 b2 b3 hv hE hev r1 r2 hm2 hmm hcut hlo hhi hq3 hX1 hX2 hX3 hX4 hX6 hX7
 unfold ShrQ at C2 C3
 obtain ⟨mo, hmo⟩ : ∃ mo, decide (v % 2 ^ d ≠ 0) = mo := ⟨_, rfl⟩
 obtain ⟨mq, hmq⟩ : ∃ mq, decide (v % 2 ^ (d + 1) ≠ 0) = mq := ⟨_, rfl⟩
 obtain ⟨Q, hQ⟩ : ∃ Q, v / 2 ^ (d + 1) = Q := ⟨_, rfl⟩
 obtain ⟨P, hP⟩ : ∃ P, v / 2 ^ d = P := ⟨_, rfl⟩
 rw [hmq, hQ] at C2
 rw [hmo, hP] at C3
 rw [hmo, hQ, hP] at HEV
 rw [hQ] at hq1 hq2 hpq
 have hq3 : (2 : Nat) ^ 53 = 9007199254740992 := rfl
 rw [hP] at hpq hPl
 clear hmo hmq hQ hP
 obtain ⟨NQ, hNQ⟩ : ∃ NQ, (wds Q).length = NQ := ⟨_, rfl⟩
 obtain ⟨NP, hNP⟩ : ∃ NP, (wds P).length = NP := ⟨_, rfl⟩
 have hNQ0 : 0 < NQ := by rw [← hNQ]; exact Md (by omega)
 have hNP0 : 0 < NP := by rw [← hNP]; exact Md (by omega)
 have hNQ2 : NQ ≤ 2 := by
  have := Aw (two Q)
  rw [Fk Q (by omega), hNQ] at this
  exact this
 have g1 := Ci (Az Q)
 have g2 := Ci (Az P)
 rw [Ag] at g1 g2
 have o1 := Fg (Q % 4294967296) (by omega)
 have o2 := Fg (P % 4294967296) (by omega)
 rw [show Q % 4294967296 % 2 = Q % 2 by omega] at o1
 rw [show P % 4294967296 % 2 = P % 2 by omega] at o2
 obtain ⟨x, hx⟩ : ∃ x, Q % 4294967296 = x := ⟨_, rfl⟩
 obtain ⟨y, hy⟩ : ∃ y, P % 4294967296 = y := ⟨_, rfl⟩
 rw [hx] at g1 o1
 rw [hy] at g2 o2
 have HNQ := Lh hNQ
 have HNP := Lh hNP
 have HNQ2 := Lh hNQ2
 have HQ1 := Lh hq1
 have HPQ := Lh hpq
 have HPL := Lh hPl
 have n1 : decide ((0 : Int) < (NQ : Int)) = true := decide_eq_true (by omega)
 have n2 : decide ((0 : Int) < (NP : Int)) = true := decide_eq_true (by omega)
 have n3 : (0 : Int) < (NQ : Int) := by omega
 have n4 : (0 : Int) < (NP : Int) := by omega
 clear hx hy hNQ hNP hNQ2 hq1 hq2 hq3 hpq hPl
 go_enter Tryz.func266, Tryz.ntmps266
 go_wp2_with fail
 refine C1.out.mono ?_
 rintro e w1 ⟨rfl, hb1⟩
 go_wp2_with fail
 refine (C2.out _ hb1).mono ?_
 rintro e w2 ⟨A2, N2, c2, rfl, rfl, hc2, q2, hb2⟩
 rw [HNQ.out] at hc2 ⊢
 have hb12 := Aa hb1 hb2
 have HC2 := Lh hc2
 clear hc2
 go_wp2_with fail
 refine (C3.out _ hb12).mono ?_
 rintro e w3 ⟨A3, N3, c3, rfl, rfl, hc3, p3, hb3⟩
 rw [HNP.out] at hc3 ⊢
 have HC3 := Lh hc3
 have hb13 := Aa hb12 hb3
 have q3 := q2.step hb3
 have HB := Lh hb13
 have HQ3 := Lh q3
 obtain ⟨ab, ao, rfl, _, hca⟩ := q3.2 (by rw [HNQ.out]; exact hNQ0)
 obtain ⟨pb, po, rfl, _, hcb⟩ := p3.2 (by rw [HNP.out]; exact hNP0)
 have l1 := hca 0 _ (getD_some (by rw [HNQ.out]; exact hNQ0))
 have l2 := hcb 0 _ (getD_some (by rw [HNP.out]; exact hNP0))
 rw [g1, Nat.add_zero] at l1
 rw [g2, Nat.add_zero] at l2
 clear g1 g2 hca hcb q2 q3 p3 hb1 hb2 hb3 hb12 hb13 hc3 C1 C2 C3 hNQ0 hNP0
 cases hpo : decide (P % 2 = 1)
 ·have hp0 : P % 2 = 0 := by have := of_decide_eq_false hpo; omega
  rw [hp0] at o2
  have HE : Hid (E = Q) := Lh (by rw [HEV.out, hpo]; rfl)
  clear hpo hp0 o1
  obtain rfl : Q = E := HE.out.symm
  go_wp2_with fail
  have K1 := Lh (show Cp 309 #[.slice (some ⟨ab, ao, none⟩) NQ c2, .int .i64 1] w3 fun e w' => e = .returned (.int .u64 (Q / 4294967296 : Nat)) ∧ w3 = w' from by
   have := Aj (some ⟨ab, ao, none⟩) NQ c2 1 (wds (Q)) w3.heap.size w3 HNQ.out (by have := HNQ2.out; omega) HQ3.out
   rw [E9 (Az _), Ag, Nat.mod_eq_of_lt (by have := HR2.out; omega)] at this
   exact this)
  have K0 := Lh (show Cp 309 #[.slice (some ⟨ab, ao, none⟩) NQ c2, .int .i64 0] w3 fun e w' => e = .returned (.int .u64 ((Q) % 4294967296 : Nat)) ∧ w3 = w' from by
   have := Aj (some ⟨ab, ao, none⟩) NQ c2 0 (wds (Q)) w3.heap.size w3 HNQ.out (by have := HNQ2.out; omega) HQ3.out
   rw [Ci (Az _), Ag] at this
   exact this)
  have hj := Gq ((Q) / 4294967296) ((Q) % 4294967296) (by have := HR2.out; omega) (by omega)
  rw [show (Q) % 4294967296 + (Q) / 4294967296 * 4294967296 = Q by omega] at hj
  obtain ⟨yy, hyy⟩ : ∃ yy, (Q) / 4294967296 = yy := ⟨_, rfl⟩
  obtain ⟨zz, hzz⟩ : ∃ zz, (Q) % 4294967296 = zz := ⟨_, rfl⟩
  rw [hyy] at K1 hj
  rw [hzz] at K0 hj
  obtain ⟨e9, he9⟩ : ∃ e9, Q = e9 := ⟨_, rfl⟩
  rw [he9] at hj C5
  clear hyy hzz he9
  refine K1.out.mono ?_
  rintro e w' ⟨rfl, rfl⟩
  go_wp2_with fail
  refine K0.out.mono ?_
  rintro e w' ⟨rfl, rfl⟩
  go_wp2_with fail
  refine Sm (C5.out _) ?_
  go_wp2
  go_ret
  exact ⟨rfl, HB.out⟩
 ·have hp1 : P % 2 = 1 := of_decide_eq_true hpo
  rw [hp1] at o2
  cases mo
  ·cases hqo : decide (Q % 2 = 1)
   ·have hq0 : Q % 2 = 0 := by have := of_decide_eq_false hqo; omega
    rw [hq0] at o1
    have HE : Hid (E = Q) := Lh (by rw [HEV.out, hpo, hqo]; rfl)
    clear hpo hp1 hqo hq0
    obtain rfl : Q = E := HE.out.symm
    go_wp2_with fail
    have K1 := Lh (show Cp 309 #[.slice (some ⟨ab, ao, none⟩) NQ c2, .int .i64 1] w3 fun e w' => e = .returned (.int .u64 (Q / 4294967296 : Nat)) ∧ w3 = w' from by
     have := Aj (some ⟨ab, ao, none⟩) NQ c2 1 (wds (Q)) w3.heap.size w3 HNQ.out (by have := HNQ2.out; omega) HQ3.out
     rw [E9 (Az _), Ag, Nat.mod_eq_of_lt (by have := HR2.out; omega)] at this
     exact this)
    have K0 := Lh (show Cp 309 #[.slice (some ⟨ab, ao, none⟩) NQ c2, .int .i64 0] w3 fun e w' => e = .returned (.int .u64 ((Q) % 4294967296 : Nat)) ∧ w3 = w' from by
     have := Aj (some ⟨ab, ao, none⟩) NQ c2 0 (wds (Q)) w3.heap.size w3 HNQ.out (by have := HNQ2.out; omega) HQ3.out
     rw [Ci (Az _), Ag] at this
     exact this)
    have hj := Gq ((Q) / 4294967296) ((Q) % 4294967296) (by have := HR2.out; omega) (by omega)
    rw [show (Q) % 4294967296 + (Q) / 4294967296 * 4294967296 = Q by omega] at hj
    obtain ⟨yy, hyy⟩ : ∃ yy, (Q) / 4294967296 = yy := ⟨_, rfl⟩
    obtain ⟨zz, hzz⟩ : ∃ zz, (Q) % 4294967296 = zz := ⟨_, rfl⟩
    rw [hyy] at K1 hj
    rw [hzz] at K0 hj
    obtain ⟨e9, he9⟩ : ∃ e9, Q = e9 := ⟨_, rfl⟩
    rw [he9] at hj C5
    clear hyy hzz he9
    refine K1.out.mono ?_
    rintro e w' ⟨rfl, rfl⟩
    go_wp2_with fail
    refine K0.out.mono ?_
    rintro e w' ⟨rfl, rfl⟩
    go_wp2_with fail
    refine Sm (C5.out _) ?_
    go_wp2
    go_ret
    exact ⟨rfl, HB.out⟩
   ·have hq0 : Q % 2 = 1 := of_decide_eq_true hqo
    rw [hq0] at o1
    have HE : Hid (E = Q + 1) := Lh (by rw [HEV.out, hpo, hqo]; rfl)
    clear hpo hp1 hqo hq0
    have C6 := Lh (E1 (some ⟨ab, ao, none⟩) (some ⟨w3.heap.size, 0, none⟩) NQ c2 1 1 (wds Q) [1] (w3.alloc (.cells #[.int .u32 1] 156)) HNQ.out (by have := HNQ2.out; omega) (HQ3.out.step ((Below.refl w3.heap.size w3).alloc (Nat.le_refl _) _)) rfl (by omega) ((Mw w3).more (by simp)))
    rw [Ag, show val [1] = 1 from rfl] at C6
    go_wp2_with fail
    refine C6.out.mono ?_
    rintro e w5 ⟨v5, rfl, ⟨A5, c5, rfl, hc5, r5⟩, b5⟩
    have HB5 := Lh (Aa HB.out (Aa ((Below.refl w3.heap.size w3).alloc (Nat.le_refl _) _) b5))
    obtain ⟨N5, hN5⟩ : ∃ N5, (wds (Q + 1)).length = N5 := ⟨_, rfl⟩
    have hN52 : N5 ≤ 2 := by
     have := Aw (two (Q + 1))
     rw [Fk (Q + 1) (by have := HPQ.out; have := HPL.out; omega), hN5] at this
     exact this
    rw [hN5] at hc5 ⊢
    have HN5 := Lh hN5
    have HN52 := Lh hN52
    have HR5 := Lh r5
    clear hc5 r5 b5 hN5 hN52 C6
    go_wp2_with fail
    obtain rfl : E = Q + 1 := HE.out
    have K1 := Lh (show Cp 309 #[.slice A5 N5 c5, .int .i64 1] w5 fun e w' => e = .returned (.int .u64 ((Q + 1) / 4294967296 : Nat)) ∧ w5 = w' from by
     have := Aj A5 N5 c5 1 (wds (Q + 1)) w5.heap.size w5 HN5.out (by have := HN52.out; omega) HR5.out
     rw [E9 (Az _), Ag, Nat.mod_eq_of_lt (by have := HR2.out; omega)] at this
     exact this)
    have K0 := Lh (show Cp 309 #[.slice A5 N5 c5, .int .i64 0] w5 fun e w' => e = .returned (.int .u64 ((Q + 1) % 4294967296 : Nat)) ∧ w5 = w' from by
     have := Aj A5 N5 c5 0 (wds (Q + 1)) w5.heap.size w5 HN5.out (by have := HN52.out; omega) HR5.out
     rw [Ci (Az _), Ag] at this
     exact this)
    have hj := Gq ((Q + 1) / 4294967296) ((Q + 1) % 4294967296) (by have := HR2.out; omega) (by omega)
    rw [show (Q + 1) % 4294967296 + (Q + 1) / 4294967296 * 4294967296 = Q + 1 by omega] at hj
    obtain ⟨yy, hyy⟩ : ∃ yy, (Q + 1) / 4294967296 = yy := ⟨_, rfl⟩
    obtain ⟨zz, hzz⟩ : ∃ zz, (Q + 1) % 4294967296 = zz := ⟨_, rfl⟩
    rw [hyy] at K1 hj
    rw [hzz] at K0 hj
    obtain ⟨e9, he9⟩ : ∃ e9, Q + 1 = e9 := ⟨_, rfl⟩
    rw [he9] at hj C5
    clear hyy hzz he9
    refine K1.out.mono ?_
    rintro e w' ⟨rfl, rfl⟩
    go_wp2_with fail
    refine K0.out.mono ?_
    rintro e w' ⟨rfl, rfl⟩
    go_wp2_with fail
    refine Sm (C5.out _) ?_
    go_wp2
    go_ret
    exact ⟨rfl, HB5.out⟩
  ·have HE : Hid (E = Q + 1) := Lh (by rw [HEV.out, hpo]; rfl)
   clear hpo hp1 o1
   have C6 := Lh (E1 (some ⟨ab, ao, none⟩) (some ⟨w3.heap.size, 0, none⟩) NQ c2 1 1 (wds Q) [1] (w3.alloc (.cells #[.int .u32 1] 156)) HNQ.out (by have := HNQ2.out; omega) (HQ3.out.step ((Below.refl w3.heap.size w3).alloc (Nat.le_refl _) _)) rfl (by omega) ((Mw w3).more (by simp)))
   rw [Ag, show val [1] = 1 from rfl] at C6
   go_wp2_with fail
   refine C6.out.mono ?_
   rintro e w5 ⟨v5, rfl, ⟨A5, c5, rfl, hc5, r5⟩, b5⟩
   have HB5 := Lh (Aa HB.out (Aa ((Below.refl w3.heap.size w3).alloc (Nat.le_refl _) _) b5))
   obtain ⟨N5, hN5⟩ : ∃ N5, (wds (Q + 1)).length = N5 := ⟨_, rfl⟩
   have hN52 : N5 ≤ 2 := by
    have := Aw (two (Q + 1))
    rw [Fk (Q + 1) (by have := HPQ.out; have := HPL.out; omega), hN5] at this
    exact this
   rw [hN5] at hc5 ⊢
   have HN5 := Lh hN5
   have HN52 := Lh hN52
   have HR5 := Lh r5
   clear hc5 r5 b5 hN5 hN52 C6
   go_wp2_with fail
   obtain rfl : E = Q + 1 := HE.out
   have K1 := Lh (show Cp 309 #[.slice A5 N5 c5, .int .i64 1] w5 fun e w' => e = .returned (.int .u64 ((Q + 1) / 4294967296 : Nat)) ∧ w5 = w' from by
    have := Aj A5 N5 c5 1 (wds (Q + 1)) w5.heap.size w5 HN5.out (by have := HN52.out; omega) HR5.out
    rw [E9 (Az _), Ag, Nat.mod_eq_of_lt (by have := HR2.out; omega)] at this
    exact this)
   have K0 := Lh (show Cp 309 #[.slice A5 N5 c5, .int .i64 0] w5 fun e w' => e = .returned (.int .u64 ((Q + 1) % 4294967296 : Nat)) ∧ w5 = w' from by
    have := Aj A5 N5 c5 0 (wds (Q + 1)) w5.heap.size w5 HN5.out (by have := HN52.out; omega) HR5.out
    rw [Ci (Az _), Ag] at this
    exact this)
   have hj := Gq ((Q + 1) / 4294967296) ((Q + 1) % 4294967296) (by have := HR2.out; omega) (by omega)
   rw [show (Q + 1) % 4294967296 + (Q + 1) / 4294967296 * 4294967296 = Q + 1 by omega] at hj
   obtain ⟨yy, hyy⟩ : ∃ yy, (Q + 1) / 4294967296 = yy := ⟨_, rfl⟩
   obtain ⟨zz, hzz⟩ : ∃ zz, (Q + 1) % 4294967296 = zz := ⟨_, rfl⟩
   rw [hyy] at K1 hj
   rw [hzz] at K0 hj
   obtain ⟨e9, he9⟩ : ∃ e9, Q + 1 = e9 := ⟨_, rfl⟩
   rw [he9] at hj C5
   clear hyy hzz he9
   refine K1.out.mono ?_
   rintro e w' ⟨rfl, rfl⟩
   go_wp2_with fail
   refine K0.out.mono ?_
   rintro e w' ⟨rfl, rfl⟩
   go_wp2_with fail
   refine Sm (C5.out _) ?_
   go_wp2
   go_ret
   exact ⟨rfl, HB5.out⟩

open Go.RowKit
theorem Abv (A : Option Addr) (n c : Nat) (ex : Int) (l : List Nat) (w : World) (hn : l.length = n) (hc : n ≤ c) (hm : n ≤ 35184372087808) (h : RW w w.heap.size A l) (h0 : 0 < btl l) (hb : btl l ≤ 1048576) (he : ex ≤ 1048576) (hx : 1024 < (btl l : Int) + ex) :
  Ct 266 #[.slice A n c, .int .i64 ex] (.float .f64 9218868437227405312) w := by
 have C1 := Lh (Cl A n c l w.heap.size w hn hc (by omega) h)
 have C2 := Lh (fun W => Fi W)
 obtain ⟨m, hm2⟩ : ∃ m, btl l = m := ⟨_, rfl⟩
 rw [hm2] at C1 h0 hb hx
 have t0 : ((m : Int) == 0) = false := by rw [beq_eq_false_iff_ne]; omega
 obtain ⟨X1, hX1⟩ : ∃ X1, (m : Int) + ex = X1 := ⟨_, rfl⟩
 have k2 : IntKind.i64.wrap ((m : Int) + ex) = X1 := by rw [IntWalk.i64_in _ (by omega)]; exact hX1
 have t1 : decide ((1024 : Int) < X1) = true := decide_eq_true (by omega)
 clear hn hc hm h hm2 h0 hb he hx hX1
 go_enter Tryz.func266, Tryz.ntmps266
 go_wp2_with fail
 refine C1.out.mono ?_
 rintro e w' ⟨rfl, hbw⟩
 go_wp2_with fail
 refine Sm (C2.out _) ?_
 go_wp2
 go_ret
 exact ⟨rfl, hbw⟩
theorem Ab5 (A : Option Addr) (n c : Nat) (ex : Int) (l : List Nat) (w : World) (hn : l.length = n) (hc : n ≤ c) (hm : n ≤ 35184372087808) (h : RW w w.heap.size A l) (h0 : 0 < btl l) (hb : btl l ≤ 1048576) (he : -1048576 ≤ ex) (hx : (btl l : Int) + 1 < -1074 - ex) :
  Ct 266 #[.slice A n c, .int .i64 ex] (.float .f64 0) w := by
 have C1 := Lh (Cl A n c l w.heap.size w hn hc (by omega) h)
 obtain ⟨m, hm2⟩ : ∃ m, btl l = m := ⟨_, rfl⟩
 rw [hm2] at C1 h0 hb hx
 have t0 : ((m : Int) == 0) = false := by rw [beq_eq_false_iff_ne]; omega
 obtain ⟨X1, hX1⟩ : ∃ X1, (m : Int) + ex = X1 := ⟨_, rfl⟩
 obtain ⟨X2, hX2⟩ : ∃ X2, (m : Int) - 53 = X2 := ⟨_, rfl⟩
 obtain ⟨X3, hX3⟩ : ∃ X3, -1074 - ex = X3 := ⟨_, rfl⟩
 obtain ⟨X4, hX4⟩ : ∃ X4, X2 + ex = X4 := ⟨_, rfl⟩
 have k2 : IntKind.i64.wrap ((m : Int) + ex) = X1 := by rw [IntWalk.i64_in _ (by omega)]; exact hX1
 have k3 : IntKind.i64.wrap ((m : Int) - 53) = X2 := by rw [IntWalk.i64_in _ (by omega)]; exact hX2
 have k4 : IntKind.i64.wrap (X2 + ex) = X4 := by rw [IntWalk.i64_in _ (by omega)]; exact hX4
 have k5 : IntKind.i64.wrap (-1074 - ex) = X3 := by rw [IntWalk.i64_in _ (by omega)]; exact hX3
 have k6 : IntKind.i64.wrap ((m : Int) + 1) = (m : Int) + 1 := IntWalk.i64_in _ (by omega)
 have t1 : decide ((1024 : Int) < X1) = false := decide_eq_false (by omega)
 have t2 : decide (X4 < -1074) = true := decide_eq_true (by omega)
 have t3 : decide (X3 ≤ 0) = false := decide_eq_false (by omega)
 have t4 : decide ((m : Int) + 1 < X3) = true := decide_eq_true (by omega)
 clear hn hc hm h hm2 h0 hb he hx hX1 hX2 hX3 hX4
 go_enter Tryz.func266, Tryz.ntmps266
 go_wp2_with fail
 refine C1.out.mono ?_
 rintro e w' ⟨rfl, hbw⟩
 go_wp2
 go_ret
 exact ⟨rfl, hbw⟩
/-   One half and perhaps more, or less than a half: no bit of the quotient stands. -/
theorem Wi (A : Option Addr) (n c d mm u : Nat) (ex : Int) (l : List Nat) (w : World) (hn : l.length = n) (hc : n ≤ c) (hm : n ≤ 35184372087808) (h : RW w w.heap.size A l) (hb : btl l = mm) (hd : d ≤ 32768) (hmm : 0 < mm) (hcut : -1074 - ex = ((d + 1 : Nat) : Int)) (hlo : d = mm) 
  (C5 : RowKit.Hid (∀ W, Cq 312 #[.float .f64 0, .int .i64 (ex + ((d + 1 : Nat) : Int))] (.float .f64 u) W)) :
  Ct 266 #[.slice A n c, .int .i64 ex] (.float .f64 u) w := by
 have C1 := Lh (Cl A n c l w.heap.size w hn hc (by omega) h)
 have h0 : nrm l ≠ [] := by intro e; unfold btl at hb; rw [if_pos e] at hb; omega
 obtain ⟨b1, b2, b3⟩ := Bc h.1 h0
 rw [hb] at C1 b1 b2
 have C2 := Lh (fun W (hW : Below w.heap.size w W) => Do A n c ((d + 1 : Nat) : Int) l W hn hc hm ((h.below hW).more hW.size))
 have C3 := Lh (fun W (hW : Below w.heap.size w W) => Do A n c (((d + 1 : Nat) : Int) - 1) l W hn hc hm ((h.below hW).more hW.size))
 rw [show (((d + 1 : Nat) : Int)).toNat = d + 1 by omega] at C2
 rw [show (((d + 1 : Nat) : Int) - 1).toNat = d by omega] at C3
 obtain ⟨v, hv⟩ : ∃ v, val l = v := ⟨_, rfl⟩
 rw [hv] at C2 C3 b1 b2
 have z1 : v / 2 ^ (d + 1) = 0 := Nat.div_eq_of_lt (Nat.lt_of_lt_of_le b2 (Nat.pow_le_pow_right (by omega) (by omega)))
 have z2 : v / 2 ^ d = 0 := Nat.div_eq_of_lt (by rw [hlo]; exact b2)
 unfold ShrQ at C2 C3
 rw [z1] at C2
 rw [z2] at C3
 rw [show (wds 0).length = 0 by decide] at C2 C3
 obtain ⟨mo, hmo⟩ : ∃ mo, decide (v % 2 ^ d ≠ 0) = mo := ⟨_, rfl⟩
 obtain ⟨mq, hmq⟩ : ∃ mq, decide (v % 2 ^ (d + 1) ≠ 0) = mq := ⟨_, rfl⟩
 rw [hmq] at C2
 rw [hmo] at C3
 clear hv z1 z2 hmo hmq
 obtain ⟨m, hm2⟩ : ∃ m, mm = m := ⟨_, rfl⟩
 rw [hm2] at C1
 obtain ⟨X1, hX1⟩ : ∃ X1, (m : Int) + ex = X1 := ⟨_, rfl⟩
 obtain ⟨X2, hX2⟩ : ∃ X2, (m : Int) - 53 = X2 := ⟨_, rfl⟩
 obtain ⟨X4, hX4⟩ : ∃ X4, X2 + ex = X4 := ⟨_, rfl⟩
 obtain ⟨X3, hX3⟩ : ∃ X3, ((d + 1 : Nat) : Int) = X3 := ⟨_, rfl⟩
 obtain ⟨X6, hX6⟩ : ∃ X6, X3 - 1 = X6 := ⟨_, rfl⟩
 obtain ⟨X7, hX7⟩ : ∃ X7, ex + X3 = X7 := ⟨_, rfl⟩
 rw [hX3] at C2 C3 C5 hcut
 rw [hX6] at C3
 rw [hX7] at C5
 have t0 : ((m : Int) == 0) = false := by rw [beq_eq_false_iff_ne]; omega
 have t1 : decide ((1024 : Int) < X1) = false := decide_eq_false (by omega)
 have k1 : IntKind.i64.wrap ((m : Int)) = (m : Int) := IntWalk.i64_in _ (by omega)
 have k2 : IntKind.i64.wrap ((m : Int) + ex) = X1 := by rw [IntWalk.i64_in _ (by omega)]; exact hX1
 have k3 : IntKind.i64.wrap ((m : Int) - 53) = X2 := by rw [IntWalk.i64_in _ (by omega)]; exact hX2
 have k8 : IntKind.i64.wrap (-1074 - ex) = X3 := by rw [IntWalk.i64_in _ (by omega)]; exact hcut
 have k4 : IntKind.i64.wrap (X2 + ex) = X4 := by rw [IntWalk.i64_in _ (by omega)]; exact hX4
 have k5 : IntKind.i64.wrap ((m : Int) + 1) = (m : Int) + 1 := IntWalk.i64_in _ (by omega)
 have k6 : IntKind.i64.wrap (X3 - 1) = X6 := by rw [IntWalk.i64_in _ (by omega)]; exact hX6
 have k7 : IntKind.i64.wrap (ex + X3) = X7 := by rw [IntWalk.i64_in _ (by omega)]; exact hX7
 have t2 : decide (X4 < -1074) = true := decide_eq_true (by omega)
 have t3 : decide (X3 ≤ 0) = false := decide_eq_false (by omega)
 have t4 : decide ((m : Int) + 1 < X3) = false := decide_eq_false (by omega)
 clear hn hc hm h hb hd h0 b1 b2 b3 hm2 hmm hcut hlo hX1 hX2 hX3 hX4 hX6 hX7
 go_enter Tryz.func266, Tryz.ntmps266
 go_wp2_with fail
 refine C1.out.mono ?_
 rintro e w1 ⟨rfl, hb1⟩
 go_wp2_with fail
 refine (C2.out _ hb1).mono ?_
 rintro e w2 ⟨A2, N2, c2, rfl, hN2, hc2, q2, hb2⟩
 obtain rfl : N2 = 0 := hN2
 have hb12 := Aa hb1 hb2
 have HC2 := Lh hc2
 clear hc2
 go_wp2_with fail
 refine (C3.out _ hb12).mono ?_
 rintro e w3 ⟨A3, N3, c3, rfl, hN3, hc3, p3, hb3⟩
 have HB := Lh (Aa hb12 hb3)
 have HQ3 := Lh (q2.step hb3)
 have HC3 := Lh hc3
 obtain rfl : N3 = 0 := hN3
 clear hb1 hb2 hb3 hb12 hc3 q2 p3 C1 C2 C3
 have K1 := Lh (show Cp 309 #[.slice A2 0 c2, .int .i64 1] w3 fun e w' => e = .returned (.int .u64 0) ∧ w3 = w' from Aj A2 0 c2 1 (wds 0) w3.heap.size w3 rfl (by omega) HQ3.out)
 have K0 := Lh (show Cp 309 #[.slice A2 0 c2, .int .i64 0] w3 fun e w' => e = .returned (.int .u64 0) ∧ w3 = w' from Aj A2 0 c2 0 (wds 0) w3.heap.size w3 rfl (by omega) HQ3.out)
 go_wp2_with fail
 refine K1.out.mono ?_
 rintro e w' ⟨rfl, rfl⟩
 go_wp2_with fail
 refine K0.out.mono ?_
 rintro e w' ⟨rfl, rfl⟩
 go_wp2_with fail
 refine Sm (C5.out _) ?_
 go_wp2
 go_ret
 exact ⟨rfl, HB.out⟩
theorem Wy (A : Option Addr) (n c d mm u : Nat) (ex : Int) (l : List Nat) (w : World) (hn : l.length = n) (hc : n ≤ c) (hm : n ≤ 35184372087808) (h : RW w w.heap.size A l) (hb : btl l = mm) (hd : d ≤ 32768) (hmm : 0 < mm) (hcut : -1074 - ex = ((d + 1 : Nat) : Int)) (hlo : d + 1 = mm) (hmo0 : decide (val l % 2 ^ d ≠ 0) = false)
  (C5 : RowKit.Hid (∀ W, Cq 312 #[.float .f64 0, .int .i64 (ex + ((d + 1 : Nat) : Int))] (.float .f64 u) W)) :
  Ct 266 #[.slice A n c, .int .i64 ex] (.float .f64 u) w := by
 have C1 := Lh (Cl A n c l w.heap.size w hn hc (by omega) h)
 have h0 : nrm l ≠ [] := by intro e; unfold btl at hb; rw [if_pos e] at hb; omega
 obtain ⟨b1, b2, b3⟩ := Bc h.1 h0
 rw [hb] at C1 b1 b2
 have C2 := Lh (fun W (hW : Below w.heap.size w W) => Do A n c ((d + 1 : Nat) : Int) l W hn hc hm ((h.below hW).more hW.size))
 have C3 := Lh (fun W (hW : Below w.heap.size w W) => Do A n c (((d + 1 : Nat) : Int) - 1) l W hn hc hm ((h.below hW).more hW.size))
 rw [show (((d + 1 : Nat) : Int)).toNat = d + 1 by omega] at C2
 rw [show (((d + 1 : Nat) : Int) - 1).toNat = d by omega] at C3
 obtain ⟨v, hv⟩ : ∃ v, val l = v := ⟨_, rfl⟩
 rw [hv] at C2 C3 b1 b2 hmo0
 have z1 : v / 2 ^ (d + 1) = 0 := Nat.div_eq_of_lt (by rw [hlo]; exact b2)
 have z2 : v / 2 ^ d = 1 := by
  have e1 : 2 ^ d ≤ v := by rw [show d = mm - 1 by omega]; exact b1
  have e2 : v < 2 * 2 ^ d := by rw [Nat.mul_comm, ← Nat.pow_succ, show d.succ = mm by omega]; exact b2
  have l1 : 1 ≤ v / 2 ^ d := (Nat.le_div_iff_mul_le (Nat.two_pow_pos d)).2 (by omega)
  have l2 : v / 2 ^ d < 2 := (Nat.div_lt_iff_lt_mul (Nat.two_pow_pos d)).2 e2
  omega
 unfold ShrQ at C2 C3
 rw [z1] at C2
 rw [z2] at C3
 rw [show (wds 0).length = 0 by decide] at C2
 rw [show (wds 1).length = 1 by decide] at C3
 obtain ⟨mo, hmo⟩ : ∃ mo, decide (v % 2 ^ d ≠ 0) = mo := ⟨_, rfl⟩
 obtain ⟨mq, hmq⟩ : ∃ mq, decide (v % 2 ^ (d + 1) ≠ 0) = mq := ⟨_, rfl⟩
 rw [hmq] at C2
 rw [hmo] at C3 hmo0
 have o2 := Fg 1 (by omega)
 clear hv z1 z2 hmo hmq
 subst hmo0
 obtain ⟨m, hm2⟩ : ∃ m, mm = m := ⟨_, rfl⟩
 rw [hm2] at C1
 obtain ⟨X1, hX1⟩ : ∃ X1, (m : Int) + ex = X1 := ⟨_, rfl⟩
 obtain ⟨X2, hX2⟩ : ∃ X2, (m : Int) - 53 = X2 := ⟨_, rfl⟩
 obtain ⟨X4, hX4⟩ : ∃ X4, X2 + ex = X4 := ⟨_, rfl⟩
 obtain ⟨X3, hX3⟩ : ∃ X3, ((d + 1 : Nat) : Int) = X3 := ⟨_, rfl⟩
 obtain ⟨X6, hX6⟩ : ∃ X6, X3 - 1 = X6 := ⟨_, rfl⟩
 obtain ⟨X7, hX7⟩ : ∃ X7, ex + X3 = X7 := ⟨_, rfl⟩
 rw [hX3] at C2 C3 C5 hcut
 rw [hX6] at C3
 rw [hX7] at C5
 have t0 : ((m : Int) == 0) = false := by rw [beq_eq_false_iff_ne]; omega
 have t1 : decide ((1024 : Int) < X1) = false := decide_eq_false (by omega)
 have k1 : IntKind.i64.wrap ((m : Int)) = (m : Int) := IntWalk.i64_in _ (by omega)
 have k2 : IntKind.i64.wrap ((m : Int) + ex) = X1 := by rw [IntWalk.i64_in _ (by omega)]; exact hX1
 have k3 : IntKind.i64.wrap ((m : Int) - 53) = X2 := by rw [IntWalk.i64_in _ (by omega)]; exact hX2
 have k8 : IntKind.i64.wrap (-1074 - ex) = X3 := by rw [IntWalk.i64_in _ (by omega)]; exact hcut
 have k4 : IntKind.i64.wrap (X2 + ex) = X4 := by rw [IntWalk.i64_in _ (by omega)]; exact hX4
 have k5 : IntKind.i64.wrap ((m : Int) + 1) = (m : Int) + 1 := IntWalk.i64_in _ (by omega)
 have k6 : IntKind.i64.wrap (X3 - 1) = X6 := by rw [IntWalk.i64_in _ (by omega)]; exact hX6
 have k7 : IntKind.i64.wrap (ex + X3) = X7 := by rw [IntWalk.i64_in _ (by omega)]; exact hX7
 have t2 : decide (X4 < -1074) = true := decide_eq_true (by omega)
 have t3 : decide (X3 ≤ 0) = false := decide_eq_false (by omega)
 have t4 : decide ((m : Int) + 1 < X3) = false := decide_eq_false (by omega)
 clear hn hc hm h hb hd h0 b1 b2 b3 hm2 hmm hcut hlo hX1 hX2 hX3 hX4 hX6 hX7
 go_enter Tryz.func266, Tryz.ntmps266
 go_wp2_with fail
 refine C1.out.mono ?_
 rintro e w1 ⟨rfl, hb1⟩
 go_wp2_with fail
 refine (C2.out _ hb1).mono ?_
 rintro e w2 ⟨A2, N2, c2, rfl, hN2, hc2, q2, hb2⟩
 obtain rfl : N2 = 0 := hN2
 have hb12 := Aa hb1 hb2
 have HC2 := Lh hc2
 clear hc2
 go_wp2_with fail
 refine (C3.out _ hb12).mono ?_
 rintro e w3 ⟨A3, N3, c3, rfl, hN3, hc3, p3, hb3⟩
 have HB := Lh (Aa hb12 hb3)
 have HQ3 := Lh (q2.step hb3)
 have HC3 := Lh hc3
 obtain rfl : N3 = 1 := hN3
 obtain ⟨pb, po, rfl, _, hcb⟩ := p3.2 (by rw [show (wds 1).length = 1 by decide]; omega)
 have l2 := hcb 0 1 (by decide)
 rw [Nat.add_zero] at l2
 clear hb1 hb2 hb3 hb12 hc3 q2 p3 C1 C2 C3 hcb
 have K1 := Lh (show Cp 309 #[.slice A2 0 c2, .int .i64 1] w3 fun e w' => e = .returned (.int .u64 0) ∧ w3 = w' from Aj A2 0 c2 1 (wds 0) w3.heap.size w3 rfl (by omega) HQ3.out)
 have K0 := Lh (show Cp 309 #[.slice A2 0 c2, .int .i64 0] w3 fun e w' => e = .returned (.int .u64 0) ∧ w3 = w' from Aj A2 0 c2 0 (wds 0) w3.heap.size w3 rfl (by omega) HQ3.out)
 go_wp2_with fail
 refine K1.out.mono ?_
 rintro e w' ⟨rfl, rfl⟩
 go_wp2_with fail
 refine K0.out.mono ?_
 rintro e w' ⟨rfl, rfl⟩
 go_wp2_with fail
 refine Sm (C5.out _) ?_
 go_wp2
 go_ret
 exact ⟨rfl, HB.out⟩
theorem Aem (A : Option Addr) (n c d mm u : Nat) (ex : Int) (l : List Nat) (w : World) (hn : l.length = n) (hc : n ≤ c) (hm : n ≤ 35184372087808) (h : RW w w.heap.size A l) (hb : btl l = mm) (hd : d ≤ 32768) (hmm : 0 < mm) (hcut : -1074 - ex = ((d + 1 : Nat) : Int)) (hlo : d + 1 = mm) (hmo0 : decide (val l % 2 ^ d ≠ 0) = true)
  (C5 : RowKit.Hid (∀ W, Cq 312 #[.float .f64 (fl 1), .int .i64 (ex + ((d + 1 : Nat) : Int))] (.float .f64 u) W)) :
  Ct 266 #[.slice A n c, .int .i64 ex] (.float .f64 u) w := by
 have C1 := Lh (Cl A n c l w.heap.size w hn hc (by omega) h)
 have h0 : nrm l ≠ [] := by intro e; unfold btl at hb; rw [if_pos e] at hb; omega
 obtain ⟨b1, b2, b3⟩ := Bc h.1 h0
 rw [hb] at C1 b1 b2
 have C2 := Lh (fun W (hW : Below w.heap.size w W) => Do A n c ((d + 1 : Nat) : Int) l W hn hc hm ((h.below hW).more hW.size))
 have C3 := Lh (fun W (hW : Below w.heap.size w W) => Do A n c (((d + 1 : Nat) : Int) - 1) l W hn hc hm ((h.below hW).more hW.size))
 rw [show (((d + 1 : Nat) : Int)).toNat = d + 1 by omega] at C2
 rw [show (((d + 1 : Nat) : Int) - 1).toNat = d by omega] at C3
 obtain ⟨v, hv⟩ : ∃ v, val l = v := ⟨_, rfl⟩
 rw [hv] at C2 C3 b1 b2 hmo0
 have z1 : v / 2 ^ (d + 1) = 0 := Nat.div_eq_of_lt (by rw [hlo]; exact b2)
 have z2 : v / 2 ^ d = 1 := by
  have e1 : 2 ^ d ≤ v := by rw [show d = mm - 1 by omega]; exact b1
  have e2 : v < 2 * 2 ^ d := by rw [Nat.mul_comm, ← Nat.pow_succ, show d.succ = mm by omega]; exact b2
  have l1 : 1 ≤ v / 2 ^ d := (Nat.le_div_iff_mul_le (Nat.two_pow_pos d)).2 (by omega)
  have l2 : v / 2 ^ d < 2 := (Nat.div_lt_iff_lt_mul (Nat.two_pow_pos d)).2 e2
  omega
 unfold ShrQ at C2 C3
 rw [z1] at C2
 rw [z2] at C3
 rw [show (wds 0).length = 0 by decide] at C2
 rw [show (wds 1).length = 1 by decide] at C3
 obtain ⟨mo, hmo⟩ : ∃ mo, decide (v % 2 ^ d ≠ 0) = mo := ⟨_, rfl⟩
 obtain ⟨mq, hmq⟩ : ∃ mq, decide (v % 2 ^ (d + 1) ≠ 0) = mq := ⟨_, rfl⟩
 rw [hmq] at C2
 rw [hmo] at C3 hmo0
 have o2 := Fg 1 (by omega)
 clear hv z1 z2 hmo hmq
 subst hmo0
 obtain ⟨m, hm2⟩ : ∃ m, mm = m := ⟨_, rfl⟩
 rw [hm2] at C1
 obtain ⟨X1, hX1⟩ : ∃ X1, (m : Int) + ex = X1 := ⟨_, rfl⟩
 obtain ⟨X2, hX2⟩ : ∃ X2, (m : Int) - 53 = X2 := ⟨_, rfl⟩
 obtain ⟨X4, hX4⟩ : ∃ X4, X2 + ex = X4 := ⟨_, rfl⟩
 obtain ⟨X3, hX3⟩ : ∃ X3, ((d + 1 : Nat) : Int) = X3 := ⟨_, rfl⟩
 obtain ⟨X6, hX6⟩ : ∃ X6, X3 - 1 = X6 := ⟨_, rfl⟩
 obtain ⟨X7, hX7⟩ : ∃ X7, ex + X3 = X7 := ⟨_, rfl⟩
 rw [hX3] at C2 C3 C5 hcut
 rw [hX6] at C3
 rw [hX7] at C5
 have t0 : ((m : Int) == 0) = false := by rw [beq_eq_false_iff_ne]; omega
 have t1 : decide ((1024 : Int) < X1) = false := decide_eq_false (by omega)
 have k1 : IntKind.i64.wrap ((m : Int)) = (m : Int) := IntWalk.i64_in _ (by omega)
 have k2 : IntKind.i64.wrap ((m : Int) + ex) = X1 := by rw [IntWalk.i64_in _ (by omega)]; exact hX1
 have k3 : IntKind.i64.wrap ((m : Int) - 53) = X2 := by rw [IntWalk.i64_in _ (by omega)]; exact hX2
 have k8 : IntKind.i64.wrap (-1074 - ex) = X3 := by rw [IntWalk.i64_in _ (by omega)]; exact hcut
 have k4 : IntKind.i64.wrap (X2 + ex) = X4 := by rw [IntWalk.i64_in _ (by omega)]; exact hX4
 have k5 : IntKind.i64.wrap ((m : Int) + 1) = (m : Int) + 1 := IntWalk.i64_in _ (by omega)
 have k6 : IntKind.i64.wrap (X3 - 1) = X6 := by rw [IntWalk.i64_in _ (by omega)]; exact hX6
 have k7 : IntKind.i64.wrap (ex + X3) = X7 := by rw [IntWalk.i64_in _ (by omega)]; exact hX7
 have t2 : decide (X4 < -1074) = true := decide_eq_true (by omega)
 have t3 : decide (X3 ≤ 0) = false := decide_eq_false (by omega)
 have t4 : decide ((m : Int) + 1 < X3) = false := decide_eq_false (by omega)
 clear hn hc hm h hb hd h0 b1 b2 b3 hm2 hmm hcut hlo hX1 hX2 hX3 hX4 hX6 hX7
 go_enter Tryz.func266, Tryz.ntmps266
 go_wp2_with fail
 refine C1.out.mono ?_
 rintro e w1 ⟨rfl, hb1⟩
 go_wp2_with fail
 refine (C2.out _ hb1).mono ?_
 rintro e w2 ⟨A2, N2, c2, rfl, hN2, hc2, q2, hb2⟩
 obtain rfl : N2 = 0 := hN2
 have hb12 := Aa hb1 hb2
 have HC2 := Lh hc2
 clear hc2
 go_wp2_with fail
 refine (C3.out _ hb12).mono ?_
 rintro e w3 ⟨A3, N3, c3, rfl, hN3, hc3, p3, hb3⟩
 have HB := Lh (Aa hb12 hb3)
 have HQ3 := Lh (q2.step hb3)
 have HC3 := Lh hc3
 obtain rfl : N3 = 1 := hN3
 obtain ⟨pb, po, rfl, _, hcb⟩ := p3.2 (by rw [show (wds 1).length = 1 by decide]; omega)
 have l2 := hcb 0 1 (by decide)
 rw [Nat.add_zero] at l2
 clear hb1 hb2 hb3 hb12 hc3 q2 p3 C1 C2 C3 hcb
 have C6 := Lh (E1 A2 (some ⟨w3.heap.size, 0, none⟩) 0 c2 1 1 (wds 0) [1] (w3.alloc (.cells #[.int .u32 1] 156)) (by decide) (by omega) (HQ3.out.step ((Below.refl w3.heap.size w3).alloc (Nat.le_refl _) _)) rfl (by omega) ((Mw w3).more (by simp)))
 rw [Ag, show val [1] = 1 from rfl] at C6
 go_wp2_with fail
 refine C6.out.mono ?_
 rintro e w5 ⟨v5, rfl, ⟨A5, c5, rfl, hc5, r5⟩, b5⟩
 have HB5 := Lh (Aa HB.out (Aa ((Below.refl w3.heap.size w3).alloc (Nat.le_refl _) _) b5))
 rw [show (wds (0 + 1)).length = 1 by decide] at hc5 ⊢
 have HR5 := Lh r5
 clear hc5 r5 b5 C6
 go_wp2_with fail
 have K1 := Lh (show Cp 309 #[.slice A5 1 c5, .int .i64 1] w5 fun e w' => e = .returned (.int .u64 0) ∧ w5 = w' from Aj A5 1 c5 1 (wds (0 + 1)) w5.heap.size w5 (by decide) (by omega) HR5.out)
 have K0 := Lh (show Cp 309 #[.slice A5 1 c5, .int .i64 0] w5 fun e w' => e = .returned (.int .u64 1) ∧ w5 = w' from Aj A5 1 c5 0 (wds (0 + 1)) w5.heap.size w5 (by decide) (by omega) HR5.out)
 refine K1.out.mono ?_
 rintro e w' ⟨rfl, rfl⟩
 go_wp2_with fail
 refine K0.out.mono ?_
 rintro e w' ⟨rfl, rfl⟩
 go_wp2_with fail
 refine Sm (C5.out _) ?_
 go_wp2
 go_ret
 exact ⟨rfl, HB5.out⟩
theorem Y4 {N K : Nat} (h : N ≤ 9007199254740992) (hK : K = 1074) : fl N < 9218868437227405312 ∧ Ay (fl N) = N * 2 ^ K := by
 rcases Nat.eq_or_lt_of_le h with h1 | h1
 ·rw [h1, show fl 9007199254740992 = 4845873199050653696 by decide +kernel]
  refine ⟨by omega, ?_⟩
  obtain ⟨d, hd⟩ : ∃ d : Nat, d = 1075 := ⟨_, rfl⟩
  have := Ba 4503599627370496 d (by omega) (by omega)
  rw [show d * 4503599627370496 + 4503599627370496 = 4845873199050653696 by omega] at this
  rw [this, show d = K + 1 by omega, Nat.pow_succ, Nat.mul_comm (2 ^ K) 2, ← Nat.mul_assoc]
 ·obtain ⟨a, b⟩ := Aah h1 hK
  exact ⟨b, a⟩
theorem Qk {D E : Nat} (hE : E ≤ 9007199254740992) (hD : D = 0 ∨ 4503599627370496 ≤ E) : Ay (D * 4503599627370496 + E) = E * 2 ^ D := by
 rcases Nat.eq_or_lt_of_le hE with h | h
 ·rw [h, show D * 4503599627370496 + 9007199254740992 = (D + 1) * 4503599627370496 + 4503599627370496 by omega, Ba _ _ (by omega) (by omega), Nat.pow_succ, Nat.mul_comm (2 ^ D) 2, ← Nat.mul_assoc]
 ·rcases hD with h0 | h0
  ·rw [h0, Nat.zero_mul, Nat.zero_add, Nat.pow_zero, Nat.mul_one]; exact Ex h
  ·exact Ba _ _ h0 h
theorem Y8 {E D : Nat} {e' : Int} (hE : E ≤ 9007199254740992) (hD : D = 0 ∨ 4503599627370496 ≤ E) (hD2 : D ≤ 2045) (he : e' = (D : Int) - 1074) (w : World) : Cq 312 #[.float .f64 (fl E), .int .i64 e'] (.float .f64 (min (D * 4503599627370496 + E) 9218868437227405312)) w := by
 obtain ⟨K, hK⟩ : ∃ K : Nat, K = 1074 := ⟨_, rfl⟩
 obtain ⟨y1, y2⟩ := Y4 hE hK
 have hmk := Qk hE hD
 rcases Nat.eq_zero_or_pos E with h0 | h0
 ·subst h0
  have : D = 0 := by omega
  subst this
  rw [fl_zero]
  exact Oe e' w
 ·have hy0 : 0 < fl E := Gg.1 (by rw [y2]; exact Nat.mul_pos h0 (Nat.two_pow_pos K))
  have hyn : 4503599627370496 ≤ fl E := by
   rcases Nat.lt_or_ge (fl E) 4503599627370496 with h | h
   ·have h1 := Ex (r := fl E) (by omega)
    rw [y2] at h1
    have h2 : 1 * 2 ^ K ≤ E * 2 ^ K := Nat.mul_le_mul_right _ h0
    have h3 : 2 ^ 60 ≤ 2 ^ K := Nat.pow_le_pow_right (by omega) (by omega)
    have h4 : (2 : Nat) ^ 60 = 1152921504606846976 := by decide
    omega
   ·exact h
  rcases Nat.lt_or_ge (D * 4503599627370496 + E) 9218868437227405312 with h | h
  ·rw [Nat.min_eq_left (by omega)]
   rcases Nat.lt_or_ge D K with h1 | h1
   ·obtain ⟨j, hj⟩ : ∃ j, K = D + j := ⟨K - D, by omega⟩
    have := M9 (y := fl E) (D := j) (u := D * 4503599627370496 + E) hyn y1 (by omega) (by rw [hmk, y2, hj, Nat.pow_add, Nat.mul_assoc]) w
    rw [show e' = -(j : Int) by omega]
    exact this
   ·obtain ⟨j, hj⟩ : ∃ j, D = K + j := ⟨D - K, by omega⟩
    have := Qc (y := fl E) (D := j) (u := D * 4503599627370496 + E) hy0 y1 h (by rw [hmk, y2, hj, Nat.pow_add, Nat.mul_assoc]) w
    rw [show e' = (j : Int) by omega]
    exact this
  ·rw [Nat.min_eq_right h]
   have hD3 : D = 2045 := by omega
   have hE3 : E = 9007199254740992 := by omega
   have := Ky (fl E) 971 w hyn y1 (by omega)
   rw [show scl (fl E) 971 = 9218868437227405312 from by rw [hE3, show fl 9007199254740992 = 4845873199050653696 by decide +kernel]; decide] at this
   rw [show e' = ((971 : Nat) : Int) by omega]
   exact this
theorem Abg (A : Option Addr) (n c a b : Nat) (ex : Int) (l : List Nat) (w : World) (hn : l.length = n) (hc : n ≤ c) (hm : n ≤ 35184372087808) (h : RW w w.heap.size A l) (hb : btl l ≤ 32768) (he1 : -32768 ≤ ex) (he2 : ex ≤ 32768) (hab : (a : Int) - b = ex + 1074) :
  Ct 266 #[.slice A n c, .int .i64 ex] (.float .f64 (rnd (val l * 2 ^ a) (2 ^ b))) w := by
 have hB := Nat.two_pow_pos b
 rcases Nat.eq_zero_or_pos (btl l) with h0 | h0
 ·have h1 : val l = 0 := by
   by_cases e : nrm l = []
   ·have := Ar l
    rw [e] at this
    exact this.symm
   ·have b2 := (Bc h.1 e).2.1
    rw [h0, Nat.pow_zero] at b2
    omega
  have h2 : rnd (val l * 2 ^ a) (2 ^ b) = 0 := by
   rw [h1, Nat.zero_mul]
   unfold rnd Bb
   rw [Nat.zero_div, P8]
   rfl
  rw [h2]
  exact M2 A n c ex l w hn hc hm h (by assumption)
 ·have hne : nrm l ≠ [] := by intro e; unfold btl at h0; rw [if_pos e] at h0; omega
  obtain ⟨b1, b2, b3⟩ := Bc h.1 hne
  obtain ⟨m, hm2⟩ : ∃ m, btl l = m := ⟨_, rfl⟩
  rw [hm2] at b1 b2 h0 hb
  obtain ⟨v, hv⟩ : ∃ v, val l = v := ⟨_, rfl⟩
  rw [hv] at b1 b2 ⊢
  by_cases hinf : 1024 < (m : Int) + ex
  ·have : rnd (v * 2 ^ a) (2 ^ b) = 9218868437227405312 := by
    unfold rnd
    refine Nat.min_eq_right ?_
    have hp : 2046 ≤ Bb (v * 2 ^ a) (2 ^ b) := by
     unfold Bb
     have h1 : 2 ^ (m - 1 + a - b) ≤ v * 2 ^ a / 2 ^ b := by
      rw [Nat.le_div_iff_mul_le hB, ← Nat.pow_add, show m - 1 + a - b + b = m - 1 + a by omega, Nat.pow_add]
      exact Nat.mul_le_mul_right _ b1
     have h2 := (Nat.le_log2 (by have := Nat.two_pow_pos (m - 1 + a - b); omega)).2 h1
     omega
    have hc1 : 4503599627370496 ≤ Cu (v * 2 ^ a) (2 ^ Bb (v * 2 ^ a) (2 ^ b) * 2 ^ b) := by
     refine Ms (Nat.mul_pos (Nat.two_pow_pos _) hB) ?_
     obtain ⟨D, hD⟩ : ∃ D, Bb (v * 2 ^ a) (2 ^ b) = D := ⟨_, rfl⟩
     rw [hD] at hp ⊢
     unfold Bb at hD
     have h3 : 2 ^ (v * 2 ^ a / 2 ^ b).log2 ≤ v * 2 ^ a / 2 ^ b := (Db _ (by
      rcases Nat.eq_zero_or_pos (v * 2 ^ a / 2 ^ b) with h4 | h4
      ·rw [h4, show Nat.log2 0 = 0 by decide] at hD; omega
      ·exact h4)).1
     have h5 := (Nat.le_div_iff_mul_le hB).1 h3
     rw [show (v * 2 ^ a / 2 ^ b).log2 = 52 + D by omega, Nat.pow_add] at h5
     rw [show (4503599627370496 : Nat) = 2 ^ 52 from rfl, ← Nat.mul_assoc]
     exact h5
    have : 2046 * 4503599627370496 ≤ Bb (v * 2 ^ a) (2 ^ b) * 4503599627370496 := Nat.mul_le_mul_right _ hp
    omega
   rw [this]
   exact Abv A n c ex l w hn hc hm h (by omega) (by omega) (by omega) (by rw [hm2]; exact hinf)
  ·-- the place
   obtain ⟨D, hD⟩ : ∃ D : Nat, (max ((m : Int) - 53 + ex + 1074) 0).toNat = D := ⟨_, rfl⟩
   have hpl : Bb (v * 2 ^ a) (2 ^ b) = D := by
    refine Ej hB ?_ ?_
    ·rcases Nat.eq_zero_or_pos D with h1 | h1
     ·exact Or.inl h1
     ·refine Or.inr ?_
      rw [show (4503599627370496 : Nat) = 2 ^ 52 from rfl, ← Nat.pow_add, ← Nat.pow_add]
      refine Nat.le_trans ?_ (Nat.mul_le_mul_right _ b1)
      rw [← Nat.pow_add]
      exact Nat.pow_le_pow_right (by omega) (by omega)
    ·refine Nat.lt_of_lt_of_le (Nat.mul_lt_mul_of_pos_right b2 (Nat.two_pow_pos a)) ?_
     rw [show (9007199254740992 : Nat) = 2 ^ 53 from rfl, ← Nat.pow_add, ← Nat.pow_add, ← Nat.pow_add]
     exact Nat.pow_le_pow_right (by omega) (by omega)
   have hrnd : rnd (v * 2 ^ a) (2 ^ b) = min (D * 4503599627370496 + Cu (v * 2 ^ a) (2 ^ D * 2 ^ b)) 9218868437227405312 := by unfold rnd; rw [hpl]
   rw [hrnd]
   -- the digits kept, either way
   have hup : ∀ k : Nat, (D : Int) - 1074 - ex = -(k : Int) → Cu (v * 2 ^ a) (2 ^ D * 2 ^ b) = v * 2 ^ k := by
    intro k hk
    rw [← Nat.pow_add]
    have e0 : evn (v * 2 ^ k) 0 = v * 2 ^ k := by have := D9 (v * 2 ^ k) 0; rwa [Nat.pow_zero, Nat.mul_one] at this
    rw [← e0, ← No, Nat.pow_zero]
    have := By (u := v * 2 ^ k) (w := 1) (k := 2 ^ (D + b)) (Nat.two_pow_pos _)
    rw [Nat.one_mul] at this
    rw [← this, Nat.mul_assoc, ← Nat.pow_add, show k + (D + b) = a by omega]
   have hdn : ∀ k : Nat, (D : Int) - 1074 - ex = (k : Int) → Cu (v * 2 ^ a) (2 ^ D * 2 ^ b) = evn v k := by
    intro k hk
    rw [← Nat.pow_add, ← No, show D + b = k + a by omega, Nat.pow_add, By (Nat.two_pow_pos a)]
   rcases Int.lt_or_le ((D : Int) - 1074 - ex) 1 with hcut | hcut
   ·obtain ⟨k, hk⟩ : ∃ k : Nat, (D : Int) - 1074 - ex = -(k : Int) := ⟨(-((D : Int) - 1074 - ex)).toNat, by omega⟩
    rw [hup k hk]
    have hv53 : v < 9007199254740992 := Nat.lt_of_lt_of_le b2 (Nat.le_trans (Nat.pow_le_pow_right (by omega) (show m ≤ 53 by omega)) (by decide))
    have hc3 : v * 2 ^ k < 9007199254740992 := by
     have h1 : v * 2 ^ k < 2 ^ m * 2 ^ k := Nat.mul_lt_mul_of_pos_right b2 (Nat.two_pow_pos k)
     rw [← Nat.pow_add] at h1
     exact Nat.lt_of_lt_of_le h1 (Nat.le_trans (Nat.pow_le_pow_right (by omega) (show m + k ≤ 53 by omega)) (by decide))
    have hc4 : D = 0 ∨ 4503599627370496 ≤ v * 2 ^ k := by
     rcases Nat.eq_zero_or_pos D with h1 | h1
     ·exact Or.inl h1
     ·refine Or.inr ?_
      refine Nat.le_trans ?_ (Nat.mul_le_mul_right _ b1)
      rw [← Nat.pow_add, show m - 1 + k = 52 by omega]
      decide
    have hmk := Qk (D := D) (E := v * 2 ^ k) (by omega) hc4
    have hD2 : D ≤ 2045 := by omega
    rw [Nat.min_eq_left (by omega)]
    refine Aed A n c _ ex l w hn hc hm h (by rw [hv]; exact hv53) (by omega) (by omega) (by omega) ?_
    rw [hv, hmk, Nat.mul_assoc, ← Nat.pow_add, show k + D = (ex + 1074).toNat by omega]
   ·obtain ⟨d, hd⟩ : ∃ d : Nat, (D : Int) - 1074 - ex = ((d + 1 : Nat) : Int) := ⟨((D : Int) - 1074 - ex - 1).toNat, by omega⟩
    rw [hdn (d + 1) hd]
    have hE : evn v (d + 1) ≤ 9007199254740992 := by
     refine Ajo (Nat.le_of_lt (Nat.lt_of_lt_of_le b2 ?_))
     rw [show (9007199254740992 : Nat) = 2 ^ 53 from rfl, ← Nat.pow_add]
     exact Nat.pow_le_pow_right (by omega) (by omega)
    have hE2 : D = 0 ∨ 4503599627370496 ≤ evn v (d + 1) := by
     rcases Nat.eq_zero_or_pos D with h1 | h1
     ·exact Or.inl h1
     ·refine Or.inr (Ajg ?_)
      rw [show (4503599627370496 : Nat) = 2 ^ 52 from rfl, ← Nat.pow_add]
      exact Nat.le_trans (Nat.pow_le_pow_right (by omega) (by omega)) b1
    have C5 := Lh (fun W => Y8 (e' := (D : Int) - 1074) hE hE2 (by omega) rfl W)
    by_cases hr : m = 54 + d
    ·refine T7 A n c d _ ex l w hn hc hm h (by rw [hm2]; exact hr) (by omega) (by omega) (by omega) ?_
     rw [hv, show ex + (((54 + d : Nat) : Int) - 53) = (D : Int) - 1074 by omega]
     exact C5
    ·have hD0 : D = 0 := by omega
     have he : ex + ((d + 1 : Nat) : Int) = (D : Int) - 1074 := by omega
     rcases Nat.lt_trichotomy (d + 1) m with h1 | h1 | h1
     ·refine Abm A n c d m _ ex l w hn hc hm h hm2 (by omega) (by omega) (by omega) h1 (by omega) ?_
      rw [hv, he]
      exact C5
     ·have hq : v / 2 ^ (d + 1) = 0 := Nat.div_eq_of_lt (by rw [h1]; exact b2)
      have hev := Oc v d
      have hp : v / 2 ^ d = 1 := by
       have e1 : 2 ^ d ≤ v := by rw [show d = m - 1 by omega]; exact b1
       have e2 : v < 2 * 2 ^ d := by rw [Nat.mul_comm, ← Nat.pow_succ, show d.succ = m by omega]; exact b2
       have l1 : 1 ≤ v / 2 ^ d := (Nat.le_div_iff_mul_le (Nat.two_pow_pos d)).2 (by omega)
       have l2 : v / 2 ^ d < 2 := (Nat.div_lt_iff_lt_mul (Nat.two_pow_pos d)).2 e2
       omega
      rw [hq, hp] at hev
      cases hmo : decide (v % 2 ^ d ≠ 0)
      ·rw [hmo] at hev
       have hev0 : evn v (d + 1) = 0 := by rw [hev]; decide
       rw [hev0, fl_zero, ← he] at C5
       rw [hev0]
       exact Wy A n c d m _ ex l w hn hc hm h hm2 (by omega) (by omega) (by omega) h1 (by rw [hv]; exact hmo) C5
      ·rw [hmo] at hev
       have hev1 : evn v (d + 1) = 1 := by rw [hev]; decide
       rw [hev1, ← he] at C5
       rw [hev1]
       exact Aem A n c d m _ ex l w hn hc hm h hm2 (by omega) (by omega) (by omega) h1 (by rw [hv]; exact hmo) C5
     ·have hev0 : evn v (d + 1) = 0 := by
       refine Sp ?_
       rw [Nat.pow_succ]
       have : v < 2 ^ d := Nat.lt_of_lt_of_le b2 (Nat.pow_le_pow_right (by omega) (by omega))
       omega
      rw [hev0, fl_zero, ← he] at C5
      rw [hev0]
      by_cases h2 : d = m
      ·exact Wi A n c d m _ ex l w hn hc hm h hm2 (by omega) (by omega) (by omega) h2 C5
      ·rw [hD0]
       exact Ab5 A n c ex l w hn hc hm h (by omega) (by omega) (by omega) (by rw [hm2]; omega)



end
section
structure NV (w : World) (A : Option Addr) (n c v : Nat) : Prop where
 len : (wds v).length = n
 cap : n ≤ c
 row : RW w w.heap.size A (wds v)
theorem NV.step {w w' : World} {A : Option Addr} {n c v : Nat} (h : NV w A n c v) (hb : Below w.heap.size w w') : NV w' A n c v := ⟨h.len, h.cap, h.row.step hb⟩
def bln (v : Nat) : Nat := btl (wds v)
theorem Ahj {v : Nat} (h : 0 < v) : nrm (wds v) ≠ [] := by
 intro e
 have := Nx e
 rw [Ag] at this
 omega
theorem Ck {v : Nat} (h : 0 < v) : 2 ^ (bln v - 1) ≤ v ∧ v < 2 ^ bln v ∧ 0 < bln v := by
 have := Bc (Az v) (Ahj h)
 rw [Ag] at this
 exact this
theorem Jg : bln 0 = 0 := by decide
theorem Km {v L : Nat} (h : v < 2 ^ L) : bln v ≤ L := by
 rcases Nat.eq_zero_or_pos v with h0 | h0
 ·rw [h0, Jg]; omega
 ·have h1 := (Ck h0).1
  have h2 := (Nat.pow_lt_pow_iff_right (a := 2) (by omega)).1 (Nat.lt_of_le_of_lt h1 h)
  omega
theorem Ae1 {v L : Nat} (h : v < 2 ^ (32 * L)) : (wds v).length ≤ L := by
 refine Bd ?_
 rw [show (4294967296 : Nat) = 2 ^ 32 from rfl, ← Nat.pow_mul]
 exact h
theorem Bf {v : Nat} (h : bln v ≤ 30000) : (wds v).length ≤ 940 := by
 obtain ⟨L, hL⟩ : ∃ L : Nat, L = 940 := ⟨_, rfl⟩
 rw [← hL]
 rcases Nat.eq_zero_or_pos v with h0 | h0
 ·rw [h0]; show 0 ≤ L; omega
 ·exact Ae1 (Nat.lt_of_lt_of_le (Ck h0).2.1 (Nat.pow_le_pow_right (by omega) (by omega)))
theorem Ee {v : Nat} (h : bln v ≤ 30000) : Am v = false := by
 unfold Am
 have := Bf h
 exact decide_eq_false (by omega)
theorem F3 (a b : Nat) : bln (a * b) ≤ bln a + bln b := by
 rcases Nat.eq_zero_or_pos a with h0 | h0
 ·rw [h0, Nat.zero_mul, Jg]; omega
 rcases Nat.eq_zero_or_pos b with h1 | h1
 ·rw [h1, Nat.mul_zero, Jg]; omega
 ·refine Km ?_
  rw [Nat.pow_add]
  exact Nat.mul_lt_mul'' (Ck h0).2.1 (Ck h1).2.1
theorem Dr {a b : Nat} (h : a ≤ b) : bln a ≤ bln b := by
 rcases Nat.eq_zero_or_pos b with h0 | h0
 ·have : a = 0 := by omega
  rw [this, h0]; omega
 ·exact Km (Nat.lt_of_le_of_lt h (Ck h0).2.1)
theorem Ka (k : Nat) : bln (2 ^ k) ≤ k + 1 := Km (by rw [Nat.pow_succ]; have := Nat.two_pow_pos k; omega)
theorem Mj (b k : Nat) : bln (b ^ k) ≤ bln b * k + 1 := by
 rcases Nat.eq_zero_or_pos b with h0 | h0
 ·cases k with
  | zero => rw [Nat.pow_zero, show bln 1 = 1 by decide]; omega
  | succ k => rw [h0, Nat.zero_pow (by omega), Jg]; omega
 ·refine Km ?_
  have h1 := (Ck h0).2.1
  have h2 : b ^ k ≤ (2 ^ bln b) ^ k := Nat.pow_le_pow_left (Nat.le_of_lt h1) k
  rw [← Nat.pow_mul] at h2
  rw [Nat.pow_succ]
  have := Nat.two_pow_pos (bln b * k)
  omega
theorem Oh (k : Nat) : bln (5 ^ k) ≤ 3 * k + 1 := by have := Mj 5 k; rw [show bln 5 = 3 by decide] at this; exact this
theorem Gs (k : Nat) : bln (10 ^ k) ≤ 4 * k + 1 := by have := Mj 10 k; rw [show bln 10 = 4 by decide] at this; exact this
/-! ### The program's functions -/
def NOk (v : Nat) (w : World) (e : Ending) (w' : World) : Prop := ∃ A n c, e = .returned (.tuple #[.slice A n c, .int .i64 0]) ∧ NV w' A n c v ∧ Below w.heap.size w w'
theorem NOk.of {v : Nat} {w w' : World} {e : Ending} (hl : Am v = false) (h : NatPost v w e w') : NOk v w e w' := by
 obtain ⟨A, n, c, k, he, hp, hb⟩ := h
 rw [if_neg (by rw [hl]; simp)] at hp
 obtain ⟨h1, h2, h3, h4⟩ := hp
 subst h3
 exact ⟨A, n, c, he, ⟨h1.symm, h2, h4⟩, hb⟩
theorem Akp {w : World} {A C : Option Addr} {n c m d a b : Nat} (hA : NV w A n c a) (hB : NV w C m d b) (ha : bln a ≤ 15000) (hb : bln b ≤ 15000) :
  Cp 338 #[.slice A n c, .slice C m d] w (NOk (a * b) w) := by
 have la := Ee (v := a) (by omega)
 have lb := Ee (v := b) (by omega)
 have lab := Ee (v := a * b) (Nat.le_trans (F3 a b) (by omega))
 have h1 := Bf (v := a) (by omega)
 have h2 := Bf (v := b) (by omega)
 rw [hA.len] at h1
 rw [hB.len] at h2
 have := Ah3 A C n c m d (wds a) (wds b) w hA.len hA.cap (by omega) hA.row hB.len hB.cap (by omega) hB.row
 rw [Ag, Ag] at this
 refine this.mono fun e w' x => ?_
 unfold Mk at x
 rw [if_neg (by rw [la, lb]; simp)] at x
 exact NOk.of lab x
theorem Akq (b n : Nat) (w : World) (hb : b < 4294967296) (hl : bln (b ^ n) ≤ 30000) (hn : n < 100000) : Cp 337 #[.int .u32 b, .int .i64 n] w (NOk (b ^ n) w) :=
 (Ahh b n w hb (by omega)).mono fun e w' x => NOk.of (Ee hl) x
theorem Aj8 {w : World} {A : Option Addr} {n c a : Nat} (hA : NV w A n c a) (p : Nat) (ha : bln a + p ≤ 29000) : Cp 340 #[.slice A n c, .int .i64 p] w (NOk (a * 2 ^ p) w) := by
 have la := Ee (v := a) (by omega)
 have h1 := Bf (v := a) (by omega)
 rw [hA.len] at h1
 have hp := Ka p
 have lab := Ee (v := a * 2 ^ p) (Nat.le_trans (F3 a _) (by omega))
 have := Ac1 A n c p (wds a) w hA.len hA.cap (by omega) hA.row
 rw [Ag] at this
 refine this.mono fun e w' x => ?_
 unfold Tj at x
 rw [if_neg (by rw [la]; simp), if_neg (by omega), Int.toNat_natCast] at x
 exact NOk.of lab x
def DOk (a b : Nat) (w : World) (e : Ending) (w' : World) : Prop := ∃ A n c C m d, e = .returned (.tuple #[.slice A n c, .slice C m d, .int .i64 0]) ∧ NV w' A n c (a / b) ∧ NV w' C m d (a % b) ∧ Below w.heap.size w w'
theorem Akn {w : World} {A C : Option Addr} {n c m d a b : Nat} (hA : NV w A n c a) (hB : NV w C m d b) (ha : bln a ≤ 30000) (hb : bln b ≤ 30000) (h0 : 0 < b) :
  Cp 341 #[.slice A n c, .slice C m d] w (DOk a b w) := by
 have la := Ee (v := a) (by omega)
 have lb := Ee (v := b) (by omega)
 have h1 := Bf (v := a) (by omega)
 have h2 := Bf (v := b) (by omega)
 rw [hA.len] at h1
 rw [hB.len] at h2
 have := Ahw A C n c m d (wds a) (wds b) w hA.len hA.cap (by omega) hA.row hB.len hB.cap (by omega) hB.row
 rw [Ag, Ag] at this
 refine this.mono fun e w' x => ?_
 have hlb : (Am a || Am b) = false := by rw [la, lb]; rfl
 obtain ⟨A2, n2, c2, C2, m2, d2, he, ⟨x1, x2, x3, x4, x5, x6⟩, hbw⟩ := x
 have hB2 := Rx hlb h0
 unfold Lc at x1 x5
 unfold Kv at x3 x6
 rw [if_pos hB2] at x1 x5 x3 x6
 have hk : Hq a b = 0 := by unfold Hq; rw [if_neg (by rw [hlb]; simp), if_neg (by omega)]
 rw [hk] at he
 exact ⟨A2, n2, c2, C2, m2, d2, he, ⟨x1.symm, x2, x5⟩, ⟨x3.symm, x4, x6⟩, hbw⟩
theorem Aix {w : World} {A : Option Addr} {n c a : Nat} (hA : NV w A n c a) (ha : bln a ≤ 30000) : Cq 305 #[.slice A n c] (.int .i64 (bln a : Nat)) w := by
 have h1 := Bf (v := a) (by omega)
 rw [hA.len] at h1
 exact Fj A n c (wds a) w.heap.size w hA.len hA.cap (by omega) hA.row
def NRet (v : Nat) (w : World) (e : Ending) (w' : World) : Prop := ∃ A n c, e = .returned (.slice A n c) ∧ NV w' A n c v ∧ Below w.heap.size w w'
theorem NRet.of {v : Nat} {w w' : World} {e : Ending} (h : SlPost (wds v) w e w') : NRet v w e w' := by
 obtain ⟨V, he, ⟨A, c, hv, hc, hr⟩, hb⟩ := h
 subst hv
 exact ⟨A, _, c, he, ⟨rfl, hc, hr⟩, hb⟩
theorem nof (n : Nat) (hn : n < 18446744073709551616) (w : World) : Cp 304 #[.int .u64 n] w (NRet n w) :=
 (Rl n hn w).mono fun e w' x => NRet.of (by rw [F2 n hn] at x; exact x)
/-! ### The reference's functions -/
theorem Z3 {w : World} {A C : Option Addr} {n c m d a b : Nat} (hA : NV w A n c a) (hB : NV w C m d b) (ha : bln a ≤ 30000) (hb : bln b ≤ 30000) :
  Cp 265 #[.slice A n c, .slice C m d] w (NRet (a * b) w) := by
 have h1 := Bf (v := a) (by omega)
 have h2 := Bf (v := b) (by omega)
 rw [hA.len] at h1
 rw [hB.len] at h2
 have := Pd A C n c m d (wds a) (wds b) w hA.len (by omega) hA.row hB.len (by omega) hB.row
 rw [Ag, Ag] at this
 exact this.mono fun e w' x => NRet.of x
theorem Ajs {w : World} {A C : Option Addr} {n c m d a b : Nat} (hA : NV w A n c a) (hB : NV w C m d b) (ha : bln a ≤ 30000) (hb : bln b ≤ 30000) :
  Cp 264 #[.slice A n c, .slice C m d] w (NRet (a + b) w) := by
 have h1 := Bf (v := a) (by omega)
 have h2 := Bf (v := b) (by omega)
 rw [hA.len] at h1
 rw [hB.len] at h2
 have := E1 A C n c m d (wds a) (wds b) w hA.len (by omega) hA.row hB.len (by omega) hB.row
 rw [Ag, Ag] at this
 exact this.mono fun e w' x => NRet.of x
theorem Aj6 {w : World} {A : Option Addr} {n c a : Nat} (hA : NV w A n c a) (p : Nat) (ha : bln a ≤ 30000) (hp : p ≤ 32768) : Cp 317 #[.slice A n c, .int .i64 p] w (NRet (a * 2 ^ p) w) := by
 have h1 := Bf (v := a) (by omega)
 rw [hA.len] at h1
 have := Af7 A n c p (wds a) w hA.len hA.cap (by omega) hA.row hp
 rw [Ag] at this
 exact this.mono fun e w' x => NRet.of x
def Ul (a b : Nat) (w : World) (e : Ending) (w' : World) : Prop := ∃ A n c C m d, e = .returned (.tuple #[.slice A n c, .slice C m d]) ∧ NV w' A n c (a / b) ∧ NV w' C m d (a % b) ∧ Below w.heap.size w w'
theorem Afc {w : World} {A : Option Addr} {n c a : Nat} (hA : NV w A n c a) (ha : bln a ≤ 30000) : Ct 311 #[.slice A n c] (.int .i64 (bln a : Nat)) w := by
 have h1 := Bf (v := a) (by omega)
 rw [hA.len] at h1
 exact Cl A n c (wds a) w.heap.size w hA.len hA.cap (by omega) hA.row
theorem Sj {w : World} {A : Option Addr} {n c a : Nat} (hA : NV w A n c a) (ha : bln a ≤ 30000) (x y : Nat) (ex : Int) (he1 : -32768 ≤ ex) (he2 : ex ≤ 32768) (hxy : (x : Int) - y = ex + 1074) :
  Ct 266 #[.slice A n c, .int .i64 ex] (.float .f64 (rnd (a * 2 ^ x) (2 ^ y))) w := by
 have h1 := Bf (v := a) (by omega)
 rw [hA.len] at h1
 have := Abg A n c x y ex (wds a) w hA.len hA.cap (by omega) hA.row (show bln a ≤ 32768 by omega) he1 he2 hxy
 rw [Ag] at this
 exact this
theorem Ad8 {w : World} {A C : Option Addr} {n c m d a b : Nat} (hA : NV w A n c a) (hB : NV w C m d b) (ha : bln a ≤ 30000) (hb : bln b ≤ 30000) (h0 : 0 < b) :
  Cp 316 #[.slice A n c, .slice C m d] w (Ul a b w) := by
 have h1 := Bf (v := a) (by omega)
 have h2 := Bf (v := b) (by omega)
 rw [hA.len] at h1
 rw [hB.len] at h2
 have := Wb A C n c m d (wds a) (wds b) w hA.len (by omega) hA.row hB.len (by omega) hB.row (H7 b) (by rw [Ag]; exact h0)
 rw [Ag, Ag] at this
 refine this.mono fun e w' x => ?_
 obtain ⟨A2, n2, c2, C2, m2, d2, he, ⟨x1, x2, x3, x4, x5, x6⟩, hbw⟩ := x
 exact ⟨A2, n2, c2, C2, m2, d2, he, ⟨x1.symm, x2, x5⟩, ⟨x3.symm, x4, x6⟩, hbw⟩
theorem Za {x : Nat} (h0 : 0 < x) (hx : x < 4294967296) : wds x = [x] := by
 have h := Be (l := [x]) (Ws.cons hx Ws.nil)
 rw [show val [x] = x by simp [val]] at h
 rw [← h]
 exact Dg (fun e => by have := e.1; omega)
theorem NV.lit (W : World) (x : Nat) (h0 : 0 < x) (hx : x < 4294967296) : NV (W.alloc (.cells #[.int .u32 (x : Int)] 156)) (some ⟨W.heap.size, 0, none⟩) 1 1 x :=
 ⟨by rw [Za h0 hx]; rfl, Nat.le_refl _, by rw [Za h0 hx]; exact Gn W x hx⟩


end
section
theorem Da (k : Nat) : 0 < 2 ^ k := Nat.two_pow_pos k
theorem Ps {N n q t A B D : Nat} (hq : N = q * n + t) (hn : 0 < n) (hD : Bb (N * 2 ^ A) (2 ^ B * n) = D) (hbig : 2 ^ 60 ≤ q) : A + 7 ≤ D + B := by
 have s2 := (E0 (Nat.mul_pos (Da B) hn) hD).2
 rcases Nat.lt_or_ge (D + B) (A + 7) with h | h
 ·exfalso
  have h1 : 2 ^ 60 * n ≤ N := by
   have := Nat.mul_le_mul_right n hbig
   omega
  have h2 : 2 ^ 60 * n * 2 ^ A ≤ N * 2 ^ A := Nat.mul_le_mul_right _ h1
  have h3 : 2 ^ D * 2 ^ B ≤ 2 ^ (A + 6) := by rw [← Nat.pow_add]; exact Nat.pow_le_pow_right (by omega) (by omega)
  have h4 : (2 : Nat) ^ (A + 6) = 2 ^ A * 64 := by rw [Nat.pow_add]
  have h5 : 9007199254740992 * 2 ^ D * (2 ^ B * n) = 9007199254740992 * (2 ^ D * 2 ^ B) * n := by grind
  rw [h5] at s2
  have h6 : 9007199254740992 * (2 ^ D * 2 ^ B) * n ≤ 9007199254740992 * (2 ^ A * 64) * n := Nat.mul_le_mul_right _ (Nat.mul_le_mul_left _ (by omega))
  have h7 : (2 : Nat) ^ 60 = 1152921504606846976 := by decide
  rw [h7] at h2
  have hP := Da A
  generalize 2 ^ A = P at *
  have h8 : 9007199254740992 * (P * 64) * n = 576460752303423488 * (n * P) := by grind
  have h9 : 1152921504606846976 * n * P = 1152921504606846976 * (n * P) := Nat.mul_assoc _ _ _
  omega
 ·exact h
theorem Aar {m N n q t s : Nat} {ten last : Int} (hN : N = m * 5 ^ ten.toNat * 2 ^ (ten - last).toNat) (hn : n = 5 ^ (-ten).toNat * 2 ^ (last - ten).toNat) (hq : N = q * n + t) (ht : t < n) (hs : s = if t = 0 then 0 else 1) (hbig : last = -1076 ∨ 2 ^ 60 ≤ q) :
  Bq m ten = rnd ((q ||| s) * 2 ^ (last + 1074).toNat) (2 ^ (-(last + 1074)).toNat) := by
 obtain ⟨K, hK, hd⟩ := Fp
 obtain ⟨A, hA⟩ : ∃ A, (last + 1074).toNat = A := ⟨_, rfl⟩
 obtain ⟨B, hB⟩ : ∃ B, (-(last + 1074)).toNat = B := ⟨_, rfl⟩
 have hn0 : 0 < n := by omega
 obtain ⟨D, hD⟩ : ∃ D, Bb (N * 2 ^ A) (2 ^ B * n) = D := ⟨_, rfl⟩
 have key : A + 2 ≤ D + B := by
  rcases hbig with h | h
  ·omega
  ·have := Ps hq hn0 hD h
   omega
 obtain ⟨d, hd2⟩ : ∃ d, D + B = A + d := ⟨D + B - A, by omega⟩
 rw [hA, hB, (Uf hn0 hq ht hs hD hd2 (by omega)).2 (by omega), hd]
 refine Lj (Bv _) (Nat.mul_pos (Da B) hn0) ?_
 rw [hN, hn, show (10 : Nat) = 5 * 2 from rfl, Nat.mul_pow, Nat.mul_pow]
 have e1 : 2 ^ ten.toNat * 2 ^ K * 2 ^ B * 2 ^ (last - ten).toNat = 2 ^ (ten - last).toNat * 2 ^ A * 2 ^ (-ten).toNat := by
  rw [← Nat.pow_add, ← Nat.pow_add, ← Nat.pow_add, ← Nat.pow_add, ← Nat.pow_add]
  congr 1
  omega
 generalize 5 ^ ten.toNat = f at *
 generalize 5 ^ (-ten).toNat = g at *
 generalize 2 ^ ten.toNat = x1 at *
 generalize 2 ^ K = x2 at *
 generalize 2 ^ B = x3 at *
 generalize 2 ^ (last - ten).toNat = x4 at *
 generalize 2 ^ (ten - last).toNat = y1 at *
 generalize 2 ^ A = y2 at *
 generalize 2 ^ (-ten).toNat = y3 at *
 have a1 : m * (f * x1) * x2 * (x3 * (g * x4)) = m * f * g * (x1 * x2 * x3 * x4) := by grind
 have a2 : m * f * y1 * y2 * (g * y3) = m * f * g * (y1 * y2 * y3) := by grind
 rw [a1, a2, e1]
theorem Aay {m N q t s k up a b : Nat} (hN : N = m * 2 ^ up) (hq : N = q * 10 ^ k + t) (ht : t < 10 ^ k) (hs : s = if t = 0 then 0 else 1) (hbig : 2 ^ 60 ≤ q) (ha : a = 1074 - up) (hb : b = up - 1074) :
  rnd ((2 * q + s) * 2 ^ a) (2 ^ (b + 1)) = Bq m (-(k : Int)) := by
 obtain ⟨K, hK, hd⟩ := Fp
 obtain ⟨n, hn⟩ : ∃ n, 10 ^ k = n := ⟨_, rfl⟩
 rw [hn] at hq ht
 have hn0 : 0 < n := by omega
 obtain ⟨D, hD⟩ : ∃ D, Bb (N * 2 ^ a) (2 ^ b * n) = D := ⟨_, rfl⟩
 have key := Ps hq hn0 hD hbig
 obtain ⟨d, hd2⟩ : ∃ d, D + b = a + d := ⟨D + b - a, by omega⟩
 rw [(Uf hn0 hq ht hs hD hd2 (by omega)).1, hd, show (-(k : Int)).toNat = 0 by omega, show (-(-(k : Int))).toNat = k by omega, hn, Nat.pow_zero, Nat.mul_one]
 refine Lj (Nat.mul_pos (Da b) hn0) hn0 ?_
 rw [hN]
 have e1 : 2 ^ up * 2 ^ a = 2 ^ K * 2 ^ b := by
  rw [← Nat.pow_add, ← Nat.pow_add]
  congr 1
  omega
 generalize 2 ^ up = x1 at *
 generalize 2 ^ a = x2 at *
 generalize 2 ^ K = y1 at *
 generalize 2 ^ b = y2 at *
 have a1 : m * x1 * x2 * n = m * n * (x1 * x2) := by grind
 have a2 : m * y1 * (y2 * n) = m * n * (y1 * y2) := by grind
 rw [a1, a2, e1]
theorem Aeo {n L drop A B D : Nat} (h1 : n < 2 ^ L) (h2 : L = 0 ∨ 2 ^ (L - 1) ≤ n) (hL : L ≤ drop + 53) (h3 : D = 0 ∨ L = drop + 53) (hD : D + B = A + drop) :
  rnd (n * 2 ^ A) (2 ^ B) = min (D * 4503599627370496 + Cu n (2 ^ drop)) 9218868437227405312 ∧ Cu n (2 ^ drop) ≤ 9007199254740992 ∧ (D = 0 ∨ 4503599627370496 ≤ Cu n (2 ^ drop)) := by
 have hP : 2 ^ D * 2 ^ B = 2 ^ A * 2 ^ drop := by rw [← Nat.pow_add, ← Nat.pow_add, hD]
 have hA := Da A
 have hd := Da drop
 have up : n ≤ 9007199254740992 * 2 ^ drop ∧ n < 9007199254740992 * 2 ^ drop := by
  have : 2 ^ L ≤ 9007199254740992 * 2 ^ drop := by
   rw [show (9007199254740992 : Nat) = 2 ^ 53 from rfl, ← Nat.pow_add]
   exact Nat.pow_le_pow_right (by omega) (by omega)
  omega
 have lo : D = 0 ∨ 4503599627370496 * 2 ^ drop ≤ n := by
  rcases h3 with h | h
  ·exact Or.inl h
  ·refine Or.inr ?_
   rw [show (4503599627370496 : Nat) = 2 ^ 52 from rfl, ← Nat.pow_add, show 52 + drop = L - 1 by omega]
   exact h2.resolve_left (by omega)
 have hp : Bb (n * 2 ^ A) (2 ^ B) = D := by
  refine Ej (Da B) ?_ ?_
  ·rcases lo with h | h
   ·exact Or.inl h
   ·refine Or.inr ?_
    rw [Nat.mul_assoc, hP]
    have := Nat.mul_le_mul_right (2 ^ A) h
    have e : 4503599627370496 * 2 ^ drop * 2 ^ A = 4503599627370496 * (2 ^ A * 2 ^ drop) := by rw [Nat.mul_assoc, Nat.mul_comm (2 ^ drop)]
    omega
  ·rw [Nat.mul_assoc, hP]
   have := Nat.mul_lt_mul_of_pos_right up.2 hA
   have e : 9007199254740992 * 2 ^ drop * 2 ^ A = 9007199254740992 * (2 ^ A * 2 ^ drop) := by rw [Nat.mul_assoc, Nat.mul_comm (2 ^ drop)]
   omega
 refine ⟨?_, Y6 hd up.1, ?_⟩
 ·unfold rnd
  rw [hp, hP, Nat.mul_comm (2 ^ A), By hA]
 ·rcases lo with h | h
  ·exact Or.inl h
  ·exact Or.inr (Ms hd h)
theorem Xl {n h : Nat} : Cu n (2 * h) = if h < n % (2 * h) ∨ (n % (2 * h) = h ∧ n / (2 * h) % 2 = 1) then n / (2 * h) + 1 else n / (2 * h) := by
 unfold Cu
 generalize n % (2 * h) = r
 generalize n / (2 * h) = q
 by_cases c1 : h < r
 ·rw [if_pos (Or.inl c1), decide_eq_true (by omega), Bool.true_or]; rfl
 ·rw [decide_eq_false (show ¬ 2 * h < 2 * r by omega), Bool.false_or]
  by_cases c2 : r = h
  ·rw [decide_eq_true (by omega), Bool.true_and]
   by_cases c3 : q % 2 = 1
   ·rw [decide_eq_true c3, if_pos (Or.inr ⟨c2, c3⟩)]; rfl
   ·rw [decide_eq_false c3, if_neg (by omega)]; rfl
  ·rw [decide_eq_false (show ¬ 2 * h = 2 * r by omega), Bool.false_and, if_neg (by omega)]; rfl


end
section
def ldz (f : List Nat) : List Nat := f.dropWhile (· == 48)
def trz (f : List Nat) : List Nat := (f.reverse.dropWhile (· == 48)).reverse
theorem Eu {f : List Nat} {c : Nat} (h : c ∈ ldz f) : c ∈ f := (List.dropWhile_sublist _).subset h
theorem Aaa {f : List Nat} {c : Nat} (h : c ∈ trz f) : c ∈ f := by
 unfold trz at h
 rw [List.mem_reverse] at h
 exact List.mem_reverse.1 ((List.dropWhile_sublist _).subset h)
theorem Cs : ∀ g : List Nat, ∃ z, g = List.replicate z 48 ++ g.dropWhile (· == 48)
 | [] => ⟨0, rfl⟩
 | c :: g => by
  by_cases h : c = 48
  ·subst h
   obtain ⟨z, hz⟩ := Cs g
   refine ⟨z + 1, ?_⟩
   rw [List.dropWhile_cons_of_pos (by simp), List.replicate_succ, List.cons_append, ← hz]
  ·exact ⟨0, by rw [List.dropWhile_cons_of_neg (by simpa using h)]; rfl⟩
theorem K6 (f : List Nat) : ∃ z, f = trz f ++ List.replicate z 48 := by
 obtain ⟨z, hz⟩ := Cs f.reverse
 refine ⟨z, ?_⟩
 have h := congrArg List.reverse hz
 rw [List.reverse_reverse, List.reverse_append, List.reverse_replicate] at h
 exact h
theorem Afr (f : List Nat) : (trz f).getLast? ≠ some 48 := by
 unfold trz
 rw [List.getLast?_reverse]
 exact Bx f.reverse
theorem Z5 (f : List Nat) : num 10 f = num 10 (trz f) * 10 ^ (f.length - (trz f).length) := by
 obtain ⟨z, hz⟩ := K6 f
 have hl : f.length - (trz f).length = z := by
  have := congrArg List.length hz
  rw [List.length_append, List.length_replicate] at this
  omega
 have h2 := congrArg (num 10) hz
 rw [Fv, Kl, List.length_replicate, Nat.add_zero] at h2
 rw [hl, h2]
theorem Qv (f : List Nat) : (trz f).length ≤ f.length := by
 obtain ⟨z, hz⟩ := K6 f
 have := congrArg List.length hz
 rw [List.length_append] at this
 omega
theorem Vs {f : List Nat} (hd : ∀ x ∈ f, Ah x = true) {c : Nat} (hc : c ∈ f) (h : c ≠ 48) : 0 < num 10 f := by
 rcases Nat.eq_zero_or_pos (num 10 f) with h0 | h0
 ·exfalso
  have h1 := (Ug hd).1 h0
  obtain ⟨z, hz⟩ := Cs f
  rw [h1, List.append_nil] at hz
  rw [hz] at hc
  exact h (List.eq_of_mem_replicate hc)
 ·exact h0
theorem Hv {g : List Nat} (hd : ∀ x ∈ g, Ah x = true) (h0 : g ≠ []) (hh : g.head? ≠ some 48) : 10 ^ (g.length - 1) ≤ num 10 g := by
 cases g with
 | nil => exact absurd rfl h0
 | cons c r =>
  have := Afj (f := r) (c := c) hd (fun e => hh (by rw [e]; rfl))
  simpa using this
theorem Hu {g : List Nat} (hd : ∀ x ∈ g, Ah x = true) : num 10 g < 10 ^ g.length := Xn (fun c hc => (Jh (hd c hc)).2)
theorem Qj {g : List Nat} {k : Nat} (hk : 0 < k) : (g.take k).head? = g.head? := by
 cases g with
 | nil => simp
 | cons c r =>
  obtain ⟨j, rfl⟩ : ∃ j, k = j + 1 := ⟨k - 1, by omega⟩
  rw [List.take_succ_cons]
  rfl
theorem Ajx : dgt 49 = 1 := by decide
theorem Th {g : List Nat} {k : Nat} {e : Int} (hd : ∀ x ∈ g, Ah x = true) (hh : g.head? ≠ some 48) (hk : 769 ≤ k) (hl : k < g.length) (hpt : (g.length : Int) + e ≤ 768) (hc : ∃ c ∈ g.drop k, c ≠ 48) :
  Bq (num 10 g) e = Bq (num 10 (g.take k ++ [49])) (e + (g.length - k : Nat) - 1) := by
 obtain ⟨p, hp⟩ : ∃ p, g.take k = p := ⟨_, rfl⟩
 obtain ⟨q, hq⟩ : ∃ q, g.drop k = q := ⟨_, rfl⟩
 have hg : g = p ++ q := by rw [← hp, ← hq, List.take_append_drop]
 have lp : p.length = k := by rw [← hp, List.length_take]; omega
 have lq : q.length = g.length - k := by rw [← hq, List.length_drop]
 have dp : ∀ x ∈ p, Ah x = true := fun x hx => hd x (by rw [hg]; exact List.mem_append_left _ hx)
 have dq : ∀ x ∈ q, Ah x = true := fun x hx => hd x (by rw [hg]; exact List.mem_append_right _ hx)
 have hhp : p.head? ≠ some 48 := by rw [← hp, Qj (by omega)]; exact hh
 have p0 : p ≠ [] := fun e => by rw [e] at lp; simp at lp; omega
 rw [hq] at hc
 obtain ⟨c, hc1, hc2⟩ := hc
 have q0 := Vs dq hc1 hc2
 have h1 := Hv dp p0 hhp
 rw [lp] at h1
 have h2 := Hu dp
 rw [lp] at h2
 have h3 := Hu dq
 rw [hp, Fv, Yy, Ajx, ← lq]
 have h4 := Adu (p := num 10 p) (r := q.length) (q := num 10 q) (k := k) (e := e) hk h1 h2 h3 q0 (by rw [hg, List.length_append, lp] at hpt; omega)
 rw [← Fv, ← hg] at h4
 rw [h4]
 rfl
/-! ### The program's way -/
theorem Aby {f : List Nat} {e : Int} (h : trz (ldz f) = []) : Bq (num 10 f) e = 0 := by
 have h1 := Z5 (ldz f)
 rw [h, Zv, Nat.zero_mul] at h1
 have h2 : num 10 (ldz f) = num 10 f := Ch 10 f
 rw [← h2, h1]
 exact P3 e
theorem Af3 {f : List Nat} {e : Int} (hd : ∀ x ∈ f, Ah x = true) (h : ((ldz f).length : Int) + e < -323) : Bq (num 10 f) e = 0 := by
 have h2 : num 10 (ldz f) = num 10 f := Ch 10 f
 rw [← h2]
 exact Qh (Hu (fun x hx => hd x (Eu hx))) (by omega)
theorem Aax {f : List Nat} {e : Int} (hd : ∀ x ∈ f, Ah x = true) (h0 : trz (ldz f) ≠ []) (h : 309 < ((ldz f).length : Int) + e) : Bq (num 10 f) e = 9218868437227405312 := by
 have h2 : num 10 (ldz f) = num 10 f := Ch 10 f
 have h3 : ldz f ≠ [] := fun e => h0 (by rw [e]; rfl)
 have h4 : 0 < (ldz f).length := List.length_pos_iff.2 h3
 rw [← h2]
 exact Qd (Hv (fun x hx => hd x (Eu hx)) h3 (Bx f)) (by omega)
theorem M5 {f : List Nat} (e : Int) : Bq (num 10 f) e = Bq (num 10 (trz (ldz f))) ((ldz f).length + e - (trz (ldz f)).length) := by
 have h2 : num 10 (ldz f) = num 10 f := Ch 10 f
 have h3 := Qv (ldz f)
 rw [← h2, Z5 (ldz f), Jd]
 exact congrArg (Bq _) (by omega)
theorem Nl {f : List Nat} (h : f.head? ≠ some 48) : (trz f).head? ≠ some 48 := by
 obtain ⟨z, hz⟩ := K6 f
 cases ht : trz f with
 | nil => simp
 | cons c r =>
  rw [ht] at hz
  rw [hz] at h
  exact h
theorem Abj {f : List Nat} {e : Int} (hd : ∀ x ∈ f, Ah x = true) (hl : 800 < (trz (ldz f)).length) (h : ((ldz f).length : Int) + e ≤ 309) : Bq (num 10 f) e = Bq (num 10 ((trz (ldz f)).take 800 ++ [49])) ((ldz f).length + e - 801) := by
 rw [M5]
 have h3 := Qv (ldz f)
 have hdh : ∀ x ∈ trz (ldz f), Ah x = true := fun x hx => hd x (Eu (Aaa hx))
 have key := Th (g := trz (ldz f)) (k := 800) (e := (ldz f).length + e - (trz (ldz f)).length) hdh (Nl (Bx f)) (by omega) hl (by omega) ?_
 ·rw [key]
  exact congrArg (Bq _) (by omega)
 ·have hne : trz (ldz f) ≠ [] := fun e => by rw [e] at hl; simp at hl
  obtain ⟨c, hc⟩ : ∃ c, (trz (ldz f)).getLast? = some c := ⟨_, List.getLast?_eq_some_getLast hne⟩
  refine ⟨c, ?_, fun e => Afr (ldz f) (by rw [← e]; exact hc)⟩
  have h5 : ((trz (ldz f)).drop 800).getLast? = some c := by
   rw [List.getLast?_drop, if_neg (by omega)]
   exact hc
  exact List.mem_of_getLast? h5
/-! ### The reference's way -/
theorem Aaj {f : List Nat} {e : Int} (hd : ∀ x ∈ f, Ah x = true) (h0 : ldz f ≠ []) (h : 400 < ((ldz f).length : Int) + e) : Bq (num 10 f) e = 9218868437227405312 := by
 have h2 : num 10 (ldz f) = num 10 f := Ch 10 f
 have h4 : 0 < (ldz f).length := List.length_pos_iff.2 h0
 rw [← h2]
 exact Qd (Hv (fun x hx => hd x (Eu hx)) h0 (Bx f)) (by omega)
theorem Abu {f : List Nat} {e : Int} (hd : ∀ x ∈ f, Ah x = true) (hl : 820 < (ldz f).length) (h : ((ldz f).length : Int) + e ≤ 400) (hc : ∃ c ∈ (ldz f).drop 810, c ≠ 48) : Bq (num 10 f) e = Bq (num 10 ((ldz f).take 810 ++ [49])) (e + ((ldz f).length - 810 : Nat) - 1) := by
 have h2 : num 10 (ldz f) = num 10 f := Ch 10 f
 rw [← h2]
 exact Th (fun x hx => hd x (Eu hx)) (Bx f) (by omega) (by omega) (by omega) hc
theorem Aao {f : List Nat} {e : Int} (hc : ∀ c ∈ (ldz f).drop 810, c = 48) : Bq (num 10 f) e = Bq (num 10 ((ldz f).take 810)) (e + ((ldz f).length - 810 : Nat)) := by
 have h2 : num 10 (ldz f) = num 10 f := Ch 10 f
 rw [← h2, ← Jd]
 have h3 : num 10 (ldz f) = num 10 ((ldz f).take 810 ++ (ldz f).drop 810) := by rw [List.take_append_drop]
 have h4 : (ldz f).drop 810 = List.replicate ((ldz f).length - 810) 48 := by
  rw [← List.length_drop]
  exact List.eq_replicate_of_mem hc
 rw [h3, Fv, h4, Kl, List.length_replicate, Nat.add_zero]


end
section
theorem G7 : ∀ {a n : Nat} {l : List Nat} {v : Nat}, Eo a n l = some v → n ≤ l.length
 | _, 0, _, _, h => by rw [Eo] at h; cases h
 | a, 1, l, v, h => by
  cases l with
  | nil => simp [Eo] at h
  | cons c r => simp
 | a, n + 2, l, v, h => by
  cases l with
  | nil => simp [Eo] at h
  | cons c r =>
   rw [Eo] at h
   cases hq : hxV c with
   | none => rw [hq] at h; cases h
   | some d =>
    rw [hq] at h
    have := G7 (a := a * 16 + d) (n := n + 1) (l := r) h
    rw [List.length_cons]
    omega
theorem Ru {l : List Nat} {v : List Nat} {n : Nat} (h : Hn l = some (v, n)) : 1 ≤ n ∧ n ≤ l.length := by
 cases l with
 | nil => cases h
 | cons c r =>
  rw [Hn] at h
  rw [List.length_cons]
  split at h
  ·cases hq : Eo 0 2 r with
   | none => rw [hq] at h; cases h
   | some d =>
    rw [hq] at h
    have h2 : 3 = n := congrArg Prod.snd (Option.some.inj h)
    have := G7 hq
    omega
  ·split at h
   ·cases hq : Eo 0 4 r with
    | none => rw [hq] at h; cases h
    | some d =>
     rw [hq] at h
     have h2 : 5 = n := congrArg Prod.snd (Option.some.inj h)
     have := G7 hq
     omega
   ·split at h
    ·have h2 := congrArg Prod.snd (Option.some.inj h)
     simp only at h2
     split at h2
     ·rename_i hc
      obtain ⟨q, hq⟩ := J5 (by omega) hc.2
      rw [hq, List.length_cons]
      omega
     ·omega
    ·split at h
     ·split at h
      ·cases h
      ·have h2 : 1 = n := congrArg Prod.snd (Option.some.inj h)
       omega
     ·split at h
      ·cases h
      ·have h2 : 1 = n := congrArg Prod.snd (Option.some.inj h)
       omega
theorem Su : ∀ {f q : Nat} {l : List Nat} {t : List Nat} {n : Nat}, Jc f q l = some (t, n) → n ≤ l.length
 | 0, _, _, _, _, h => by cases h
 | _ + 1, _, [], _, _, h => by cases h
 | f + 1, q, c :: r, t, n, h => by
  rw [Jc] at h
  rw [List.length_cons]
  split at h
  ·cases h
  ·split at h
   ·have h2 : 1 = n := congrArg Prod.snd (Option.some.inj h)
    omega
   ·split at h
    ·cases he : Hn r with
     | none => rw [he] at h; cases h
     | some p =>
      obtain ⟨v, k⟩ := p
      rw [he] at h
      simp only at h
      have h3 := (Ru he).2
      cases hs : Jc f q (r.drop k) with
      | none => rw [hs] at h; cases h
      | some p =>
       rw [hs] at h
       have h2 : 1 + k + p.2 = n := congrArg Prod.snd (Option.some.inj h)
       have := Su (t := p.1) (n := p.2) hs
       rw [List.length_drop] at this
       omega
    ·cases hs : Jc f q r with
     | none => rw [hs] at h; cases h
     | some p =>
      rw [hs] at h
      have h2 : 1 + p.2 = n := congrArg Prod.snd (Option.some.inj h)
      have := Su (t := p.1) (n := p.2) hs
      omega
theorem Mh : ∀ {f : Nat} {b : Bool} {l : List Nat} {t : List Nat} {e : Bool} {n : Nat}, Fn f b l = some (t, e, n) → n ≤ l.length
 | 0, _, l, _, _, n, h => by
  have h2 : 0 = n := congrArg (fun p => p.2.2) (Option.some.inj h)
  omega
 | _ + 1, _, [], _, _, n, h => by
  have h2 : 0 = n := congrArg (fun p => p.2.2) (Option.some.inj h)
  omega
 | f + 1, b, c :: r, t, e, n, h => by
  rw [Fn] at h
  rw [List.length_cons]
  split at h
  ·split at h
   ·rename_i hu
    obtain ⟨q, hq⟩ := J5 (by omega) hu
    cases hx : Eo 0 4 r.tail with
    | none => rw [hx] at h; cases h
    | some v =>
     rw [hx] at h
     simp only at h
     split at h
     ·cases hs : Fn f false (r.drop 5) with
      | none => rw [hs] at h; cases h
      | some p =>
       obtain ⟨t1, e1, n1⟩ := p
       rw [hs] at h
       have h2 : 6 + n1 = n := congrArg (fun p => p.2.2) (Option.some.inj h)
       have h3 := Mh hs
       have h4 := G7 hx
       rw [hq, List.tail_cons] at h4
       rw [hq] at h3 ⊢
       rw [List.length_drop, List.length_cons] at h3
       rw [List.length_cons]
       omega
     ·cases h
   ·cases h
  ·split at h
   ·cases hs : Fn f false r with
    | none => rw [hs] at h; cases h
    | some p =>
     obtain ⟨t1, e1, n1⟩ := p
     rw [hs] at h
     have h2 : 1 + n1 = n := congrArg (fun p => p.2.2) (Option.some.inj h)
     have := Mh hs
     omega
   ·have h2 : 0 = n := congrArg (fun p => p.2.2) (Option.some.inj h)
    omega
theorem Ahu {f : Nat} {c : Nat} {r t : List Nat} {e : Bool} {n : Nat} (hc : (stN c || c == 92) = true) (h : Fn (f + 1) true (c :: r) = some (t, e, n)) : 1 ≤ n := by
 rw [Fn] at h
 split at h
 ·split at h
  ·cases hx : Eo 0 4 r.tail with
   | none => rw [hx] at h; cases h
   | some v =>
    rw [hx] at h
    simp only at h
    split at h
    ·cases hs : Fn f false (r.drop 5) with
     | none => rw [hs] at h; cases h
     | some p =>
      rw [hs] at h
      have h2 : 6 + p.2.2 = n := congrArg (fun p => p.2.2) (Option.some.inj h)
      omega
    ·cases h
  ·cases h
 ·rename_i h92
  have hst : stN c = true := by
   rw [Bool.or_eq_true, beq_iff_eq] at hc
   exact hc.resolve_right h92
  rw [if_pos (show Hp true c = true from hst)] at h
  cases hs : Fn f false r with
  | none => rw [hs] at h; cases h
  | some p =>
   rw [hs] at h
   have h2 : 1 + p.2.2 = n := congrArg (fun p => p.2.2) (Option.some.inj h)
   omega
theorem Zj (l : List Nat) : Dx l ≤ l.length := by
 unfold Dx
 split
 ·rename_i hx
  unfold hxA at hx
  cases l with
  | nil => simp at hx
  | cons a t =>
   cases t with
   | nil => simp at hx
   | cons b u =>
    have : ((b :: u).drop 1).length = u.length := rfl
    have h2 := (List.takeWhile_sublist (p := Bh) (l := u)).length_le
    show 2 + (u.takeWhile Bh).length ≤ u.length + 1 + 1
    omega
 ·omega
theorem Ahr {l : List Nat} {x n : Nat} (h : N8 l = some (x, n)) : 1 ≤ n ∧ n ≤ l.length := by
 unfold N8 at h
 split at h
 ·rename_i ho
  have h2 : Dx l = n := congrArg Prod.snd (Option.some.inj h)
  have := Zj l
  refine ⟨?_, by omega⟩
  rcases Nat.eq_zero_or_pos n with h0 | h0
  ·unfold Ja at ho
   rw [h2, h0, List.take_zero, show Hd [] = false by decide, Bool.false_and] at ho
   cases ho
  ·exact h0
 ·cases h
theorem Kg {l : List Nat} {k : Nat} {t : List Nat} {x : Nat} {e : Bool} {n : Nat} (h : Dn l = some (k, t, x, e, n)) : n ≤ l.length ∧ (k = 1 ↔ l = []) ∧ (l ≠ [] → 1 ≤ n) ∧ 1 ≤ k ∧ k ≤ 6 := by
 cases l with
 | nil =>
  have h1 : 1 = k := congrArg (fun p => p.1) (Option.some.inj h)
  have h2 : 0 = n := congrArg (fun p => p.2.2.2.2) (Option.some.inj h)
  exact ⟨by omega, by simp [← h1], by simp, by omega, by omega⟩
 | cons c r =>
  rw [Dn] at h
  have fin : n ≤ (c :: r).length ∧ 1 ≤ n ∧ k ≠ 1 ∧ 1 ≤ k ∧ k ≤ 6 → n ≤ (c :: r).length ∧ (k = 1 ↔ c :: r = []) ∧ (c :: r ≠ [] → 1 ≤ n) ∧ 1 ≤ k ∧ k ≤ 6 := by
   rintro ⟨h1, h2, h3, h4, h5⟩
   exact ⟨h1, by simp [h3], fun _ => h2, h4, h5⟩
  apply fin
  split at h
  ·rename_i hc
   cases hs : Nj (c :: r) with
   | none => rw [hs] at h; cases h
   | some p =>
    obtain ⟨t1, e1, n1⟩ := p
    rw [hs] at h
    have h1 : (if Il t1 = true then 3 else 2) = k := congrArg (fun p => p.1) (Option.some.inj h)
    have h2 : n1 = n := congrArg (fun p => p.2.2.2.2) (Option.some.inj h)
    have h3 := Mh hs
    have h4 := Ahu hc hs
    split at h1 <;> exact ⟨by omega, by omega, by omega, by omega, by omega⟩
  ·split at h
   ·cases hs : Fa c r with
    | none => rw [hs] at h; cases h
    | some p =>
     rw [hs] at h
     have h1 : 6 = k := congrArg (fun p => p.1) (Option.some.inj h)
     have h2 : 1 + p.2 = n := congrArg (fun p => p.2.2.2.2) (Option.some.inj h)
     have h3 := Su (t := p.1) (n := p.2) hs
     rw [List.length_cons]
     exact ⟨by omega, by omega, by omega, by omega, by omega⟩
   ·split at h
    ·cases hs : N8 (c :: r) with
     | none => rw [hs] at h; cases h
     | some p =>
      rw [hs] at h
      have h1 : 5 = k := congrArg (fun p => p.1) (Option.some.inj h)
      have h2 : p.2 = n := congrArg (fun p => p.2.2.2.2) (Option.some.inj h)
      have h3 := Ahr (x := p.1) (n := p.2) hs
      exact ⟨by omega, by omega, by omega, by omega, by omega⟩
    ·cases hs : Eh (c :: r) with
     | none => rw [hs] at h; cases h
     | some t1 =>
      rw [hs] at h
      have h1 : 4 = k := congrArg (fun p => p.1) (Option.some.inj h)
      have h2 : t1.length = n := congrArg (fun p => p.2.2.2.2) (Option.some.inj h)
      obtain ⟨h3, h4, h5, _⟩ := Kp hs
      have h6 := congrArg List.length h5
      rw [List.length_take] at h6
      exact ⟨by omega, by omega, by omega, by omega, by omega⟩
end
section
theorem Uc : ∀ (f g p : Nat) (l : List Nat), l.length < f → l.length < g → Ov f p l = Ov g p l
 | 0, _, _, _, h, _ => by omega
 | _ + 1, 0, _, _, _, h => by omega
 | f + 1, g + 1, p, l, hf, hg => by
  rw [Ov, Ov]
  obtain ⟨s, hs⟩ : ∃ s, As l = s := ⟨_, rfl⟩
  have hle := Hk l
  rw [hs] at hle ⊢
  by_cases hok : s.2.2 = false
  ·rw [if_pos hok, if_pos hok]
  ·rw [if_neg hok, if_neg hok]
   cases hr : Dn (l.drop s.1) with
   | none => rfl
   | some v =>
    obtain ⟨k, t, x, e, n⟩ := v
    obtain ⟨r1, r2, r3, _, _⟩ := Kg hr
    simp only
    by_cases hk : k = 1
    ·rw [if_pos hk, if_pos hk]
    ·have hne : l.drop s.1 ≠ [] := fun hx => hk (r2.2 hx)
     have hn := r3 hne
     rw [List.length_drop] at r1
     have hlt : (l.drop (s.1 + n)).length < l.length := by rw [List.length_drop]; omega
     rw [if_neg hk, if_neg hk, Uc f g (p + s.1 + n) (l.drop (s.1 + n)) (by omega) (by omega)]
def Ij (p : Nat) (l : List Nat) : Nat × Option (List Tok) := Ov (l.length + 1) p l
def If (p : Nat) (l : List Nat) : Nat × Option Tok :=
 if (As l).2.2 = false then (p + (As l).1, none)
 else match Dn (l.drop (As l).1) with
  | none => (p + (As l).1, none)
  | some (k, t, x, e, n) => (0, some ⟨k, t, x, e, (As l).2.1, p + (As l).1, p + (As l).1 + n⟩)
theorem Ge (p : Nat) (l : List Nat) : Ij p l = match If p l with
  | (q, none) => (q, none)
  | (_, some k) => if k.kind = 1 then (0, some [k]) else match Ij k.fin (l.drop (k.fin - p)) with
   | (q, none) => (q, none)
   | (_, some ts) => (0, some (k :: ts)) := by
 unfold Ij If
 rw [Ov]
 obtain ⟨s, hs⟩ : ∃ s, As l = s := ⟨_, rfl⟩
 have hle := Hk l
 rw [hs] at hle ⊢
 by_cases hok : s.2.2 = false
 ·rw [if_pos hok, if_pos hok]
 ·rw [if_neg hok, if_neg hok]
  cases hr : Dn (l.drop s.1) with
  | none => rfl
  | some v =>
   obtain ⟨k, t, x, e, n⟩ := v
   obtain ⟨r1, r2, r3, _, _⟩ := Kg hr
   simp only
   by_cases hk : k = 1
   ·rw [if_pos hk, if_pos hk]
   ·have hne : l.drop s.1 ≠ [] := fun hx => hk (r2.2 hx)
    have hn := r3 hne
    rw [List.length_drop] at r1
    have hlt : (l.drop (s.1 + n)).length < l.length := by rw [List.length_drop]; omega
    rw [if_neg hk, if_neg hk, show p + s.1 + n - p = s.1 + n by omega, Uc l.length ((l.drop (s.1 + n)).length + 1) (p + s.1 + n) (l.drop (s.1 + n)) (by omega) (by omega)]
    rfl
theorem X8 {p q : Nat} {l : List Nat} {k : Tok} (h : If p l = (q, some k)) : p ≤ k.pos ∧ k.pos ≤ k.fin ∧ k.fin ≤ p + l.length ∧ (k.kind = 1 ↔ k.fin = p + l.length ∧ k.pos = k.fin) ∧ 1 ≤ k.kind ∧ k.kind ≤ 6 ∧ q = 0 := by
 unfold If at h
 obtain ⟨s, hs⟩ : ∃ s, As l = s := ⟨_, rfl⟩
 have hle := Hk l
 rw [hs] at hle h
 by_cases hok : s.2.2 = false
 ·rw [if_pos hok] at h
  cases congrArg Prod.snd h
 ·rw [if_neg hok] at h
  cases hr : Dn (l.drop s.1) with
  | none => rw [hr] at h; cases congrArg Prod.snd h
  | some v =>
   obtain ⟨j, t, x, e, n⟩ := v
   obtain ⟨r1, r2, r3, r4, r5⟩ := Kg hr
   rw [hr] at h
   have hk : ⟨j, t, x, e, s.2.1, p + s.1, p + s.1 + n⟩ = k := Option.some.inj (congrArg Prod.snd h)
   have hq : 0 = q := congrArg Prod.fst h
   rw [List.length_drop] at r1
   have hnil : l.drop s.1 = [] ↔ l.length ≤ s.1 := List.drop_eq_nil_iff
   subst hk
   refine ⟨by show p ≤ p + s.1; omega, by show p + s.1 ≤ p + s.1 + n; omega, by show p + s.1 + n ≤ p + l.length; omega, ?_, r4, r5, hq.symm⟩
   show j = 1 ↔ p + s.1 + n = p + l.length ∧ p + s.1 = p + s.1 + n
   rw [r2, hnil]
   constructor
   ·intro h1
    omega
   ·rintro ⟨h1, h2⟩
    omega
theorem Py (l : List Nat) : As l = match Ow l with
  | none => (0, false, false)
  | some (0, _) => (0, false, true)
  | some (n + 1, b) => (n + 1 + (As (l.drop (n + 1))).1, b || (As (l.drop (n + 1))).2.1, (As (l.drop (n + 1))).2.2) := by
 show Gy (l.length + 1) l = _
 rw [Gy]
 cases hq : Ow l with
 | none => rfl
 | some p =>
  obtain ⟨n, b⟩ := p
  cases n with
  | zero => rfl
  | succ n =>
   have hle := Rq hq
   have e := Pf l.length ((l.drop (n + 1)).length + 1) (l.drop (n + 1)) (by rw [List.length_drop]; omega) (by omega)
   show (n + 1 + (Gy l.length (l.drop (n + 1))).1, _, _) = (n + 1 + (Gy ((l.drop (n + 1)).length + 1) (l.drop (n + 1))).1, _, _)
   rw [e]
   rfl
theorem Kf : ∀ (f g : Nat) (b : Bool) (l : List Nat), l.length < f → l.length < g → Fn f b l = Fn g b l
 | 0, _, _, _, h, _ => by omega
 | _ + 1, 0, _, _, _, h => by omega
 | f + 1, g + 1, b, [], _, _ => rfl
 | f + 1, g + 1, b, c :: r, hf, hg => by
  rw [List.length_cons] at hf hg
  rw [Fn, Fn, Kf f g false (r.drop 5) (by rw [List.length_drop]; omega) (by rw [List.length_drop]; omega), Kf f g false r (by omega) (by omega)]
theorem Jr : ∀ (f g q : Nat) (l : List Nat), l.length < f → l.length < g → Jc f q l = Jc g q l
 | 0, _, _, _, h, _ => by omega
 | _ + 1, 0, _, _, _, h => by omega
 | f + 1, g + 1, q, [], _, _ => rfl
 | f + 1, g + 1, q, c :: r, hf, hg => by
  rw [List.length_cons] at hf hg
  have e1 := Jr f g q r (by omega) (by omega)
  have e2 : ∀ n, Jc f q (r.drop n) = Jc g q (r.drop n) := fun n => Jr f g q (r.drop n) (by rw [List.length_drop]; omega) (by rw [List.length_drop]; omega)
  rw [Jc, Jc, e1]
  cases Hn r with
  | none => rfl
  | some p =>
   obtain ⟨v, n⟩ := p
   simp only [e2 n]


end
section
def tkV (kind : Nat) (text : ByteArray) (num : Nat) (esc nl : Bool) (pos fin : Nat) : Value := .agg #[.int .i64 (kind : Int), .string text, .float .f64 num, .bool esc, .bool nl, .int .i64 (pos : Int), .int .i64 (fin : Int)]
theorem Vy {B : Nat} {l : List Nat} {v : Value} {w : World} (h : Own16 B l v w) (hu : ∀ u ∈ l, u < 65536) (hs : 2 * l.length ≤ 140737488355328) :
  Ct 44 #[v] (.string ⟨(bL l).toArray⟩) w := by
 obtain ⟨hn, h⟩ := h
 rcases h with ⟨rfl, h0⟩ | ⟨g, cap, cur, rfl, hb, hg, hc, hm, hsz, ht⟩
 ·obtain rfl : l = [] := List.eq_nil_of_length_eq_zero h0
  exact Abb none 0 w
 ·refine Ad6 l hu g 0 cap w (Array.getElem?_eq_some_iff.1 hg).1 ?_ hs
  intro k u hk
  have hk1 : k < l.length := (List.getElem?_eq_some_iff.1 hk).1
  have e1 : (cur.toList.take (l.length * 1))[k]? = some (.int .u16 (u : Nat)) := by rw [ht, List.getElem?_map, hk]; rfl
  rw [List.getElem?_take_of_lt (by omega)] at e1
  simp only [World.cell?, hg, Nat.zero_add]
  simpa using e1
theorem Pi {B : Nat} {l : List Nat} {v : Value} {w : World} (h : Own16 B l v w) (hu : ∀ u ∈ l, u < 65536) (hs : 2 * l.length ≤ 140737488355328) :
  Ct 112 #[v] (.string ⟨(bL l).toArray⟩) w := by
 obtain ⟨hn, h⟩ := h
 rcases h with ⟨rfl, h0⟩ | ⟨g, cap, cur, rfl, hb, hg, hc, hm, hsz, ht⟩
 ·obtain rfl : l = [] := List.eq_nil_of_length_eq_zero h0
  exact Yr none 0 w
 ·refine Acx l hu g 0 cap w (Array.getElem?_eq_some_iff.1 hg).1 ?_ hs
  intro k u hk
  have hk1 : k < l.length := (List.getElem?_eq_some_iff.1 hk).1
  have e1 : (cur.toList.take (l.length * 1))[k]? = some (.int .u16 (u : Nat)) := by rw [ht, List.getElem?_map, hk]; rfl
  rw [List.getElem?_take_of_lt (by omega)] at e1
  simp only [World.cell?, hg, Nat.zero_add]
  simpa using e1
/-! ### Strings, one unit further -/
theorem S9 (q c : Nat) (r : List Nat) : Fa q (c :: r) =
  if enN c = true then none else if c = q then some ([], 1) else if c = 92 then
   match Hn r with
   | none => none
   | some (v, n) => (Fa q (r.drop n)).map fun p => (v ++ p.1, 1 + n + p.2)
  else (Fa q r).map fun p => (c :: p.1, 1 + p.2) := by
 show Jc ((c :: r).length + 1) q (c :: r) = _
 rw [Jc]
 split
 ·rfl
 ·split
  ·rfl
  ·split
   ·cases he : Hn r with
    | none => rfl
    | some p =>
     obtain ⟨v, n⟩ := p
     simp only []
     rw [Jr _ ((r.drop n).length + 1) q (r.drop n) (by simp; omega) (by omega)]
     rfl
   ·rw [Jr _ (r.length + 1) q r (by simp) (by omega)]
    rfl
theorem Y3 : ∀ (n a m : Nat) (l : List Nat) {v : Nat}, a < 16 ^ m → Bu a n l = some v → v < 16 ^ (m + n)
 | 0, a, m, l, v, ha, h => by
  rw [Bu] at h
  cases h
  exact ha
 | n + 1, a, m, l, v, ha, h => by
  rw [Bu] at h
  split at h
  ·rename_i h16
   have hd : dgt (hd0 l) < 16 := by unfold Bh at h16; simpa using h16
   have := Y3 n _ (m + 1) _ (by rw [Nat.pow_succ]; omega) h
   rw [show m + 1 + n = m + (n + 1) by omega] at this
   exact this
  ·cases h
theorem Mi {n : Nat} {l : List Nat} {v : Nat} (h : Eo 0 n l = some v) (hn : n ≤ 4) : v < 65536 := by
 cases n with
 | zero => cases l <;> cases h
 | succ n =>
  rw [Hg] at h
  have := Y3 (n + 1) 0 0 l (by decide) h
  have h2 : 16 ^ (0 + (n + 1)) ≤ 16 ^ 4 := Nat.pow_le_pow_right (by omega) (by omega)
  omega
theorem Ai4 {c : Nat} (h : c < 65536) : Od c < 65536 := by
 unfold Od
 repeat (first | (split; omega) | exact h)
theorem Ae9 {l v : List Nat} {n : Nat} (hl : ∀ u ∈ l, u < 65536) (h : Hn l = some (v, n)) : ∀ u ∈ v, u < 65536 := by
 cases l with
 | nil => cases h
 | cons c r =>
  have hc := hl c (by simp)
  rw [Hn] at h
  split at h
  ·cases hx : Eo 0 2 r with
   | none => rw [hx] at h; cases h
   | some x =>
    rw [hx] at h
    cases h
    intro u hu
    simp at hu
    have := Mi hx (by omega)
    omega
  ·split at h
   ·cases hx : Eo 0 4 r with
    | none => rw [hx] at h; cases h
    | some x =>
     rw [hx] at h
     cases h
     intro u hu
     simp at hu
     have := Mi hx (by omega)
     omega
   ·split at h
    ·cases h
     intro u hu
     simp at hu
    ·split at h
     ·split at h
      ·cases h
      ·cases h
       intro u hu
       simp at hu
       omega
     ·split at h
      ·cases h
      ·cases h
       intro u hu
       simp at hu
       have := Ai4 hc
       omega

end
section
theorem Ek {fn : Func} {p t : Tmp} {ty : TypeId} (h : fn.results = #[.cell p ty, .tmp t]) (tmps : Array Value) (P : Program) (w : World) (a : Addr) (v : Value) (ha : tmps.getD p undef = .pointer (some a)) (hl : (loadVar ty a).run P w = .ok v w) :
  (results fn tmps).run P w = .ok (.tuple #[v, tmps.getD t undef]) w := by
 simp only [results, h]
 simp [-Array.getD_eq_getD_getElem?, ha, asAddr, hl]
theorem tkS {ops : Array Oper} {rest : List Oper} {o : Oper} {a : Act} {w : World} {Q : Exit → Act → World → Prop} {x y : Operand} (hgd : o.guard = none) (ho : o.op = .store 24 x y) (g : Nat) (kd : Int) (tx : ByteArray) (xx : Nat) (es nl : Bool) (po fi : Int)
  (hx : a.eval x = .pointer (some ⟨g, 0, none⟩)) (hy : a.eval y = .agg #[.int .i64 kd, .string tx, .float .f64 xx, .bool es, .bool nl, .int .i64 po, .int .i64 fi])
  (hg : w.heap[g]? = some (.cells #[.int .i64 0, .string ⟨#[]⟩, .float .f64 0, .bool false, .bool false, .int .i64 0, .int .i64 0] 24 (0, 0)))
  (h : wpList Tryz.prog ops Q rest (a.put o.dst undef) (w.setRow g #[.int .i64 kd, .string tx, .float .f64 xx, .bool es, .bool nl, .int .i64 po, .int .i64 fi])) : wpList Tryz.prog ops Q (o :: rest) a w :=
 wpList_store_row hgd 24 x y ho g _ hx hy 24 _ hg (by kernel_rfl) rfl (by kernel_rfl) h
theorem tkR {fn : Func} {p t : Tmp} {R : Ending → World → Prop} {a : Act} {w : World} {g : Nat} {old c : Array Value} (hr : fn.results = #[.cell p 24, .tmp t]) (ha : a.tmps.getD p undef = .pointer (some ⟨g, 0, none⟩))
  (hG : w.heap[g]? = some (.cells old 24 (0, 0))) (hc : c.size = 7) (hd : a.defers = []) (hR : R (.returned (.tuple #[.agg c, a.tmps.getD t undef])) (w.setRow g c)) : bodyPost Tryz.prog fn R .ret a (w.setRow g c) :=
 bodyPost_ret (Ek hr _ _ _ _ _ ha (run_loadVar_row _ g 24 24 _ (0, 0) _ (setRow_heap _ _ _ _ _ _ hG) Tryz.underlying24 rfl (by rw [hc]; kernel_rfl))) hd hR
theorem Jt {fn : Func} {p t u : Tmp} {ty : TypeId} (h : fn.results = #[.cell p ty, .tmp t, .tmp u]) (tmps : Array Value) (P : Program) (w : World) (a : Addr) (v : Value) (ha : tmps.getD p undef = .pointer (some a)) (hl : (loadVar ty a).run P w = .ok v w) :
  (results fn tmps).run P w = .ok (.tuple #[v, tmps.getD t undef, tmps.getD u undef]) w := by
 simp only [results, h]
 simp [-Array.getD_eq_getD_getElem?, ha, asAddr, hl]
theorem Hw {fn : Func} {p t u : Tmp} {R : Ending → World → Prop} {a : Act} {w : World} {g : Nat} {old c : Array Value} (hr : fn.results = #[.cell p 24, .tmp t, .tmp u]) (ha : a.tmps.getD p undef = .pointer (some ⟨g, 0, none⟩))
  (hG : w.heap[g]? = some (.cells old 24 (0, 0))) (hc : c.size = 7) (hd : a.defers = []) (hR : R (.returned (.tuple #[.agg c, a.tmps.getD t undef, a.tmps.getD u undef])) (w.setRow g c)) : bodyPost Tryz.prog fn R .ret a (w.setRow g c) :=
 bodyPost_ret (Jt hr _ _ _ _ _ ha (run_loadVar_row _ g 24 24 _ (0, 0) _ (setRow_heap _ _ _ _ _ _ hG) Tryz.underlying24 rfl (by rw [hc]; kernel_rfl))) hd hR
theorem Ae {B g : Nat} {a w : World} (h : Below B a w) (hg : B ≤ g) (c : Array Value) : Below B a (w.setRow g c) :=
 ⟨h.os, h.tape, h.output, by rw [setRow_size]; exact h.size, fun k hk => (setRow_other w g k c (by omega)).trans (h.block k hk)⟩
def Em (o : Option Value) : Ending := match o with
 | none => .returned (.tuple #[tkV 0 ⟨#[]⟩ 0 false false 0 0, .bool false])
 | some v => .returned (.tuple #[v, .bool true])
structure TB (w wr : World) : Prop where
 bl : wr.heap[w.heap.size]? = some (.cells #[.int .i64 0, .string ⟨#[]⟩, .float .f64 0, .bool false, .bool false, .int .i64 0, .int .i64 0] 24 (0, 0))
 bw : Below w.heap.size w wr
 sz : w.heap.size + 1 ≤ wr.heap.size
theorem TB.start (w : World) : TB w (w.alloc (.cells #[.int .i64 0, .string ⟨#[]⟩, .float .f64 0, .bool false, .bool false, .int .i64 0, .int .i64 0] 24)) :=
 ⟨heap_alloc_last w _, (Below.refl _ _).alloc (Nat.le_refl _) _, by simp⟩
theorem TB.step {w w1 w2 : World} (h : TB w w1) (hb : Below w1.heap.size w1 w2) : TB w w2 :=
 ⟨(hb.block _ (by have := h.sz; omega)).trans h.bl, Aa h.bw hb, Nat.le_trans h.sz hb.size⟩
theorem TB.base {w w1 w2 : World} (h : TB w w1) (hb : Below (w.heap.size + 1) w1 w2) : TB w w2 :=
 ⟨(hb.block _ (by omega)).trans h.bl, h.bw.trans (hb.mono (by omega)), Nat.le_trans h.sz hb.size⟩
theorem TB.draw {w w1 : World} (h : TB w w1) (n : Nat) : TB w (w1.drewN n) := h.step (Ac (Below.refl _ _) n)
theorem Qf {l v : List Nat} {n : Nat} (h : Hn l = some (v, n)) : v.length ≤ 1 := by
 cases l with
 | nil => cases h
 | cons c r =>
  rw [Hn] at h
  split at h
  ·cases hx : Eo 0 2 r with
   | none => rw [hx] at h; cases h
   | some x => rw [hx] at h; cases h; simp
  ·split at h
   ·cases hx : Eo 0 4 r with
    | none => rw [hx] at h; cases h
    | some x => rw [hx] at h; cases h; simp
   ·split at h
    ·cases h; simp
    ·split at h
     ·split at h
      ·cases h
      ·cases h; simp
     ·split at h
      ·cases h
      ·cases h; simp
def Aet (k : Nat) (o : Option (List Nat × Nat)) : Option Value := o.map fun p => tkV 6 ⟨(bL p.1).toArray⟩ 0 false false 0 (k + 1 + p.2)
def Fo (q k j : Nat) (l : List Nat) (s : ByteArray) : Option (List Nat × Nat) := (Fa q ((us s).drop j)).map fun p => (l ++ p.1, j - (k + 1) + p.2)
theorem Acw (s : ByteArray) (k q : Nat) (w : World) (hs : s.size ≤ 35184372088832) (hk : k < ln s) (hq : hd0 ((us s).drop k) = q) :
  Cp 69 #[.string s, .int .i64 k] w fun e w' => e = Em (Aet k (Fa (hd0 ((us s).drop k)) ((us s).drop (k + 1)))) ∧ Below w.heap.size w w' := by
 have hs63 : s.size ≤ maxLen := by unfold maxLen; omega
 obtain ⟨i0, hi, hz0, hz1, hz2⟩ := info_parts Cx
 have hln := Ap s
 have C0 := Lh (fun W => An s k W hs63)
 have C1 := Lh (fun (j : Nat) W => Dk s j W hs63)
 have CE := Lh (fun (c : Nat) W => Fl c W)
 have CX := Lh (fun (B : Nat) (l : List Nat) (v : Value) (j : Nat) (hj : j ≤ ln s) W (H : Own16 B l v W) hB hl => Ub B l v s j W (by omega) hj H hB hl)
 obtain ⟨R, hR⟩ : ∃ R, Fa q ((us s).drop (k + 1)) = R := ⟨_, rfl⟩
 rw [hq] at C0 ⊢
 rw [hR]
 have HR := Lh (show Fo q k (k + 1) [] s = R by unfold Fo; rw [hR]; cases R with | none => rfl | some p => simp)
 have T0 := Lh (TB.start w)
 have hkl : (k : Int) < 140737488355328 := by omega
 have HL := Lh (show ln s ≤ 17592186044416 by omega)
 have HS := Lh hs
 clear hs hs63 hq hR hln
 go_enter Tryz.func69, Tryz.ntmps69
 go_wp2_with fail
 refine Dm (C0.out _) fun n0 => ?_
 have T1 := Lh (T0.out.draw n0)
 go_wp2
 go_loopw [1, 7] (fun av lv wr => ∃ (j : Nat) (l : List Nat) (v : Value), av = .int .i64 j ∧ lv = v ∧ j ≤ ln s ∧ k + 1 ≤ j ∧ Hid (l.length ≤ j ∧ (∀ u ∈ l, u < 65536) ∧ Fo q k j l s = R ∧ TB w wr ∧ Own16 (w.heap.size + 1) l v wr)) (fun av _ _ => ln s - (intOf av).toNat)
 case atStart => exact ⟨k + 1, [], _, by go_num, rfl, by omega, by omega, Lh ⟨by simp, by simp, HR.out, T1.out, Own16.nil _ _⟩⟩
 case round =>
  obtain ⟨j, l, v, rfl, hv, hj, hkj, HJ⟩ := hrel
  obtain rfl := hv.symm
  clear hkl
  obtain ⟨h1, h2, h3, T, H⟩ := HJ.out
  have H2 := Lh h2
  have hlj : l.length ≤ ln s := by omega
  have hsl : ln s ≤ 17592186044416 := HL.out
  have HJ1 := Lh h1
  have HJ3 := Lh hj
  have HJ4 := Lh hkj
  have HJ5 := Lh hlj
  have HJ6 := Lh hsl
  have hjl : (j : Int) ≤ 17592186044416 := by omega
  clear HJ h2 h1 hj hkj hlj hsl
  rcases Nat.lt_or_ge j (ln s) with hlt | hge
  ·obtain ⟨c, hd1, hd2⟩ := Bw (L := us s) (k := j) (by rw [Ab]; exact hlt)
   have HC : Hid (c < 65536) := Lh (J1 s c (List.mem_of_mem_drop (by rw [hd1]; simp)))
   have HLT := Lh hlt
   clear hlt
   have C2 := C1.out j
   rw [hd2, hd1] at C2
   have C2 := Lh (show ∀ W, Cp 66 #[.string s, .int .i64 j] W fun e w' => e = .returned (.tuple #[.int .u16 (c : Nat), .bool true]) ∧ ∃ n, w' = W.drewN n from C2)
   have C3 := Lh (CE.out c)
   have h4 : R = (Fa q (c :: (us s).drop (j + 1))).map fun p => (l ++ p.1, j - (k + 1) + p.2) := by
    rw [← h3]
    unfold Fo
    rw [hd1]
   rw [S9] at h4
   clear hd1 hd2 h3
   cases he : enN c
   ·rw [he] at C3 h4
    rw [if_neg (by simp)] at h4
    clear he
    by_cases hcq : c = q
    ·subst hcq
     rw [if_pos rfl] at h4
     obtain ⟨m, hm⟩ : ∃ m, j - (k + 1) + 1 = m := ⟨_, rfl⟩
     have hm2 : k + 1 + m = j + 1 := by have := HJ4.out; omega
     have h5 : R = some (l, m) := by rw [h4, ← hm]; simp
     subst h5
     clear h4 hm HR CX
     have CM := Lh (fun W (HO : Own16 (w.heap.size + 1) l v W) => Vy HO H2.out (by have := HJ5.out; have := HJ6.out; omega))
     have HM := Lh hm2
     clear hm2
     go_wp2_with fail
     refine Dm (C2.out _) fun n1 => ?_
     go_wp2_with fail
     refine Sm (C3.out _) ?_
     go_wp2_with fail
     refine Bm (CM.out _ (show Own16 (w.heap.size + 1) l v (wr.drewN n1) from H)) fun w1 b1 => ?_
     have T2 := (T.draw n1).step b1
     have HG := Lh T2.bl
     have HB := Lh T2.bw
     clear T T2 b1 H
     go_wp2_with (refine tkS rfl rfl w.heap.size 6 ⟨(bL l).toArray⟩ 0 false false 0 ((j : Int) + 1) rfl rfl HG.out ?_)
     refine tkR rfl rfl HG.out rfl rfl ⟨?_, Ae HB.out (Nat.le_refl _) _⟩
     have := HM.out
     simp [Em, Aet, tkV]
     omega
    ·rw [if_neg hcq] at h4
     have g1 : ¬ ((c : Int) = q) := by omega
     by_cases h92 : c = 92
     ·subst h92
      rw [if_pos rfl] at h4
      have C4 := CX.out (w.heap.size + 1) l v (j + 1) HLT.out
      cases hE : Hn ((us s).drop (j + 1)) with
      | none =>
       rw [hE] at C4 h4
       obtain rfl : R = none := h4
       clear hE
       have C4 := Lh (show ∀ W, Own16 (w.heap.size + 1) l v W → w.heap.size + 1 ≤ W.heap.size → Cp 106 #[v, .string s, .int .i64 ((j : Int) + 1)] W fun e w' => ∃ v' a, e = .returned (.tuple #[v', .int .i64 a, .bool false]) ∧ Below (w.heap.size + 1) W w' from fun W h1 h2 => (C4 W h1 h2 (by have := HJ5.out; have := HJ6.out; omega)).mono fun e w' ⟨⟨v', a, he⟩, hb⟩ => ⟨v', a, he, hb⟩)
       clear HR CX
       go_wp2_with fail
       refine Dm (C2.out _) fun n1 => ?_
       go_wp2_with fail
       refine Sm (C3.out _) ?_
       go_wp2_with fail
       refine (C4.out _ (show Own16 (w.heap.size + 1) l v (wr.drewN n1) from H) (T.draw n1).sz).mono ?_
       rintro e w1 ⟨v', a, rfl, b1⟩
       have T2 := (T.draw n1).base b1
       have HG := Lh T2.bl
       have HB := Lh T2.bw
       clear T T2 b1 H
       go_wp2_with (refine tkS rfl rfl w.heap.size 0 ⟨#[]⟩ 0 false false 0 0 rfl rfl HG.out ?_)
       refine tkR rfl rfl HG.out rfl rfl ⟨?_, Ae HB.out (Nat.le_refl _) _⟩
       rfl
      | some p =>
       obtain ⟨u, m⟩ := p
       have hm := Ru hE
       rw [List.length_drop, Ab] at hm
       have hu := Ae9 (fun x hx => J1 s x (List.mem_of_mem_drop hx)) hE
       have hu1 := Qf hE
       rw [hE] at C4 h4
       obtain ⟨j2, hj2⟩ : ∃ j2, j + 1 + m = j2 := ⟨_, rfl⟩
       have C4 := Lh (show ∀ W, Own16 (w.heap.size + 1) l v W → w.heap.size + 1 ≤ W.heap.size → Cp 106 #[v, .string s, .int .i64 ((j : Int) + 1)] W fun e w' => ∃ v', e = .returned (.tuple #[v', .int .i64 (j2 : Nat), .bool true]) ∧ Own16 (w.heap.size + 1) (l ++ u) v' w' ∧ Below (w.heap.size + 1) W w' from fun W h1 h2 => (C4 W h1 h2 (by have := HJ5.out; have := HJ6.out; omega)).mono fun e w' ⟨⟨v', he, ho⟩, hb⟩ => ⟨v', by rw [he, ← hj2], ho, hb⟩)
       have HN : Hid (Fo q k j2 (l ++ u) s = R) := Lh (by
        rw [h4]
        simp only [Fo]
        rw [List.drop_drop, hj2]
        cases Fa q ((us s).drop j2) with
        | none => rfl
        | some p => simp; have := HJ4.out; omega)
       have HU : Hid ((l ++ u).length ≤ j2 ∧ ∀ x ∈ l ++ u, x < 65536) := Lh ⟨by rw [List.length_append]; have := HJ1.out; omega, fun x hx => by
        rcases List.mem_append.1 hx with h | h
        ·exact H2.out x h
        ·exact hu x h⟩
       have hj3 : j2 ≤ ln s := by have := HLT.out; omega
       have hj4 : k + 1 ≤ j2 := by have := HJ4.out; omega
       have hj5 : j < j2 := by omega
       have HJ7 := Lh hj3
       have HJ8 := Lh hj4
       have HJ9 := Lh hj5
       clear hE h4 hu hu1 hm hj2 HR CX hj3 hj4 hj5
       go_wp2_with fail
       refine Dm (C2.out _) fun n1 => ?_
       go_wp2_with fail
       refine Sm (C3.out _) ?_
       go_wp2_with fail
       refine (C4.out _ (show Own16 (w.heap.size + 1) l v (wr.drewN n1) from H) (T.draw n1).sz).mono ?_
       rintro e w1 ⟨v', rfl, o1, b1⟩
       have T2 := (T.draw n1).base b1
       have HJ2 : Hid ((l ++ u).length ≤ j2 ∧ (∀ x ∈ l ++ u, x < 65536) ∧ Fo q k j2 (l ++ u) s = R ∧ TB w w1 ∧ Own16 (w.heap.size + 1) (l ++ u) v' w1) := Lh ⟨HU.out.1, HU.out.2, HN.out, T2, o1⟩
       clear T T2 b1 H o1
       go_wp2
       go_roundw
       case rel => exact ⟨j2, l ++ u, v', rfl, rfl, HJ7.out, HJ8.out, HJ2⟩
       case measure => have := HLT.out; have := HJ9.out; simp [intOf]; omega
     ·rw [if_neg h92] at h4
      have g2 : ¬ ((c : Int) = 92) := by omega
      have HN : Hid (Fo q k (j + 1) (l ++ [c]) s = R) := Lh (by
       rw [h4]
       unfold Fo
       cases Fa q ((us s).drop (j + 1)) with
       | none => rfl
       | some p => simp; have := HJ4.out; omega)
      have HU : Hid ((l ++ [c]).length ≤ j + 1 ∧ ∀ x ∈ l ++ [c], x < 65536) := Lh ⟨by rw [List.length_append, List.length_singleton]; have := HJ1.out; omega, fun x hx => by
       rcases List.mem_append.1 hx with h | h
       ·exact H2.out x h
       ·have := HC.out; simp at h; omega⟩
      clear h4 hcq h92 HR CX
      have hlj : l.length ≤ 17592186044416 := by have := HJ5.out; have := HJ6.out; omega
      go_wp2_with fail
      refine Dm (C2.out _) fun n1 => ?_
      go_wp2_with fail
      refine Sm (C3.out _) ?_
      have hTs := T.sz
      go_wp2_with (at_builtin; refine wpList_append_own _ rfl _ _ 57 rfl (w.heap.size + 1) 52 i0 (.int .u16 0) 1 2 Tryz.underlying57 hi hz0 hz1 hz2 rfl (by decide) _ _ _ rfl (World.ownsRow.alloc (w := (wr.drewN (n1))) H _) ⟨(wr.drewN (n1)).heap.size, 0, none⟩ 1 1 [.int .u16 (c : Nat)] rfl rfl ?c1 ?c2 ?c3 ?c4 ?c5 ?_)
      case c1 => exact (cell_one_new _ _ _)
      case c2 => simp [Value.oneCell']
      case c3 => unfold maxLen; omega
      case c4 => omega
      case c5 => simp; omega
      intro v' w1 hown hg _
      have hbw : Below (w.heap.size + 1) wr w1 := ((Ac (Below.refl _ wr) n1).alloc (by simpa using T.sz) _).grown hg (by have := T.sz; simp; omega) (fun j hj => (World.ownsRow.lt H j hj).1)
      have T2 := T.base hbw
      have HJ2 : Hid ((l ++ [c]).length ≤ j + 1 ∧ (∀ x ∈ l ++ [c], x < 65536) ∧ Fo q k (j + 1) (l ++ [c]) s = R ∧ TB w w1 ∧ Own16 (w.heap.size + 1) (l ++ [c]) v' w1) := Lh ⟨HU.out.1, HU.out.2, HN.out, T2, by simpa [Own16] using hown⟩
      clear T T2 hbw hown hg H
      go_wp2
      go_roundw
      case rel => exact ⟨j + 1, l ++ [c], v', by go_num, rfl, HLT.out, by have := HJ4.out; omega, HJ2⟩
      case measure => have := HLT.out; simp [intOf]; omega
   ·rw [he] at C3 h4
    rw [if_pos rfl] at h4
    obtain rfl : R = none := h4
    clear he HR CX
    go_wp2_with fail
    refine Dm (C2.out _) fun n1 => ?_
    go_wp2_with fail
    refine Sm (C3.out _) ?_
    have T2 := T.draw n1
    have HG := Lh T2.bl
    have HB := Lh T2.bw
    clear T T2 H
    go_wp2_with (refine tkS rfl rfl w.heap.size 0 ⟨#[]⟩ 0 false false 0 0 rfl rfl HG.out ?_)
    refine tkR rfl rfl HG.out rfl rfl ⟨?_, Ae HB.out (Nat.le_refl _) _⟩
    rfl
  ·have hd : (us s).drop j = [] := List.drop_eq_nil_iff.2 (by rw [Ab]; exact hge)
   have C2 := C1.out j
   rw [hd] at C2
   have C2 := Lh (show ∀ W, Cp 66 #[.string s, .int .i64 j] W fun e w' => e = .returned (.tuple #[.int .u16 0, .bool false]) ∧ ∃ n, w' = W.drewN n from C2)
   obtain rfl : R = none := by rw [← h3]; unfold Fo; rw [hd]; rfl
   clear hd h3 HR CX
   go_wp2_with fail
   refine Dm (C2.out _) fun n1 => ?_
   have T2 := T.draw n1
   have HG := Lh T2.bl
   have HB := Lh T2.bw
   clear T T2 H
   go_wp2_with (refine tkS rfl rfl w.heap.size 0 ⟨#[]⟩ 0 false false 0 0 rfl rfl HG.out ?_)
   refine tkR rfl rfl HG.out rfl rfl ⟨?_, Ae HB.out (Nat.le_refl _) _⟩
   rfl
theorem Ux (s : ByteArray) (k : Nat) (w : World) (hs : s.size ≤ 35184372088832) (hk : k < ln s) (_h34 : hd0 ((us s).drop k) = 34 ∨ hd0 ((us s).drop k) = 39) :
  Cp 69 #[.string s, .int .i64 k] w fun e w' => e = Em (Aet k (Fa (hd0 ((us s).drop k)) ((us s).drop (k + 1)))) ∧ Below w.heap.size w w' := by
 exact Acw s k _ w hs hk rfl

end
section
theorem Gt (f : Nat → Bool) (h0 : f 0 = false) (L : List Nat) (j : Nat) : ((L.drop j).takeWhile f).length = if f (hd0 (L.drop j)) = true then 1 + ((L.drop (j + 1)).takeWhile f).length else 0 := by
 rcases hd : L.drop j with _ | ⟨c, r⟩
 ·have : hd0 ([] : List Nat) = 0 := rfl
  rw [this, h0]
  rfl
 ·have h1 : L.drop (j + 1) = r := by rw [← List.drop_drop, hd]; rfl
  have h2 : hd0 (c :: r) = c := rfl
  rw [h1, h2, List.takeWhile_cons]
  cases f c
  ·rfl
  ·simp; omega
theorem Td (f : Nat → Bool) (L : List Nat) (j : Nat) (hj : j ≤ L.length) : j + ((L.drop j).takeWhile f).length ≤ L.length := by
 have := (List.takeWhile_sublist f (l := L.drop j)).length_le
 rw [List.length_drop] at this
 omega
theorem Je (f : Nat → Bool) (L : List Nat) (j : Nat) : L.drop (j + ((L.drop j).takeWhile f).length) = (L.drop j).dropWhile f := by
 rw [← List.drop_drop]
 have h := List.takeWhile_append_dropWhile (p := f) (l := L.drop j)
 generalize (L.drop j).takeWhile f = A at h ⊢
 generalize (L.drop j).dropWhile f = D at h ⊢
 rw [← h, List.drop_left]
theorem Cn {L : List Nat} {j c : Nat} (hc : c ≠ 0) (h : hd0 (L.drop j) = c) : j + 1 ≤ L.length := by
 rcases Nat.lt_or_ge j L.length with h1 | h1
 ·exact h1
 ·rw [List.drop_eq_nil_iff.2 h1] at h
  exact absurd h.symm hc
theorem Cv (s : ByteArray) (k : Nat) (w : World) (hs : s.size ≤ 140737488355328) (hk : k ≤ ln s) :
  Cp 195 #[.string s, .int .i64 k, .func (.func 70) #[] #[]] w fun e w' => e = .returned (.int .i64 ((k + (((us s).drop k).takeWhile Ah).length : Nat) : Int)) ∧ ∃ n, w' = w.drewN n := by
 have hs63 : s.size ≤ maxLen := by unfold maxLen; omega
 have hln := Ap s
 have hll : (ln s : Int) ≤ 70368744177664 := by omega
 have C1 := Lh (fun (j : Nat) W => An s j W hs63)
 have C2 := Lh (fun (c : Nat) W => Au c W)
 obtain ⟨R, hR⟩ : ∃ R, k + (((us s).drop k).takeWhile Ah).length = R := ⟨_, rfl⟩
 rw [hR]
 have HR := Lh hR
 clear hs hs63 hR hln
 go_enter Tryz.func195, Tryz.ntmps195
 go_wp2
 go_loopw [1] (fun av wr => ∃ (j : Nat), av = .int .i64 j ∧ j ≤ ln s ∧ Hid (j + (((us s).drop j).takeWhile Ah).length = R) ∧ ∃ n, wr = w.drewN n) (fun av _ => ln s - (intOf av).toNat)
 case atStart => exact ⟨k, rfl, hk, HR, 0, rfl⟩
 case round =>
  obtain ⟨j, rfl, hj, HJ, n0, rfl⟩ := hrel
  have h1 := HJ.out
  rw [Gt Ah (by decide)] at h1
  obtain ⟨c, hc⟩ : ∃ c, hd0 ((us s).drop j) = c := ⟨_, rfl⟩
  have C3 := C1.out j
  rw [hc] at h1 C3
  have C3 := Lh C3
  have C4 := C2.out c
  cases hb : Ah c
  ·rw [hb] at C4 h1
   rw [if_neg (by simp), Nat.add_zero] at h1
   subst h1
   have C4 := Lh C4
   clear hb hc HJ HR
   go_wp2_with fail
   refine Dm (C3.out _) fun n1 => ?_
   go_wp2_with fail
   refine Sm (C4.out _) ?_
   go_wp2
   go_ret
   exact ⟨rfl, n0 + n1, by first | rfl | simp⟩
  ·rw [hb] at C4 h1
   rw [if_pos rfl] at h1
   have hlt : j + 1 ≤ ln s := by
    have := Cn (c := c) (by rintro rfl; revert hb; decide) hc
    rw [Ab] at this
    exact this
   have HJ2 : Hid (j + 1 + (((us s).drop (j + 1)).takeWhile Ah).length = R) := Lh (by omega)
   have C4 := Lh C4
   clear hb hc HJ h1
   go_wp2_with fail
   refine Dm (C3.out _) fun n1 => ?_
   go_wp2_with fail
   refine Sm (C4.out _) ?_
   go_wp2
   go_roundw
   case rel => exact ⟨j + 1, by go_num, hlt, HJ2, n0 + n1, by first | rfl | simp⟩
   case measure => simp [intOf]; omega
theorem Agv (s : ByteArray) (k : Nat) (w : World) (hs : s.size ≤ 140737488355328) (hk : k ≤ ln s) :
  Cp 195 #[.string s, .int .i64 k, .func (.func 196) #[] #[]] w fun e w' => e = .returned (.int .i64 ((k + (((us s).drop k).takeWhile Bh).length : Nat) : Int)) ∧ ∃ n, w' = w.drewN n := by
 have hs63 : s.size ≤ maxLen := by unfold maxLen; omega
 have hln := Ap s
 have hll : (ln s : Int) ≤ 70368744177664 := by omega
 have C1 := Lh (fun (j : Nat) W => An s j W hs63)
 have C2 := Lh (fun (c : Nat) W => Gd c W)
 obtain ⟨R, hR⟩ : ∃ R, k + (((us s).drop k).takeWhile Bh).length = R := ⟨_, rfl⟩
 rw [hR]
 have HR := Lh hR
 clear hs hs63 hR hln
 go_enter Tryz.func195, Tryz.ntmps195
 go_wp2
 go_loopw [1] (fun av wr => ∃ (j : Nat), av = .int .i64 j ∧ j ≤ ln s ∧ Hid (j + (((us s).drop j).takeWhile Bh).length = R) ∧ ∃ n, wr = w.drewN n) (fun av _ => ln s - (intOf av).toNat)
 case atStart => exact ⟨k, rfl, hk, HR, 0, rfl⟩
 case round =>
  obtain ⟨j, rfl, hj, HJ, n0, rfl⟩ := hrel
  have h1 := HJ.out
  rw [Gt Bh (by decide)] at h1
  obtain ⟨c, hc⟩ : ∃ c, hd0 ((us s).drop j) = c := ⟨_, rfl⟩
  have C3 := C1.out j
  rw [hc] at h1 C3
  have C3 := Lh C3
  have C4 := C2.out c
  cases hb : Bh c
  ·rw [hb] at C4 h1
   rw [if_neg (by simp), Nat.add_zero] at h1
   subst h1
   have C4 := Lh C4
   clear hb hc HJ HR
   go_wp2_with fail
   refine Dm (C3.out _) fun n1 => ?_
   go_wp2_with fail
   refine Sm (C4.out _) ?_
   go_wp2
   go_ret
   exact ⟨rfl, n0 + n1, by first | rfl | simp⟩
  ·rw [hb] at C4 h1
   rw [if_pos rfl] at h1
   have hlt : j + 1 ≤ ln s := by
    have := Cn (c := c) (by rintro rfl; revert hb; decide) hc
    rw [Ab] at this
    exact this
   have HJ2 : Hid (j + 1 + (((us s).drop (j + 1)).takeWhile Bh).length = R) := Lh (by omega)
   have C4 := Lh C4
   clear hb hc HJ h1
   go_wp2_with fail
   refine Dm (C3.out _) fun n1 => ?_
   go_wp2_with fail
   refine Sm (C4.out _) ?_
   go_wp2
   go_roundw
   case rel => exact ⟨j + 1, by go_num, hlt, HJ2, n0 + n1, by first | rfl | simp⟩
   case measure => simp [intOf]; omega
/-! ### numberEnd -/
theorem Bo {l : List Nat} {c : Nat} (hc : c ≠ 0) : hd0 l = c ↔ l.head? = some c := by
 cases l with
 | nil => simp [hd0]; omega
 | cons a r => simp [hd0]
theorem Sc {L : List Nat} {k : Nat} (hk : k ≤ L.length) {p1 : Nat} (h1 : k + ((L.drop k).takeWhile Ah).length = p1) :
  p1 ≤ L.length ∧ (hd0 (L.drop p1) ≠ 46 → L.drop p1 = dT (L.drop k)) ∧
  (hd0 (L.drop p1) = 46 → p1 + 1 ≤ L.length ∧ L.drop (p1 + 1 + ((L.drop (p1 + 1)).takeWhile Ah).length) = dT (L.drop k) ∧ p1 + 1 + ((L.drop (p1 + 1)).takeWhile Ah).length ≤ L.length) := by
 have e1 : L.drop p1 = Ai (L.drop k) := by rw [← h1]; exact Je Ah L k
 refine ⟨by rw [← h1]; exact Td Ah L k hk, fun h => ?_, fun h => ?_⟩
 ·unfold dT Fz
  rw [e1] at h ⊢
  rw [if_neg]
  intro h2
  exact h ((Bo (by omega)).2 (by simpa using h2))
 ·have h3 := Cn (by omega) h
  refine ⟨h3, ?_, Td Ah L _ h3⟩
  rw [Je Ah L (p1 + 1), ← List.tail_drop]
  unfold dT Fz
  rw [e1] at h ⊢
  rw [if_pos (by rw [(Bo (by omega)).1 h]; rfl)]
  rfl
theorem Mo {L : List Nat} {k p2 : Nat} (hk : k ≤ L.length) (hx : hxA (L.drop k) = false) (h2 : L.drop p2 = dT (L.drop k)) (hp : p2 ≤ L.length) :
  (hd0 (L.drop p2) ≠ 101 ∧ hd0 (L.drop p2) ≠ 69 → k + Ds (L.drop k) = p2) ∧
  (hd0 (L.drop p2) = 101 ∨ hd0 (L.drop p2) = 69 → p2 + 1 ≤ L.length ∧
   (hd0 (L.drop (p2 + 1)) = 43 ∨ hd0 (L.drop (p2 + 1)) = 45 → p2 + 2 ≤ L.length ∧ k + Ds (L.drop k) = p2 + 2 + ((L.drop (p2 + 2)).takeWhile Ah).length) ∧
   (hd0 (L.drop (p2 + 1)) ≠ 43 ∧ hd0 (L.drop (p2 + 1)) ≠ 45 → k + Ds (L.drop k) = p2 + 1 + ((L.drop (p2 + 1)).takeWhile Ah).length)) := by
 have hlen : ∀ p, p ≤ L.length → ∀ X, L.drop p = X → L.length - k + p = L.length - k + L.length - X.length := fun p hp X h => by
  have := congrArg List.length h
  rw [List.length_drop] at this
  omega
 unfold Ds
 rw [hx, if_neg (by simp), ← h2, List.length_drop]
 refine ⟨fun ⟨g1, g2⟩ => ?_, fun g => ?_⟩
 ·rw [if_neg, List.length_drop]
  ·have : k ≤ p2 := by
    have h3 : (L.drop p2).length ≤ (L.drop k).length := by
     rw [h2]
     obtain ⟨X, hX⟩ := Ro (L.drop k)
     have := congrArg List.length hX
     rw [List.length_append] at this
     omega
    rw [List.length_drop, List.length_drop] at h3
    omega
   omega
  ·rintro (h | h)
   ·exact g1 ((Bo (by omega)).2 h)
   ·exact g2 ((Bo (by omega)).2 h)
 ·have hk2 : k ≤ p2 := by
   have h3 : (L.drop p2).length ≤ (L.drop k).length := by
    rw [h2]
    obtain ⟨X, hX⟩ := Ro (L.drop k)
    have := congrArg List.length hX
    rw [List.length_append] at this
    omega
   rw [List.length_drop, List.length_drop] at h3
   omega
  have hp1 : p2 + 1 ≤ L.length := by
   rcases g with g | g
   ·exact Cn (by omega) g
   ·exact Cn (by omega) g
  rw [if_pos (by rcases g with g | g; exact .inl ((Bo (by omega)).1 g); exact .inr ((Bo (by omega)).1 g))]
  refine ⟨hp1, fun g2 => ?_, fun ⟨g2, g3⟩ => ?_⟩
  ·have hp2 : p2 + 2 ≤ L.length := by
    rcases g2 with g2 | g2
    ·exact Cn (j := p2 + 1) (by omega) g2
    ·exact Cn (j := p2 + 1) (by omega) g2
   refine ⟨hp2, ?_⟩
   have e : expR (L.drop p2) = L.drop (p2 + 2 + ((L.drop (p2 + 2)).takeWhile Ah).length) := by
    rw [Je Ah L (p2 + 2)]
    unfold expR unsg
    rw [List.tail_drop, if_pos (by rcases g2 with g2 | g2; exact .inr ((Bo (by omega)).1 g2); exact .inl ((Bo (by omega)).1 g2)), List.tail_drop]
    rfl
   rw [e, List.length_drop]
   have := Td Ah L (p2 + 2) hp2
   omega
  ·have e : expR (L.drop p2) = L.drop (p2 + 1 + ((L.drop (p2 + 1)).takeWhile Ah).length) := by
    rw [Je Ah L (p2 + 1)]
    unfold expR unsg
    rw [List.tail_drop, if_neg]
    ·rfl
    ·rintro (h | h)
     ·exact g3 ((Bo (by omega)).2 h)
     ·exact g2 ((Bo (by omega)).2 h)
   rw [e, List.length_drop]
   have := Td Ah L (p2 + 1) hp1
   omega
theorem Iv (L : List Nat) (k : Nat) : hxA (L.drop k) = (hd0 (L.drop k) == 48 && (hd0 (L.drop (k + 1)) == 120 || hd0 (L.drop (k + 1)) == 88)) := by
 unfold hxA
 rw [List.tail_drop]
 have h : ∀ (l : List Nat) (c : Nat), c ≠ 0 → (l.head? == some c) = (hd0 l == c) := fun l c hc => by
  rw [Bool.eq_iff_iff]
  simp only [beq_iff_eq]
  exact (Bo hc).symm
 rw [h _ _ (by omega), h _ _ (by omega), h _ _ (by omega)]
theorem Oa (s : ByteArray) (k : Nat) (w : World) (hs : s.size ≤ 140737488355328) (hk : k ≤ ln s) (hx : hxA ((us s).drop k) = true) :
  Cp 107 #[.string s, .int .i64 k] w fun e w' => e = .returned (.int .i64 ((k + Ds ((us s).drop k) : Nat) : Int)) ∧ ∃ n, w' = w.drewN n := by
 have hs63 : s.size ≤ maxLen := by unfold maxLen; omega
 have hln := Ap s
 have hll : (ln s : Int) ≤ 70368744177664 := by omega
 have hkl : (k : Int) ≤ 70368744177664 := by omega
 have CU : ∀ p W, Cp 36 #[.string s, .int .i64 ((p : Nat) : Int)] W fun e w' => e = .returned (.int .u16 ((hd0 ((us s).drop p) : Nat) : Int)) ∧ ∃ n, w' = W.drewN n := fun p W => An s p W hs63
 have CU1 : ∀ p W, Cp 36 #[.string s, .int .i64 (((p : Nat) : Int) + 1)] W fun e w' => e = .returned (.int .u16 ((hd0 ((us s).drop (p + 1)) : Nat) : Int)) ∧ ∃ n, w' = W.drewN n := fun p W => An s (p + 1) W hs63
 obtain ⟨c, hc⟩ : ∃ c, hd0 ((us s).drop k) = c := ⟨_, rfl⟩
 obtain ⟨d, hd⟩ : ∃ d, hd0 ((us s).drop (k + 1)) = d := ⟨_, rfl⟩
 have C1 := CU1 k
 have C2 := CU k
 rw [hd] at C1
 rw [hc] at C2
 rw [Iv, hc, hd] at hx
 have h48 : c = 48 := by
  rw [Bool.and_eq_true] at hx
  simpa using hx.1
 have hxX : d = 120 ∨ d = 88 := by
  rw [Bool.and_eq_true] at hx
  simpa using hx.2
 have hk2 : k + 2 ≤ ln s := by
  have := Cn (L := us s) (j := k + 1) (c := d) (by omega) hd
  rw [Ab] at this
  exact this
 have C3 : ∀ W, Cp 195 #[.string s, .int .i64 ((k : Int) + 2), .func (.func 196) #[] #[]] W fun e w' => e = .returned (.int .i64 ((k + Ds ((us s).drop k) : Nat) : Int)) ∧ ∃ n, w' = W.drewN n := fun W => by
  have h := Agv s (k + 2) W hs hk2
  have e : k + Ds ((us s).drop k) = k + 2 + (((us s).drop (k + 2)).takeWhile Bh).length := by
   unfold Ds
   rw [if_pos (by rw [Iv, hc, hd]; exact hx), List.drop_drop]
   omega
  rw [e]
  exact h
 obtain ⟨R, hR⟩ : ∃ R, k + Ds ((us s).drop k) = R := ⟨_, rfl⟩
 rw [hR] at C3 ⊢
 have C1 := Lh C1
 have C2 := Lh C2
 have C3 := Lh C3
 subst h48
 clear CU CU1 hs hs63 hx hc hd hR hln
 rcases hxX with rfl | rfl
 all_goals
  go_enter Tryz.func107, Tryz.ntmps107
  go_wp2_with fail
  refine Dm (C1.out _) fun n1 => ?_
  go_wp2_with fail
  refine Dm (C2.out _) fun n2 => ?_
  go_wp2_with fail
  refine Dm (C3.out _) fun n3 => ?_
  go_wp2
  go_ret
  exact ⟨rfl, n1 + n2 + n3, by first | rfl | simp⟩
theorem Sv (s : ByteArray) (k : Nat) (w : World) (hs : s.size ≤ 140737488355328) (hk : k ≤ ln s) (h48 : hd0 ((us s).drop k) ≠ 48) :
  Cp 107 #[.string s, .int .i64 k] w fun e w' => e = .returned (.int .i64 ((k + Ds ((us s).drop k) : Nat) : Int)) ∧ ∃ n, w' = w.drewN n := by
 have hs63 : s.size ≤ maxLen := by unfold maxLen; omega
 have hln := Ap s
 have hll : (ln s : Int) ≤ 70368744177664 := by omega
 have hkl : (k : Int) ≤ 70368744177664 := by omega
 have CU : ∀ p W, Cp 36 #[.string s, .int .i64 ((p : Nat) : Int)] W fun e w' => e = .returned (.int .u16 ((hd0 ((us s).drop p) : Nat) : Int)) ∧ ∃ n, w' = W.drewN n := fun p W => An s p W hs63
 have CU1 : ∀ p W, Cp 36 #[.string s, .int .i64 (((p : Nat) : Int) + 1)] W fun e w' => e = .returned (.int .u16 ((hd0 ((us s).drop (p + 1)) : Nat) : Int)) ∧ ∃ n, w' = W.drewN n := fun p W => An s (p + 1) W hs63
 obtain ⟨c, hc⟩ : ∃ c, hd0 ((us s).drop k) = c := ⟨_, rfl⟩
 obtain ⟨d, hd⟩ : ∃ d, hd0 ((us s).drop (k + 1)) = d := ⟨_, rfl⟩
 have C1 := CU1 k
 have C2 := CU k
 rw [hd] at C1
 rw [hc] at C2
 have hx : hxA ((us s).drop k) = false := by
  rw [Iv]
  simp [h48]
 rw [hc] at h48
 have g1 : ((c : Int) == 48) = false := by rw [beq_eq_false_iff_ne]; omega
 obtain ⟨R, hR⟩ : ∃ R, k + Ds ((us s).drop k) = R := ⟨_, rfl⟩
 rw [hR]
 have HR := Lh hR
 have HX := Lh hx
 have HS := Lh hs
 have HLL := Lh hll
 have HKL : Hid (k ≤ (us s).length) := Lh (by rw [Ab]; exact hk)
 obtain ⟨p1, hp1⟩ : ∃ p1, k + (((us s).drop k).takeWhile Ah).length = p1 := ⟨_, rfl⟩
 have C3 := fun W => Cv s k W hs hk
 rw [hp1] at C3
 obtain ⟨hb1, hnd, hdt⟩ := Sc HKL.out hp1
 have C4 := CU p1
 obtain ⟨c1, hc1⟩ : ∃ c1, hd0 ((us s).drop p1) = c1 := ⟨_, rfl⟩
 rw [hc1] at C4 hnd hdt
 have hp1l : (p1 : Int) ≤ 70368744177664 := by have := hb1; rw [Ab] at this; omega
 have C3 := Lh C3
 have C4 := Lh C4
 have C1 := Lh C1
 have C2 := Lh C2
 have CU := Lh CU
 have CU1 := Lh CU1
 have HB1 := Lh hb1
 have HND := Lh hnd
 have HDT := Lh hdt
 clear h48
 clear hs hs63 hln hll hx hc hd hk hR hp1 hb1 hnd hdt hc1
 go_enter Tryz.func107, Tryz.ntmps107
 go_wp2_with fail
 refine Dm (C1.out _) fun n1 => ?_
 go_wp2_with fail
 refine Dm (C2.out _) fun n2 => ?_
 go_wp2_with fail
 refine Dm (C3.out _) fun n3 => ?_
 go_wp2_with fail
 refine Dm (C4.out _) fun n4 => ?_
 by_cases h46 : c1 = 46
 ·have HD := HDT.out h46
  have C5 := Lh (show ∀ W, Cp 195 #[.string s, .int .i64 ((p1 : Int) + 1), .func (.func 70) #[] #[]] W fun e w' => e = .returned (.int .i64 ((p1 + 1 + (((us s).drop (p1 + 1)).takeWhile Ah).length : Nat) : Int)) ∧ ∃ n, w' = W.drewN n from fun W => Cv s (p1 + 1) W HS.out (by have := HD.1; rw [Ab] at this; exact this))
  obtain ⟨p2, hp2d⟩ : ∃ p2, p1 + 1 + (((us s).drop (p1 + 1)).takeWhile Ah).length = p2 := ⟨_, rfl⟩
  obtain ⟨_, hp2, hb2⟩ := HD
  rw [hp2d] at C5 hp2 hb2
  have HP2 := Lh hp2
  have HB2 := Lh hb2
  subst h46
  clear hp2d hp2 hb2
  go_wp2_with fail
  refine Dm (C5.out _) fun n5 => ?_
  have hp2 := HP2.out
  have hb2 := HB2.out
  have hpl : (p2 : Int) ≤ 70368744177664 := by have := HLL.out; have := hb2; rw [Ab] at this; omega
  obtain ⟨c2, hc2⟩ : ∃ c2, hd0 ((us s).drop p2) = c2 := ⟨_, rfl⟩
  have C6 := CU.out p2
  rw [hc2] at C6
  have C6 := Lh C6
  obtain ⟨q1, q2⟩ := Mo HKL.out HX.out hp2 hb2
  rw [hc2] at q1 q2
  obtain ⟨c3, hc3⟩ : ∃ c3, hd0 ((us s).drop (p2 + 1)) = c3 := ⟨_, rfl⟩
  have C7 := CU1.out p2
  rw [hc3] at C7 q2
  have C7 := Lh C7
  have Q1 := Lh q1
  have Q2 := Lh q2
  clear q1 q2 hc2 hc3 hp2 hb2
  by_cases he : c2 = 101 ∨ c2 = 69
  ·have Q3 := Lh (Q2.out he)
   rcases he with rfl | rfl
   all_goals
    go_wp2_with fail
    refine Dm (C6.out _) fun n6 => ?_
    go_wp2_with fail
    refine Dm (C7.out _) fun n7 => ?_
    by_cases hsg : c3 = 43 ∨ c3 = 45
    ·obtain ⟨hb4, hRe⟩ := Q3.out.2.1 hsg
     have C8 := Lh (show ∀ W, Cp 195 #[.string s, .int .i64 ((p2 : Int) + 1 + 1), .func (.func 70) #[] #[]] W fun e w' => e = .returned (.int .i64 (R : Nat)) ∧ ∃ n, w' = W.drewN n from fun W => by
      rw [← HR.out, hRe]; exact Cv s (p2 + 2) W HS.out (by rw [Ab] at hb4; omega))
     clear hb4 hRe
     rcases hsg with rfl | rfl
     all_goals
      go_wp2_with fail
      with_reducible refine Dm (C8.out _) fun n8 => ?_
      go_wp2
      go_ret
      exact ⟨rfl, n1 + n2 + n3 + n4 + n5 + n6 + n7 + n8, by first | rfl | simp⟩
    ·have hRe := Q3.out.2.2 (by omega)
     have hb3 := Q3.out.1
     have C8 := Lh (show ∀ W, Cp 195 #[.string s, .int .i64 ((p2 : Int) + 1), .func (.func 70) #[] #[]] W fun e w' => e = .returned (.int .i64 (R : Nat)) ∧ ∃ n, w' = W.drewN n from fun W => by
      rw [← HR.out, hRe]; exact Cv s (p2 + 1) W HS.out (by rw [Ab] at hb3; omega))
     have f1 : ((c3 : Int) == 43) = false := by rw [beq_eq_false_iff_ne]; omega
     have f2 : ((c3 : Int) == 45) = false := by rw [beq_eq_false_iff_ne]; omega
     clear hb3 hRe hsg
     go_wp2_with fail
     with_reducible refine Dm (C8.out _) fun n8 => ?_
     go_wp2
     go_ret
     exact ⟨rfl, n1 + n2 + n3 + n4 + n5 + n6 + n7 + n8, by first | rfl | simp⟩
  ·have HRe := Lh (Q1.out (by omega))
   have f1 : ((c2 : Int) != 101) = true := by simp; omega
   have f2 : ((c2 : Int) != 69) = true := by simp; omega
   have hRp : R = p2 := by rw [← HR.out, HRe.out]
   subst hRp
   clear he HRe
   go_wp2_with fail
   refine Dm (C6.out _) fun n6 => ?_
   go_wp2
   go_ret
   exact ⟨rfl, n1 + n2 + n3 + n4 + n5 + n6, by first | rfl | simp⟩
 ·have hp2 := HND.out h46
  have hb2 := HB1.out
  have g4 : ((c1 : Int) == 46) = false := by rw [beq_eq_false_iff_ne]; omega
  clear h46
  have hpl : (p1 : Int) ≤ 70368744177664 := by have := HLL.out; have := hb2; rw [Ab] at this; omega
  obtain ⟨c2, hc2⟩ : ∃ c2, hd0 ((us s).drop p1) = c2 := ⟨_, rfl⟩
  have C6 := CU.out p1
  rw [hc2] at C6
  have C6 := Lh C6
  obtain ⟨q1, q2⟩ := Mo HKL.out HX.out hp2 hb2
  rw [hc2] at q1 q2
  obtain ⟨c3, hc3⟩ : ∃ c3, hd0 ((us s).drop (p1 + 1)) = c3 := ⟨_, rfl⟩
  have C7 := CU1.out p1
  rw [hc3] at C7 q2
  have C7 := Lh C7
  have Q1 := Lh q1
  have Q2 := Lh q2
  clear q1 q2 hc2 hc3 hp2 hb2
  by_cases he : c2 = 101 ∨ c2 = 69
  ·have Q3 := Lh (Q2.out he)
   rcases he with rfl | rfl
   all_goals
    go_wp2_with fail
    refine Dm (C6.out _) fun n6 => ?_
    go_wp2_with fail
    refine Dm (C7.out _) fun n7 => ?_
    by_cases hsg : c3 = 43 ∨ c3 = 45
    ·obtain ⟨hb4, hRe⟩ := Q3.out.2.1 hsg
     have C8 := Lh (show ∀ W, Cp 195 #[.string s, .int .i64 ((p1 : Int) + 1 + 1), .func (.func 70) #[] #[]] W fun e w' => e = .returned (.int .i64 (R : Nat)) ∧ ∃ n, w' = W.drewN n from fun W => by
      rw [← HR.out, hRe]; exact Cv s (p1 + 2) W HS.out (by rw [Ab] at hb4; omega))
     clear hb4 hRe
     rcases hsg with rfl | rfl
     all_goals
      go_wp2_with fail
      with_reducible refine Dm (C8.out _) fun n8 => ?_
      go_wp2
      go_ret
      exact ⟨rfl, n1 + n2 + n3 + n4 + n6 + n7 + n8, by first | rfl | simp⟩
    ·have hRe := Q3.out.2.2 (by omega)
     have hb3 := Q3.out.1
     have C8 := Lh (show ∀ W, Cp 195 #[.string s, .int .i64 ((p1 : Int) + 1), .func (.func 70) #[] #[]] W fun e w' => e = .returned (.int .i64 (R : Nat)) ∧ ∃ n, w' = W.drewN n from fun W => by
      rw [← HR.out, hRe]; exact Cv s (p1 + 1) W HS.out (by rw [Ab] at hb3; omega))
     have f1 : ((c3 : Int) == 43) = false := by rw [beq_eq_false_iff_ne]; omega
     have f2 : ((c3 : Int) == 45) = false := by rw [beq_eq_false_iff_ne]; omega
     clear hb3 hRe hsg
     go_wp2_with fail
     with_reducible refine Dm (C8.out _) fun n8 => ?_
     go_wp2
     go_ret
     exact ⟨rfl, n1 + n2 + n3 + n4 + n6 + n7 + n8, by first | rfl | simp⟩
  ·have HRe := Lh (Q1.out (by omega))
   have f1 : ((c2 : Int) != 101) = true := by simp; omega
   have f2 : ((c2 : Int) != 69) = true := by simp; omega
   have hRp : R = p1 := by rw [← HR.out, HRe.out]
   subst hRp
   clear he HRe
   go_wp2_with fail
   refine Dm (C6.out _) fun n6 => ?_
   go_wp2
   go_ret
   exact ⟨rfl, n1 + n2 + n3 + n4 + n6, by first | rfl | simp⟩
theorem Rg (s : ByteArray) (k : Nat) (w : World) (hs : s.size ≤ 140737488355328) (hk : k ≤ ln s) (h48 : hd0 ((us s).drop k) = 48) (h49 : hd0 ((us s).drop (k + 1)) ≠ 120 ∧ hd0 ((us s).drop (k + 1)) ≠ 88) :
  Cp 107 #[.string s, .int .i64 k] w fun e w' => e = .returned (.int .i64 ((k + Ds ((us s).drop k) : Nat) : Int)) ∧ ∃ n, w' = w.drewN n := by
 have hs63 : s.size ≤ maxLen := by unfold maxLen; omega
 have hln := Ap s
 have hll : (ln s : Int) ≤ 70368744177664 := by omega
 have hkl : (k : Int) ≤ 70368744177664 := by omega
 have CU : ∀ p W, Cp 36 #[.string s, .int .i64 ((p : Nat) : Int)] W fun e w' => e = .returned (.int .u16 ((hd0 ((us s).drop p) : Nat) : Int)) ∧ ∃ n, w' = W.drewN n := fun p W => An s p W hs63
 have CU1 : ∀ p W, Cp 36 #[.string s, .int .i64 (((p : Nat) : Int) + 1)] W fun e w' => e = .returned (.int .u16 ((hd0 ((us s).drop (p + 1)) : Nat) : Int)) ∧ ∃ n, w' = W.drewN n := fun p W => An s (p + 1) W hs63
 obtain ⟨c, hc⟩ : ∃ c, hd0 ((us s).drop k) = c := ⟨_, rfl⟩
 obtain ⟨d, hd⟩ : ∃ d, hd0 ((us s).drop (k + 1)) = d := ⟨_, rfl⟩
 have C1 := CU1 k
 have C2 := CU k
 rw [hd] at C1
 rw [hc] at C2
 have hx : hxA ((us s).drop k) = false := by
  rw [Iv]
  simp [h48, h49]
 rw [hc] at h48
 rw [hd] at h49
 have g1 : ((d : Int) == 120) = false := by rw [beq_eq_false_iff_ne]; omega
 have g2 : ((d : Int) == 88) = false := by rw [beq_eq_false_iff_ne]; omega
 clear h49
 obtain ⟨R, hR⟩ : ∃ R, k + Ds ((us s).drop k) = R := ⟨_, rfl⟩
 rw [hR]
 have HR := Lh hR
 have HX := Lh hx
 have HS := Lh hs
 have HLL := Lh hll
 have HKL : Hid (k ≤ (us s).length) := Lh (by rw [Ab]; exact hk)
 obtain ⟨p1, hp1⟩ : ∃ p1, k + (((us s).drop k).takeWhile Ah).length = p1 := ⟨_, rfl⟩
 have C3 := fun W => Cv s k W hs hk
 rw [hp1] at C3
 obtain ⟨hb1, hnd, hdt⟩ := Sc HKL.out hp1
 have C4 := CU p1
 obtain ⟨c1, hc1⟩ : ∃ c1, hd0 ((us s).drop p1) = c1 := ⟨_, rfl⟩
 rw [hc1] at C4 hnd hdt
 have hp1l : (p1 : Int) ≤ 70368744177664 := by have := hb1; rw [Ab] at this; omega
 have C3 := Lh C3
 have C4 := Lh C4
 have C1 := Lh C1
 have C2 := Lh C2
 have CU := Lh CU
 have CU1 := Lh CU1
 have HB1 := Lh hb1
 have HND := Lh hnd
 have HDT := Lh hdt
 subst h48
 clear hs hs63 hln hll hx hc hd hk hR hp1 hb1 hnd hdt hc1
 go_enter Tryz.func107, Tryz.ntmps107
 go_wp2_with fail
 refine Dm (C1.out _) fun n1 => ?_
 go_wp2_with fail
 refine Dm (C2.out _) fun n2 => ?_
 go_wp2_with fail
 refine Dm (C3.out _) fun n3 => ?_
 go_wp2_with fail
 refine Dm (C4.out _) fun n4 => ?_
 by_cases h46 : c1 = 46
 ·have HD := HDT.out h46
  have C5 := Lh (show ∀ W, Cp 195 #[.string s, .int .i64 ((p1 : Int) + 1), .func (.func 70) #[] #[]] W fun e w' => e = .returned (.int .i64 ((p1 + 1 + (((us s).drop (p1 + 1)).takeWhile Ah).length : Nat) : Int)) ∧ ∃ n, w' = W.drewN n from fun W => Cv s (p1 + 1) W HS.out (by have := HD.1; rw [Ab] at this; exact this))
  obtain ⟨p2, hp2d⟩ : ∃ p2, p1 + 1 + (((us s).drop (p1 + 1)).takeWhile Ah).length = p2 := ⟨_, rfl⟩
  obtain ⟨_, hp2, hb2⟩ := HD
  rw [hp2d] at C5 hp2 hb2
  have HP2 := Lh hp2
  have HB2 := Lh hb2
  subst h46
  clear hp2d hp2 hb2
  go_wp2_with fail
  refine Dm (C5.out _) fun n5 => ?_
  have hp2 := HP2.out
  have hb2 := HB2.out
  have hpl : (p2 : Int) ≤ 70368744177664 := by have := HLL.out; have := hb2; rw [Ab] at this; omega
  obtain ⟨c2, hc2⟩ : ∃ c2, hd0 ((us s).drop p2) = c2 := ⟨_, rfl⟩
  have C6 := CU.out p2
  rw [hc2] at C6
  have C6 := Lh C6
  obtain ⟨q1, q2⟩ := Mo HKL.out HX.out hp2 hb2
  rw [hc2] at q1 q2
  obtain ⟨c3, hc3⟩ : ∃ c3, hd0 ((us s).drop (p2 + 1)) = c3 := ⟨_, rfl⟩
  have C7 := CU1.out p2
  rw [hc3] at C7 q2
  have C7 := Lh C7
  have Q1 := Lh q1
  have Q2 := Lh q2
  clear q1 q2 hc2 hc3 hp2 hb2
  by_cases he : c2 = 101 ∨ c2 = 69
  ·have Q3 := Lh (Q2.out he)
   rcases he with rfl | rfl
   all_goals
    go_wp2_with fail
    refine Dm (C6.out _) fun n6 => ?_
    go_wp2_with fail
    refine Dm (C7.out _) fun n7 => ?_
    by_cases hsg : c3 = 43 ∨ c3 = 45
    ·obtain ⟨hb4, hRe⟩ := Q3.out.2.1 hsg
     have C8 := Lh (show ∀ W, Cp 195 #[.string s, .int .i64 ((p2 : Int) + 1 + 1), .func (.func 70) #[] #[]] W fun e w' => e = .returned (.int .i64 (R : Nat)) ∧ ∃ n, w' = W.drewN n from fun W => by
      rw [← HR.out, hRe]; exact Cv s (p2 + 2) W HS.out (by rw [Ab] at hb4; omega))
     clear hb4 hRe
     rcases hsg with rfl | rfl
     all_goals
      go_wp2_with fail
      with_reducible refine Dm (C8.out _) fun n8 => ?_
      go_wp2
      go_ret
      exact ⟨rfl, n1 + n2 + n3 + n4 + n5 + n6 + n7 + n8, by first | rfl | simp⟩
    ·have hRe := Q3.out.2.2 (by omega)
     have hb3 := Q3.out.1
     have C8 := Lh (show ∀ W, Cp 195 #[.string s, .int .i64 ((p2 : Int) + 1), .func (.func 70) #[] #[]] W fun e w' => e = .returned (.int .i64 (R : Nat)) ∧ ∃ n, w' = W.drewN n from fun W => by
      rw [← HR.out, hRe]; exact Cv s (p2 + 1) W HS.out (by rw [Ab] at hb3; omega))
     have f1 : ((c3 : Int) == 43) = false := by rw [beq_eq_false_iff_ne]; omega
     have f2 : ((c3 : Int) == 45) = false := by rw [beq_eq_false_iff_ne]; omega
     clear hb3 hRe hsg
     go_wp2_with fail
     with_reducible refine Dm (C8.out _) fun n8 => ?_
     go_wp2
     go_ret
     exact ⟨rfl, n1 + n2 + n3 + n4 + n5 + n6 + n7 + n8, by first | rfl | simp⟩
  ·have HRe := Lh (Q1.out (by omega))
   have f1 : ((c2 : Int) != 101) = true := by simp; omega
   have f2 : ((c2 : Int) != 69) = true := by simp; omega
   have hRp : R = p2 := by rw [← HR.out, HRe.out]
   subst hRp
   clear he HRe
   go_wp2_with fail
   refine Dm (C6.out _) fun n6 => ?_
   go_wp2
   go_ret
   exact ⟨rfl, n1 + n2 + n3 + n4 + n5 + n6, by first | rfl | simp⟩
 ·have hp2 := HND.out h46
  have hb2 := HB1.out
  have g4 : ((c1 : Int) == 46) = false := by rw [beq_eq_false_iff_ne]; omega
  clear h46
  have hpl : (p1 : Int) ≤ 70368744177664 := by have := HLL.out; have := hb2; rw [Ab] at this; omega
  obtain ⟨c2, hc2⟩ : ∃ c2, hd0 ((us s).drop p1) = c2 := ⟨_, rfl⟩
  have C6 := CU.out p1
  rw [hc2] at C6
  have C6 := Lh C6
  obtain ⟨q1, q2⟩ := Mo HKL.out HX.out hp2 hb2
  rw [hc2] at q1 q2
  obtain ⟨c3, hc3⟩ : ∃ c3, hd0 ((us s).drop (p1 + 1)) = c3 := ⟨_, rfl⟩
  have C7 := CU1.out p1
  rw [hc3] at C7 q2
  have C7 := Lh C7
  have Q1 := Lh q1
  have Q2 := Lh q2
  clear q1 q2 hc2 hc3 hp2 hb2
  by_cases he : c2 = 101 ∨ c2 = 69
  ·have Q3 := Lh (Q2.out he)
   rcases he with rfl | rfl
   all_goals
    go_wp2_with fail
    refine Dm (C6.out _) fun n6 => ?_
    go_wp2_with fail
    refine Dm (C7.out _) fun n7 => ?_
    by_cases hsg : c3 = 43 ∨ c3 = 45
    ·obtain ⟨hb4, hRe⟩ := Q3.out.2.1 hsg
     have C8 := Lh (show ∀ W, Cp 195 #[.string s, .int .i64 ((p1 : Int) + 1 + 1), .func (.func 70) #[] #[]] W fun e w' => e = .returned (.int .i64 (R : Nat)) ∧ ∃ n, w' = W.drewN n from fun W => by
      rw [← HR.out, hRe]; exact Cv s (p1 + 2) W HS.out (by rw [Ab] at hb4; omega))
     clear hb4 hRe
     rcases hsg with rfl | rfl
     all_goals
      go_wp2_with fail
      with_reducible refine Dm (C8.out _) fun n8 => ?_
      go_wp2
      go_ret
      exact ⟨rfl, n1 + n2 + n3 + n4 + n6 + n7 + n8, by first | rfl | simp⟩
    ·have hRe := Q3.out.2.2 (by omega)
     have hb3 := Q3.out.1
     have C8 := Lh (show ∀ W, Cp 195 #[.string s, .int .i64 ((p1 : Int) + 1), .func (.func 70) #[] #[]] W fun e w' => e = .returned (.int .i64 (R : Nat)) ∧ ∃ n, w' = W.drewN n from fun W => by
      rw [← HR.out, hRe]; exact Cv s (p1 + 1) W HS.out (by rw [Ab] at hb3; omega))
     have f1 : ((c3 : Int) == 43) = false := by rw [beq_eq_false_iff_ne]; omega
     have f2 : ((c3 : Int) == 45) = false := by rw [beq_eq_false_iff_ne]; omega
     clear hb3 hRe hsg
     go_wp2_with fail
     with_reducible refine Dm (C8.out _) fun n8 => ?_
     go_wp2
     go_ret
     exact ⟨rfl, n1 + n2 + n3 + n4 + n6 + n7 + n8, by first | rfl | simp⟩
  ·have HRe := Lh (Q1.out (by omega))
   have f1 : ((c2 : Int) != 101) = true := by simp; omega
   have f2 : ((c2 : Int) != 69) = true := by simp; omega
   have hRp : R = p1 := by rw [← HR.out, HRe.out]
   subst hRp
   clear he HRe
   go_wp2_with fail
   refine Dm (C6.out _) fun n6 => ?_
   go_wp2
   go_ret
   exact ⟨rfl, n1 + n2 + n3 + n4 + n6, by first | rfl | simp⟩
theorem Nc (s : ByteArray) (k : Nat) (w : World) (hs : s.size ≤ 140737488355328) (hk : k ≤ ln s) :
  Cp 107 #[.string s, .int .i64 k] w fun e w' => e = .returned (.int .i64 ((k + Ds ((us s).drop k) : Nat) : Int)) ∧ ∃ n, w' = w.drewN n := by
 cases hx : hxA ((us s).drop k)
 ·by_cases h48 : hd0 ((us s).drop k) = 48
  ·have h49 : hd0 ((us s).drop (k + 1)) ≠ 120 ∧ hd0 ((us s).drop (k + 1)) ≠ 88 := by
    rw [Iv, h48] at hx
    simpa using hx
   exact Rg s k w hs hk h48 h49
  ·exact Sv s k w hs hk h48
 ·exact Oa s k w hs hk hx

end
section
theorem Jl (l : List Nat) : Ah (zU l) = Ah (hd0 l) := by
 cases l with
 | nil => decide
 | cons c r => rfl
theorem Akb (l : List Nat) : decide (hxI (zU l) < 16) = Bh (hd0 l) := by
 cases l with
 | nil => decide
 | cons c r =>
  show decide (hxI c < 16) = Bh c
  unfold hxI
  cases h : Bh c
  ·rw [if_neg (by simp)]; decide
  ·rw [if_pos rfl]; unfold Bh at h; exact h
theorem Aac {c : Nat} (hc : c ≠ 0) (l : List Nat) : [c].isPrefixOf l = (hd0 l == c) := by
 cases l with
 | nil =>
  show false = ((0 : Nat) == c)
  cases h : ((0 : Nat) == c)
  ·rfl
  ·exact absurd (beq_iff_eq.1 h).symm hc
 | cons a r =>
  show ((c == a) && [].isPrefixOf r) = (a == c)
  rw [show List.isPrefixOf ([] : List Nat) r = true by cases r <;> rfl, Bool.and_true, Bool.eq_iff_iff, beq_iff_eq, beq_iff_eq]
  exact ⟨Eq.symm, Eq.symm⟩
theorem Rp {L : List Nat} {j : Nat} (h : Ah (hd0 (L.drop j)) = true) : j + 1 ≤ L.length := by
 refine Cn (c := hd0 (L.drop j)) ?_ rfl
 intro h0
 rw [h0] at h
 revert h
 decide
theorem To {L : List Nat} {k p : Nat} (hk : k ≤ L.length) (hx : hxA (L.drop k) = false) (h2 : L.drop p = dT (L.drop k)) (hp : p ≤ L.length) :
  (¬ (hd0 (L.drop p) = 101 ∨ hd0 (L.drop p) = 69) → k + Dx (L.drop k) = p) ∧
  (hd0 (L.drop p) = 101 ∨ hd0 (L.drop p) = 69 → p + 1 ≤ L.length ∧
   ∀ q, (q = p + 1 ∧ ¬ (hd0 (L.drop (p + 1)) = 43 ∨ hd0 (L.drop (p + 1)) = 45)) ∨ (q = p + 2 ∧ (hd0 (L.drop (p + 1)) = 43 ∨ hd0 (L.drop (p + 1)) = 45)) →
    q ≤ L.length ∧ k + Dx (L.drop k) = if Ah (hd0 (L.drop q)) = true then q + ((L.drop q).takeWhile Ah).length else p) := by
 have hkp : k ≤ p := by
  have h3 : (L.drop p).length ≤ (L.drop k).length := by
   rw [h2]
   obtain ⟨X, hX⟩ := Ro (L.drop k)
   have := congrArg List.length hX
   rw [List.length_append] at this
   omega
  rw [List.length_drop, List.length_drop] at h3
  omega
 have hsame : k + (L.length - k - (L.length - p)) = p := by omega
 unfold Dx
 rw [hx, if_neg (by simp), List.length_drop]
 unfold dR
 rw [← h2]
 unfold exR
 refine ⟨fun g => ?_, fun g => ?_⟩
 ·have he : Dq (L.drop p) = false := by
   unfold Dq
   have h1 : ((L.drop p).head? == some 101) = false := by
    rw [Bool.eq_false_iff]; intro h; exact g (.inl ((Bo (by omega)).2 (beq_iff_eq.1 h)))
   have h3 : ((L.drop p).head? == some 69) = false := by
    rw [Bool.eq_false_iff]; intro h; exact g (.inr ((Bo (by omega)).2 (beq_iff_eq.1 h)))
   rw [h1, h3]; rfl
  rw [he, if_neg (by simp), List.length_drop]
  exact hsame
 ·have hp1 : p + 1 ≤ L.length := by
   rcases g with g | g
   ·exact Cn (by omega) g
   ·exact Cn (by omega) g
  refine ⟨hp1, fun q hq => ?_⟩
  have hun : unsg (L.drop p).tail = L.drop q := by
   unfold unsg
   rw [List.tail_drop]
   rcases hq with ⟨rfl, h⟩ | ⟨rfl, h⟩
   ·rw [if_neg]
    rintro (h4 | h4)
    ·exact h (.inr ((Bo (by omega)).2 h4))
    ·exact h (.inl ((Bo (by omega)).2 h4))
   ·rw [if_pos, List.tail_drop]
    rcases h with h | h
    ·exact .inr ((Bo (by omega)).1 h)
    ·exact .inl ((Bo (by omega)).1 h)
  have hql : q ≤ L.length := by
   rcases hq with ⟨rfl, h⟩ | ⟨rfl, h⟩
   ·exact hp1
   ·rcases h with h | h
    ·exact Cn (j := p + 1) (by omega) h
    ·exact Cn (j := p + 1) (by omega) h
  refine ⟨hql, ?_⟩
  have hhd : ((L.drop p).head? == some 101 || (L.drop p).head? == some 69) = true := by
   rw [Bool.or_eq_true]
   rcases g with g | g
   ·exact .inl (by rw [(Bo (by omega)).1 g]; rfl)
   ·exact .inr (by rw [(Bo (by omega)).1 g]; rfl)
  have hrun : (Af (L.drop q)).isEmpty = !Ah (hd0 (L.drop q)) := by
   unfold Af
   cases hd : L.drop q with
   | nil => decide
   | cons a r =>
    show ((a :: r).takeWhile Ah).isEmpty = !Ah a
    cases ha : Ah a
    ·rw [List.takeWhile_cons_of_neg (by simp [ha])]; rfl
    ·rw [List.takeWhile_cons_of_pos ha]; rfl
  have he : Dq (L.drop p) = Ah (hd0 (L.drop q)) := by
   unfold Dq
   rw [hhd, hun, hrun, Bool.true_and, Bool.not_not]
  rw [he]
  cases hd : Ah (hd0 (L.drop q))
  ·rw [if_neg (by simp), if_neg (by simp), List.length_drop]
   exact hsame
  ·rw [if_pos rfl, if_pos rfl]
   unfold expR
   rw [hun]
   unfold Ai
   rw [← Je Ah L q, List.length_drop]
   have := Td Ah L q hql
   have hkq : k ≤ q := by rcases hq with ⟨rfl, _⟩ | ⟨rfl, _⟩ <;> omega
   omega
theorem Ag1 {L : List Nat} {k : Nat} (hx : hxA (L.drop k) = true) : k + Dx (L.drop k) = k + 2 + ((L.drop (k + 2)).takeWhile Bh).length := by
 unfold Dx
 rw [if_pos hx, List.drop_drop]
 omega

end
section
theorem Dv (s : ByteArray) (i n : Nat) (w : World) (hs : s.size ≤ 140737488355328) (hi : i ≤ 140737488355328) (hn : n ≤ 4) :
  Cp 111 #[.string s, .int .i64 i, .int .i64 n] w fun e w' => e = Fe (Bu 0 n ((us s).drop i)) ∧ ∃ m, w' = w.drewN m := by
 have hs63 : s.size ≤ maxLen := by unfold maxLen; omega
 have C1 := Lh (fun (j : Nat) W => Bz s j W hs63)
 have C2 := Lh (fun (u : Nat) W => Nw u W)
 obtain ⟨R, hR⟩ : ∃ R, Bu 0 n ((us s).drop i) = R := ⟨_, rfl⟩
 rw [hR]
 have HR := Lh hR
 have hil : (i : Int) ≤ 140737488355328 := by omega
 clear hs hs63 hR hi
 go_enter Tryz.func111, Tryz.ntmps111
 go_wp2
 go_loopw [8, 9] (fun vv kv wr => ∃ (v k : Nat), vv = .int .i64 v ∧ kv = .int .i64 k ∧ k ≤ n ∧ Hid (v < 16 ^ k) ∧ Hid (Bu v (n - k) ((us s).drop (i + k)) = R) ∧ ∃ m, wr = w.drewN m) (fun _ kv _ => n - (intOf kv).toNat)
 case atStart => exact ⟨0, 0, by go_num, by go_num, Nat.zero_le _, Lh (by decide), Lh (by simpa using HR.out), 0, rfl⟩
 case round =>
  obtain ⟨v, k, rfl, rfl, hk, HV, HJ, n0, rfl⟩ := hrel
  have hkl : (k : Int) ≤ 4 := by omega
  rcases Nat.lt_or_ge k n with hlt | hge
  ·have hv : v < 4096 := by
    have h1 := HV.out
    have h2 : 16 ^ k ≤ 16 ^ 3 := Nat.pow_le_pow_right (by omega) (by omega)
    omega
   have hvl : (v : Int) < 4096 := by omega
   have hj := HJ.out
   rw [show n - k = (n - (k + 1)) + 1 by omega, Bu, List.tail_drop] at hj
   have C3 := fun W => C1.out (i + k) W
   obtain ⟨c, hc⟩ : ∃ c, hd0 ((us s).drop (i + k)) = c := ⟨_, rfl⟩
   rw [hc] at hj C3
   cases hb : ((us s).drop (i + k)).isEmpty
   ·rw [hb] at C3
    have C3 := Lh (show ∀ W, Cp 48 #[.string s, .int .i64 ((i : Int) + (k : Int))] W fun e w' => e = .returned (.tuple #[.int .u16 (c : Nat), .bool true]) ∧ ∃ n, w' = W.drewN n from C3)
    have C4 := fun W => C2.out c W
    unfold hxI at C4
    cases hx : Bh c
    ·rw [hx, if_neg (by simp)] at hj C4
     obtain rfl : R = none := hj.symm
     have C4 := Lh (show ∀ W, Cp 113 #[.int .u16 (c : Nat)] W fun e w' => e = .returned (.int .i64 99) ∧ W = w' from C4)
     clear hj hc hb hx HJ HR HV
     go_wp2_with fail
     refine Dm (C3.out _) fun n1 => ?_
     go_wp2_with fail
     refine Sm (C4.out _) ?_
     go_wp2
     go_ret2
     exact ⟨rfl, n0 + n1, by first | rfl | simp⟩
    ·rw [hx, if_pos rfl] at hj C4
     have hd : dgt c < 16 := by unfold Bh at hx; simpa using hx
     obtain ⟨d, hdd⟩ : ∃ d, dgt c = d := ⟨_, rfl⟩
     rw [hdd] at hj C4 hd
     have C4 := Lh C4
     have hdl : (d : Int) < 16 := by omega
     have g9 : ((d : Int) == 99) = false := by rw [beq_eq_false_iff_ne]; omega
     have HV2 : Hid (v * 16 + d < 16 ^ (k + 1)) := Lh (by have := HV.out; rw [Nat.pow_succ]; omega)
     have HJ2 : Hid (Bu (v * 16 + d) (n - (k + 1)) ((us s).drop (i + (k + 1))) = R) := Lh hj
     have hv0 : 0 ≤ (v : Int) := by omega
     clear hj hc hb hx HJ HR HV hdd hd hv
     go_wp2_with fail
     refine Dm (C3.out _) fun n1 => ?_
     go_wp2_with fail
     refine Sm (C4.out _) ?_
     go_wp2
     go_roundw
     case rel => exact ⟨v * 16 + d, k + 1, by go_num, by go_num, hlt, HV2, HJ2, n0 + n1, by first | rfl | simp⟩
     case measure => simp [intOf]; omega
   ·rw [hb] at C3
    have hc0 : c = 0 := by
     rw [← hc]
     rw [List.isEmpty_iff] at hb
     rw [hb]
     rfl
    subst hc0
    obtain rfl : R = none := by rw [← hj]; rfl
    have C3 := Lh (show ∀ W, Cp 48 #[.string s, .int .i64 ((i : Int) + (k : Int))] W fun e w' => e = .returned (.tuple #[.int .u16 0, .bool false]) ∧ ∃ n, w' = W.drewN n from C3)
    clear hj hc hb HJ HR HV
    go_wp2_with fail
    refine Dm (C3.out _) fun n1 => ?_
    go_wp2
    go_ret2
    exact ⟨rfl, n0 + n1, by first | rfl | simp⟩
  ·have hkn : k = n := by omega
   have hvv : v < 65536 := by
    have h1 := HV.out
    have h2 : 16 ^ k ≤ 16 ^ 4 := Nat.pow_le_pow_right (by omega) (by omega)
    omega
   obtain rfl : R = some v := by
    rw [← HJ.out, hkn, Nat.sub_self, Bu]
   have hw : IntKind.u16.wrap (v : Int) = (v : Int) := IntWalk.u16_in _ (by omega)
   have g1 : ¬ ((k : Int) < (n : Int)) := by omega
   clear HJ HR HV
   go_wp2
   go_ret2
   exact ⟨rfl, n0, rfl⟩

end
section
def Mt (n : Nat) : Option (Nat × Bool) → Ending
 | none => .returned (.tuple #[.int .i64 (n : Int), .bool false, .bool false])
 | some p => .returned (.tuple #[.int .i64 ((p.1 : Nat) : Int), .bool p.2, .bool true])
def Im (k : Nat) (b : Bool) (p : Nat × Bool) : Nat × Bool := (k + p.1, b || p.2)
theorem Abx (k : Nat) (b e : Bool) (o : Option (Nat × Bool)) : (o.map fun p => (p.1 + 1, e || p.2)).map (Im k b) = o.map (Im (k + 1) (b || e)) := by
 cases o with
 | none => rfl
 | some p =>
  simp only [Option.map_some, Im, Option.some.injEq, Prod.mk.injEq]
  exact ⟨by omega, by rw [Bool.or_assoc]⟩
theorem Rb (s : ByteArray) (k : Nat) (w : World) (hs : s.size ≤ 140737488355328) (hk : k ≤ ln s) :
  Cp 103 #[.string s, .int .i64 k] w fun e w' => e = Mt (ln s) ((Gb ((us s).drop k)).map (Im k false)) ∧ ∃ n, w' = w.drewN n := by
 have hs63 : s.size ≤ maxLen := by unfold maxLen; omega
 have C1 := Lh (fun W => Cr s W hs63)
 have C2 := Lh (fun (j : Nat) W => An s j W hs63)
 have hln := Ap s
 have hl : ((ln s : Nat) : Int) ≤ 140737488355328 := by omega
 have hkl : (k : Int) ≤ (ln s : Int) := by omega
 obtain ⟨R, hR⟩ : ∃ R, (Gb ((us s).drop k)).map (Im k false) = R := ⟨_, rfl⟩
 rw [hR]
 have HR := Lh hR
 have HK := Lh hk
 clear hs hs63 hln hR hk
 go_enter Tryz.func103, Tryz.ntmps103
 go_wp2
 go_loopw [1, 7] (fun v nl wr => ∃ (j : Nat) (b : Bool), v = .int .i64 j ∧ nl = .bool b ∧ j ≤ ln s ∧ Hid (R = (Gb ((us s).drop j)).map (Im j b)) ∧ ∃ n, wr = w.drewN n) (fun v _ _ => ln s - (intOf v).toNat)
 case atStart => exact ⟨k, false, rfl, rfl, HK.out, Lh HR.out.symm, 0, rfl⟩
 case round =>
  obtain ⟨j, b, rfl, rfl, hj, HJ, n0, rfl⟩ := hrel
  by_cases hlt : j < ln s
  ·obtain ⟨c, hc1, hc2⟩ := Bw (L := us s) (k := j) (by rw [Ab]; exact hlt)
   have C2' := Lh (fun W => C2.out j W)
   rw [hc2] at C2'
   have C2'' := Lh (fun W => C2.out (j + 1) W)
   obtain ⟨d, hd⟩ : ∃ d, hd0 ((us s).drop (j + 1)) = d := ⟨_, rfl⟩
   rw [hd, show (((j + 1 : Nat) : Int)) = (j : Int) + 1 by omega] at C2''
   have C3 := Lh (fun W => Fl c W)
   have t1 : (j : Int) < (ln s : Int) := by omega
   by_cases hm : c = 42 ∧ d = 47
   ·have HJ2 : Hid (R = some (j + 2, b)) := Lh (by
     rw [HJ.out, hc1]
     unfold Gb
     rw [hd, if_pos hm, Option.map_some, Im, Bool.or_false])
    obtain ⟨rfl, rfl⟩ := hm
    clear hc1 hc2 hd
    go_wp2_with fail
    refine Sm (C1.out _) ?_
    go_wp2_with fail
    refine Dm (C2'.out _) fun n1 => ?_
    go_wp2_with fail
    refine Dm (C2''.out _) fun n2 => ?_
    go_wp2
    go_ret3
    exact ⟨by rw [HJ2.out]; rfl, n0 + n1 + n2, by first | rfl | simp⟩
   ·obtain ⟨f, hf⟩ : ∃ f, enN c = f := ⟨_, rfl⟩
    rw [hf] at C3
    have HJ2 : Hid (R = (Gb ((us s).drop (j + 1))).map (Im (j + 1) (b || f))) := Lh (by
     rw [HJ.out, hc1]
     conv => lhs; unfold Gb
     rw [hd, if_neg hm, Abx, hf])
    clear hc1 hc2 hd hf
    have hm2 : ((c : Int) ≠ 42) ∨ (c = 42 ∧ (d : Int) ≠ 47) := by omega
    clear hm
    rcases hm2 with hm2 | ⟨rfl, hm3⟩
    ·cases b
     ·go_wp2_with fail
      refine Sm (C1.out _) ?_
      go_wp2_with fail
      refine Dm (C2'.out _) fun n1 => ?_
      go_wp2_with fail
      refine Sm (C3.out _) ?_
      go_wp2
      go_roundw
      case rel => exact ⟨j + 1, f, by go_num, rfl, by omega, HJ2, n0 + n1, by first | rfl | simp⟩
      case measure => simp [intOf]; omega
     ·go_wp2_with fail
      refine Sm (C1.out _) ?_
      go_wp2_with fail
      refine Dm (C2'.out _) fun n1 => ?_
      go_wp2_with fail
      go_roundw
      case rel => exact ⟨j + 1, true, by go_num, rfl, by omega, HJ2, n0 + n1, by first | rfl | simp⟩
      case measure => simp [intOf]; omega
    ·cases b
     ·go_wp2_with fail
      refine Sm (C1.out _) ?_
      go_wp2_with fail
      refine Dm (C2'.out _) fun n1 => ?_
      go_wp2_with fail
      refine Dm (C2''.out _) fun n2 => ?_
      go_wp2_with fail
      refine Sm (C3.out _) ?_
      go_wp2
      go_roundw
      case rel => exact ⟨j + 1, f, by go_num, rfl, by omega, HJ2, n0 + n1 + n2, by first | rfl | simp⟩
      case measure => simp [intOf]; omega
     ·go_wp2_with fail
      refine Sm (C1.out _) ?_
      go_wp2_with fail
      refine Dm (C2'.out _) fun n1 => ?_
      go_wp2_with fail
      refine Dm (C2''.out _) fun n2 => ?_
      go_wp2_with fail
      go_roundw
      case rel => exact ⟨j + 1, true, by go_num, rfl, by omega, HJ2, n0 + n1 + n2, by first | rfl | simp⟩
      case measure => simp [intOf]; omega
  ·have hj2 : j = ln s := by omega
   have HJ2 : Hid (R = none) := Lh (by
    rw [HJ.out, List.drop_eq_nil_iff.2 (by rw [Ab]; omega)]
    rfl)
   have t1 : ¬ (j : Int) < (ln s : Int) := by omega
   go_wp2_with (go_at_call 34; refine (C1.out _).mono ?_; rintro e w' ⟨rfl, rfl⟩)
   go_ret3
   exact ⟨by rw [HJ2.out]; rfl, n0, rfl⟩


end
section
theorem S4 {L : List Nat} {k : Nat} {c : Nat} {r : List Nat} (h : L.drop k = c :: r) : L.drop (k + 1) = r ∧ L.drop (k + 2) = r.tail := by
 constructor
 ·rw [← List.drop_drop, h]
  rfl
 ·rw [← List.drop_drop, h]
  cases r <;> rfl
theorem Aag (L : List Nat) (k : Nat) : Ow (L.drop k) =
  if enN (hd0 (L.drop k)) = true then some (1, true)
  else if spN (hd0 (L.drop k)) = true then some (1, false)
  else if hd0 (L.drop k) = 47 ∧ hd0 (L.drop (k + 1)) = 47 then some (2 + Ef (L.drop (k + 2)), false)
  else if hd0 (L.drop k) = 47 ∧ hd0 (L.drop (k + 1)) = 42 then (Gb (L.drop (k + 2))).map fun p => (2 + p.1, p.2)
  else some (0, false) := by
 rcases hd : L.drop k with _ | ⟨c, r⟩
 ·have h0 : hd0 ([] : List Nat) = 0 := rfl
  rw [h0, if_neg (by decide), if_neg (by decide), if_neg (by omega), if_neg (by omega)]
  rfl
 ·obtain ⟨h1, h2⟩ := S4 hd
  have h0 : hd0 (c :: r) = c := rfl
  rw [h0, h1, h2]
  rfl
theorem R8 {L : List Nat} {k : Nat} (h : hd0 (L.drop k) ≠ 0) : k < L.length := by
 rcases Nat.lt_or_ge k L.length with h1 | h1
 ·exact h1
 ·exact absurd (by rw [List.drop_eq_nil_iff.2 h1]; rfl) h
theorem Afd (s : ByteArray) (k : Nat) (w : World) (hs : s.size ≤ 140737488355328) (hk : k ≤ ln s) :
  Cp 65 #[.string s, .int .i64 k] w fun e w' => e = Mt (ln s) ((Ow ((us s).drop k)).map (Im k false)) ∧ ∃ n, w' = w.drewN n := by
 have hs63 : s.size ≤ maxLen := by unfold maxLen; omega
 have hln := Ap s
 have hkl : (k : Int) ≤ 140737488355328 := by omega
 have C1 := Lh (fun W => An s k W hs63)
 have C2 := Lh (fun W => An s (k + 1) W hs63)
 have C5 : k + 2 ≤ ln s → ∀ W, Cp 102 #[.string s, .int .i64 ((k : Int) + 2)] W fun e w' => e = .returned (.int .i64 ((k + 2 + Ef ((us s).drop (k + 2)) : Nat) : Int)) ∧ ∃ n, w' = W.drewN n := fun h W => by
  rw [show (k : Int) + 2 = ((k + 2 : Nat) : Int) by omega]; exact U5 s (k + 2) W hs h
 have C6 : k + 2 ≤ ln s → ∀ W, Cp 103 #[.string s, .int .i64 ((k : Int) + 2)] W fun e w' => e = Mt (ln s) ((Gb ((us s).drop (k + 2))).map (Im (k + 2) false)) ∧ ∃ n, w' = W.drewN n := fun h W => by
  rw [show (k : Int) + 2 = ((k + 2 : Nat) : Int) by omega]; exact Rb s (k + 2) W hs h
 have C5 := Lh C5
 have C6 := Lh C6
 have h2 : hd0 ((us s).drop (k + 1)) ≠ 0 → k + 2 ≤ ln s := fun h => by have := R8 h; rw [Ab] at this; omega
 rw [Aag]
 obtain ⟨c, hc⟩ : ∃ c, hd0 ((us s).drop k) = c := ⟨_, rfl⟩
 obtain ⟨d, hd⟩ : ∃ d, hd0 ((us s).drop (k + 1)) = d := ⟨_, rfl⟩
 rw [hc] at C1 ⊢
 rw [hd, show (((k + 1 : Nat) : Int)) = (k : Int) + 1 by omega] at C2
 rw [hd] at h2 ⊢
 have C3 := Lh (fun W => Fl c W)
 have C4 := Lh (fun W => Aif c W)
 clear hs hs63 hln hk hc hd
 cases he : enN c
 ·rw [he] at C3
  cases hsp : spN c
  ·rw [hsp] at C4
   rw [if_neg (by simp), if_neg (by simp)]
   clear he hsp
   by_cases h47 : c = 47
   ·subst h47
    by_cases hd47 : d = 47
    ·subst hd47
     have C5' := Lh (C5.out (h2 (by omega)))
     obtain ⟨m, hm⟩ : ∃ m, Ef ((us s).drop (k + 2)) = m := ⟨_, rfl⟩
     rw [if_pos ⟨rfl, rfl⟩, hm]
     rw [hm] at C5'
     clear hm C5 C6 h2
     go_enter Tryz.func65, Tryz.ntmps65
     go_wp2_with fail
     refine Dm (C1.out _) fun n1 => ?_
     go_wp2_with fail
     refine Sm (C3.out _) ?_
     go_wp2_with fail
     refine Sm (C4.out _) ?_
     go_wp2_with fail
     refine Dm (C2.out _) fun n2 => ?_
     go_wp2_with fail
     refine Dm (C5'.out _) fun n3 => ?_
     go_wp2
     go_ret3
     refine ⟨?_, n1 + n2 + n3, by first | rfl | simp⟩
     simp only [Option.map_some, Im, Mt, Bool.false_or]
     rw [show k + (2 + m) = k + 2 + m by omega]
     rfl
    ·rw [if_neg (by omega)]
     by_cases hd42 : d = 42
     ·subst hd42
      have C6' := Lh (C6.out (h2 (by omega)))
      obtain ⟨o, ho⟩ : ∃ o, Gb ((us s).drop (k + 2)) = o := ⟨_, rfl⟩
      rw [if_pos ⟨rfl, rfl⟩, ho]
      rw [ho] at C6'
      have hE : Mt (ln s) ((o.map fun p => (2 + p.1, p.2)).map (Im k false)) = Mt (ln s) (o.map (Im (k + 2) false)) := by
       cases o with
       | none => rfl
       | some p => simp only [Option.map_some, Im]; rw [show k + (2 + p.1) = k + 2 + p.1 by omega]
      rw [hE]
      clear ho C5 C6 h2 hE hd47
      go_enter Tryz.func65, Tryz.ntmps65
      go_wp2_with fail
      refine Dm (C1.out _) fun n1 => ?_
      go_wp2_with fail
      refine Sm (C3.out _) ?_
      go_wp2_with fail
      refine Sm (C4.out _) ?_
      go_wp2_with fail
      refine Dm (C2.out _) fun n2 => ?_
      go_wp2_with fail
      refine Dm (C2.out _) fun n3 => ?_
      go_wp2_with fail
      refine Dm (C6'.out _) fun n4 => ?_
      cases o
      ·simp only [Option.map_none, Mt]
       go_wp2
       go_ret3
       exact ⟨rfl, n1 + n2 + n3 + n4, by first | rfl | simp⟩
      ·simp only [Option.map_some, Mt]
       go_wp2
       go_ret3
       exact ⟨rfl, n1 + n2 + n3 + n4, by first | rfl | simp⟩
     ·rw [if_neg (by omega)]
      have g1 : (d : Int) ≠ 47 := by omega
      have g2 : (d : Int) ≠ 42 := by omega
      clear C5 C6 h2 hd47 hd42
      go_enter Tryz.func65, Tryz.ntmps65
      go_wp2_with fail
      refine Dm (C1.out _) fun n1 => ?_
      go_wp2_with fail
      refine Sm (C3.out _) ?_
      go_wp2_with fail
      refine Sm (C4.out _) ?_
      go_wp2_with fail
      refine Dm (C2.out _) fun n2 => ?_
      go_wp2_with fail
      refine Dm (C2.out _) fun n3 => ?_
      go_wp2
      go_ret3
      exact ⟨rfl, n1 + n2 + n3, by first | rfl | simp⟩
   ·rw [if_neg (by omega), if_neg (by omega)]
    have g1 : (c : Int) ≠ 47 := by omega
    clear C5 C6 h2 h47
    go_enter Tryz.func65, Tryz.ntmps65
    go_wp2_with fail
    refine Dm (C1.out _) fun n1 => ?_
    go_wp2_with fail
    refine Sm (C3.out _) ?_
    go_wp2_with fail
    refine Sm (C4.out _) ?_
    go_wp2
    go_ret3
    exact ⟨rfl, n1, by first | rfl | simp⟩
  ·rw [hsp] at C4
   rw [if_neg (by simp), if_pos (by rfl)]
   clear he hsp C5 C6 h2
   go_enter Tryz.func65, Tryz.ntmps65
   go_wp2_with fail
   refine Dm (C1.out _) fun n1 => ?_
   go_wp2_with fail
   refine Sm (C3.out _) ?_
   go_wp2_with fail
   refine Sm (C4.out _) ?_
   go_wp2
   go_ret3
   exact ⟨rfl, n1, by first | rfl | simp⟩
 ·rw [he] at C3
  rw [if_pos (by rfl)]
  clear he C5 C6 h2
  go_enter Tryz.func65, Tryz.ntmps65
  go_wp2_with fail
  refine Dm (C1.out _) fun n1 => ?_
  go_wp2_with fail
  refine Sm (C3.out _) ?_
  go_wp2
  go_ret3
  exact ⟨rfl, n1, by first | rfl | simp⟩


end
section
theorem Oo (L : List Nat) (a : Nat) : Ef (L.drop a) = if a < L.length ∧ enN (hd0 (L.drop a)) = false then 1 + Ef (L.drop (a + 1)) else 0 := by
 rcases hd : L.drop a with _ | ⟨c, r⟩
 ·rw [if_neg]
  ·rfl
  ·have := List.drop_eq_nil_iff.1 hd
   omega
 ·have h1 : L.drop (a + 1) = r := by rw [← List.drop_drop, hd]; rfl
  have h2 : a < L.length := by
   rcases Nat.lt_or_ge a L.length with h | h
   ·exact h
   ·rw [List.drop_eq_nil_iff.2 h] at hd; cases hd
  rw [h1]
  show ((c :: r).takeWhile fun c => !enN c).length = if a < L.length ∧ enN c = false then 1 + Ef r else 0
  cases he : enN c
  ·simp [h2, he, Ef]
   omega
  ·simp [he]
theorem Qt (a b : Nat) (L : List Nat) (j : Nat) (hb : b ≠ 0) (c : Nat) (hc : L.drop j = c :: L.drop (j + 1)) : [a, b].isPrefixOf (L.drop j) = (a == c && hd0 (L.drop (j + 1)) == b) := by
 rw [hc, List.isPrefixOf]
 congr 1
 rcases hd : L.drop (j + 1) with _ | ⟨d, r⟩
 ·have : hd0 ([] : List Nat) = 0 := rfl
  rw [this]
  show false = _
  rw [eq_comm, beq_eq_false_iff_ne]
  omega
 ·show (b == d && true) = (d == b)
  rw [Bool.and_true, Bool.eq_iff_iff]
  simp only [beq_iff_eq]
  exact eq_comm
def Gw (k : Nat) (b : Bool) (p : Nat × Bool × Bool) (e : Ending) : Prop :=
 if p.2.2 = true then e = .returned (.tuple #[.int .i64 ((k + p.1 : Nat) : Int), .bool (b || p.2.1), .bool true])
 else ∃ x, e = .returned (.tuple #[.int .i64 ((k + p.1 : Nat) : Int), .bool x, .bool false])
theorem H9 (k n : Nat) (b c : Bool) (p : Nat × Bool × Bool) (e : Ending) : Gw k b (n + p.1, c || p.2.1, p.2.2) e ↔ Gw (k + n) (b || c) p e := by
 unfold Gw
 simp only [Nat.add_assoc, Bool.or_assoc]
theorem Aew (s : ByteArray) (i : Nat) (w : World) (hs : s.size ≤ 1099511627776) (hi : i ≤ ln s) :
  Cp 39 #[.string s, .int .i64 i] w fun e w' => Gw i false (As ((us s).drop i)) e ∧ ∃ n, w' = w.drewN n := by
 have hs63 : s.size ≤ maxLen := by unfold maxLen; omega
 have hln := Ap s
 have CL := Lh (fun W => Cw s W hs63)
 have CU := Lh (fun (j : Nat) W => Ce s j W hs63)
 have CE := Lh (fun (c : Nat) W => Dh (c : Int) W)
 have CB := Lh (fun (c : Nat) W => Ok (c : Int) W)
 have CI := Lh (fun (t : ByteArray) (ht : t.size ≤ 8) (j : Nat) (hj : j ≤ ln s) W => Ib s t j W (by omega) (by omega) ht)
 have hl : ((ln s : Nat) : Int) ≤ 1099511627776 := by omega
 obtain ⟨G, hG⟩ : ∃ G : Ending → Prop, Gw i false (As ((us s).drop i)) = G := ⟨_, rfl⟩
 rw [hG]
 have HG := Lh hG
 have HI := Lh hi
 clear hs hs63 hln hG hi
 go_enter Tryz.func39, Tryz.ntmps39
 go_wp2
 go_loopw [1, 7] (fun av nv wr => ∃ (j : Nat) (b : Bool), av = .int .i64 j ∧ nv = .bool b ∧ j ≤ ln s ∧ Hid (Gw j b (As ((us s).drop j)) = G) ∧ ∃ m, wr = w.drewN m) (fun av _ _ => ln s - (intOf av).toNat)
 case atStart => exact ⟨i, false, rfl, rfl, HI.out, HG, 0, rfl⟩
 case round =>
  obtain ⟨j, b, rfl, rfl, hj, HJ, n0, rfl⟩ := hrel
  rcases Nat.lt_or_ge j (ln s) with hlt | hge
  ·obtain ⟨c, hc1, hc2⟩ := Bw (L := us s) (k := j) (by rw [Ab]; exact hlt)
   have C2 := fun W => CU.out j W
   rw [hc1, Ke] at C2
   have C2 := Lh C2
   have C3 := fun W => CE.out c W
   have C4 := fun W => CB.out c W
   have hs1 := Py ((us s).drop j)
   have hg0 := Aag (us s) j
   rw [hc2] at hg0
   have t1 : (j : Int) < (ln s : Int) := by omega
   cases he : enN c
   ·rw [show enB (c : Int) = false from he] at C3
    rw [he, if_neg (by simp)] at hg0
    have C3 := Lh C3
    cases hsp : spN c
    ·rw [show spB (c : Int) = false from hsp] at C4
     rw [hsp, if_neg (by simp)] at hg0
     have C4 := Lh C4
     have CI1 := fun W => CI.out ⟨#[47, 47]⟩ (by decide) j hj W
     have CI2 := fun W => CI.out ⟨#[47, 42]⟩ (by decide) j hj W
     rw [show wdL ⟨#[47, 47]⟩ = [47, 47] from rfl, Qt 47 47 (us s) j (by omega) c hc1] at CI1
     rw [show wdL ⟨#[47, 42]⟩ = [47, 42] from rfl, Qt 47 42 (us s) j (by omega) c hc1] at CI2
     obtain ⟨d, hd⟩ : ∃ d, hd0 ((us s).drop (j + 1)) = d := ⟨_, rfl⟩
     rw [hd] at CI1 CI2 hg0
     have hj1 : d ≠ 0 → j + 2 ≤ ln s := fun h => by
      have := R8 (L := us s) (k := j + 1) (by rw [hd]; exact h)
      rw [Ab] at this
      omega
     by_cases h1 : c = 47 ∧ d = 47
     ·rw [if_pos h1] at hg0
      rw [hg0] at hs1
      obtain ⟨rfl, rfl⟩ := h1
      have hj2 := hj1 (by omega)
      have CI1 := Lh (show ∀ W, Cp 41 #[.string s, .int .i64 j, .string ⟨#[47, 47]⟩] W fun e w' => e = .returned (.bool true) ∧ ∃ n, w' = W.drewN n from CI1)
      obtain ⟨E, hE⟩ : ∃ E, j + 2 + Ef ((us s).drop (j + 2)) = E := ⟨_, rfl⟩
      have hEj : j + Ef ((us s).drop j) = E := by
       rw [Oo (us s) j, if_pos ⟨by rw [Ab]; omega, by rw [hc2]; exact he⟩, Oo (us s) (j + 1), if_pos ⟨by rw [Ab]; omega, by rw [hd]; decide⟩, ← hE, show j + 1 + 1 = j + 2 from rfl]
       omega
      have hEl : E ≤ ln s := by
       have := Agk ((us s).drop (j + 2))
       rw [List.length_drop, Ab] at this
       omega
      have hEg : j < E := by omega
      have HJ2 : Hid (Gw E b (As ((us s).drop E)) = G) := Lh (by
       rw [← HJ.out, hs1]
       funext e
       have h3 : 2 + Ef ((us s).drop (j + 2)) = (1 + Ef ((us s).drop (j + 2))) + 1 := by omega
       rw [h3]
       show _ = Gw j b (1 + Ef ((us s).drop (j + 2)) + 1 + (As (((us s).drop j).drop (1 + Ef ((us s).drop (j + 2)) + 1))).1, false || (As (((us s).drop j).drop (1 + Ef ((us s).drop (j + 2)) + 1))).2.1, (As (((us s).drop j).drop (1 + Ef ((us s).drop (j + 2)) + 1))).2.2) e
       have h4 : j + (1 + Ef ((us s).drop (j + 2)) + 1) = E := by omega
       rw [List.drop_drop, h4]
       have := H9 j (1 + Ef ((us s).drop (j + 2)) + 1) b false (As ((us s).drop E)) e
       rw [h4, Bool.or_false] at this
       exact (propext this).symm)
      have HEJ := Lh hEj
      have HEL := Lh hEl
      have HEG := Lh hEg
      clear hs1 hg0 hc1 hc2 he hsp HJ HG CI2 hd hj1 hj2 hE hEj hEl hEg
      go_wp2_with fail
      refine Sm (CL.out _) ?_
      go_wp2_with fail
      refine Dm (C2.out _) fun n1 => ?_
      go_wp2_with fail
      refine Sm (C3.out _) ?_
      go_wp2_with fail
      refine Sm (C4.out _) ?_
      go_wp2_with fail
      refine Dm (CI1.out _) fun n2 => ?_
      go_wp2
      go_loopw [1] (fun av wq => ∃ a : Nat, av = .int .i64 a ∧ a ≤ ln s ∧ Hid (a + Ef ((us s).drop a) = E) ∧ ∃ m, wq = w.drewN m) (fun av _ => ln s - (intOf av).toNat)
      case atStart => exact ⟨j, rfl, hj, HEJ, n0 + n1 + n2, by first | rfl | simp⟩
      case round =>
       obtain ⟨a, rfl, ha, HA, n3, rfl⟩ := hrel
       have hra := Oo (us s) a
       have hA0 := HA.out
       rw [Ab] at hra
       have hal : (a : Int) ≤ 1099511627776 := by omega
       rcases Nat.lt_or_ge a (ln s) with hlt2 | hge2
       ·obtain ⟨c', hc3, hc4⟩ := Bw (L := us s) (k := a) (by rw [Ab]; exact hlt2)
        rw [hc4] at hra
        have C6 := fun W => CU.out a W
        rw [hc3, Ke] at C6
        have C6 := Lh C6
        have C7 := fun W => CE.out c' W
        have t2 : (a : Int) < (ln s : Int) := by omega
        cases he2 : enN c'
        ·rw [show enB (c' : Int) = false from he2] at C7
         rw [he2, if_pos ⟨hlt2, rfl⟩] at hra
         have C7 := Lh C7
         have HA2 : Hid (a + 1 + Ef ((us s).drop (a + 1)) = E) := Lh (by omega)
         clear hra hA0 hc3 hc4 he2
         go_wp2_with fail
         refine Sm (CL.out _) ?_
         go_wp2_with fail
         refine Dm (C6.out _) fun n4 => ?_
         go_wp2_with fail
         refine Sm (C7.out _) ?_
         go_wp2
         go_roundw
         case rel => exact ⟨a + 1, by go_num, hlt2, HA2, n3 + n4, by first | rfl | simp⟩
         case measure => simp [intOf]; omega
        ·rw [show enB (c' : Int) = true from he2] at C7
         rw [he2, if_neg (by simp)] at hra
         have C7 := Lh C7
         obtain rfl : a = E := by omega
         clear hra hA0 hc3 hc4 he2
         go_wp2_with fail
         refine Sm (CL.out _) ?_
         go_wp2_with fail
         refine Dm (C6.out _) fun n4 => ?_
         go_wp2_with fail
         refine Sm (C7.out _) ?_
         go_wp2
         go_roundw
         case rel => exact ⟨a, b, rfl, rfl, ha, HJ2, n3 + n4, by first | rfl | simp⟩
         case measure => have := HEG.out; simp [intOf]; omega
       ·rw [if_neg (by omega)] at hra
        obtain rfl : a = E := by omega
        have t2 : ¬ (a : Int) < (ln s : Int) := by omega
        clear hra hA0
        go_wp2_with fail
        refine Sm (CL.out _) ?_
        go_wp2
        go_roundw
        case rel => exact ⟨a, b, rfl, rfl, ha, HJ2, n3, by first | rfl | simp⟩
        case measure => have := HEG.out; simp [intOf]; omega
     ·rw [if_neg h1] at hg0
      have e1 : (47 == c && d == 47) = false := by
       rw [Bool.eq_false_iff]
       intro h
       rw [Bool.and_eq_true, beq_iff_eq, beq_iff_eq] at h
       exact h1 ⟨h.1.symm, h.2⟩
      rw [e1] at CI1
      have CI1 := Lh CI1
      by_cases h2 : c = 47 ∧ d = 42
      ·rw [if_pos h2] at hg0
       rw [hg0] at hs1
       obtain ⟨rfl, rfl⟩ := h2
       have hj2 := hj1 (by omega)
       have CI2 := Lh (show ∀ W, Cp 41 #[.string s, .int .i64 j, .string ⟨#[47, 42]⟩] W fun e w' => e = .returned (.bool true) ∧ ∃ n, w' = W.drewN n from CI2)
       have HS1 := Lh hs1
       obtain ⟨O, hO⟩ : ∃ O, Gb ((us s).drop (j + 2)) = O := ⟨_, rfl⟩
       rw [hO] at HS1
       have HO := Lh hO
       have hjl : (j : Int) ≤ 1099511627774 := by omega
       clear hs1 hg0 hc1 hc2 he hsp HG hd hj1 h1 e1 hO
       go_wp2_with fail
       refine Sm (CL.out _) ?_
       go_wp2_with fail
       refine Dm (C2.out _) fun n1 => ?_
       go_wp2_with fail
       refine Sm (C3.out _) ?_
       go_wp2_with fail
       refine Sm (C4.out _) ?_
       go_wp2_with fail
       refine Dm (CI1.out _) fun n2 => ?_
       go_wp2_with fail
       refine Dm (CI2.out _) fun n3 => ?_
       go_wp2
       go_loopw [7, 9] (fun nv kv wq => ∃ (k : Nat) (nl : Bool), nv = .bool nl ∧ kv = .int .i64 k ∧ k ≤ ln s ∧ j + 2 ≤ k ∧ Hid ((Gb ((us s).drop k)).map (fun p => (k + p.1, nl || p.2)) = O.map (fun p => (j + 2 + p.1, b || p.2))) ∧ ∃ m, wq = w.drewN m) (fun _ kv _ => ln s - (intOf kv).toNat)
       case atStart => exact ⟨j + 2, b, rfl, by go_num, hj2, Nat.le_refl _, Lh (by rw [HO.out]), n0 + n1 + n2 + n3, by first | rfl | simp⟩
       case round =>
        obtain ⟨k, nl, rfl, rfl, hk, hjk, HK, n4, rfl⟩ := hrel
        have hkl : (k : Int) ≤ 1099511627776 := by omega
        have hk0 := HK.out
        rcases Nat.lt_or_ge k (ln s) with hlt2 | hge2
        ·obtain ⟨c', hc3, hc4⟩ := Bw (L := us s) (k := k) (by rw [Ab]; exact hlt2)
         have CI3 := fun W => CI.out ⟨#[42, 47]⟩ (by decide) k hk W
         rw [show wdL ⟨#[42, 47]⟩ = [42, 47] from rfl, Qt 42 47 (us s) k (by omega) c' hc3] at CI3
         have C6 := fun W => CU.out k W
         rw [hc3, Ke] at C6
         have C6 := Lh C6
         have C7 := fun W => CE.out c' W
         have t2 : (k : Int) < (ln s : Int) := by omega
         rw [hc3, Gb] at hk0
         by_cases h3 : c' = 42 ∧ hd0 ((us s).drop (k + 1)) = 47
         ·rw [if_pos h3] at hk0
          have e3 : (42 == c' && hd0 ((us s).drop (k + 1)) == 47) = true := by rw [h3.1, h3.2]; rfl
          rw [e3] at CI3
          have CI3 := Lh CI3
          have hk2 : k + 2 ≤ ln s := by
           have := R8 (L := us s) (k := k + 1) (by rw [h3.2]; omega)
           rw [Ab] at this
           omega
          have HJ2 : Hid (Gw (k + 2) nl (As ((us s).drop (k + 2))) = G) := Lh (by
           cases O with
           | none => cases hk0
           | some p =>
            obtain ⟨n, bb⟩ := p
            have h4 : k + 2 = j + 2 + n ∧ nl = (b || bb) := by simpa using hk0
            rw [← HJ.out, HS1.out]
            funext e
            have h5 : 2 + n = (1 + n) + 1 := by omega
            simp only [Option.map_some]
            rw [h5]
            show _ = Gw j b (1 + n + 1 + (As (((us s).drop j).drop (1 + n + 1))).1, bb || (As (((us s).drop j).drop (1 + n + 1))).2.1, (As (((us s).drop j).drop (1 + n + 1))).2.2) e
            have h6 : j + (1 + n + 1) = k + 2 := by omega
            rw [List.drop_drop, h6]
            have := H9 j (1 + n + 1) b bb (As ((us s).drop (k + 2))) e
            rw [h6, ← h4.2] at this
            exact (propext this).symm)
          have t3 : decide (ln s ≤ k) = false := by simp; omega
          clear hk0 hc3 hc4 h3 e3 HJ HS1 HK C6 C7
          go_wp2_with fail
          refine Sm (CL.out _) ?_
          go_wp2_with fail
          refine Dm (CI3.out _) fun n5 => ?_
          go_wp2_with fail
          refine Sm (CL.out _) ?_
          go_wp2
          go_roundw
          case rel => exact ⟨k + 2, nl, by go_num, rfl, hk2, HJ2, n4 + n5, by first | rfl | simp⟩
          case measure => simp [intOf]; omega
         ·rw [if_neg h3] at hk0
          have e3 : (42 == c' && hd0 ((us s).drop (k + 1)) == 47) = false := by
           rw [Bool.eq_false_iff]
           intro h
           rw [Bool.and_eq_true, beq_iff_eq, beq_iff_eq] at h
           exact h3 ⟨h.1.symm, h.2⟩
          rw [e3] at CI3
          have CI3 := Lh CI3
          have HK2 : Hid ((Gb ((us s).drop (k + 1))).map (fun p => (k + 1 + p.1, (nl || enN c') || p.2)) = O.map (fun p => (j + 2 + p.1, b || p.2))) := Lh (by
           rw [← hk0]
           cases Gb ((us s).drop (k + 1)) with
           | none => rfl
           | some p => simp [Bool.or_assoc]; omega)
          obtain ⟨ee, hee⟩ : ∃ ee, enN c' = ee := ⟨_, rfl⟩
          rw [hee] at HK2
          have C7 := Lh (show ∀ W, Cp 73 #[.int .u16 (c' : Int)] W fun e w' => e = .returned (.bool ee) ∧ W = w' from fun W => by rw [← hee]; exact C7 W)
          clear hk0 hc3 hc4 h3 e3 hee HK HJ HS1
          cases nl
          ·skip
           go_wp2_with fail
           refine Sm (CL.out _) ?_
           go_wp2_with fail
           refine Dm (CI3.out _) fun n5 => ?_
           go_wp2_with fail
           refine Dm (C6.out _) fun n6 => ?_
           go_wp2_with fail
           refine Sm (C7.out _) ?_
           go_wp2
           go_roundw
           case rel => exact ⟨k + 1, ee, rfl, by go_num, hlt2, by omega, HK2, n4 + n5 + n6, by first | rfl | simp⟩
           case measure => simp [intOf]; omega
          ·skip
           go_wp2_with fail
           refine Sm (CL.out _) ?_
           go_wp2_with fail
           refine Dm (CI3.out _) fun n5 => ?_
           go_wp2
           go_roundw
           case rel => exact ⟨k + 1, true, rfl, by go_num, hlt2, by omega, HK2, n4 + n5, by first | rfl | simp⟩
           case measure => simp [intOf]; omega
        ·have hkn : k = ln s := by omega
         rw [List.drop_eq_nil_iff.2 (by rw [Ab]; omega)] at hk0
         have hOn : O = none := by
          cases O with
          | none => rfl
          | some p => cases hk0
         have HE : Hid (G = fun e => ∃ x, e = .returned (.tuple #[.int .i64 (j : Nat), .bool x, .bool false])) := Lh (by
          rw [← HJ.out, HS1.out, hOn]
          funext e
          unfold Gw
          simp)
         obtain rfl := HE.out
         have t2 : ¬ (k : Int) < (ln s : Int) := by omega
         have t3 : decide (ln s ≤ k) = true := by simp; omega
         clear hk0 hOn HJ HS1 HK HE
         go_wp2_with fail
         refine Sm (CL.out _) ?_
         go_wp2_with fail
         refine Sm (CL.out _) ?_
         go_wp2
         go_ret3
         exact ⟨by first | exact ⟨_, rfl⟩ | (cases nl; exact Or.inl rfl; exact Or.inr rfl), n4, rfl⟩
      ·rw [if_neg h2] at hg0
       rw [hg0] at hs1
       have e2 : (47 == c && d == 42) = false := by
        rw [Bool.eq_false_iff]
        intro h
        rw [Bool.and_eq_true, beq_iff_eq, beq_iff_eq] at h
        exact h2 ⟨h.1.symm, h.2⟩
       rw [e2] at CI2
       have CI2 := Lh CI2
       have HE : Hid (G = fun e => e = .returned (.tuple #[.int .i64 (j : Nat), .bool b, .bool true])) := Lh (by
        rw [← HJ.out, hs1]
        funext e
        unfold Gw
        simp)
       obtain rfl := HE.out
       clear hs1 hg0 hc1 hc2 he hsp HJ HG hd hj1 h1 h2 e1 e2 HE
       go_wp2_with fail
       refine Sm (CL.out _) ?_
       go_wp2_with fail
       refine Dm (C2.out _) fun n1 => ?_
       go_wp2_with fail
       refine Sm (C3.out _) ?_
       go_wp2_with fail
       refine Sm (C4.out _) ?_
       go_wp2_with fail
       refine Dm (CI1.out _) fun n2 => ?_
       go_wp2_with fail
       refine Dm (CI2.out _) fun n3 => ?_
       go_wp2
       go_ret3
       exact ⟨rfl, n0 + n1 + n2 + n3, by first | rfl | simp⟩
    ·rw [show spB (c : Int) = true from hsp] at C4
     rw [hsp, if_pos rfl] at hg0
     rw [hg0] at hs1
     have C4 := Lh C4
     have HJ2 : Hid (Gw (j + 1) b (As ((us s).drop (j + 1))) = G) := Lh (by
      rw [← HJ.out, hs1]
      funext e
      show _ = Gw j b (1 + (As (((us s).drop j).drop 1)).1, false || (As (((us s).drop j).drop 1)).2.1, (As (((us s).drop j).drop 1)).2.2) e
      rw [List.drop_drop]
      have := H9 j 1 b false (As ((us s).drop (j + 1))) e
      rw [Bool.or_false] at this
      exact (propext this).symm)
     clear hs1 hg0 hc1 hc2 he hsp HJ HG
     go_wp2_with fail
     refine Sm (CL.out _) ?_
     go_wp2_with fail
     refine Dm (C2.out _) fun n1 => ?_
     go_wp2_with fail
     refine Sm (C3.out _) ?_
     go_wp2_with fail
     refine Sm (C4.out _) ?_
     go_wp2
     go_roundw
     case rel => exact ⟨j + 1, b, by go_num, rfl, hlt, HJ2, n0 + n1, by first | rfl | simp⟩
     case measure => simp [intOf]; omega
   ·rw [show enB (c : Int) = true from he] at C3
    rw [he, if_pos rfl] at hg0
    rw [hg0] at hs1
    have C3 := Lh C3
    have HJ2 : Hid (Gw (j + 1) true (As ((us s).drop (j + 1))) = G) := Lh (by
     rw [← HJ.out, hs1]
     funext e
     show _ = Gw j b (1 + (As (((us s).drop j).drop 1)).1, true || (As (((us s).drop j).drop 1)).2.1, (As (((us s).drop j).drop 1)).2.2) e
     rw [List.drop_drop]
     have := H9 j 1 b true (As ((us s).drop (j + 1))) e
     rw [Bool.or_true] at this
     exact (propext this).symm)
    clear hs1 hg0 hc1 hc2 he HJ HG C4
    go_wp2_with fail
    refine Sm (CL.out _) ?_
    go_wp2_with fail
    refine Dm (C2.out _) fun n1 => ?_
    go_wp2_with fail
    refine Sm (C3.out _) ?_
    go_wp2
    go_roundw
    case rel => exact ⟨j + 1, true, by go_num, rfl, hlt, HJ2, n0 + n1, by first | rfl | simp⟩
    case measure => simp [intOf]; omega
  ·obtain rfl : j = ln s := by omega
   have HE : Hid (G = fun e => e = .returned (.tuple #[.int .i64 (ln s : Nat), .bool b, .bool true])) := Lh (by
    rw [← HJ.out, List.drop_eq_nil_iff.2 (by rw [Ab]; exact Nat.le_refl _)]
    funext e
    unfold Gw
    rw [show As [] = (0, false, true) from rfl, if_pos rfl]
    simp)
   obtain rfl := HE.out
   clear HJ HG HE
   go_wp2_with fail
   refine Sm (CL.out _) ?_
   go_wp2
   go_ret3
   exact ⟨rfl, n0, rfl⟩

end
end Go.Proofs.YtmimeejjaneedaaGreatDoor
