/-
  Contract of Near of the reference (at the power 0): of few bits, of none, of too many.
-/
import Derived.Test.YtlabblkonkhmgaaDoorFloat
import Derived.Test.YtlabblkonkhmgaaDoorPlus
import Derived.Deep.RegionWith
namespace Go.Proofs.YtlabblkonkhmgaaDoor
open Go.RowKit
theorem val_drop_le : ∀ (l : List Nat) (k : Nat), val (l.drop k) ≤ val l := by
  intro l
  induction l with
  | nil => intro k; simp [val]
  | cons a r ih =>
    intro k
    cases k with
    | zero => exact Nat.le_refl _
    | succ k =>
      have := ih k
      simp only [List.drop_succ_cons, val]
      omega
theorem val_drop_next {l : List Nat} {k : Nat} (h : k < l.length) : val (l.drop k) = l.getD k 0 + 4294967296 * val (l.drop (k + 1)) := by
  rw [List.drop_eq_getElem_cons h]
  simp only [val]
  rw [List.getD_eq_getElem?_getD, List.getElem?_eq_getElem h, Option.getD_some]
set_option maxHeartbeats 1000000 in
theorem rnear_zero (A : Option Addr) (n c : Nat) (l : List Nat) (w : World) (hn : l.length = n) (hc : n ≤ c) (hm : n ≤ 35184372087808) (h : RW w w.heap.size A l) (hb : btl l = 0) :
    Calls Tryd.prog 48 #[.slice A n c, .int .i64 0] w fun e w' => e = .returned (.float .f64 0) ∧ Below w.heap.size w w' := by
  have C1 := Lib.hid (rbits_any A n c l w.heap.size w hn hc (by omega) h)
  rw [hb] at C1
  clear hn hc hm h hb
  go_enter Tryd.func48, Tryd.ntmps48
  go_wp2_with fail
  refine C1.out.mono ?_
  rintro e w' ⟨rfl, hbw⟩
  go_wp2
  go_ret
  exact ⟨rfl, hbw⟩
set_option maxHeartbeats 1000000 in
theorem rnear_top (A : Option Addr) (n c : Nat) (l : List Nat) (w : World) (hn : l.length = n) (hc : n ≤ c) (hm : n ≤ 35184372087808) (h : RW w w.heap.size A l) (hb : 1024 < btl l) :
    Calls Tryd.prog 48 #[.slice A n c, .int .i64 0] w fun e w' => e = .returned (.float .f64 9218868437227405312) ∧ Below w.heap.size w w' := by
  have C1 := Lib.hid (rbits_any A n c l w.heap.size w hn hc (by omega) h)
  have C2 := Lib.hid (fun W => inf1_any W)
  have hm3 : btl l ≤ 32 * n + 32 := by
    unfold btl
    have := nrm_len l
    split
    · omega
    · have h3 := bitLen_le32 (l.getD ((nrm l).length - 1) 0) (h.1.getD _)
      omega
  obtain ⟨m, hm2⟩ : ∃ m, btl l = m := ⟨_, rfl⟩
  rw [hm2] at C1 hb hm3
  have t0 : ((m : Int) == 0) = false := by rw [beq_eq_false_iff_ne]; omega
  have t1 : decide ((1024 : Int) < (m : Int)) = true := decide_eq_true (by omega)
  have k1 : IntKind.i64.wrap ((m : Int)) = (m : Int) := IntWalk.i64_in _ (by omega)
  have k2 : IntKind.i64.wrap ((m : Int) + 0) = (m : Int) := by rw [Int.add_zero]; exact k1
  clear hn hc hm h hm2 hb hm3
  go_enter Tryd.func48, Tryd.ntmps48
  go_wp2_with fail
  refine C1.out.mono ?_
  rintro e w' ⟨rfl, hbw⟩
  go_wp2_with fail
  refine (C2.out _).mono ?_
  rintro e w2 ⟨rfl, rfl⟩
  go_wp2
  go_ret
  exact ⟨rfl, hbw⟩
set_option maxRecDepth 100000 in
set_option maxHeartbeats 1000000 in
theorem rnear_low (A : Option Addr) (n c : Nat) (l : List Nat) (w : World) (hn : l.length = n) (hc : n ≤ c) (hm : n ≤ 35184372087808) (h : RW w w.heap.size A l) (hb : btl l ≤ 53) (hb0 : 0 < btl l) :
    Calls Tryd.prog 48 #[.slice A n c, .int .i64 0] w fun e w' => e = .returned (.float .f64 (fl (val l))) ∧ Below w.heap.size w w' := by
  have C1 := Lib.hid (rbits_any A n c l w.heap.size w hn hc (by omega) h)
  have HWS := Lib.hid h.1
  have h0 : nrm l ≠ [] := by intro e; unfold btl at hb0; rw [if_pos e] at hb0; omega
  obtain ⟨b1, b2, b3⟩ := btl_bounds h.1 h0
  have hv53 : val l < 9007199254740992 := Nat.lt_of_lt_of_le b2 (Nat.le_trans (Nat.pow_le_pow_right (by omega) hb) (by decide))
  have hv0 : 0 < val l := Nat.lt_of_lt_of_le (Nat.two_pow_pos _) b1
  have C2 := Lib.hid (fun W (hW : Below w.heap.size w W) => (rnorm_any A n c l W.heap.size W hn hc (by omega) ((h.below hW).more hW.size)).mono (fun e w' x => SlPost.of h.1.nrm x))
  have hf := fl_pos hv0 (Nat.lt_trans hv53 (by decide))
  have C3 := Lib.hid (fun W => ldexp_any (fl (val l)) 0 W hf.1 hf.2 (by omega))
  rw [scl_zero hf.2] at C3
  have hnl : (nrm l).length ≤ n := by have := nrm_len l; omega
  have HV : Hid (∀ k, val ((nrm l).drop k) < 9007199254740992) := Lib.hid (fun k => Nat.lt_of_le_of_lt (val_drop_le _ _) (by rw [val_nrm]; exact hv53))
  have HVN : Hid (val (nrm l) = val l) := Lib.hid (val_nrm l)
  obtain ⟨u, hu⟩ : ∃ u, fl (val l) = u := ⟨_, rfl⟩
  rw [hu] at C3 ⊢
  have HU := Lib.hid hu
  obtain ⟨L, hL⟩ : ∃ L, nrm l = L := ⟨_, rfl⟩
  rw [hL] at C2 HV HVN hnl
  obtain ⟨N, hN⟩ : ∃ N, L.length = N := ⟨_, rfl⟩
  rw [hN] at hnl
  have HN := Lib.hid hN
  obtain ⟨m, hm2⟩ : ∃ m, btl l = m := ⟨_, rfl⟩
  rw [hm2] at C1 hb hb0
  have t0 : ((m : Int) == 0) = false := by rw [beq_eq_false_iff_ne]; omega
  have t1 : decide ((1024 : Int) < (m : Int)) = false := decide_eq_false (by omega)
  have k1 : IntKind.i64.wrap ((m : Int)) = (m : Int) := IntWalk.i64_in _ (by omega)
  have k2 : IntKind.i64.wrap ((m : Int) + 0) = (m : Int) := by rw [Int.add_zero]; exact k1
  have k3 : IntKind.i64.wrap ((m : Int) - 53) = (m : Int) - 53 := IntWalk.i64_in _ (by omega)
  have k4 : IntKind.i64.wrap ((m : Int) - 53 + 0) = (m : Int) - 53 := by rw [Int.add_zero]; exact k3
  have t2 : decide ((m : Int) - 53 < -1074) = false := decide_eq_false (by omega)
  have t3 : decide ((m : Int) - 53 ≤ 0) = true := decide_eq_true (by omega)
  have hnm : N ≤ 35184372087808 := by omega
  clear hn hc hm h hm2 hb hb0 h0 b1 b2 b3 hv53 hv0 hf hu hL hN hnl HWS
  go_enter Tryd.func48, Tryd.ntmps48
  go_wp2_with fail
  refine C1.out.mono ?_
  rintro e w1 ⟨rfl, hbw⟩
  go_wp2_with fail
  refine (C2.out _ hbw).mono ?_
  rintro e w2 ⟨v2, rfl, ⟨A2, c2, rfl, hc2, r2⟩, hb2⟩
  rw [HN.out] at hc2 ⊢
  have HB := Lib.hid (below_le hbw hb2)
  have HR := Lib.hid r2
  have HC2 := Lib.hid hc2
  clear r2 hb2 hbw hc2
  go_wp2
  rw [show ((0 : Nat) : Int) = 0 from rfl] at C3
  go_loopw [7, 9] (fun fv iv wr => ∃ (k : Nat), iv = .int .i64 ((k : Int) - 1) ∧ k ≤ N ∧ fv = .float .f64 (fl (val (L.drop k))) ∧ w2 = wr) (fun _ iv _ => (intOf iv + 1).toNat)
  case atStart => exact ⟨N, rfl, Nat.le_refl _, by rw [← HN.out, List.drop_length]; exact congrArg (Value.float .f64) fl_zero.symm, rfl⟩
  case round =>
    obtain ⟨k, rfl, hk, rfl, rfl⟩ := hrel
    by_cases hk0 : k = 0
    · subst hk0
      have e : fl (val (L.drop 0)) = u := by rw [List.drop_zero, HVN.out]; exact HU.out
      rw [e]
      clear e hk C2 C1
      go_wp2_with fail
      refine (C3.out _).mono ?_
      rintro e w' ⟨rfl, rfl⟩
      go_wp2
      go_ret
      exact ⟨rfl, HB.out⟩
    · obtain ⟨j, rfl⟩ : ∃ j, k = j + 1 := ⟨k - 1, by omega⟩
      rw [show (((j + 1 : Nat) : Int) - 1) = (j : Int) by omega]
      obtain ⟨ab, ao, rfl, hab, hca⟩ := HR.out.2 (by have := HN.out; omega)
      have hcl := hca j _ (getD_some (by have := HN.out; omega))
      have hyl := HR.out.1.getD j
      have hnx := val_drop_next (l := L) (k := j) (by have := HN.out; omega)
      have hv1 := HV.out j
      have hv2 := HV.out (j + 1)
      obtain ⟨y, hy⟩ : ∃ y, L.getD j 0 = y := ⟨_, rfl⟩
      rw [hy] at hcl hyl hnx
      have HNX := Lib.hid (show fl (val (L.drop j)) = fl (val (L.drop (j + 1)) * 4294967296 + y) by rw [hnx]; congr 1; omega)
      obtain ⟨x, hx⟩ : ∃ x, val (L.drop (j + 1)) = x := ⟨_, rfl⟩
      rw [hx] at hnx hv2 HNX ⊢
      have e32 : fl 4294967296 = 4751297606875873280 := by
        rw [fl_low (N := 4294967296) (L := 32) (by decide) (by decide) (by decide)]
      have hmul : (binOp BinOp.mul 32 (.float .f64 (fl x)) (.float .f64 4751297606875873280)).run Tryd.prog w2 = .ok (.float .f64 (fl (x * 4294967296))) w2 := run_float_arith _ _ _ _ _ _ _ (by
        have := fl_mul (a := x) (b := 4294967296) (by omega) (by omega) (by omega)
        rw [e32] at this
        exact this)
      have hadd : (binOp BinOp.add 32 (.float .f64 (fl (x * 4294967296))) (.float .f64 (floatOfInt FloatKind.f64 (y : Int)))).run Tryd.prog w2 = .ok (.float .f64 (fl (x * 4294967296 + y))) w2 := run_float_arith _ _ _ _ _ _ _ (fl_add (a := x * 4294967296) (b := y) (by omega) (by omega) (by omega))
      have hjn : (j : Int) < (N : Int) := by omega
      have HJ := Lib.hid hk
      clear hk hk0 hab hca hyl hnx hv1 hv2 hy hx e32 C1 C2 C3
      go_wp2
      go_roundw
      case rel => exact ⟨j, by go_num, by have := HJ.out; omega, by rw [HNX.out], trivial⟩
      case measure => simp [intOf]
end Go.Proofs.YtlabblkonkhmgaaDoor
