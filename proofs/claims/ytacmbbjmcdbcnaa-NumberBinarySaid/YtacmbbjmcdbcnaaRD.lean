/-
  Contract of Float of the program. Contract of Near of the reference (at the power 0): of few bits, of none, of too many. Contract of Near of the reference (at the power 0): of many bits. Float of the reference. The law BignumFloats.
-/
import Derived.Test.YtacmbbjmcdbcnaaRB
import Derived.Test.YtacmbbjmcdbcnaaRA
import Derived.Test.YtacmbbjmcdbcnaaLdexp
import Derived.Test.YtacmbbjmcdbcnaaRC
import Derived.Deep.RegionWith
namespace Go.Proofs.Ytacmbbjmcdbcnaa
open Go.RowKit
theorem get_zero {l : List Nat} (h : Ws l) : l.getD 0 0 = val l % 4294967296 := by
  cases l with
  | nil => rfl
  | cons a r =>
    have := h.getD 0
    simp only [List.getD_cons_zero] at this ⊢
    simp only [val]
    omega
theorem get_one {l : List Nat} (h : Ws l) : l.getD 1 0 = val l / 4294967296 % 4294967296 := by
  cases l with
  | nil => rfl
  | cons a r =>
    have h0 := h.getD 0
    have h1 := get_zero (l := r) (fun x hx => h x (List.mem_cons_of_mem _ hx))
    simp only [List.getD_cons_zero] at h0
    simp only [List.getD_cons_succ, val]
    omega
theorem fl_pos {N : Nat} (h : 0 < N) (hN : N < 2 ^ 65) : 4503599627370496 ≤ fl N ∧ fl N < 9218868437227405312 := by
  obtain ⟨a1, a2⟩ := log2_two N h
  have hL : N.log2 < 65 := by
    have : 2 ^ N.log2 < 2 ^ 65 := Nat.lt_of_le_of_lt a1 hN
    exact (Nat.pow_lt_pow_iff_right (a := 2) (by omega)).1 this
  rcases Nat.lt_or_ge N.log2 52 with h1 | h1
  · rw [fl_low a1 a2 (by omega)]
    have h3 : N * 2 ^ (52 - N.log2) < 9007199254740992 := by
      have : N * 2 ^ (52 - N.log2) < 2 ^ (N.log2 + 1) * 2 ^ (52 - N.log2) := Nat.mul_lt_mul_of_pos_right a2 (Nat.two_pow_pos _)
      rw [← Nat.pow_add, show N.log2 + 1 + (52 - N.log2) = 53 by omega] at this
      exact this
    omega
  · obtain ⟨r1, r2⟩ := evn_range a1 a2 h1
    rw [fl_high a1 a2 h1]
    omega
/-- The double of a natural is that of its highest 64 bits, scaled. -/
theorem fl_top64 {v n : Nat} (h1 : 2 ^ (n - 1) ≤ v) (h2 : v < 2 ^ n) (h0 : 0 < n) : stk v (n - 64) < 18446744073709551616 ∧ 0 < stk v (n - 64) ∧ fl v = scl (fl (stk v (n - 64))) (n - 64) := by
  rcases Nat.lt_or_ge 64 n with h | h
  · obtain ⟨b, rfl⟩ : ∃ b, n = 64 + b := ⟨n - 64, by omega⟩
    have a1 : 2 ^ (63 + b) ≤ v := by rw [show 63 + b = 64 + b - 1 by omega]; exact h1
    have a2 : v < 2 ^ (63 + b + 1) := by rw [show 63 + b + 1 = 64 + b by omega]; exact h2
    rw [Nat.add_sub_cancel_left]
    obtain ⟨s1, s2⟩ := stk_range a1 a2
    have := Nat.two_pow_pos 63
    exact ⟨s2, by omega, fl_stk a1 a2⟩
  · rw [show n - 64 = 0 by omega]
    have e : stk v 0 = v := by unfold stk; rw [Nat.pow_zero, Nat.mod_one, if_pos rfl, Nat.div_one]
    have hv : v < 2 ^ 64 := Nat.lt_of_lt_of_le h2 (Nat.pow_le_pow_right (by omega) h)
    have hp := Nat.two_pow_pos (n - 1)
    have hf := fl_pos (N := v) (by omega) (Nat.lt_of_lt_of_le hv (by decide))
    rw [e, scl_zero hf.2]
    exact ⟨hv, by omega, rfl⟩
theorem or_one64 (x : Nat) (hx : x < 18446744073709551616) : bits BinOp.or IntKind.u64 (x : Int) 1 = ((x / 2 * 2 + 1 : Nat) : Int) := by
  have h := or_u64 x 1 hx (by omega)
  rw [show ((1 : Nat) : Int) = 1 from rfl] at h
  rw [h]
  have e : x ||| 1 = x / 2 * 2 + 1 := by
    have h1 : x = 2 * (x / 2) + x % 2 := by omega
    have h2 := Nat.two_pow_add_eq_or_of_lt (i := 1) (b := 1) (by omega) (x / 2)
    rcases Nat.mod_two_eq_zero_or_one x with h3 | h3
    · rw [h3, Nat.add_zero] at h1
      rw [Nat.pow_one] at h2
      rw [← h1] at h2
      omega
    · have h4 := Nat.two_pow_add_eq_or_of_lt (i := 1) (b := 1) (by omega) (x / 2)
      rw [Nat.pow_one] at h4
      have h5 : x = 2 * (x / 2) ||| 1 := by rw [← h4]; omega
      rw [h5, Nat.or_assoc, Nat.or_self, ← h5]
      omega
  rw [e]
theorem join64 (y z : Nat) (hy : y < 4294967296) (hz : z < 4294967296) : bits BinOp.or IntKind.u64 (IntKind.u64.wrap ((y : Int) * 4294967296)) (z : Int) = ((z + y * 4294967296 : Nat) : Int) := by
  have e : IntKind.u64.wrap ((y : Int) * 4294967296) = ((y * 4294967296 : Nat) : Int) := by rw [IntKind.wrap_u64]; omega
  rw [e, or_u64 (y * 4294967296) z (by omega) (by omega)]
  have := Nat.two_pow_add_eq_or_of_lt (i := 32) (b := z) hz y
  rw [show y * 4294967296 = 2 ^ 32 * y by rw [Nat.mul_comm], ← this, Nat.add_comm]
end Go.Proofs.Ytacmbbjmcdbcnaa
namespace Go.Proofs.Ytacmbbjmcdbcnaa
open Go.RowKit
theorem val_drop_le : ∀ (l : List Nat) (k : Nat), val (l.drop k) ≤ val l := by
  intro l
  induction l with
  | nil => intro k; simp [val]
  | cons a r ih =>
    intro k
    cases k with
    | zero => exact Nat.le_refl _
    | succ k =>
      have := ih k
      simp only [List.drop_succ_cons, val]
      omega
theorem val_drop_next {l : List Nat} {k : Nat} (h : k < l.length) : val (l.drop k) = l.getD k 0 + 4294967296 * val (l.drop (k + 1)) := by
  rw [List.drop_eq_getElem_cons h]
  simp only [val]
  rw [List.getD_eq_getElem?_getD, List.getElem?_eq_getElem h, Option.getD_some]
set_option maxHeartbeats 1000000 in
theorem rnear_zero (A : Option Addr) (n c : Nat) (l : List Nat) (w : World) (hn : l.length = n) (hc : n ≤ c) (hm : n ≤ 35184372087808) (h : RW w w.heap.size A l) (hb : btl l = 0) :
    Calls Try.prog 96 #[.slice A n c, .int .i64 0] w fun e w' => e = .returned (.float .f64 0) ∧ Below w.heap.size w w' := by
  have C1 := Lib.hid (rbits_any A n c l w.heap.size w hn hc (by omega) h)
  rw [hb] at C1
  clear hn hc hm h hb
  go_enter Try.func96, Try.ntmps96
  go_wp2_with fail
  refine C1.out.mono ?_
  rintro e w' ⟨rfl, hbw⟩
  go_wp2
  go_ret
  exact ⟨rfl, hbw⟩
set_option maxHeartbeats 1000000 in
theorem rnear_top (A : Option Addr) (n c : Nat) (l : List Nat) (w : World) (hn : l.length = n) (hc : n ≤ c) (hm : n ≤ 35184372087808) (h : RW w w.heap.size A l) (hb : 1024 < btl l) :
    Calls Try.prog 96 #[.slice A n c, .int .i64 0] w fun e w' => e = .returned (.float .f64 9218868437227405312) ∧ Below w.heap.size w w' := by
  have C1 := Lib.hid (rbits_any A n c l w.heap.size w hn hc (by omega) h)
  have C2 := Lib.hid (fun W => inf1_any W)
  have hm3 : btl l ≤ 32 * n + 32 := by
    unfold btl
    have := nrm_len l
    split
    · omega
    · have h3 := bitLen_le32 (l.getD ((nrm l).length - 1) 0) (h.1.getD _)
      omega
  obtain ⟨m, hm2⟩ : ∃ m, btl l = m := ⟨_, rfl⟩
  rw [hm2] at C1 hb hm3
  have t0 : ((m : Int) == 0) = false := by rw [beq_eq_false_iff_ne]; omega
  have t1 : decide ((1024 : Int) < (m : Int)) = true := decide_eq_true (by omega)
  have k1 : IntKind.i64.wrap ((m : Int)) = (m : Int) := IntWalk.i64_in _ (by omega)
  have k2 : IntKind.i64.wrap ((m : Int) + 0) = (m : Int) := by rw [Int.add_zero]; exact k1
  clear hn hc hm h hm2 hb hm3
  go_enter Try.func96, Try.ntmps96
  go_wp2_with fail
  refine C1.out.mono ?_
  rintro e w' ⟨rfl, hbw⟩
  go_wp2_with fail
  refine (C2.out _).mono ?_
  rintro e w2 ⟨rfl, rfl⟩
  go_wp2
  go_ret
  exact ⟨rfl, hbw⟩
set_option maxRecDepth 100000 in
set_option maxHeartbeats 1000000 in
theorem rnear_low (A : Option Addr) (n c : Nat) (l : List Nat) (w : World) (hn : l.length = n) (hc : n ≤ c) (hm : n ≤ 35184372087808) (h : RW w w.heap.size A l) (hb : btl l ≤ 53) (hb0 : 0 < btl l) :
    Calls Try.prog 96 #[.slice A n c, .int .i64 0] w fun e w' => e = .returned (.float .f64 (fl (val l))) ∧ Below w.heap.size w w' := by
  have C1 := Lib.hid (rbits_any A n c l w.heap.size w hn hc (by omega) h)
  have HWS := Lib.hid h.1
  have h0 : nrm l ≠ [] := by intro e; unfold btl at hb0; rw [if_pos e] at hb0; omega
  obtain ⟨b1, b2, b3⟩ := btl_bounds h.1 h0
  have hv53 : val l < 9007199254740992 := Nat.lt_of_lt_of_le b2 (Nat.le_trans (Nat.pow_le_pow_right (by omega) hb) (by decide))
  have hv0 : 0 < val l := Nat.lt_of_lt_of_le (Nat.two_pow_pos _) b1
  have C2 := Lib.hid (fun W (hW : Below w.heap.size w W) => (rnorm_any A n c l W.heap.size W hn hc (by omega) ((h.below hW).more hW.size)).mono (fun e w' x => SlPost.of h.1.nrm x))
  have hf := fl_pos hv0 (Nat.lt_trans hv53 (by decide))
  have C3 := Lib.hid (fun W => ldexp_any (fl (val l)) 0 W hf.1 hf.2 (by omega))
  rw [scl_zero hf.2] at C3
  have hnl : (nrm l).length ≤ n := by have := nrm_len l; omega
  have HV : Hid (∀ k, val ((nrm l).drop k) < 9007199254740992) := Lib.hid (fun k => Nat.lt_of_le_of_lt (val_drop_le _ _) (by rw [val_nrm]; exact hv53))
  have HVN : Hid (val (nrm l) = val l) := Lib.hid (val_nrm l)
  obtain ⟨u, hu⟩ : ∃ u, fl (val l) = u := ⟨_, rfl⟩
  rw [hu] at C3 ⊢
  have HU := Lib.hid hu
  obtain ⟨L, hL⟩ : ∃ L, nrm l = L := ⟨_, rfl⟩
  rw [hL] at C2 HV HVN hnl
  obtain ⟨N, hN⟩ : ∃ N, L.length = N := ⟨_, rfl⟩
  rw [hN] at hnl
  have HN := Lib.hid hN
  obtain ⟨m, hm2⟩ : ∃ m, btl l = m := ⟨_, rfl⟩
  rw [hm2] at C1 hb hb0
  have t0 : ((m : Int) == 0) = false := by rw [beq_eq_false_iff_ne]; omega
  have t1 : decide ((1024 : Int) < (m : Int)) = false := decide_eq_false (by omega)
  have k1 : IntKind.i64.wrap ((m : Int)) = (m : Int) := IntWalk.i64_in _ (by omega)
  have k2 : IntKind.i64.wrap ((m : Int) + 0) = (m : Int) := by rw [Int.add_zero]; exact k1
  have k3 : IntKind.i64.wrap ((m : Int) - 53) = (m : Int) - 53 := IntWalk.i64_in _ (by omega)
  have k4 : IntKind.i64.wrap ((m : Int) - 53 + 0) = (m : Int) - 53 := by rw [Int.add_zero]; exact k3
  have t2 : decide ((m : Int) - 53 < -1074) = false := decide_eq_false (by omega)
  have t3 : decide ((m : Int) - 53 ≤ 0) = true := decide_eq_true (by omega)
  have hnm : N ≤ 35184372087808 := by omega
  clear hn hc hm h hm2 hb hb0 h0 b1 b2 b3 hv53 hv0 hf hu hL hN hnl HWS
  go_enter Try.func96, Try.ntmps96
  go_wp2_with fail
  refine C1.out.mono ?_
  rintro e w1 ⟨rfl, hbw⟩
  go_wp2_with fail
  refine (C2.out _ hbw).mono ?_
  rintro e w2 ⟨v2, rfl, ⟨A2, c2, rfl, hc2, r2⟩, hb2⟩
  rw [HN.out] at hc2 ⊢
  have HB := Lib.hid (below_le hbw hb2)
  have HR := Lib.hid r2
  have HC2 := Lib.hid hc2
  clear r2 hb2 hbw hc2
  go_wp2
  rw [show ((0 : Nat) : Int) = 0 from rfl] at C3
  go_loopw [7, 9] (fun fv iv wr => ∃ (k : Nat), iv = .int .i64 ((k : Int) - 1) ∧ k ≤ N ∧ fv = .float .f64 (fl (val (L.drop k))) ∧ w2 = wr) (fun _ iv _ => (intOf iv + 1).toNat)
  case atStart => exact ⟨N, rfl, Nat.le_refl _, by rw [← HN.out, List.drop_length]; exact congrArg (Value.float .f64) fl_zero.symm, rfl⟩
  case round =>
    obtain ⟨k, rfl, hk, rfl, rfl⟩ := hrel
    by_cases hk0 : k = 0
    · subst hk0
      have e : fl (val (L.drop 0)) = u := by rw [List.drop_zero, HVN.out]; exact HU.out
      rw [e]
      clear e hk C2 C1
      go_wp2_with fail
      refine (C3.out _).mono ?_
      rintro e w' ⟨rfl, rfl⟩
      go_wp2
      go_ret
      exact ⟨rfl, HB.out⟩
    · obtain ⟨j, rfl⟩ : ∃ j, k = j + 1 := ⟨k - 1, by omega⟩
      rw [show (((j + 1 : Nat) : Int) - 1) = (j : Int) by omega]
      obtain ⟨ab, ao, rfl, hab, hca⟩ := HR.out.2 (by have := HN.out; omega)
      have hcl := hca j _ (getD_some (by have := HN.out; omega))
      have hyl := HR.out.1.getD j
      have hnx := val_drop_next (l := L) (k := j) (by have := HN.out; omega)
      have hv1 := HV.out j
      have hv2 := HV.out (j + 1)
      obtain ⟨y, hy⟩ : ∃ y, L.getD j 0 = y := ⟨_, rfl⟩
      rw [hy] at hcl hyl hnx
      have HNX := Lib.hid (show fl (val (L.drop j)) = fl (val (L.drop (j + 1)) * 4294967296 + y) by rw [hnx]; congr 1; omega)
      obtain ⟨x, hx⟩ : ∃ x, val (L.drop (j + 1)) = x := ⟨_, rfl⟩
      rw [hx] at hnx hv2 HNX ⊢
      have e32 : fl 4294967296 = 4751297606875873280 := by
        rw [fl_low (N := 4294967296) (L := 32) (by decide) (by decide) (by decide)]
      have hmul : (binOp BinOp.mul 22 (.float .f64 (fl x)) (.float .f64 4751297606875873280)).run Try.prog w2 = .ok (.float .f64 (fl (x * 4294967296))) w2 := run_float_arith _ _ _ _ _ _ _ (by
        have := fl_mul (a := x) (b := 4294967296) (by omega) (by omega) (by omega)
        rw [e32] at this
        exact this)
      have hadd : (binOp BinOp.add 22 (.float .f64 (fl (x * 4294967296))) (.float .f64 (floatOfInt FloatKind.f64 (y : Int)))).run Try.prog w2 = .ok (.float .f64 (fl (x * 4294967296 + y))) w2 := run_float_arith _ _ _ _ _ _ _ (fl_add (a := x * 4294967296) (b := y) (by omega) (by omega) (by omega))
      have hjn : (j : Int) < (N : Int) := by omega
      have HJ := Lib.hid hk
      clear hk hk0 hab hca hyl hnx hv1 hv2 hy hx e32 C1 C2 C3
      go_wp2
      go_roundw
      case rel => exact ⟨j, by go_num, by have := HJ.out; omega, by rw [HNX.out], trivial⟩
      case measure => simp [intOf]
end Go.Proofs.Ytacmbbjmcdbcnaa
namespace Go.Proofs.Ytacmbbjmcdbcnaa
open Go.RowKit
theorem evn_half (v d : Nat) : evn v (d + 1) = v / 2 ^ (d + 1) + (decide (v / 2 ^ d % 2 = 1) && (decide (v % 2 ^ d ≠ 0) || decide (v / 2 ^ (d + 1) % 2 = 1))).toNat := by
  have hP := Nat.two_pow_pos d
  have hr := Nat.mod_lt v hP
  have hp : 2 ^ (d + 1) = 2 * 2 ^ d := by rw [Nat.pow_succ, Nat.mul_comm]
  have hmod : v % 2 ^ (d + 1) = v / 2 ^ d % 2 * 2 ^ d + v % 2 ^ d := by
    rw [hp, Nat.mul_comm 2, Nat.mod_mul, Nat.mul_comm, Nat.add_comm]
  unfold evn
  rw [hmod, hp]
  generalize v / (2 * 2 ^ d) = Q
  generalize v / 2 ^ d = P at *
  generalize v % 2 ^ d = r at *
  generalize 2 ^ d = T at *
  congr 2
  rcases Nat.mod_two_eq_zero_or_one P with h | h
  · rw [h]
    rw [decide_eq_false (show ¬ 2 * T < 2 * (0 * T + r) by omega), decide_eq_false (show ¬ 2 * T = 2 * (0 * T + r) by omega)]
    rfl
  · rw [h]
    by_cases h0 : r = 0
    · subst h0
      rw [decide_eq_false (show ¬ 2 * T < 2 * (1 * T + 0) by omega), decide_eq_true (show 2 * T = 2 * (1 * T + 0) by omega)]
      simp
    · rw [decide_eq_true (show 2 * T < 2 * (1 * T + r) by omega), decide_eq_true (show r ≠ 0 from h0)]
      simp
theorem one_rw (w : World) : RW (w.alloc (.cells #[.int .u32 1] 23)) (w.heap.size + 1) (some ⟨w.heap.size, 0, none⟩) [1] := ⟨Ws.cons (by omega) Ws.nil, fun _ => by
  refine ⟨w.heap.size, 0, rfl, by omega, fun k u hu => ?_⟩
  rw [Nat.zero_add, cell_of_row _ _ _ _ _ _ (heap_alloc_new w (.cells #[.int .u32 1] 23))]
  match k, hu with
  | 0, hu => simp at hu; subst hu; rfl
  | k + 1, hu => simp at hu⟩
theorem and_one32 (x : Nat) (hx : x < 4294967296) : bits BinOp.and IntKind.u32 (x : Int) 1 = ((x % 2 : Nat) : Int) := by
  have h := bit_and x 0 hx
  rw [Nat.pow_zero, Nat.div_one] at h
  rw [← h]
  congr 1
  simp
theorem wds_pos {n : Nat} (h : 0 < n) : 0 < (wds n).length := by
  rcases Nat.eq_zero_or_pos (wds n).length with h0 | h0
  · have := wds_val n
    rw [List.length_eq_zero_iff.1 h0] at this
    simp only [val] at this
    omega
  · exact h0
set_option maxRecDepth 100000 in
set_option maxHeartbeats 2000000 in
theorem rnear_high (A : Option Addr) (n c d : Nat) (l : List Nat) (w : World) (hn : l.length = n) (hc : n ≤ c) (hm : n ≤ 35184372087808) (h : RW w w.heap.size A l) (hb : btl l = 54 + d) (hd : d ≤ 970) :
    Calls Try.prog 96 #[.slice A n c, .int .i64 0] w fun e w' => e = .returned (.float .f64 (fl (val l))) ∧ Below w.heap.size w w' := by
  have C1 := Lib.hid (rbits_any A n c l w.heap.size w hn hc (by omega) h)
  have h0 : nrm l ≠ [] := by intro e; unfold btl at hb; rw [if_pos e] at hb; omega
  obtain ⟨b1, b2, b3⟩ := btl_bounds h.1 h0
  rw [hb] at C1 b1 b2
  have C2 := Lib.hid (fun W (hW : Below w.heap.size w W) => rshr_any A n c (((54 + d : Nat) : Int) - 53) l W hn hc hm ((h.below hW).more hW.size))
  have C3 := Lib.hid (fun W (hW : Below w.heap.size w W) => rshr_any A n c (((54 + d : Nat) : Int) - 53 - 1) l W hn hc hm ((h.below hW).more hW.size))
  rw [show (((54 + d : Nat) : Int) - 53).toNat = d + 1 by omega] at C2
  rw [show (((54 + d : Nat) : Int) - 53 - 1).toNat = d by omega] at C3
  obtain ⟨v, hv⟩ : ∃ v, val l = v := ⟨_, rfl⟩
  rw [hv] at C2 C3 b1 b2 ⊢
  have a1 : 2 ^ (52 + (d + 1)) ≤ v := by rw [show 52 + (d + 1) = 54 + d - 1 by omega]; exact b1
  have a2 : v < 2 ^ (52 + (d + 1) + 1) := by rw [show 52 + (d + 1) + 1 = 54 + d by omega]; exact b2
  have hfl := fl_cut a1 a2
  obtain ⟨r1, r2⟩ := evn_range a1 a2 (by omega)
  rw [show 52 + (d + 1) - 52 = d + 1 by omega] at r1 r2
  have hq1 : 4503599627370496 ≤ v / 2 ^ (d + 1) := by
    rw [Nat.le_div_iff_mul_le (Nat.two_pow_pos _), show 4503599627370496 = 2 ^ 52 from rfl, ← Nat.pow_add]; exact a1
  have hpq : v / 2 ^ (d + 1) = v / 2 ^ d / 2 := by rw [Nat.pow_succ, Nat.div_div_eq_div_mul]
  have hev := evn_half v d
  obtain ⟨E, hE⟩ : ∃ E, evn v (d + 1) = E := ⟨_, rfl⟩
  rw [hE] at hfl r1 r2 hev
  have hff := fl_pos (N := E) (by omega) (Nat.lt_of_le_of_lt r2 (by decide))
  have C5 := Lib.hid (fun W => ldexp_any (fl E) (d + 1) W hff.1 hff.2 (by omega))
  rw [← hfl] at C5
  obtain ⟨u, hu⟩ : ∃ u, fl v = u := ⟨_, rfl⟩
  rw [hu] at C5 ⊢
  have hPl : v / 2 ^ d < 18446744073709551616 := by
    have : v / 2 ^ d < 2 ^ 54 := by rw [Nat.div_lt_iff_lt_mul (Nat.two_pow_pos _), ← Nat.pow_add]; exact b2
    exact Nat.lt_trans this (by decide)
  obtain ⟨m, hm2⟩ : ∃ m, 54 + d = m := ⟨_, rfl⟩
  rw [hm2] at C1 C2 C3
  rw [show ((d + 1 : Nat) : Int) = (m : Int) - 53 by omega] at C5
  have hm3 : 53 < (m : Int) ∧ (m : Int) ≤ 1024 := by omega
  obtain ⟨m1, m2⟩ := hm3
  have t0 : ((m : Int) == 0) = false := by rw [beq_eq_false_iff_ne]; omega
  have t1 : decide ((1024 : Int) < (m : Int)) = false := decide_eq_false (by omega)
  have k1 : IntKind.i64.wrap ((m : Int)) = (m : Int) := IntWalk.i64_in _ (by omega)
  have k2 : IntKind.i64.wrap ((m : Int) + 0) = (m : Int) := by rw [Int.add_zero]; exact k1
  have k3 : IntKind.i64.wrap ((m : Int) - 53) = (m : Int) - 53 := IntWalk.i64_in _ (by omega)
  have k4 : IntKind.i64.wrap ((m : Int) - 53 + 0) = (m : Int) - 53 := by rw [Int.add_zero]; exact k3
  have k5 : IntKind.i64.wrap ((m : Int) + 1) = (m : Int) + 1 := IntWalk.i64_in _ (by omega)
  have k6 : IntKind.i64.wrap ((m : Int) - 53 - 1) = (m : Int) - 53 - 1 := IntWalk.i64_in _ (by omega)
  have k7 : IntKind.i64.wrap (0 + ((m : Int) - 53)) = (m : Int) - 53 := by rw [Int.zero_add]; exact k3
  have t2 : decide ((m : Int) - 53 < -1074) = false := decide_eq_false (by omega)
  have t3 : decide ((m : Int) - 53 ≤ 0) = false := decide_eq_false (by omega)
  have t4 : decide ((m : Int) + 1 < (m : Int) - 53) = false := decide_eq_false (by omega)
  have HEV := Lib.hid hev
  have HR1 := Lib.hid r1
  have HR2 := Lib.hid r2
  clear hn hc hm h hb hd h0 b1 b2 b3 hv a1 a2 hfl hff hE hu hev r1 r2 hm2
  unfold ShrQ at C2 C3
  obtain ⟨mo, hmo⟩ : ∃ mo, decide (v % 2 ^ d ≠ 0) = mo := ⟨_, rfl⟩
  obtain ⟨mq, hmq⟩ : ∃ mq, decide (v % 2 ^ (d + 1) ≠ 0) = mq := ⟨_, rfl⟩
  obtain ⟨Q, hQ⟩ : ∃ Q, v / 2 ^ (d + 1) = Q := ⟨_, rfl⟩
  obtain ⟨P, hP⟩ : ∃ P, v / 2 ^ d = P := ⟨_, rfl⟩
  rw [hmq, hQ] at C2
  rw [hmo, hP] at C3
  rw [hmo, hQ, hP] at HEV
  rw [hQ] at hq1 hpq
  rw [hP] at hpq hPl
  clear hmo hmq hQ hP
  obtain ⟨NQ, hNQ⟩ : ∃ NQ, (wds Q).length = NQ := ⟨_, rfl⟩
  obtain ⟨NP, hNP⟩ : ∃ NP, (wds P).length = NP := ⟨_, rfl⟩
  have hNQ0 : 0 < NQ := by rw [← hNQ]; exact wds_pos (by omega)
  have hNP0 : 0 < NP := by rw [← hNP]; exact wds_pos (by omega)
  have hNQ2 : NQ ≤ 2 := by
    have := nrm_len (two Q)
    rw [two_wds' Q (by omega), hNQ] at this
    exact this
  have g1 := get_zero (wds_ws Q)
  have g2 := get_zero (wds_ws P)
  rw [wds_val] at g1 g2
  have o1 := and_one32 (Q % 4294967296) (by omega)
  have o2 := and_one32 (P % 4294967296) (by omega)
  rw [show Q % 4294967296 % 2 = Q % 2 by omega] at o1
  rw [show P % 4294967296 % 2 = P % 2 by omega] at o2
  obtain ⟨x, hx⟩ : ∃ x, Q % 4294967296 = x := ⟨_, rfl⟩
  obtain ⟨y, hy⟩ : ∃ y, P % 4294967296 = y := ⟨_, rfl⟩
  rw [hx] at g1 o1
  rw [hy] at g2 o2
  have HNQ := Lib.hid hNQ
  have HNP := Lib.hid hNP
  have HNQ2 := Lib.hid hNQ2
  have HQ1 := Lib.hid hq1
  have HPQ := Lib.hid hpq
  have HPL := Lib.hid hPl
  have n1 : decide ((0 : Int) < (NQ : Int)) = true := decide_eq_true (by omega)
  have n2 : decide ((0 : Int) < (NP : Int)) = true := decide_eq_true (by omega)
  have n3 : (0 : Int) < (NQ : Int) := by omega
  have n4 : (0 : Int) < (NP : Int) := by omega
  clear hx hy hNQ hNP hNQ2 hq1 hpq hPl m1 m2
  go_enter Try.func96, Try.ntmps96
  go_wp2_with fail
  refine C1.out.mono ?_
  rintro e w1 ⟨rfl, hb1⟩
  go_wp2_with fail
  refine (C2.out _ hb1).mono ?_
  rintro e w2 ⟨A2, N2, c2, rfl, rfl, hc2, q2, hb2⟩
  rw [HNQ.out] at hc2 ⊢
  have hb12 := below_le hb1 hb2
  have HC2 := Lib.hid hc2
  clear hc2
  go_wp2_with fail
  refine (C3.out _ hb12).mono ?_
  rintro e w3 ⟨A3, N3, c3, rfl, rfl, hc3, p3, hb3⟩
  rw [HNP.out] at hc3 ⊢
  have HC3 := Lib.hid hc3
  have hb13 := below_le hb12 hb3
  have q3 := q2.step hb3
  have HB := Lib.hid hb13
  have HQ3 := Lib.hid q3
  obtain ⟨ab, ao, rfl, _, hca⟩ := q3.2 (by rw [HNQ.out]; exact hNQ0)
  obtain ⟨pb, po, rfl, _, hcb⟩ := p3.2 (by rw [HNP.out]; exact hNP0)
  have l1 := hca 0 _ (getD_some (by rw [HNQ.out]; exact hNQ0))
  have l2 := hcb 0 _ (getD_some (by rw [HNP.out]; exact hNP0))
  rw [g1, Nat.add_zero] at l1
  rw [g2, Nat.add_zero] at l2
  clear g1 g2 hca hcb q2 q3 p3 hb1 hb2 hb3 hb12 hb13 hc3 C1 C2 C3 hNQ0 hNP0
  cases hpo : decide (P % 2 = 1)
  · have hp0 : P % 2 = 0 := by have := of_decide_eq_false hpo; omega
    rw [hp0] at o2
    have HE : Hid (E = Q) := Lib.hid (by rw [HEV.out, hpo]; rfl)
    clear hpo hp0 o1
    obtain rfl : Q = E := HE.out.symm
    go_wp2_with fail
    have K1 := Lib.hid (show Calls Try.prog 80 #[.slice (some ⟨ab, ao, none⟩) NQ c2, .int .i64 1] w3 fun e w' => e = .returned (.int .u64 (Q / 4294967296 : Nat)) ∧ w3 = w' from by
      have := rword_any (some ⟨ab, ao, none⟩) NQ c2 1 (wds (Q)) w3.heap.size w3 HNQ.out (by have := HNQ2.out; omega) HQ3.out
      rw [get_one (wds_ws _), wds_val, Nat.mod_eq_of_lt (by have := HR2.out; omega)] at this
      exact this)
    have K0 := Lib.hid (show Calls Try.prog 80 #[.slice (some ⟨ab, ao, none⟩) NQ c2, .int .i64 0] w3 fun e w' => e = .returned (.int .u64 ((Q) % 4294967296 : Nat)) ∧ w3 = w' from by
      have := rword_any (some ⟨ab, ao, none⟩) NQ c2 0 (wds (Q)) w3.heap.size w3 HNQ.out (by have := HNQ2.out; omega) HQ3.out
      rw [get_zero (wds_ws _), wds_val] at this
      exact this)
    have hj := join64 ((Q) / 4294967296) ((Q) % 4294967296) (by have := HR2.out; omega) (by omega)
    rw [show (Q) % 4294967296 + (Q) / 4294967296 * 4294967296 = Q by omega] at hj
    obtain ⟨yy, hyy⟩ : ∃ yy, (Q) / 4294967296 = yy := ⟨_, rfl⟩
    obtain ⟨zz, hzz⟩ : ∃ zz, (Q) % 4294967296 = zz := ⟨_, rfl⟩
    rw [hyy] at K1 hj
    rw [hzz] at K0 hj
    obtain ⟨e9, he9⟩ : ∃ e9, Q = e9 := ⟨_, rfl⟩
    rw [he9] at hj C5
    clear hyy hzz he9
    refine K1.out.mono ?_
    rintro e w' ⟨rfl, rfl⟩
    go_wp2_with fail
    refine K0.out.mono ?_
    rintro e w' ⟨rfl, rfl⟩
    go_wp2_with fail
    refine (C5.out _).mono ?_
    rintro e w' ⟨rfl, rfl⟩
    go_wp2
    go_ret
    exact ⟨rfl, HB.out⟩
  · have hp1 : P % 2 = 1 := of_decide_eq_true hpo
    rw [hp1] at o2
    cases mo
    · cases hqo : decide (Q % 2 = 1)
      · have hq0 : Q % 2 = 0 := by have := of_decide_eq_false hqo; omega
        rw [hq0] at o1
        have HE : Hid (E = Q) := Lib.hid (by rw [HEV.out, hpo, hqo]; rfl)
        clear hpo hp1 hqo hq0
        obtain rfl : Q = E := HE.out.symm
        go_wp2_with fail
        have K1 := Lib.hid (show Calls Try.prog 80 #[.slice (some ⟨ab, ao, none⟩) NQ c2, .int .i64 1] w3 fun e w' => e = .returned (.int .u64 (Q / 4294967296 : Nat)) ∧ w3 = w' from by
          have := rword_any (some ⟨ab, ao, none⟩) NQ c2 1 (wds (Q)) w3.heap.size w3 HNQ.out (by have := HNQ2.out; omega) HQ3.out
          rw [get_one (wds_ws _), wds_val, Nat.mod_eq_of_lt (by have := HR2.out; omega)] at this
          exact this)
        have K0 := Lib.hid (show Calls Try.prog 80 #[.slice (some ⟨ab, ao, none⟩) NQ c2, .int .i64 0] w3 fun e w' => e = .returned (.int .u64 ((Q) % 4294967296 : Nat)) ∧ w3 = w' from by
          have := rword_any (some ⟨ab, ao, none⟩) NQ c2 0 (wds (Q)) w3.heap.size w3 HNQ.out (by have := HNQ2.out; omega) HQ3.out
          rw [get_zero (wds_ws _), wds_val] at this
          exact this)
        have hj := join64 ((Q) / 4294967296) ((Q) % 4294967296) (by have := HR2.out; omega) (by omega)
        rw [show (Q) % 4294967296 + (Q) / 4294967296 * 4294967296 = Q by omega] at hj
        obtain ⟨yy, hyy⟩ : ∃ yy, (Q) / 4294967296 = yy := ⟨_, rfl⟩
        obtain ⟨zz, hzz⟩ : ∃ zz, (Q) % 4294967296 = zz := ⟨_, rfl⟩
        rw [hyy] at K1 hj
        rw [hzz] at K0 hj
        obtain ⟨e9, he9⟩ : ∃ e9, Q = e9 := ⟨_, rfl⟩
        rw [he9] at hj C5
        clear hyy hzz he9
        refine K1.out.mono ?_
        rintro e w' ⟨rfl, rfl⟩
        go_wp2_with fail
        refine K0.out.mono ?_
        rintro e w' ⟨rfl, rfl⟩
        go_wp2_with fail
        refine (C5.out _).mono ?_
        rintro e w' ⟨rfl, rfl⟩
        go_wp2
        go_ret
        exact ⟨rfl, HB.out⟩
      · have hq0 : Q % 2 = 1 := of_decide_eq_true hqo
        rw [hq0] at o1
        have HE : Hid (E = Q + 1) := Lib.hid (by rw [HEV.out, hpo, hqo]; rfl)
        clear hpo hp1 hqo hq0
        have C6 := Lib.hid (plus_any (some ⟨ab, ao, none⟩) (some ⟨w3.heap.size, 0, none⟩) NQ c2 1 1 (wds Q) [1] (w3.alloc (.cells #[.int .u32 1] 23)) HNQ.out (by have := HNQ2.out; omega) (HQ3.out.step ((Below.refl w3.heap.size w3).alloc (Nat.le_refl _) _)) rfl (by omega) ((one_rw w3).more (by simp)))
        rw [wds_val, show val [1] = 1 from rfl] at C6
        go_wp2_with fail
        refine C6.out.mono ?_
        rintro e w5 ⟨v5, rfl, ⟨A5, c5, rfl, hc5, r5⟩, b5⟩
        have HB5 := Lib.hid (below_le HB.out (below_le ((Below.refl w3.heap.size w3).alloc (Nat.le_refl _) _) b5))
        obtain ⟨N5, hN5⟩ : ∃ N5, (wds (Q + 1)).length = N5 := ⟨_, rfl⟩
        have hN52 : N5 ≤ 2 := by
          have := nrm_len (two (Q + 1))
          rw [two_wds' (Q + 1) (by have := HPQ.out; have := HPL.out; omega), hN5] at this
          exact this
        rw [hN5] at hc5 ⊢
        have HN5 := Lib.hid hN5
        have HN52 := Lib.hid hN52
        have HR5 := Lib.hid r5
        clear hc5 r5 b5 hN5 hN52 C6
        go_wp2_with fail
        obtain rfl : E = Q + 1 := HE.out
        have K1 := Lib.hid (show Calls Try.prog 80 #[.slice A5 N5 c5, .int .i64 1] w5 fun e w' => e = .returned (.int .u64 ((Q + 1) / 4294967296 : Nat)) ∧ w5 = w' from by
          have := rword_any A5 N5 c5 1 (wds (Q + 1)) w5.heap.size w5 HN5.out (by have := HN52.out; omega) HR5.out
          rw [get_one (wds_ws _), wds_val, Nat.mod_eq_of_lt (by have := HR2.out; omega)] at this
          exact this)
        have K0 := Lib.hid (show Calls Try.prog 80 #[.slice A5 N5 c5, .int .i64 0] w5 fun e w' => e = .returned (.int .u64 ((Q + 1) % 4294967296 : Nat)) ∧ w5 = w' from by
          have := rword_any A5 N5 c5 0 (wds (Q + 1)) w5.heap.size w5 HN5.out (by have := HN52.out; omega) HR5.out
          rw [get_zero (wds_ws _), wds_val] at this
          exact this)
        have hj := join64 ((Q + 1) / 4294967296) ((Q + 1) % 4294967296) (by have := HR2.out; omega) (by omega)
        rw [show (Q + 1) % 4294967296 + (Q + 1) / 4294967296 * 4294967296 = Q + 1 by omega] at hj
        obtain ⟨yy, hyy⟩ : ∃ yy, (Q + 1) / 4294967296 = yy := ⟨_, rfl⟩
        obtain ⟨zz, hzz⟩ : ∃ zz, (Q + 1) % 4294967296 = zz := ⟨_, rfl⟩
        rw [hyy] at K1 hj
        rw [hzz] at K0 hj
        obtain ⟨e9, he9⟩ : ∃ e9, Q + 1 = e9 := ⟨_, rfl⟩
        rw [he9] at hj C5
        clear hyy hzz he9
        refine K1.out.mono ?_
        rintro e w' ⟨rfl, rfl⟩
        go_wp2_with fail
        refine K0.out.mono ?_
        rintro e w' ⟨rfl, rfl⟩
        go_wp2_with fail
        refine (C5.out _).mono ?_
        rintro e w' ⟨rfl, rfl⟩
        go_wp2
        go_ret
        exact ⟨rfl, HB5.out⟩
    · have HE : Hid (E = Q + 1) := Lib.hid (by rw [HEV.out, hpo]; rfl)
      clear hpo hp1 o1
      have C6 := Lib.hid (plus_any (some ⟨ab, ao, none⟩) (some ⟨w3.heap.size, 0, none⟩) NQ c2 1 1 (wds Q) [1] (w3.alloc (.cells #[.int .u32 1] 23)) HNQ.out (by have := HNQ2.out; omega) (HQ3.out.step ((Below.refl w3.heap.size w3).alloc (Nat.le_refl _) _)) rfl (by omega) ((one_rw w3).more (by simp)))
      rw [wds_val, show val [1] = 1 from rfl] at C6
      go_wp2_with fail
      refine C6.out.mono ?_
      rintro e w5 ⟨v5, rfl, ⟨A5, c5, rfl, hc5, r5⟩, b5⟩
      have HB5 := Lib.hid (below_le HB.out (below_le ((Below.refl w3.heap.size w3).alloc (Nat.le_refl _) _) b5))
      obtain ⟨N5, hN5⟩ : ∃ N5, (wds (Q + 1)).length = N5 := ⟨_, rfl⟩
      have hN52 : N5 ≤ 2 := by
        have := nrm_len (two (Q + 1))
        rw [two_wds' (Q + 1) (by have := HPQ.out; have := HPL.out; omega), hN5] at this
        exact this
      rw [hN5] at hc5 ⊢
      have HN5 := Lib.hid hN5
      have HN52 := Lib.hid hN52
      have HR5 := Lib.hid r5
      clear hc5 r5 b5 hN5 hN52 C6
      go_wp2_with fail
      obtain rfl : E = Q + 1 := HE.out
      have K1 := Lib.hid (show Calls Try.prog 80 #[.slice A5 N5 c5, .int .i64 1] w5 fun e w' => e = .returned (.int .u64 ((Q + 1) / 4294967296 : Nat)) ∧ w5 = w' from by
        have := rword_any A5 N5 c5 1 (wds (Q + 1)) w5.heap.size w5 HN5.out (by have := HN52.out; omega) HR5.out
        rw [get_one (wds_ws _), wds_val, Nat.mod_eq_of_lt (by have := HR2.out; omega)] at this
        exact this)
      have K0 := Lib.hid (show Calls Try.prog 80 #[.slice A5 N5 c5, .int .i64 0] w5 fun e w' => e = .returned (.int .u64 ((Q + 1) % 4294967296 : Nat)) ∧ w5 = w' from by
        have := rword_any A5 N5 c5 0 (wds (Q + 1)) w5.heap.size w5 HN5.out (by have := HN52.out; omega) HR5.out
        rw [get_zero (wds_ws _), wds_val] at this
        exact this)
      have hj := join64 ((Q + 1) / 4294967296) ((Q + 1) % 4294967296) (by have := HR2.out; omega) (by omega)
      rw [show (Q + 1) % 4294967296 + (Q + 1) / 4294967296 * 4294967296 = Q + 1 by omega] at hj
      obtain ⟨yy, hyy⟩ : ∃ yy, (Q + 1) / 4294967296 = yy := ⟨_, rfl⟩
      obtain ⟨zz, hzz⟩ : ∃ zz, (Q + 1) % 4294967296 = zz := ⟨_, rfl⟩
      rw [hyy] at K1 hj
      rw [hzz] at K0 hj
      obtain ⟨e9, he9⟩ : ∃ e9, Q + 1 = e9 := ⟨_, rfl⟩
      rw [he9] at hj C5
      clear hyy hzz he9
      refine K1.out.mono ?_
      rintro e w' ⟨rfl, rfl⟩
      go_wp2_with fail
      refine K0.out.mono ?_
      rintro e w' ⟨rfl, rfl⟩
      go_wp2_with fail
      refine (C5.out _).mono ?_
      rintro e w' ⟨rfl, rfl⟩
      go_wp2
      go_ret
      exact ⟨rfl, HB5.out⟩
theorem rnear_any (A : Option Addr) (n c : Nat) (l : List Nat) (w : World) (hn : l.length = n) (hc : n ≤ c) (hm : n ≤ 35184372087808) (h : RW w w.heap.size A l) :
    Calls Try.prog 96 #[.slice A n c, .int .i64 0] w fun e w' => e = .returned (.float .f64 (fl (val l))) ∧ Below w.heap.size w w' := by
  by_cases h0 : btl l = 0
  · have h1 : nrm l = [] := by
      rcases Classical.em (nrm l = []) with h1 | h1
      · exact h1
      · have := (btl_bounds h.1 h1).2.2; omega
    rw [show val l = 0 by rw [← val_nrm, h1]; rfl, fl_zero]
    exact rnear_zero A n c l w hn hc hm h h0
  · rcases Nat.lt_or_ge 1024 (btl l) with h2 | h2
    · have h1 : nrm l ≠ [] := by intro e; unfold btl at h0; rw [if_pos e] at h0; exact h0 rfl
      obtain ⟨b1, b2, b3⟩ := btl_bounds h.1 h1
      obtain ⟨K, hK⟩ : ∃ K, K = 1024 := ⟨_, rfl⟩
      rw [fl_top K hK (Nat.le_trans (Nat.pow_le_pow_right (by omega) (by omega)) b1)]
      exact rnear_top A n c l w hn hc hm h h2
    · rcases Nat.lt_or_ge 53 (btl l) with h3 | h3
      · exact rnear_high A n c (btl l - 54) l w hn hc hm h (by omega) (by omega)
      · exact rnear_low A n c l w hn hc hm h h3 (by omega)
end Go.Proofs.Ytacmbbjmcdbcnaa
namespace Go.Proofs.Ytacmbbjmcdbcnaa
open Go.RowKit
/-- What Parts answers: a list, a power, an error. -/
def Three (S : List Nat) (N : Nat) (p er : Int) (w : World) (e : Ending) (w' : World) : Prop :=
  ∃ A c, e = .returned (.tuple #[.slice A N c, .int .i64 p, .int .i64 er]) ∧ (N ≤ c ∧ RW w' w'.heap.size A S) ∧ Below w.heap.size w w'
theorem Three.none (p er : Int) (w : World) : Three [] 0 p er w (.returned (.tuple #[.slice none 0 0, .int .i64 p, .int .i64 er])) w :=
  ⟨Option.none, 0, rfl, ⟨Nat.le_refl _, RW.nil _ _ _⟩, Below.refl _ _⟩
end Go.Proofs.Ytacmbbjmcdbcnaa
