/-
  Contract of Near of the reference (at the power 0): of many bits. Float of the reference.
-/
import Derived.Test.YtlabblkonkhmgaaDoorRnear
namespace Go.Proofs.YtlabblkonkhmgaaDoor
open Go.RowKit
theorem evn_half (v d : Nat) : evn v (d + 1) = v / 2 ^ (d + 1) + (decide (v / 2 ^ d % 2 = 1) && (decide (v % 2 ^ d ≠ 0) || decide (v / 2 ^ (d + 1) % 2 = 1))).toNat := by
  have hP := Nat.two_pow_pos d
  have hr := Nat.mod_lt v hP
  have hp : 2 ^ (d + 1) = 2 * 2 ^ d := by rw [Nat.pow_succ, Nat.mul_comm]
  have hmod : v % 2 ^ (d + 1) = v / 2 ^ d % 2 * 2 ^ d + v % 2 ^ d := by
    rw [hp, Nat.mul_comm 2, Nat.mod_mul, Nat.mul_comm, Nat.add_comm]
  unfold evn
  rw [hmod, hp]
  generalize v / (2 * 2 ^ d) = Q
  generalize v / 2 ^ d = P at *
  generalize v % 2 ^ d = r at *
  generalize 2 ^ d = T at *
  congr 2
  rcases Nat.mod_two_eq_zero_or_one P with h | h
  · rw [h]
    rw [decide_eq_false (show ¬ 2 * T < 2 * (0 * T + r) by omega), decide_eq_false (show ¬ 2 * T = 2 * (0 * T + r) by omega)]
    rfl
  · rw [h]
    by_cases h0 : r = 0
    · subst h0
      rw [decide_eq_false (show ¬ 2 * T < 2 * (1 * T + 0) by omega), decide_eq_true (show 2 * T = 2 * (1 * T + 0) by omega)]
      simp
    · rw [decide_eq_true (show 2 * T < 2 * (1 * T + r) by omega), decide_eq_true (show r ≠ 0 from h0)]
      simp
theorem one_rw (w : World) : RW (w.alloc (.cells #[.int .u32 1] 42)) (w.heap.size + 1) (some ⟨w.heap.size, 0, none⟩) [1] := ⟨Ws.cons (by omega) Ws.nil, fun _ => by
  refine ⟨w.heap.size, 0, rfl, by omega, fun k u hu => ?_⟩
  rw [Nat.zero_add, cell_of_row _ _ _ _ _ _ (heap_alloc_new w (.cells #[.int .u32 1] 42))]
  match k, hu with
  | 0, hu => simp at hu; subst hu; rfl
  | k + 1, hu => simp at hu⟩
theorem and_one32 (x : Nat) (hx : x < 4294967296) : bits BinOp.and IntKind.u32 (x : Int) 1 = ((x % 2 : Nat) : Int) := by
  have h := bit_and x 0 hx
  rw [Nat.pow_zero, Nat.div_one] at h
  rw [← h]
  congr 1
  simp
theorem wds_pos {n : Nat} (h : 0 < n) : 0 < (wds n).length := by
  rcases Nat.eq_zero_or_pos (wds n).length with h0 | h0
  · have := wds_val n
    rw [List.length_eq_zero_iff.1 h0] at this
    simp only [val] at this
    omega
  · exact h0
set_option maxRecDepth 100000 in
set_option maxHeartbeats 2000000 in
theorem rnear_high (A : Option Addr) (n c d : Nat) (l : List Nat) (w : World) (hn : l.length = n) (hc : n ≤ c) (hm : n ≤ 35184372087808) (h : RW w w.heap.size A l) (hb : btl l = 54 + d) (hd : d ≤ 970) :
    Calls Tryd.prog 48 #[.slice A n c, .int .i64 0] w fun e w' => e = .returned (.float .f64 (fl (val l))) ∧ Below w.heap.size w w' := by
  have C1 := Lib.hid (rbits_any A n c l w.heap.size w hn hc (by omega) h)
  have h0 : nrm l ≠ [] := by intro e; unfold btl at hb; rw [if_pos e] at hb; omega
  obtain ⟨b1, b2, b3⟩ := btl_bounds h.1 h0
  rw [hb] at C1 b1 b2
  have C2 := Lib.hid (fun W (hW : Below w.heap.size w W) => rshr_any A n c (((54 + d : Nat) : Int) - 53) l W hn hc hm ((h.below hW).more hW.size))
  have C3 := Lib.hid (fun W (hW : Below w.heap.size w W) => rshr_any A n c (((54 + d : Nat) : Int) - 53 - 1) l W hn hc hm ((h.below hW).more hW.size))
  rw [show (((54 + d : Nat) : Int) - 53).toNat = d + 1 by omega] at C2
  rw [show (((54 + d : Nat) : Int) - 53 - 1).toNat = d by omega] at C3
  obtain ⟨v, hv⟩ : ∃ v, val l = v := ⟨_, rfl⟩
  rw [hv] at C2 C3 b1 b2 ⊢
  have a1 : 2 ^ (52 + (d + 1)) ≤ v := by rw [show 52 + (d + 1) = 54 + d - 1 by omega]; exact b1
  have a2 : v < 2 ^ (52 + (d + 1) + 1) := by rw [show 52 + (d + 1) + 1 = 54 + d by omega]; exact b2
  have hfl := fl_cut a1 a2
  obtain ⟨r1, r2⟩ := evn_range a1 a2 (by omega)
  rw [show 52 + (d + 1) - 52 = d + 1 by omega] at r1 r2
  have hq1 : 4503599627370496 ≤ v / 2 ^ (d + 1) := by
    rw [Nat.le_div_iff_mul_le (Nat.two_pow_pos _), show 4503599627370496 = 2 ^ 52 from rfl, ← Nat.pow_add]; exact a1
  have hpq : v / 2 ^ (d + 1) = v / 2 ^ d / 2 := by rw [Nat.pow_succ, Nat.div_div_eq_div_mul]
  have hev := evn_half v d
  obtain ⟨E, hE⟩ : ∃ E, evn v (d + 1) = E := ⟨_, rfl⟩
  rw [hE] at hfl r1 r2 hev
  have hff := fl_pos (N := E) (by omega) (Nat.lt_of_le_of_lt r2 (by decide))
  have C5 := Lib.hid (fun W => ldexp_any (fl E) (d + 1) W hff.1 hff.2 (by omega))
  rw [← hfl] at C5
  obtain ⟨u, hu⟩ : ∃ u, fl v = u := ⟨_, rfl⟩
  rw [hu] at C5 ⊢
  have hPl : v / 2 ^ d < 18446744073709551616 := by
    have : v / 2 ^ d < 2 ^ 54 := by rw [Nat.div_lt_iff_lt_mul (Nat.two_pow_pos _), ← Nat.pow_add]; exact b2
    exact Nat.lt_trans this (by decide)
  obtain ⟨m, hm2⟩ : ∃ m, 54 + d = m := ⟨_, rfl⟩
  rw [hm2] at C1 C2 C3
  rw [show ((d + 1 : Nat) : Int) = (m : Int) - 53 by omega] at C5
  have hm3 : 53 < (m : Int) ∧ (m : Int) ≤ 1024 := by omega
  obtain ⟨m1, m2⟩ := hm3
  have t0 : ((m : Int) == 0) = false := by rw [beq_eq_false_iff_ne]; omega
  have t1 : decide ((1024 : Int) < (m : Int)) = false := decide_eq_false (by omega)
  have k1 : IntKind.i64.wrap ((m : Int)) = (m : Int) := IntWalk.i64_in _ (by omega)
  have k2 : IntKind.i64.wrap ((m : Int) + 0) = (m : Int) := by rw [Int.add_zero]; exact k1
  have k3 : IntKind.i64.wrap ((m : Int) - 53) = (m : Int) - 53 := IntWalk.i64_in _ (by omega)
  have k4 : IntKind.i64.wrap ((m : Int) - 53 + 0) = (m : Int) - 53 := by rw [Int.add_zero]; exact k3
  have k5 : IntKind.i64.wrap ((m : Int) + 1) = (m : Int) + 1 := IntWalk.i64_in _ (by omega)
  have k6 : IntKind.i64.wrap ((m : Int) - 53 - 1) = (m : Int) - 53 - 1 := IntWalk.i64_in _ (by omega)
  have k7 : IntKind.i64.wrap (0 + ((m : Int) - 53)) = (m : Int) - 53 := by rw [Int.zero_add]; exact k3
  have t2 : decide ((m : Int) - 53 < -1074) = false := decide_eq_false (by omega)
  have t3 : decide ((m : Int) - 53 ≤ 0) = false := decide_eq_false (by omega)
  have t4 : decide ((m : Int) + 1 < (m : Int) - 53) = false := decide_eq_false (by omega)
  have HEV := Lib.hid hev
  have HR1 := Lib.hid r1
  have HR2 := Lib.hid r2
  clear hn hc hm h hb hd h0 b1 b2 b3 hv a1 a2 hfl hff hE hu hev r1 r2 hm2
  unfold ShrQ at C2 C3
  obtain ⟨mo, hmo⟩ : ∃ mo, decide (v % 2 ^ d ≠ 0) = mo := ⟨_, rfl⟩
  obtain ⟨mq, hmq⟩ : ∃ mq, decide (v % 2 ^ (d + 1) ≠ 0) = mq := ⟨_, rfl⟩
  obtain ⟨Q, hQ⟩ : ∃ Q, v / 2 ^ (d + 1) = Q := ⟨_, rfl⟩
  obtain ⟨P, hP⟩ : ∃ P, v / 2 ^ d = P := ⟨_, rfl⟩
  rw [hmq, hQ] at C2
  rw [hmo, hP] at C3
  rw [hmo, hQ, hP] at HEV
  rw [hQ] at hq1 hpq
  rw [hP] at hpq hPl
  clear hmo hmq hQ hP
  obtain ⟨NQ, hNQ⟩ : ∃ NQ, (wds Q).length = NQ := ⟨_, rfl⟩
  obtain ⟨NP, hNP⟩ : ∃ NP, (wds P).length = NP := ⟨_, rfl⟩
  have hNQ0 : 0 < NQ := by rw [← hNQ]; exact wds_pos (by omega)
  have hNP0 : 0 < NP := by rw [← hNP]; exact wds_pos (by omega)
  have hNQ2 : NQ ≤ 2 := by
    have := nrm_len (two Q)
    rw [two_wds' Q (by omega), hNQ] at this
    exact this
  have g1 := get_zero (wds_ws Q)
  have g2 := get_zero (wds_ws P)
  rw [wds_val] at g1 g2
  have o1 := and_one32 (Q % 4294967296) (by omega)
  have o2 := and_one32 (P % 4294967296) (by omega)
  rw [show Q % 4294967296 % 2 = Q % 2 by omega] at o1
  rw [show P % 4294967296 % 2 = P % 2 by omega] at o2
  obtain ⟨x, hx⟩ : ∃ x, Q % 4294967296 = x := ⟨_, rfl⟩
  obtain ⟨y, hy⟩ : ∃ y, P % 4294967296 = y := ⟨_, rfl⟩
  rw [hx] at g1 o1
  rw [hy] at g2 o2
  have HNQ := Lib.hid hNQ
  have HNP := Lib.hid hNP
  have HNQ2 := Lib.hid hNQ2
  have HQ1 := Lib.hid hq1
  have HPQ := Lib.hid hpq
  have HPL := Lib.hid hPl
  have n1 : decide ((0 : Int) < (NQ : Int)) = true := decide_eq_true (by omega)
  have n2 : decide ((0 : Int) < (NP : Int)) = true := decide_eq_true (by omega)
  have n3 : (0 : Int) < (NQ : Int) := by omega
  have n4 : (0 : Int) < (NP : Int) := by omega
  clear hx hy hNQ hNP hNQ2 hq1 hpq hPl m1 m2
  go_enter Tryd.func48, Tryd.ntmps48
  go_wp2_with fail
  refine C1.out.mono ?_
  rintro e w1 ⟨rfl, hb1⟩
  go_wp2_with fail
  refine (C2.out _ hb1).mono ?_
  rintro e w2 ⟨A2, N2, c2, rfl, rfl, hc2, q2, hb2⟩
  rw [HNQ.out] at hc2 ⊢
  have hb12 := below_le hb1 hb2
  have HC2 := Lib.hid hc2
  clear hc2
  go_wp2_with fail
  refine (C3.out _ hb12).mono ?_
  rintro e w3 ⟨A3, N3, c3, rfl, rfl, hc3, p3, hb3⟩
  rw [HNP.out] at hc3 ⊢
  have HC3 := Lib.hid hc3
  have hb13 := below_le hb12 hb3
  have q3 := q2.step hb3
  have HB := Lib.hid hb13
  have HQ3 := Lib.hid q3
  obtain ⟨ab, ao, rfl, _, hca⟩ := q3.2 (by rw [HNQ.out]; exact hNQ0)
  obtain ⟨pb, po, rfl, _, hcb⟩ := p3.2 (by rw [HNP.out]; exact hNP0)
  have l1 := hca 0 _ (getD_some (by rw [HNQ.out]; exact hNQ0))
  have l2 := hcb 0 _ (getD_some (by rw [HNP.out]; exact hNP0))
  rw [g1, Nat.add_zero] at l1
  rw [g2, Nat.add_zero] at l2
  clear g1 g2 hca hcb q2 q3 p3 hb1 hb2 hb3 hb12 hb13 hc3 C1 C2 C3 hNQ0 hNP0
  cases hpo : decide (P % 2 = 1)
  · have hp0 : P % 2 = 0 := by have := of_decide_eq_false hpo; omega
    rw [hp0] at o2
    have HE : Hid (E = Q) := Lib.hid (by rw [HEV.out, hpo]; rfl)
    clear hpo hp0 o1
    obtain rfl : Q = E := HE.out.symm
    go_wp2_with fail
    have K1 := Lib.hid (show Calls Tryd.prog 56 #[.slice (some ⟨ab, ao, none⟩) NQ c2, .int .i64 1] w3 fun e w' => e = .returned (.int .u64 (Q / 4294967296 : Nat)) ∧ w3 = w' from by
      have := rword_any (some ⟨ab, ao, none⟩) NQ c2 1 (wds (Q)) w3.heap.size w3 HNQ.out (by have := HNQ2.out; omega) HQ3.out
      rw [get_one (wds_ws _), wds_val, Nat.mod_eq_of_lt (by have := HR2.out; omega)] at this
      exact this)
    have K0 := Lib.hid (show Calls Tryd.prog 56 #[.slice (some ⟨ab, ao, none⟩) NQ c2, .int .i64 0] w3 fun e w' => e = .returned (.int .u64 ((Q) % 4294967296 : Nat)) ∧ w3 = w' from by
      have := rword_any (some ⟨ab, ao, none⟩) NQ c2 0 (wds (Q)) w3.heap.size w3 HNQ.out (by have := HNQ2.out; omega) HQ3.out
      rw [get_zero (wds_ws _), wds_val] at this
      exact this)
    have hj := join64 ((Q) / 4294967296) ((Q) % 4294967296) (by have := HR2.out; omega) (by omega)
    rw [show (Q) % 4294967296 + (Q) / 4294967296 * 4294967296 = Q by omega] at hj
    obtain ⟨yy, hyy⟩ : ∃ yy, (Q) / 4294967296 = yy := ⟨_, rfl⟩
    obtain ⟨zz, hzz⟩ : ∃ zz, (Q) % 4294967296 = zz := ⟨_, rfl⟩
    rw [hyy] at K1 hj
    rw [hzz] at K0 hj
    obtain ⟨e9, he9⟩ : ∃ e9, Q = e9 := ⟨_, rfl⟩
    rw [he9] at hj C5
    clear hyy hzz he9
    refine K1.out.mono ?_
    rintro e w' ⟨rfl, rfl⟩
    go_wp2_with fail
    refine K0.out.mono ?_
    rintro e w' ⟨rfl, rfl⟩
    go_wp2_with fail
    refine (C5.out _).mono ?_
    rintro e w' ⟨rfl, rfl⟩
    go_wp2
    go_ret
    exact ⟨rfl, HB.out⟩
  · have hp1 : P % 2 = 1 := of_decide_eq_true hpo
    rw [hp1] at o2
    cases mo
    · cases hqo : decide (Q % 2 = 1)
      · have hq0 : Q % 2 = 0 := by have := of_decide_eq_false hqo; omega
        rw [hq0] at o1
        have HE : Hid (E = Q) := Lib.hid (by rw [HEV.out, hpo, hqo]; rfl)
        clear hpo hp1 hqo hq0
        obtain rfl : Q = E := HE.out.symm
        go_wp2_with fail
        have K1 := Lib.hid (show Calls Tryd.prog 56 #[.slice (some ⟨ab, ao, none⟩) NQ c2, .int .i64 1] w3 fun e w' => e = .returned (.int .u64 (Q / 4294967296 : Nat)) ∧ w3 = w' from by
          have := rword_any (some ⟨ab, ao, none⟩) NQ c2 1 (wds (Q)) w3.heap.size w3 HNQ.out (by have := HNQ2.out; omega) HQ3.out
          rw [get_one (wds_ws _), wds_val, Nat.mod_eq_of_lt (by have := HR2.out; omega)] at this
          exact this)
        have K0 := Lib.hid (show Calls Tryd.prog 56 #[.slice (some ⟨ab, ao, none⟩) NQ c2, .int .i64 0] w3 fun e w' => e = .returned (.int .u64 ((Q) % 4294967296 : Nat)) ∧ w3 = w' from by
          have := rword_any (some ⟨ab, ao, none⟩) NQ c2 0 (wds (Q)) w3.heap.size w3 HNQ.out (by have := HNQ2.out; omega) HQ3.out
          rw [get_zero (wds_ws _), wds_val] at this
          exact this)
        have hj := join64 ((Q) / 4294967296) ((Q) % 4294967296) (by have := HR2.out; omega) (by omega)
        rw [show (Q) % 4294967296 + (Q) / 4294967296 * 4294967296 = Q by omega] at hj
        obtain ⟨yy, hyy⟩ : ∃ yy, (Q) / 4294967296 = yy := ⟨_, rfl⟩
        obtain ⟨zz, hzz⟩ : ∃ zz, (Q) % 4294967296 = zz := ⟨_, rfl⟩
        rw [hyy] at K1 hj
        rw [hzz] at K0 hj
        obtain ⟨e9, he9⟩ : ∃ e9, Q = e9 := ⟨_, rfl⟩
        rw [he9] at hj C5
        clear hyy hzz he9
        refine K1.out.mono ?_
        rintro e w' ⟨rfl, rfl⟩
        go_wp2_with fail
        refine K0.out.mono ?_
        rintro e w' ⟨rfl, rfl⟩
        go_wp2_with fail
        refine (C5.out _).mono ?_
        rintro e w' ⟨rfl, rfl⟩
        go_wp2
        go_ret
        exact ⟨rfl, HB.out⟩
      · have hq0 : Q % 2 = 1 := of_decide_eq_true hqo
        rw [hq0] at o1
        have HE : Hid (E = Q + 1) := Lib.hid (by rw [HEV.out, hpo, hqo]; rfl)
        clear hpo hp1 hqo hq0
        have C6 := Lib.hid (plus_any (some ⟨ab, ao, none⟩) (some ⟨w3.heap.size, 0, none⟩) NQ c2 1 1 (wds Q) [1] (w3.alloc (.cells #[.int .u32 1] 42)) HNQ.out (by have := HNQ2.out; omega) (HQ3.out.step ((Below.refl w3.heap.size w3).alloc (Nat.le_refl _) _)) rfl (by omega) ((one_rw w3).more (by simp)))
        rw [wds_val, show val [1] = 1 from rfl] at C6
        go_wp2_with fail
        refine C6.out.mono ?_
        rintro e w5 ⟨v5, rfl, ⟨A5, c5, rfl, hc5, r5⟩, b5⟩
        have HB5 := Lib.hid (below_le HB.out (below_le ((Below.refl w3.heap.size w3).alloc (Nat.le_refl _) _) b5))
        obtain ⟨N5, hN5⟩ : ∃ N5, (wds (Q + 1)).length = N5 := ⟨_, rfl⟩
        have hN52 : N5 ≤ 2 := by
          have := nrm_len (two (Q + 1))
          rw [two_wds' (Q + 1) (by have := HPQ.out; have := HPL.out; omega), hN5] at this
          exact this
        rw [hN5] at hc5 ⊢
        have HN5 := Lib.hid hN5
        have HN52 := Lib.hid hN52
        have HR5 := Lib.hid r5
        clear hc5 r5 b5 hN5 hN52 C6
        go_wp2_with fail
        obtain rfl : E = Q + 1 := HE.out
        have K1 := Lib.hid (show Calls Tryd.prog 56 #[.slice A5 N5 c5, .int .i64 1] w5 fun e w' => e = .returned (.int .u64 ((Q + 1) / 4294967296 : Nat)) ∧ w5 = w' from by
          have := rword_any A5 N5 c5 1 (wds (Q + 1)) w5.heap.size w5 HN5.out (by have := HN52.out; omega) HR5.out
          rw [get_one (wds_ws _), wds_val, Nat.mod_eq_of_lt (by have := HR2.out; omega)] at this
          exact this)
        have K0 := Lib.hid (show Calls Tryd.prog 56 #[.slice A5 N5 c5, .int .i64 0] w5 fun e w' => e = .returned (.int .u64 ((Q + 1) % 4294967296 : Nat)) ∧ w5 = w' from by
          have := rword_any A5 N5 c5 0 (wds (Q + 1)) w5.heap.size w5 HN5.out (by have := HN52.out; omega) HR5.out
          rw [get_zero (wds_ws _), wds_val] at this
          exact this)
        have hj := join64 ((Q + 1) / 4294967296) ((Q + 1) % 4294967296) (by have := HR2.out; omega) (by omega)
        rw [show (Q + 1) % 4294967296 + (Q + 1) / 4294967296 * 4294967296 = Q + 1 by omega] at hj
        obtain ⟨yy, hyy⟩ : ∃ yy, (Q + 1) / 4294967296 = yy := ⟨_, rfl⟩
        obtain ⟨zz, hzz⟩ : ∃ zz, (Q + 1) % 4294967296 = zz := ⟨_, rfl⟩
        rw [hyy] at K1 hj
        rw [hzz] at K0 hj
        obtain ⟨e9, he9⟩ : ∃ e9, Q + 1 = e9 := ⟨_, rfl⟩
        rw [he9] at hj C5
        clear hyy hzz he9
        refine K1.out.mono ?_
        rintro e w' ⟨rfl, rfl⟩
        go_wp2_with fail
        refine K0.out.mono ?_
        rintro e w' ⟨rfl, rfl⟩
        go_wp2_with fail
        refine (C5.out _).mono ?_
        rintro e w' ⟨rfl, rfl⟩
        go_wp2
        go_ret
        exact ⟨rfl, HB5.out⟩
    · have HE : Hid (E = Q + 1) := Lib.hid (by rw [HEV.out, hpo]; rfl)
      clear hpo hp1 o1
      have C6 := Lib.hid (plus_any (some ⟨ab, ao, none⟩) (some ⟨w3.heap.size, 0, none⟩) NQ c2 1 1 (wds Q) [1] (w3.alloc (.cells #[.int .u32 1] 42)) HNQ.out (by have := HNQ2.out; omega) (HQ3.out.step ((Below.refl w3.heap.size w3).alloc (Nat.le_refl _) _)) rfl (by omega) ((one_rw w3).more (by simp)))
      rw [wds_val, show val [1] = 1 from rfl] at C6
      go_wp2_with fail
      refine C6.out.mono ?_
      rintro e w5 ⟨v5, rfl, ⟨A5, c5, rfl, hc5, r5⟩, b5⟩
      have HB5 := Lib.hid (below_le HB.out (below_le ((Below.refl w3.heap.size w3).alloc (Nat.le_refl _) _) b5))
      obtain ⟨N5, hN5⟩ : ∃ N5, (wds (Q + 1)).length = N5 := ⟨_, rfl⟩
      have hN52 : N5 ≤ 2 := by
        have := nrm_len (two (Q + 1))
        rw [two_wds' (Q + 1) (by have := HPQ.out; have := HPL.out; omega), hN5] at this
        exact this
      rw [hN5] at hc5 ⊢
      have HN5 := Lib.hid hN5
      have HN52 := Lib.hid hN52
      have HR5 := Lib.hid r5
      clear hc5 r5 b5 hN5 hN52 C6
      go_wp2_with fail
      obtain rfl : E = Q + 1 := HE.out
      have K1 := Lib.hid (show Calls Tryd.prog 56 #[.slice A5 N5 c5, .int .i64 1] w5 fun e w' => e = .returned (.int .u64 ((Q + 1) / 4294967296 : Nat)) ∧ w5 = w' from by
        have := rword_any A5 N5 c5 1 (wds (Q + 1)) w5.heap.size w5 HN5.out (by have := HN52.out; omega) HR5.out
        rw [get_one (wds_ws _), wds_val, Nat.mod_eq_of_lt (by have := HR2.out; omega)] at this
        exact this)
      have K0 := Lib.hid (show Calls Tryd.prog 56 #[.slice A5 N5 c5, .int .i64 0] w5 fun e w' => e = .returned (.int .u64 ((Q + 1) % 4294967296 : Nat)) ∧ w5 = w' from by
        have := rword_any A5 N5 c5 0 (wds (Q + 1)) w5.heap.size w5 HN5.out (by have := HN52.out; omega) HR5.out
        rw [get_zero (wds_ws _), wds_val] at this
        exact this)
      have hj := join64 ((Q + 1) / 4294967296) ((Q + 1) % 4294967296) (by have := HR2.out; omega) (by omega)
      rw [show (Q + 1) % 4294967296 + (Q + 1) / 4294967296 * 4294967296 = Q + 1 by omega] at hj
      obtain ⟨yy, hyy⟩ : ∃ yy, (Q + 1) / 4294967296 = yy := ⟨_, rfl⟩
      obtain ⟨zz, hzz⟩ : ∃ zz, (Q + 1) % 4294967296 = zz := ⟨_, rfl⟩
      rw [hyy] at K1 hj
      rw [hzz] at K0 hj
      obtain ⟨e9, he9⟩ : ∃ e9, Q + 1 = e9 := ⟨_, rfl⟩
      rw [he9] at hj C5
      clear hyy hzz he9
      refine K1.out.mono ?_
      rintro e w' ⟨rfl, rfl⟩
      go_wp2_with fail
      refine K0.out.mono ?_
      rintro e w' ⟨rfl, rfl⟩
      go_wp2_with fail
      refine (C5.out _).mono ?_
      rintro e w' ⟨rfl, rfl⟩
      go_wp2
      go_ret
      exact ⟨rfl, HB5.out⟩
theorem rnear_any (A : Option Addr) (n c : Nat) (l : List Nat) (w : World) (hn : l.length = n) (hc : n ≤ c) (hm : n ≤ 35184372087808) (h : RW w w.heap.size A l) :
    Calls Tryd.prog 48 #[.slice A n c, .int .i64 0] w fun e w' => e = .returned (.float .f64 (fl (val l))) ∧ Below w.heap.size w w' := by
  by_cases h0 : btl l = 0
  · have h1 : nrm l = [] := by
      rcases Classical.em (nrm l = []) with h1 | h1
      · exact h1
      · have := (btl_bounds h.1 h1).2.2; omega
    rw [show val l = 0 by rw [← val_nrm, h1]; rfl, fl_zero]
    exact rnear_zero A n c l w hn hc hm h h0
  · rcases Nat.lt_or_ge 1024 (btl l) with h2 | h2
    · have h1 : nrm l ≠ [] := by intro e; unfold btl at h0; rw [if_pos e] at h0; exact h0 rfl
      obtain ⟨b1, b2, b3⟩ := btl_bounds h.1 h1
      obtain ⟨K, hK⟩ : ∃ K, K = 1024 := ⟨_, rfl⟩
      rw [fl_top K hK (Nat.le_trans (Nat.pow_le_pow_right (by omega) (by omega)) b1)]
      exact rnear_top A n c l w hn hc hm h h2
    · rcases Nat.lt_or_ge 53 (btl l) with h3 | h3
      · exact rnear_high A n c (btl l - 54) l w hn hc hm h (by omega) (by omega)
      · exact rnear_low A n c l w hn hc hm h h3 (by omega)
theorem rfloat_any (A : Option Addr) (n c : Nat) (l : List Nat) (w : World) (hn : l.length = n) (hc : n ≤ c) (hm : n ≤ 35184372087808) (h : RW w w.heap.size A l) :
    Calls Tryd.prog 17 #[.slice A n c] w fun e w' => e = .returned (.float .f64 (fl (val l))) ∧ Below w.heap.size w w' := by
  have C1 := Lib.hid ((rnorm_any A n c l w.heap.size w hn hc (by omega) h).mono (fun e w' x => SlPost.of h.1.nrm x))
  have hle := nrm_len l
  have HLE := Lib.hid (show (nrm l).length ≤ 35184372087808 by omega)
  have HV := Lib.hid (val_nrm l)
  clear hn hc hm h hle
  go_enter Tryd.func17, Tryd.ntmps17
  go_wp2_with fail
  refine C1.out.mono ?_
  rintro e w1 ⟨v1, rfl, ⟨A1, c1, rfl, hc1, r1⟩, hb1⟩
  have C2 := Lib.hid (rnear_any A1 (nrm l).length c1 (nrm l) w1 rfl hc1 HLE.out r1)
  rw [HV.out] at C2
  have HB := Lib.hid hb1
  clear hc1 r1 hb1 C1
  go_wp2_with fail
  refine C2.out.mono ?_
  rintro e w2 ⟨rfl, hb2⟩
  have HB2 := Lib.hid (below_le HB.out hb2)
  clear hb2
  go_wp2
  go_ret
  exact ⟨rfl, HB2.out⟩
end Go.Proofs.YtlabblkonkhmgaaDoor
