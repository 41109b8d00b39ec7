/-
  Log of every float: the special cases, and that no NaN comes in between.
-/
import Derived.Test.YtbinpcoaghpcdaaLg
import Derived.Test.YtbinpcoaghpcdaaRs
namespace Go.Proofs.Ytbinpcoaghpcdaa
open Go.RowKit
theorem float_int {n : Int} {K : Nat} (hK : K = 1074) (h1 : -9007199254740992 < n) (h2 : n < 9007199254740992) : Fin64 (floatOfInt .f64 n) ∧ mg (floatOfInt .f64 n) = n.natAbs * 2 ^ K ∧ fneg (floatOfInt .f64 n) = decide (n < 0) ∧ sv (floatOfInt .f64 n) = n * (2 ^ K : Nat) := by
  have e : floatOfInt .f64 n = Ieee.double.word (decide (n < 0)) (fl n.natAbs) := near_int h1 h2
  obtain ⟨a, b, c⟩ := fl_fin (N := n.natAbs) (by omega) hK
  have hr : fl n.natAbs < 9223372036854775808 := by
    have := a.2
    have h := word_self a.1
    rw [c] at h
    have h' : rung (fl n.natAbs) = fl n.natAbs := h
    omega
  obtain ⟨p1, p2, _⟩ := pos_rung hr
  obtain ⟨c1, c2, c3⟩ := word_rung (decide (n < 0)) hr
  have hm : mg (Ieee.double.word (decide (n < 0)) (fl n.natAbs)) = n.natAbs * 2 ^ K := by
    rw [← b]; unfold mg; rw [c1, p1]
  rw [e]
  refine ⟨⟨c3, by rw [c1]; have := a.2; rw [p1] at this; exact this⟩, hm, c2, ?_⟩
  unfold sv
  rw [c2, hm]
  generalize 2 ^ K = U
  by_cases hn : n < 0
  · rw [decide_eq_true hn, if_pos rfl, Int.natCast_mul, show ((n.natAbs : Nat) : Int) = -n by omega]; grind
  · rw [decide_eq_false hn, if_neg (by simp), Int.natCast_mul, show ((n.natAbs : Nat) : Int) = n by omega]
theorem one_bd : Bd 1074 4607182418800017408 := by
  obtain ⟨K, hK⟩ : ∃ K : Nat, K = 1074 := ⟨_, rfl⟩
  obtain ⟨o1, o2, _⟩ := one_fin hK
  exact Bd.mk' o1 (by rw [o2, hK]; exact Nat.le_refl _) (by omega)
theorem const_bd {c : Nat} (h : c ≤ 4607182418800017408) : Bd 1074 c := by
  have o := one_bd
  obtain ⟨p1, _⟩ := pos_rung (x := c) (by omega)
  obtain ⟨q1, _⟩ := pos_rung (x := 4607182418800017408) (by omega)
  refine ⟨by omega, ?_, by omega⟩
  have h1 := o.le
  unfold mg at h1 ⊢
  rw [q1] at h1
  rw [p1]
  rcases Nat.eq_or_lt_of_le h with h2 | h2
  · rw [h2]; exact h1
  · exact Nat.le_trans (Nat.le_of_lt (fmag_step h2)) h1
theorem int_bd {n : Int} {b : Nat} (hb : b ≤ 50) (h : n.natAbs ≤ 2 ^ b) : Bd (1074 + b) (floatOfInt .f64 n) := by
  obtain ⟨K, hK⟩ : ∃ K : Nat, K = 1074 := ⟨_, rfl⟩
  have h50 : 2 ^ b ≤ 2 ^ 50 := Nat.pow_le_pow_right (by omega) hb
  have e50 : (2 : Nat) ^ 50 = 1125899906842624 := by decide
  obtain ⟨a, c, _⟩ := float_int (n := n) hK (by omega) (by omega)
  refine Bd.mk' a ?_ (by omega)
  rw [c, ← hK, Nat.pow_add, Nat.mul_comm (2 ^ K)]
  exact Nat.mul_le_mul_right _ h
theorem lS_ok {z : Nat} (hz : Bd 1078 z) : (∀ j, j ≤ 12 → Bd (1074 + 5 * j) (lS z j)) ∧ ∀ j, j < 12 → ∃ d q, Ieee.double.mul (lS z j) z = some d ∧ Ieee.double.div 4607182418800017408 (floatOfInt .f64 (23 - 2 * (j : Int))) = some q ∧ Ieee.double.add d q = some (lS z (j + 1)) := by
  obtain ⟨K, hK⟩ : ∃ K : Nat, K = 1074 := ⟨_, rfl⟩
  have step : ∀ j, j < 12 → Bd (1074 + 5 * j) (lS z j) → Ieee.double.mul (lS z j) z = some (mulF (lS z j) z) ∧ Ieee.double.div 4607182418800017408 (floatOfInt .f64 (23 - 2 * (j : Int))) = some (divF 4607182418800017408 (floatOfInt .f64 (23 - 2 * (j : Int)))) ∧ Ieee.double.add (mulF (lS z j) z) (divF 4607182418800017408 (floatOfInt .f64 (23 - 2 * (j : Int)))) = some (lS z (j + 1)) ∧ Bd (1074 + 5 * (j + 1)) (lS z (j + 1)) := by
    intro j hj h
    obtain ⟨a1, a2⟩ := mulF_B (c := 1074 + 5 * j + 4) h hz (by omega) (by omega)
    obtain ⟨f1, f2, _⟩ := float_int (n := 23 - 2 * (j : Int)) hK (by omega) (by omega)
    obtain ⟨b1, b2⟩ := divF_B (b := K) (c := 1074) one_bd f1 (by rw [f2]; exact Nat.le_mul_of_pos_left _ (by omega)) (by omega) (by omega)
    obtain ⟨c1, c2⟩ := addF_B a2 (b2.mono (k := 1074 + 5 * j + 4) (by omega) (by omega)) (by omega)
    exact ⟨a1, b1, c1, c2⟩
  have all : ∀ j, j ≤ 12 → Bd (1074 + 5 * j) (lS z j) := by
    intro j
    induction j with
    | zero => intro _; exact const_bd (c := 4585925428558828667) (by omega)
    | succ j ih => intro h; exact (step j (by omega) (ih (by omega))).2.2.2
  exact ⟨all, fun j hj => by obtain ⟨a, b, c, _⟩ := step j hj (all j (by omega)); exact ⟨_, _, a, b, c⟩⟩
/-- 1 and a number that isn't below 0. -/
theorem add_one_ge {f n : Nat} (hf : Bd n f) (hn : fneg f = false) (h1 : 1074 ≤ n) (h2 : n ≤ 2096) : Ieee.double.add f 4607182418800017408 = some (addF f 4607182418800017408) ∧ Bd (n + 1) (addF f 4607182418800017408) ∧ 2 ^ 1074 ≤ mg (addF f 4607182418800017408) := by
  obtain ⟨K, hK⟩ : ∃ K : Nat, K = 1074 := ⟨_, rfl⟩
  obtain ⟨L, hL⟩ : ∃ L : Nat, L = 2098 := ⟨_, rfl⟩
  obtain ⟨a, b⟩ := addF_B hf (one_bd.mono h1 (by omega)) h2
  refine ⟨a, b, ?_⟩
  obtain ⟨o1, _, _, o4⟩ := one_fin hK
  obtain ⟨_, _, _, c⟩ := addF_core hf.fin o1
  have hs : sv f = (mg f : Int) := by unfold sv; rw [hn, if_neg (by simp)]
  have := nearly_floor (M := 1) (j := K) c (by omega) hL (by rw [Nat.one_mul]; exact Nat.pow_lt_pow_right (by omega) (by omega)) (by rw [o4, hs]; omega)
  rw [Nat.one_mul] at this
  rw [← hK]; exact this
theorem log_q {f : Nat} {n : Int} (hf : Bd 1075 f) (hs : fneg f = false) (hn : n.natAbs ≤ 2048) : ∃ d1 d2 s z ss tp e lo t hi u, LogQ f d1 d2 s z ss tp e lo t hi u n ∧ Bd 1139 u := by
  obtain ⟨a1, a2⟩ := subF_B hf (one_bd.mono (k := 1075) (by omega) (by omega)) (by omega)
  obtain ⟨b1, b2, b3⟩ := add_one_ge hf hs (by omega) (by omega)
  obtain ⟨c1, c2⟩ := divF_B (b := 1074) (c := 1076) a2 b2.fin b3 (by omega) (by omega)
  obtain ⟨d1, d2⟩ := mulF_B (c := 1078) c2 c2 (by omega) (by omega)
  obtain ⟨e1, e2⟩ := addF_B c2 c2 (by omega)
  obtain ⟨l1, l2⟩ := lS_ok d2
  obtain ⟨f1, f2⟩ := mulF_B (c := 1137) e2 (l1 12 (by omega)) (by omega) (by omega)
  have g := int_bd (n := n) (b := 11) (by omega) hn
  obtain ⟨h1, h2⟩ := mulF_B (c := 1137) g (const_bd (c := 4461442080421002358) (by omega)) (by omega) (by omega)
  obtain ⟨i1, i2⟩ := addF_B f2 h2 (by omega)
  obtain ⟨j1, j2⟩ := mulF_B (c := 1138) g (const_bd (c := 4604418534311723008) (by omega)) (by omega) (by omega)
  obtain ⟨k1, k2⟩ := addF_B j2 i2 (by omega)
  exact ⟨_, _, _, _, _, _, _, _, _, _, _, ⟨a1, b1, c1, d1, e1, f1, rfl, h1, i1, j1, k1, l2⟩, k2⟩
theorem infm_any (w : World) : Calls Try.prog 37 #[.int .i64 (-1)] w fun e w' => e = .returned (.float .f64 18442240474082181120) ∧ w = w' := by
  have h2 : (callFunc 34 #[.int .u64 18442240474082181120]).run Try.prog w = .ok (.value (.float .f64 18442240474082181120)) w := f64from_run 18442240474082181120 w
  go_enter Try.func37, Try.ntmps37
  go_wp2
  go_ret
  exact ⟨by rfl, rfl⟩
set_option maxRecDepth 100000 in
theorem fLog_nan (x : Nat) (w : World) (e1 : fnan x = true) : Calls Try.prog 13 #[.float .f64 x] w fun e w' => e = .returned (.float .f64 9221120237041090560) ∧ w = w' := by
  have C1 := Lib.hid (isNaN_any x w)
  have C2 := Lib.hid (const_any 9221120237041090560 w)
  rw [e1] at C1
  clear e1
  go_enter Try.func13, Try.ntmps13
  go_wp2_with fail
  refine C1.out.mono ?_
  rintro e w' ⟨rfl, rfl⟩
  go_wp2_with fail
  refine C2.out.mono ?_
  rintro e w' ⟨rfl, rfl⟩
  go_wp2
  go_ret
  exact ⟨rfl, rfl⟩
set_option maxRecDepth 100000 in
theorem fLog_neg (x : Nat) (w : World) (e1 : fnan x = false) (g1 : (FloatKind.f64.format.order x 0 == some .lt) = true) : Calls Try.prog 13 #[.float .f64 x] w fun e w' => e = .returned (.float .f64 9221120237041090560) ∧ w = w' := by
  have C1 := Lib.hid (isNaN_any x w)
  have C2 := Lib.hid (const_any 9221120237041090560 w)
  rw [e1] at C1
  clear e1
  go_enter Try.func13, Try.ntmps13
  go_wp2_with fail
  refine C1.out.mono ?_
  rintro e w' ⟨rfl, rfl⟩
  go_wp2_with fail
  refine C2.out.mono ?_
  rintro e w' ⟨rfl, rfl⟩
  go_wp2
  go_ret
  exact ⟨rfl, rfl⟩
set_option maxRecDepth 100000 in
theorem fLog_zero (x : Nat) (w : World) (e1 : fnan x = false) (g1 : (FloatKind.f64.format.order x 0 == some .lt) = false) (g2 : (FloatKind.f64.format.order x 0 == some .eq) = true) : Calls Try.prog 13 #[.float .f64 x] w fun e w' => e = .returned (.float .f64 18442240474082181120) ∧ w = w' := by
  have C1 := Lib.hid (isNaN_any x w)
  have C2 := Lib.hid (infm_any w)
  rw [e1] at C1
  clear e1
  go_enter Try.func13, Try.ntmps13
  go_wp2_with fail
  refine C1.out.mono ?_
  rintro e w' ⟨rfl, rfl⟩
  go_wp2_with fail
  refine C2.out.mono ?_
  rintro e w' ⟨rfl, rfl⟩
  go_wp2
  go_ret
  exact ⟨rfl, rfl⟩
set_option maxRecDepth 100000 in
theorem fLog_inf (x : Nat) (w : World) (e1 : fnan x = false) (g1 : (FloatKind.f64.format.order x 0 == some .lt) = false) (g2 : (FloatKind.f64.format.order x 0 == some .eq) = false) (g3 : (finf x && !fneg x) = true) : Calls Try.prog 13 #[.float .f64 x] w fun e w' => e = .returned (.float .f64 x) ∧ w = w' := by
  have C1 := Lib.hid (isNaN_any x w)
  have C2 := Lib.hid (isInf1_any x w)
  rw [e1] at C1
  rw [g3] at C2
  clear e1 g3
  go_enter Try.func13, Try.ntmps13
  go_wp2_with fail
  refine C1.out.mono ?_
  rintro e w' ⟨rfl, rfl⟩
  go_wp2_with fail
  refine C2.out.mono ?_
  rintro e w' ⟨rfl, rfl⟩
  go_wp2
  go_ret
  exact ⟨rfl, rfl⟩
set_option maxRecDepth 100000 in
theorem vLog_nan (x : Nat) (w : World) (e1 : fnan x = true) : Calls Try.prog 14 #[.float .f64 x] w fun e w' => e = .returned (.float .f64 9221120237041090560) ∧ w = w' := by
  have C1 := Lib.hid (isNaN_any x w)
  have C2 := Lib.hid (vnan_any w)
  rw [e1] at C1
  clear e1
  go_enter Try.func14, Try.ntmps14
  go_wp2_with fail
  refine C1.out.mono ?_
  rintro e w' ⟨rfl, rfl⟩
  go_wp2_with fail
  refine C2.out.mono ?_
  rintro e w' ⟨rfl, rfl⟩
  go_wp2
  go_ret
  exact ⟨rfl, rfl⟩
set_option maxRecDepth 100000 in
theorem vLog_neg (x : Nat) (w : World) (e1 : fnan x = false) (g1 : (FloatKind.f64.format.order x 0 == some .lt) = true) : Calls Try.prog 14 #[.float .f64 x] w fun e w' => e = .returned (.float .f64 9221120237041090560) ∧ w = w' := by
  have C1 := Lib.hid (isNaN_any x w)
  have C2 := Lib.hid (vnan_any w)
  rw [e1] at C1
  clear e1
  go_enter Try.func14, Try.ntmps14
  go_wp2_with fail
  refine C1.out.mono ?_
  rintro e w' ⟨rfl, rfl⟩
  go_wp2_with fail
  refine C2.out.mono ?_
  rintro e w' ⟨rfl, rfl⟩
  go_wp2
  go_ret
  exact ⟨rfl, rfl⟩
set_option maxRecDepth 100000 in
theorem vLog_zero (x : Nat) (w : World) (e1 : fnan x = false) (g1 : (FloatKind.f64.format.order x 0 == some .lt) = false) (g2 : (FloatKind.f64.format.order x 0 == some .eq) = true) : Calls Try.prog 14 #[.float .f64 x] w fun e w' => e = .returned (.float .f64 18442240474082181120) ∧ w = w' := by
  have C1 := Lib.hid (isNaN_any x w)
  have C2 := Lib.hid (infm_any w)
  rw [e1] at C1
  clear e1
  go_enter Try.func14, Try.ntmps14
  go_wp2_with fail
  refine C1.out.mono ?_
  rintro e w' ⟨rfl, rfl⟩
  go_wp2_with fail
  refine C2.out.mono ?_
  rintro e w' ⟨rfl, rfl⟩
  go_wp2
  go_ret
  exact ⟨rfl, rfl⟩
set_option maxRecDepth 100000 in
theorem vLog_inf (x : Nat) (w : World) (e1 : fnan x = false) (g1 : (FloatKind.f64.format.order x 0 == some .lt) = false) (g2 : (FloatKind.f64.format.order x 0 == some .eq) = false) (g3 : (finf x && !fneg x) = true) : Calls Try.prog 14 #[.float .f64 x] w fun e w' => e = .returned (.float .f64 x) ∧ w = w' := by
  have C1 := Lib.hid (isNaN_any x w)
  have C2 := Lib.hid (isInf1_any x w)
  rw [e1] at C1
  rw [g3] at C2
  clear e1 g3
  go_enter Try.func14, Try.ntmps14
  go_wp2_with fail
  refine C1.out.mono ?_
  rintro e w' ⟨rfl, rfl⟩
  go_wp2_with fail
  refine C2.out.mono ?_
  rintro e w' ⟨rfl, rfl⟩
  go_wp2
  go_ret
  exact ⟨rfl, rfl⟩
def LogIs (x u : Nat) : Prop := u < 18446744073709551616 ∧ (∀ w : World, Calls Try.prog 13 #[.float .f64 x] w fun e w' => e = .returned (.float .f64 u) ∧ w = w') ∧ (∀ w : World, Calls Try.prog 14 #[.float .f64 x] w fun e w' => e = .returned (.float .f64 u) ∧ w = w')
/-- Log of a finite float above 0 is finite. -/
theorem log_fin {x : Nat} (h0 : 0 < x) (hx : x < 9218868437227405312) : ∃ u, LogIs x u ∧ Bd 1139 u := by
  obtain ⟨z, c, M, k, h⟩ := nf_of h0 hx
  obtain ⟨p1, p2, _⟩ := pos_rung (x := x) (by omega)
  have e1 : fnan x = false := by unfold fnan; rw [p1]; exact decide_eq_false (by omega)
  have g1 : (FloatKind.f64.format.order x 0 == some .lt) = false := by rw [ord_below, p2]; simp
  have g2 : (FloatKind.f64.format.order x 0 == some .eq) = false := by rw [ord_zero, p1]; exact decide_eq_false (by omega)
  have g3 : (finf x && !fneg x) = false := by rw [show finf x = false from by unfold finf; rw [p1]; exact decide_eq_false (by omega)]; rfl
  have hM := h.lo; have hM2 := h.hi; have hz := h.hz; have ht := h.top
  have hk : k ≤ 2046 := by omega
  have hc : c ≤ 52 := by rcases h.way with ⟨a, _⟩ | ⟨a, _⟩ <;> omega
  have C9 := Lib.hid (fun W => Frexp_any h0 hx h W)
  obtain ⟨f0, hf0⟩ : ∃ f0, 4598175219545276416 + M = f0 := ⟨_, rfl⟩
  obtain ⟨n0, hn0⟩ : ∃ n0, (k : Int) - 1021 - (c : Int) = n0 := ⟨_, rfl⟩
  rw [hf0, hn0] at C9
  obtain ⟨q1, q2, _⟩ := pos_rung (x := f0) (by omega)
  have bf : Bd 1074 f0 := const_bd (by omega)
  cases g4 : (FloatKind.f64.format.order f0 4604544271217802189 == some .lt)
  · obtain ⟨d1, d2, s, z, ss, tp, e, lo, t, hi, u, Q, B⟩ := log_q (f := f0) (n := n0) (bf.mono (by omega) (by omega)) q2 (by omega)
    exact ⟨u, ⟨B.wd, fun w => fLog_whole x f0 f0 _ _ _ _ _ _ _ _ _ _ u n0 n0 w Q e1 g1 g2 g3 C9 g4 rfl rfl, fun w => vLog_whole x f0 f0 _ _ _ _ _ _ _ _ _ _ u n0 n0 w Q e1 g1 g2 g3 C9 g4 rfl rfl⟩, B⟩
  · have b2 : Bd 1075 4611686018427387904 := by
      obtain ⟨K, hK⟩ : ∃ K : Nat, K = 1074 := ⟨_, rfl⟩
      have := int_bd (n := 2) (b := 1) (by omega) (by decide)
      rwa [show floatOfInt .f64 2 = 4611686018427387904 by decide +kernel] at this
    obtain ⟨K, hK⟩ : ∃ K : Nat, K = 1074 := ⟨_, rfl⟩
    obtain ⟨a1, a2⟩ := mulF_B (c := 1075) bf b2 (by omega) (by omega)
    obtain ⟨_, _, a3, _⟩ := mulF_core bf.fin b2.fin hK
    rw [q2, show fneg 4611686018427387904 = false by decide] at a3
    obtain ⟨d1, d2, s, z, ss, tp, e, lo, t, hi, u, Q, B⟩ := log_q (n := n0 - 1) a2 a3 (by omega)
    exact ⟨u, ⟨B.wd, fun w => fLog_half x f0 _ _ _ _ _ _ _ _ _ _ _ u n0 _ w Q e1 g1 g2 g3 C9 g4 (IntWalk.i64_in _ (by omega)) a1, fun w => vLog_half x f0 _ _ _ _ _ _ _ _ _ _ _ u n0 _ w Q e1 g1 g2 g3 C9 g4 (IntWalk.i64_in _ (by omega)) a1⟩, B⟩
theorem log_both {x : Nat} (hw : x < 18446744073709551616) : ∃ u, LogIs x u := by
  cases e1 : fnan x
  · cases g1 : (FloatKind.f64.format.order x 0 == some .lt)
    · cases g2 : (FloatKind.f64.format.order x 0 == some .eq)
      · cases g3 : (finf x && !fneg x)
        · rw [ord_below, e1] at g1
          rw [ord_zero] at g2
          have h0 := of_decide_eq_false g2
          have hs : fneg x = false := by
            cases h : fneg x
            · rfl
            · rw [h, decide_eq_true (by omega)] at g1; cases g1
          rw [hs] at g3
          have hx := word_self hw
          rw [hs] at hx
          have hx' : rung x = x := hx
          have hi : finf x = false := by simpa using g3
          have := fin_of hi e1
          obtain ⟨u, hu, _⟩ := log_fin (x := x) (by omega) (by omega)
          exact ⟨u, hu⟩
        · exact ⟨x, hw, fun w => fLog_inf x w e1 g1 g2 g3, fun w => vLog_inf x w e1 g1 g2 g3⟩
      · exact ⟨_, by omega, fun w => fLog_zero x w e1 g1 g2, fun w => vLog_zero x w e1 g1 g2⟩
    · exact ⟨_, by omega, fun w => fLog_neg x w e1 g1, fun w => vLog_neg x w e1 g1⟩
  · exact ⟨_, by omega, fun w => fLog_nan x w e1, fun w => vLog_nan x w e1⟩
end Go.Proofs.Ytbinpcoaghpcdaa
