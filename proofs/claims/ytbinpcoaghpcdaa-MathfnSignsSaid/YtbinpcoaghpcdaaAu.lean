/-
  Atan of every float: no NaN comes in between; how great it is.
-/
import Derived.Test.YtbinpcoaghpcdaaAt
namespace Go.Proofs.Ytbinpcoaghpcdaa
open Go.RowKit
def dS (j : Nat) : Nat := divF 4607182418800017408 (floatOfInt .f64 (39 - 2 * (j : Int)))
theorem dS_tab : ∀ j : Fin 20, Ieee.double.div 4607182418800017408 (floatOfInt .f64 (39 - 2 * ((j.val : Nat) : Int))) = some (dS j.val) ∧ dS j.val ≤ 4607182418800017408 := by decide +kernel
theorem dS_up : ∀ j : Fin 19, dS j.val ≤ dS (j.val + 1) := by decide +kernel
theorem fmag_le {r s : Nat} (h : r ≤ s) : fmag r ≤ fmag s := by
  rcases Nat.eq_or_lt_of_le h with h1 | h1
  · rw [h1]; exact Nat.le_refl _
  · exact Nat.le_of_lt (fmag_step h1)
theorem tS_ok {z J : Nat} (hz : Fin64 z) (hn : fneg z = false) (hJ : J = 1071) (h : mg z ≤ 8 * 2 ^ J) : (∀ j : Nat, j < 20 → ∃ q f, Ieee.double.div 4607182418800017408 (floatOfInt .f64 (39 - 2 * (j : Int))) = some q ∧ Ieee.double.mul z (tS z j) = some f ∧ Ieee.double.sub q f = some (tS z (j + 1))) ∧ Fin64 (tS z 20) ∧ mg (tS z 20) ≤ 8 * 2 ^ J := by
  obtain ⟨K, hK⟩ : ∃ K : Nat, K = 1074 := ⟨_, rfl⟩
  have hKJ : 2 ^ K = 8 * 2 ^ J := by rw [show K = 3 + J by omega, Nat.pow_add]
  have step : ∀ j : Nat, j < 20 → (Fin64 (tS z j) ∧ fneg (tS z j) = false ∧ rung (tS z j) ≤ dS j) → ∃ f, Ieee.double.mul z (tS z j) = some f ∧ Ieee.double.sub (dS j) f = some (tS z (j + 1)) ∧ Fin64 (tS z (j + 1)) ∧ fneg (tS z (j + 1)) = false ∧ rung (tS z (j + 1)) ≤ dS j := by
    rintro j hj ⟨p1, p2, p3⟩
    obtain ⟨t1, t2⟩ := dS_tab ⟨j, hj⟩
    dsimp only at t1 t2
    obtain ⟨a1, a2, a3, a4⟩ := mulF_core hz p1 hK
    rw [hn, p2] at a3
    have a5 : rung (mulF z (tS z j)) ≤ rung (tS z j) := nearly_le (Nat.two_pow_pos K) a4 (by
      show mg z * mg (tS z j) ≤ mg (tS z j) * 2 ^ K
      rw [Nat.mul_comm, hKJ]
      exact Nat.mul_le_mul_left _ h)
    have fF : Fin64 (mulF z (tS z j)) := ⟨a2, by have := p1.2; omega⟩
    obtain ⟨d1, d2, d3⟩ := pos_fin (v := dS j) (by omega)
    obtain ⟨b1, b2, b3, b4⟩ := subF_core d1 fF
    have s1 : sv (dS j) = (mg (dS j) : Int) := by unfold sv; rw [d3, if_neg (by simp)]
    have s2 : sv (mulF z (tS z j)) = (mg (mulF z (tS z j)) : Int) := by unfold sv; rw [a3]; simp
    have m1 : mg (mulF z (tS z j)) ≤ mg (dS j) := by unfold mg; rw [d2]; exact fmag_le (by omega)
    have hr : rung (subF (dS j) (mulF z (tS z j))) ≤ dS j := nearly_le (by omega) b4 (by
      have : fmag (dS j) = mg (dS j) := by unfold mg; rw [d2]
      rw [this, s1, s2]; omega)
    have hs : tS z (j + 1) = subF (dS j) (mulF z (tS z j)) := rfl
    rw [hs]
    refine ⟨_, a1, b1, ⟨b2, by omega⟩, ?_, hr⟩
    rw [b3, s1, s2]
    split
    · rw [d3]; rfl
    · exact decide_eq_false (by omega)
  have all : ∀ j : Nat, j < 20 → Fin64 (tS z j) ∧ fneg (tS z j) = false ∧ rung (tS z j) ≤ dS j := by
    intro j
    induction j with
    | zero => intro _; exact ⟨(pos_fin (v := 0) (by omega)).1, by show fneg 0 = false; decide, by show rung 0 ≤ _; rw [show rung 0 = 0 by decide]; exact Nat.zero_le _⟩
    | succ j ih =>
      intro hj
      obtain ⟨f, _, _, a, b, c⟩ := step j (by omega) (ih (by omega))
      exact ⟨a, b, Nat.le_trans c (dS_up ⟨j, by omega⟩)⟩
  refine ⟨fun j hj => ?_, ?_⟩
  · obtain ⟨f, a, b, _⟩ := step j hj (all j hj)
    exact ⟨_, f, (dS_tab ⟨j, hj⟩).1, a, b⟩
  · obtain ⟨f, _, _, a, b, c⟩ := step 19 (by omega) (all 19 (by omega))
    refine ⟨a, ?_⟩
    have h1 := (dS_tab ⟨19, by omega⟩).2
    dsimp only at h1
    have h2 : fmag 4607182418800017408 = 8 * 2 ^ J := by rw [fmag_one hK, hKJ]
    rw [← h2]
    exact fmag_le (Nat.le_trans c h1)
theorem gt_frank {a c : Nat} (ha : a ≤ 9218868437227405312) (hc : c ≤ 9218868437227405312) : (FloatKind.f64.format.order a c == some .gt) = decide (c < a) := by
  obtain ⟨p1, p2, p3⟩ := pos_rung (x := a) (by omega)
  obtain ⟨q1, q2, q3⟩ := pos_rung (x := c) (by omega)
  rw [(ord_real (x := a) (c := c) (by unfold fnan; rw [p1]; exact decide_eq_false (by omega)) (by unfold fnan; rw [q1]; exact decide_eq_false (by omega))).1, p3, q3]
  exact decide_eq_decide.2 (by omega)
theorem atY_ok {a J : Nat} (h0 : 0 < a) (ha : a ≤ 9218868437227405312) (hJ : J = 1071) : (far1 a = true → Ieee.double.div 13830554455654793216 a = some (atY a)) ∧ (far1 a = false → far2 a = true → Ieee.double.sub a 4607182418800017408 = some (subF a 4607182418800017408) ∧ Ieee.double.add a 4607182418800017408 = some (addF a 4607182418800017408) ∧ Ieee.double.div (subF a 4607182418800017408) (addF a 4607182418800017408) = some (atY a)) ∧ Fin64 (atY a) ∧ mg (atY a) ≤ 8 * 2 ^ J := by
  obtain ⟨K, hK⟩ : ∃ K : Nat, K = 1074 := ⟨_, rfl⟩
  have hKJ : 2 ^ K = 8 * 2 ^ J := by rw [show K = 3 + J by omega, Nat.pow_add]
  have hone : fmag 4607182418800017408 = 2 ^ K := fmag_one hK
  obtain ⟨o1, o2, o3, o4⟩ := one_fin hK
  have g1 : far1 a = decide (4612618744449965542 < a) := gt_frank ha (by omega)
  have g2 : far2 a = decide (4601133428098527026 < a) := gt_frank ha (by omega)
  cases f1 : far1 a
  · rw [f1] at g1
    have b1 := of_decide_eq_false g1.symm
    obtain ⟨p1, p2, p3⟩ := pos_fin (v := a) (by omega)
    refine ⟨fun h => (by cases h), ?_⟩
    cases f2 : far2 a
    · rw [f2] at g2
      have b2 := of_decide_eq_false g2.symm
      have hy : atY a = a := by unfold atY; rw [f1, f2]; rfl
      refine ⟨fun _ h => (by cases h), ?_, ?_⟩
      · rw [hy]; exact p1
      · rw [hy, ← hKJ, ← hone]; unfold mg; rw [p2]; exact fmag_le (by omega)
    · have hy : atY a = divF (subF a 4607182418800017408) (addF a 4607182418800017408) := by unfold atY; rw [f1, f2]; rfl
      obtain ⟨c1, c2, c3, c4⟩ := subF_core p1 o1
      obtain ⟨d1, d2, d3, d4⟩ := addF_core p1 o1
      have sa : sv a = (mg a : Int) := by unfold sv; rw [p3, if_neg (by simp)]
      have ma : mg a = fmag a := by unfold mg; rw [p2]
      rw [sa, o4] at c4 d4
      obtain ⟨L, hL⟩ : ∃ L : Nat, L = 2098 := ⟨_, rfl⟩
      have dB1 : a ≤ rung (addF a 4607182418800017408) := nearly_ge d4 (by omega) (by rw [← ma]; omega)
      have dB2 : 4607182418800017408 ≤ rung (addF a 4607182418800017408) := nearly_ge d4 (by omega) (by rw [hone]; omega)
      have dA : rung (subF a 4607182418800017408) ≤ rung (addF a 4607182418800017408) := by
        rcases Nat.le_total a 4607182418800017408 with h | h
        · have hf := fmag_le h
          rw [hone, ← ma] at hf
          exact Nat.le_trans (nearly_le (R := 4607182418800017408) (by omega) c4 (by rw [hone]; omega)) dB2
        · have hf := fmag_le h
          rw [hone, ← ma] at hf
          exact Nat.le_trans (nearly_le (R := a) (by omega) c4 (by rw [← ma]; omega)) dB1
      have dtop : rung (addF a 4607182418800017408) < 9218868437227405312 := by
        refine Nat.lt_of_le_of_lt (nearly_le (R := 4621819117588971520) (by omega) d4 ?_) (by omega)
        obtain ⟨_, t2, _⟩ := fl_fin (N := 10) (by omega) hK
        have e : mg (fl 10) = fmag 4621819117588971520 := by rw [show fl 10 = 4621819117588971520 by decide +kernel]; unfold mg; rw [show rung 4621819117588971520 = 4621819117588971520 by decide]
        obtain ⟨_, t3, _⟩ := fl_fin (N := 3) (by omega) hK
        have e3 : mg (fl 3) = fmag 4613937818241073152 := by rw [show fl 3 = 4613937818241073152 by decide +kernel]; unfold mg; rw [show rung 4613937818241073152 = 4613937818241073152 by decide]
        have hf := fmag_le (show a ≤ 4613937818241073152 by omega)
        rw [← e3, t3] at hf
        rw [← e, t2, ma]
        omega
      have fA : Fin64 (subF a 4607182418800017408) := ⟨c2, by omega⟩
      have fB : Fin64 (addF a 4607182418800017408) := ⟨d2, dtop⟩
      have mB : 0 < mg (addF a 4607182418800017408) := fmag_pos.2 (by omega)
      obtain ⟨e1, e2, e3⟩ := div_bd (m := 8) (j := J) fA fB mB hK (by omega) (by omega) (by
        rw [← hKJ, Nat.mul_comm]
        exact Nat.mul_le_mul_left _ (fmag_le dA))
      rw [hy]
      exact ⟨fun _ _ => ⟨c1, d1, e1⟩, e2, e3⟩
  · rw [f1] at g1
    have b1 := of_decide_eq_true g1.symm
    have hy : atY a = divF 13830554455654793216 a := by unfold atY; rw [f1]; rfl
    rw [hy]
    rcases Nat.eq_or_lt_of_le ha with h | h
    · have e : Ieee.double.div 13830554455654793216 9218868437227405312 = some 9223372036854775808 := by decide +kernel
      have e2 : divF 13830554455654793216 9218868437227405312 = 9223372036854775808 := by unfold divF; rw [e]; rfl
      rw [h, e2]
      refine ⟨fun _ => e, fun h => (by cases h), ⟨by omega, by decide⟩, ?_⟩
      rw [show mg 9223372036854775808 = 0 by decide]; exact Nat.zero_le _
    · obtain ⟨p1, p2, p3⟩ := pos_fin (v := a) h
      have n1 : Fin64 13830554455654793216 ∧ mg 13830554455654793216 = 2 ^ K := by
        refine ⟨⟨by omega, by decide⟩, ?_⟩
        unfold mg
        rw [show rung 13830554455654793216 = 4607182418800017408 by decide, hone]
      obtain ⟨e1, e2, e3⟩ := div_bd (m := 8) (j := J) n1.1 p1 (fmag_pos.2 (by omega)) hK (by omega) (by omega) (by
        rw [n1.2, ← hKJ]
        refine Nat.mul_le_mul_left _ ?_
        rw [← hone]; unfold mg; rw [p2]; exact fmag_le (by omega))
      exact ⟨fun _ => e1, fun h => (by cases h), e2, e3⟩
theorem at_q {a J : Nat} (h0 : 0 < a) (ha : a ≤ 9218868437227405312) (hJ : J = 1071) : AtQ a ∧ Fin64 (atV a) ∧ mg (atV a) ≤ 24 * 2 ^ J := by
  obtain ⟨K, hK⟩ : ∃ K : Nat, K = 1074 := ⟨_, rfl⟩
  obtain ⟨L, hL⟩ : ∃ L : Nat, L = 2098 := ⟨_, rfl⟩
  have hKJ : 2 ^ K = 8 * 2 ^ J := by rw [show K = 3 + J by omega, Nat.pow_add]
  obtain ⟨y1, y2, y3, y4⟩ := atY_ok h0 ha hJ
  obtain ⟨z1, z2, z3⟩ := mul_bd (m := 8) (j := J) y3 y3 hK (by omega) (by omega) (by rw [hKJ]; exact Nat.mul_le_mul y4 y4)
  obtain ⟨_, _, z4, _⟩ := mulF_core y3 y3 hK
  rw [Bool.xor_self] at z4
  obtain ⟨l1, l2, l3⟩ := tS_ok z2 z4 hJ z3
  obtain ⟨p1, p2, p3⟩ := mul_bd (m := 8) (j := J) y3 l2 hK (by omega) (by omega) (by rw [hKJ]; exact Nat.mul_le_mul y4 l3)
  have hb : Fin64 (atB a) ∧ mg (atB a) ≤ 16 * 2 ^ J := by
    have key : ∀ c, c ≤ 4611686018427387904 → Fin64 c ∧ mg c ≤ 16 * 2 ^ J := by
      intro c hc
      obtain ⟨q1, q2, _⟩ := pos_fin (v := c) (by omega)
      refine ⟨q1, ?_⟩
      obtain ⟨t1, t2⟩ := two_fin hK
      have t3 : fmag 4611686018427387904 = 2 * 2 ^ K := by rw [← t2]; unfold mg; rw [show rung 4611686018427387904 = 4611686018427387904 by decide]
      have := fmag_le hc
      rw [t3, hKJ] at this
      unfold mg; rw [q2]; omega
    unfold atB
    split
    · exact key _ (by omega)
    · split
      · exact key _ (by omega)
      · exact key _ (by omega)
  obtain ⟨a1, a2, _, a4⟩ := addF_core hb.1 p2
  have s1 := sv_abs (atB a)
  have s2 := sv_abs (mulF (atY a) (tS (mulF (atY a) (atY a)) 20))
  have hb2 := hb.2
  have v1 := nearly_cap (M := 24) (j := J) (by omega) a4 (by omega) (by rw [Nat.mul_one]; omega)
  have vF : Fin64 (atV a) := by
    refine ⟨a2, (fmag_fin hL).1 (Nat.lt_of_le_of_lt v1 ?_)⟩
    have h1 : 2 ^ (J + 5) ≤ 2 ^ L := Nat.pow_le_pow_right (by omega) (by omega)
    have h2 := Nat.two_pow_pos J
    rw [Nat.pow_add] at h1
    omega
  exact ⟨⟨y1, y2, z1, l1, p1, a1, a2⟩, vF, v1⟩
def atU (x : Nat) : Nat := if fnan x = true then 9221120237041090560 else if rung x = 0 then x else Ieee.double.word (fneg x) (rung (atV (rung x)))
theorem rung_real {x : Nat} (nx : fnan x = false) : rung x ≤ 9218868437227405312 := by unfold fnan at nx; have := of_decide_eq_false nx; omega
theorem fAtan_nan (x : Nat) (w : World) (nx : fnan x = true) : Calls Try.prog 22 #[.float .f64 x] w fun e w' => e = .returned (.float .f64 9221120237041090560) ∧ w = w' := by
  have CX := Lib.hid (fun W => isNaN_any x W)
  rw [nx] at CX
  have CQ := Lib.hid (fun W => const_any 9221120237041090560 W)
  clear nx
  go_enter Try.func22, Try.ntmps22
  go_wp2_with fail
  refine (CX.out _).mono ?_
  rintro e w' ⟨rfl, rfl⟩
  go_wp2_with fail
  refine (CQ.out _).mono ?_
  rintro e w' ⟨rfl, rfl⟩
  go_wp2
  go_ret
  exact ⟨rfl, rfl⟩
theorem fAtan_zero (x : Nat) (w : World) (nx : fnan x = false) (h0 : (FloatKind.f64.format.order x 0 == some .eq) = true) : Calls Try.prog 22 #[.float .f64 x] w fun e w' => e = .returned (.float .f64 x) ∧ w = w' := by
  have CX := Lib.hid (fun W => isNaN_any x W)
  rw [nx] at CX
  clear nx
  go_enter Try.func22, Try.ntmps22
  go_wp2_with fail
  refine (CX.out _).mono ?_
  rintro e w' ⟨rfl, rfl⟩
  go_wp2
  go_ret
  exact ⟨rfl, rfl⟩
theorem vAtan_nan (x : Nat) (w : World) (nx : fnan x = true) : Calls Try.prog 23 #[.float .f64 x] w fun e w' => e = .returned (.float .f64 9221120237041090560) ∧ w = w' := by
  have CX := Lib.hid (fun W => isNaN_any x W)
  rw [nx] at CX
  have CQ := Lib.hid (fun W => vnan_any W)
  clear nx
  go_enter Try.func23, Try.ntmps23
  go_wp2_with fail
  refine (CX.out _).mono ?_
  rintro e w' ⟨rfl, rfl⟩
  go_wp2_with fail
  refine (CQ.out _).mono ?_
  rintro e w' ⟨rfl, rfl⟩
  go_wp2
  go_ret
  exact ⟨rfl, rfl⟩
theorem vAtan_zero (x : Nat) (w : World) (nx : fnan x = false) (h0 : (FloatKind.f64.format.order x 0 == some .eq) = true) : Calls Try.prog 23 #[.float .f64 x] w fun e w' => e = .returned (.float .f64 x) ∧ w = w' := by
  have CX := Lib.hid (fun W => isNaN_any x W)
  rw [nx] at CX
  clear nx
  go_enter Try.func23, Try.ntmps23
  go_wp2_with fail
  refine (CX.out _).mono ?_
  rintro e w' ⟨rfl, rfl⟩
  go_wp2
  go_ret
  exact ⟨rfl, rfl⟩
theorem fAtan_any {x : Nat} (hx : x < 18446744073709551616) (w : World) : Calls Try.prog 22 #[.float .f64 x] w fun e w' => e = .returned (.float .f64 (atU x)) ∧ w = w' := by
  unfold atU
  cases nx : fnan x
  · rw [if_neg (by simp)]
    cases h0 : (FloatKind.f64.format.order x 0 == some .eq)
    · have h1 := h0
      rw [ord_zero] at h1
      have h2 := of_decide_eq_false h1
      rw [if_neg h2]
      exact fAtan_main x w hx nx h0 (at_q (J := 1071) (by omega) (rung_real nx) rfl).1
    · have h1 := h0
      rw [ord_zero] at h1
      rw [if_pos (of_decide_eq_true h1)]
      exact fAtan_zero x w nx h0
  · rw [if_pos rfl]; exact fAtan_nan x w nx
theorem vAtan_any {x : Nat} (hx : x < 18446744073709551616) (w : World) : Calls Try.prog 23 #[.float .f64 x] w fun e w' => e = .returned (.float .f64 (atU x)) ∧ w = w' := by
  unfold atU
  cases nx : fnan x
  · rw [if_neg (by simp)]
    cases h0 : (FloatKind.f64.format.order x 0 == some .eq)
    · have h1 := h0
      rw [ord_zero] at h1
      have h2 := of_decide_eq_false h1
      rw [if_neg h2]
      have Q := (at_q (J := 1071) (by omega) (rung_real nx) rfl).1
      cases f1 : far1 (rung x)
      · cases f2 : far2 (rung x)
        · exact vAtan_3 x w hx nx h0 Q f1 f2
        · exact vAtan_2 x w hx nx h0 Q f1 f2
      · exact vAtan_1 x w hx nx h0 Q f1
    · have h1 := h0
      rw [ord_zero] at h1
      rw [if_pos (of_decide_eq_true h1)]
      exact vAtan_zero x w nx h0
  · rw [if_pos rfl]; exact vAtan_nan x w nx
end Go.Proofs.Ytbinpcoaghpcdaa
