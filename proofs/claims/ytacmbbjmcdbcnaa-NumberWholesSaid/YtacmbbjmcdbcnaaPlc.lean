/-
  Contracts of Place of both; the law NumberWholes.
-/
import Derived.Test.YtacmbbjmcdbcnaaIdx
namespace Go.Proofs.Ytacmbbjmcdbcnaa
open Go.RowKit
theorem intV_real (x : Nat) (hx : x < 18446744073709551616) : fnan (intV x) = false ∧ intV x < 18446744073709551616 := by
  unfold intV
  cases h : fnan x
  · rw [if_neg (by simp)]
    cases h2 : finf x
    · exact itg_real .zero h h2
    · rw [itg_inf .zero hx h2]; exact ⟨h, hx⟩
  · rw [if_pos rfl]; exact ⟨by decide, by omega⟩
/-- A float as a whole number of 64 bits. -/
def wholeI (y : Nat) : Int := if fneg y = true then -(trn (rung y) : Int) else (trn (rung y) : Int)
theorem fmag_top {K : Nat} (hK : K = 1074) : fmag 4890909195324358656 = 9223372036854775808 * 2 ^ K := by
  obtain ⟨J, hJ⟩ : ∃ J : Nat, J = 1085 := ⟨_, rfl⟩
  have f1 := fmag_make 4503599627370496 J (by omega) (by omega)
  rw [show J * 4503599627370496 + 4503599627370496 = 4890909195324358656 by rw [hJ], show (4503599627370496 : Nat) = 2 ^ 52 from rfl, ← Nat.pow_add, show 52 + J = 63 + K by omega, Nat.pow_add] at f1
  exact f1
theorem trn_lt {r : Nat} (h : r < 4890909195324358656) : trn r < 9223372036854775808 := by
  obtain ⟨K, hK⟩ : ∃ K : Nat, K = 1074 := ⟨_, rfl⟩
  rw [trn_eq hK]
  have := fmag_step h
  rw [fmag_top hK, Nat.mul_comm] at this
  exact Nat.div_lt_of_lt_mul this
theorem trn_top : trn 4890909195324358656 = 9223372036854775808 := by
  obtain ⟨K, hK⟩ : ∃ K : Nat, K = 1074 := ⟨_, rfl⟩
  rw [trn_eq hK, fmag_top hK, Nat.mul_div_cancel _ (Nat.two_pow_pos K)]
/-- Where a float lies, held against what 64 bits hold. -/
theorem zones {y : Nat} (hy : y < 18446744073709551616) (hn : fnan y = false) :
    (oge y 4890909195324358656 = true ∧ olt y 14114281232179134464 = false) ∨
    (oge y 4890909195324358656 = false ∧ olt y 14114281232179134464 = true ∧ ogt y 14114281232179134464 = false ∧ ole y 14114281232179134464 = true) ∨
    (oge y 4890909195324358656 = false ∧ olt y 14114281232179134464 = false ∧ ogt y 14114281232179134464 = false ∧ ole y 14114281232179134464 = true ∧ wholeI y = -9223372036854775808 ∧ floatToIntVal .f64 y .i64 = some (wholeI y)) ∨
    (oge y 4890909195324358656 = false ∧ olt y 14114281232179134464 = false ∧ ogt y 14114281232179134464 = true ∧ ole y 14114281232179134464 = false ∧ -9223372036854775808 < wholeI y ∧ wholeI y < 9223372036854775808 ∧ floatToIntVal .f64 y .i64 = some (wholeI y)) := by
  have c1 : frank 4890909195324358656 = 4890909195324358656 := by decide
  have c2 : frank 14114281232179134464 = -4890909195324358656 := by decide
  have n1 : fnan 4890909195324358656 = false := by decide
  have n2 : fnan 14114281232179134464 = false := by decide
  have e1 := oge_eq hn n1
  have e3 := ogt_eq hn n2
  rw [c1] at e1
  rw [c2] at e3
  have hr : rung y ≤ 9218868437227405312 := by unfold fnan at hn; have := of_decide_eq_false hn; omega
  have e2 : olt y 14114281232179134464 = decide (frank y < -4890909195324358656) := by
    unfold olt
    rw [show FloatKind.f64.format.order y 14114281232179134464 = some (compare (frank y) (frank 14114281232179134464)) from order_eq hr (by decide), cmp_lt, c2]
  have e4 : ole y 14114281232179134464 = decide (frank y ≤ -4890909195324358656) := by
    unfold ole
    rw [show FloatKind.f64.format.order y 14114281232179134464 = some (compare (frank y) (frank 14114281232179134464)) from order_eq hr (by decide), cmp_lt, cmp_eq, c2]
    by_cases h : frank y ≤ -4890909195324358656
    · rw [decide_eq_true h]; simp; omega
    · rw [decide_eq_false h]; simp; omega
  rw [e1, e2, e3, e4]
  have hyw := word_split y hy
  have conv : rung y ≤ 4890909195324358656 → (rung y = 4890909195324358656 → fneg y = true) → -9223372036854775808 ≤ wholeI y ∧ wholeI y < 9223372036854775808 ∧ floatToIntVal .f64 y .i64 = some (wholeI y) := by
    intro h1 h2
    have hb : -9223372036854775808 ≤ wholeI y ∧ wholeI y < 9223372036854775808 := by
      unfold wholeI
      rcases Nat.eq_or_lt_of_le h1 with h3 | h3
      · rw [h2 h3, if_pos rfl, h3, trn_top]; omega
      · have := trn_lt h3
        split <;> omega
    refine ⟨hb.1, hb.2, ?_⟩
    unfold floatToIntVal
    have ht := toInt_word (fneg y) (r := rung y) (by omega)
    rw [← hyw] at ht
    rw [ht]
    have m1 : IntKind.i64.min = -9223372036854775808 := rfl
    have m2 : IntKind.i64.max = 9223372036854775807 := rfl
    show (if IntKind.i64.min ≤ wholeI y ∧ wholeI y ≤ IntKind.i64.max then some (wholeI y) else none) = some (wholeI y)
    rw [m1, m2, if_pos ⟨hb.1, by omega⟩]
  have hfr : frank y = if fneg y = true then -(rung y : Int) else (rung y : Int) := rfl
  by_cases h1 : 4890909195324358656 ≤ frank y
  · left
    exact ⟨decide_eq_true h1, decide_eq_false (by omega)⟩
  · right
    by_cases h2 : frank y < -4890909195324358656
    · left
      exact ⟨decide_eq_false h1, decide_eq_true h2, decide_eq_false (by omega), decide_eq_true (by omega)⟩
    · right
      have hc := conv (by
        rw [hfr] at h1 h2
        by_cases hs : fneg y = true
        · rw [if_pos hs] at h1 h2; omega
        · rw [if_neg hs] at h1 h2; omega) (by
        intro e
        cases hs : fneg y
        · exfalso; rw [hfr, hs, if_neg (by simp), e] at h1; omega
        · rfl)
      by_cases h3 : frank y = -4890909195324358656
      · left
        refine ⟨decide_eq_false h1, decide_eq_false h2, decide_eq_false (by omega), decide_eq_true (by omega), ?_, hc.2.2⟩
        have hs : fneg y = true := Classical.byContradiction fun hne => by
          rw [hfr, if_neg hne] at h3; omega
        rw [hfr, hs, if_pos rfl] at h3
        unfold wholeI
        rw [hs, if_pos rfl, show rung y = 4890909195324358656 by omega, trn_top]; rfl
      · right
        refine ⟨decide_eq_false h1, decide_eq_false h2, decide_eq_true (by omega), decide_eq_false (by omega), ?_, hc.2.1, hc.2.2⟩
        have hr2 : rung y < 4890909195324358656 := by
          rcases Nat.lt_or_ge (rung y) 4890909195324358656 with h | h
          · exact h
          · exfalso
            cases hs : fneg y
            · rw [hfr, hs, if_neg (by simp)] at h1; omega
            · rw [hfr, hs, if_pos rfl] at h2 h3; omega
        have := trn_lt hr2
        unfold wholeI
        split <;> omega
/-- The nearest whole number of 64 bits. -/
def nearV (y : Nat) : Int := if oge y 4890909195324358656 = true then 9223372036854775807 else if olt y 14114281232179134464 = true then -9223372036854775808 else wholeI y
set_option maxRecDepth 100000 in
theorem nearInt_any (y : Nat) (w : World) (hy : y < 18446744073709551616) (hn : fnan y = false) : Calls Try.prog 61 #[.float .f64 y] w fun e w' => e = .returned (.int .i64 (nearV y)) ∧ w = w' := by
  have t1 := oge_run y 4890909195324358656
  have t2 := olt_run y 14114281232179134464
  have hz : oge y 4890909195324358656 = false → olt y 14114281232179134464 = false → floatToIntVal .f64 y .i64 = some (wholeI y) := by
    intro h1 h2
    rcases zones hy hn with ⟨h, _⟩ | ⟨_, h, _⟩ | ⟨_, _, _, _, _, h⟩ | ⟨_, _, _, _, _, _, h⟩
    · rw [h1] at h; cases h
    · rw [h2] at h; cases h
    · exact h
    · exact h
  unfold nearV
  cases h1 : oge y 4890909195324358656
  · cases h2 : olt y 14114281232179134464
    · have hc : (convert 22 2 (.float .f64 y)).run Try.prog w = .ok (.int .i64 (wholeI y)) w := run_convert_float_int w 22 2 .f64 .i64 _ _ (by kernel_rfl) (by kernel_rfl) (hz h1 h2)
      rw [h1] at t1
      rw [h2] at t2
      rw [if_neg (by simp), if_neg (by simp)]
      obtain ⟨i, hi⟩ : ∃ i, wholeI y = i := ⟨_, rfl⟩
      rw [hi] at hc ⊢
      clear hz h1 h2 hy hn hi
      go_enter Try.func61, Try.ntmps61
      go_wp2
      go_ret
      exact ⟨rfl, rfl⟩
    · rw [h1] at t1
      rw [h2] at t2
      rw [if_neg (by simp), if_pos rfl]
      clear hz h1 h2 hy hn
      go_enter Try.func61, Try.ntmps61
      go_wp2
      go_ret
      exact ⟨rfl, rfl⟩
  · rw [h1] at t1
    rw [if_pos rfl]
    clear hz h1 hy hn t2
    go_enter Try.func61, Try.ntmps61
    go_wp2
    go_ret
    exact ⟨rfl, rfl⟩
/-- A whole number as a place. -/
def plV (i l m : Int) : Int := if m < (if i < l then l else i) then m else (if i < l then l else i)
set_option maxRecDepth 100000 in
theorem nplace_any (x : Nat) (l m : Int) (w : World) (hx : x < 18446744073709551616) (hl : -9223372036854775808 ≤ l ∧ l < 9223372036854775808) (hm : -9223372036854775808 ≤ m ∧ m < 9223372036854775808) : Calls Try.prog 23 #[.float .f64 x, .int .i64 l, .int .i64 m] w fun e w' => e = .returned (.int .i64 (plV (nearV (intV x)) l m)) ∧ w = w' := by
  obtain ⟨r1, r2⟩ := intV_real x hx
  have C1 := Lib.hid (fun W => nint_any x W)
  have C2 := Lib.hid (fun W => nearInt_any (intV x) W r2 r1)
  have k1 : IntKind.i64.wrap l = l := IntWalk.i64_in _ (by omega)
  have k2 : IntKind.i64.wrap m = m := IntWalk.i64_in _ (by omega)
  obtain ⟨y, hy⟩ : ∃ y, intV x = y := ⟨_, rfl⟩
  rw [hy] at C1 C2 ⊢
  have hi64 : IntKind.i64.wrap (nearV y) = nearV y := by
    have : -9223372036854775808 ≤ nearV y ∧ nearV y < 9223372036854775808 := by
      unfold nearV
      rw [← hy]
      split
      · omega
      · split
        · omega
        · rename_i g1 g2
          rcases zones r2 r1 with ⟨h, _⟩ | ⟨_, h, _⟩ | ⟨_, _, _, _, h, _⟩ | ⟨_, _, _, _, h, h', _⟩
          · exact absurd h g1
          · exact absurd h g2
          · omega
          · omega
    exact IntWalk.i64_in _ (by omega)
  obtain ⟨i, hi⟩ : ∃ i, nearV y = i := ⟨_, rfl⟩
  rw [hi] at C2 hi64 ⊢
  unfold plV
  clear hx r1 r2 hy hi
  by_cases h1 : i < l
  · have d1 : ¬ (i > l) := by omega
    have d2 : l > i := by omega
    rw [if_pos h1]
    by_cases h2 : m < l
    · have kk := k2
      rw [if_pos h2]
      clear hl hm
      go_enter Try.func23, Try.ntmps23
      go_wp2_with fail
      refine (C1.out _).mono ?_
      rintro e w' ⟨rfl, rfl⟩
      go_wp2_with fail
      refine (C2.out _).mono ?_
      rintro e w' ⟨rfl, rfl⟩
      go_wp2
      go_ret
      exact ⟨rfl, rfl⟩
    · rw [if_neg h2]
      clear hl hm
      go_enter Try.func23, Try.ntmps23
      go_wp2_with fail
      refine (C1.out _).mono ?_
      rintro e w' ⟨rfl, rfl⟩
      go_wp2_with fail
      refine (C2.out _).mono ?_
      rintro e w' ⟨rfl, rfl⟩
      go_wp2
      go_ret
      exact ⟨rfl, rfl⟩
  · have d1 : ¬ (l > i) := by omega
    rw [if_neg h1]
    by_cases h2 : m < i
    · rw [if_pos h2]
      clear hl hm
      go_enter Try.func23, Try.ntmps23
      go_wp2_with fail
      refine (C1.out _).mono ?_
      rintro e w' ⟨rfl, rfl⟩
      go_wp2_with fail
      refine (C2.out _).mono ?_
      rintro e w' ⟨rfl, rfl⟩
      go_wp2
      go_ret
      exact ⟨rfl, rfl⟩
    · rw [if_neg h2]
      clear hl hm
      go_enter Try.func23, Try.ntmps23
      go_wp2_with fail
      refine (C1.out _).mono ?_
      rintro e w' ⟨rfl, rfl⟩
      go_wp2_with fail
      refine (C2.out _).mono ?_
      rintro e w' ⟨rfl, rfl⟩
      go_wp2
      go_ret
      exact ⟨rfl, rfl⟩
end Go.Proofs.Ytacmbbjmcdbcnaa
