/-
  The least and the greatest of floats: what min and max tell, and what the reference takes.
-/
import Derived.Test.YtacmbbjmcdbcnaaFs
import Derived.Test.YtacmbbjmcdbcnaaLawI
namespace Go.Proofs.Ytacmbbjmcdbcnaa
open Go.RowKit
/-- Is a float ahead of another one, -0 below 0? -/
def aheadV (x y : Nat) : Bool := olt x y || (decide (rung x = 0) && decide (rung y = 0) && fneg x && !fneg y)
theorem olt_eq {x y : Nat} (hx : fnan x = false) (hy : fnan y = false) : olt x y = decide (frank x < frank y) := by
  unfold fnan at hx hy
  have hx := of_decide_eq_false hx
  have hy := of_decide_eq_false hy
  unfold olt
  rw [show FloatKind.f64.format.order x y = some (compare (frank x) (frank y)) from order_eq (by omega) (by omega), cmp_lt]
theorem decode_neg {x : Nat} (h : fnan x = false) : (FloatKind.f64.decode x).neg = fneg x := by
  rw [show FloatKind.f64.decode x = Ieee.double.read x from rfl]
  rcases datum_real h with ⟨m, e, h1⟩ | h1 <;> rw [h1] <;> rfl
theorem same_word {x y : Nat} (hx : x < 18446744073709551616) (hy : y < 18446744073709551616) (h : frank x = frank y) (h0 : rung x ≠ 0) : x = y := by
  have h1 := frank_rung h
  rw [word_split x hx, word_split y hy, ← h1]
  congr 1
  unfold frank at h
  rw [← h1] at h
  cases hs : fneg x <;> cases ht : fneg y <;> rw [hs, ht] at h <;> simp at h ⊢ <;> omega
theorem nought_word {x : Nat} (hx : x < 18446744073709551616) (h : rung x = 0) : x = Ieee.double.word (fneg x) 0 := by
  have := word_split x hx; rw [h] at this; exact this
theorem cut_mm (m : Bool) (x y t : Nat) : fnan ((Question.nanMinMax .f64 m x y).cut t) = true ∧ (Question.nanMinMax .f64 m x y).cut t < 18446744073709551616 := cut_nan x y t
def mnV (b x : Nat) : Nat := if aheadV x b = true then x else b
theorem mn_run (b x : Nat) (hb : b < 18446744073709551616) (hx : x < 18446744073709551616) (nb : fnan b = false) (nx : fnan x = false) (ts : Array TypeId) (t : TypeId) (W : World) : (Builtin.min_ ts t #[.float .f64 b, .float .f64 x]).run Try.prog W = .ok (.float .f64 (mnV b x)) W := by
  have ho : FloatKind.f64.format.order b x = some (compare (frank b) (frank x)) := by
    unfold fnan at nb nx
    have nb := of_decide_eq_false nb
    have nx := of_decide_eq_false nx
    exact order_eq (by omega) (by omega)
  have l1 := olt_eq nb nx
  have l2 := olt_eq nx nb
  have hv : mnV b x = if frank b < frank x then b else if frank x < frank b then x else if fneg b = true then b else x := by
    unfold mnV aheadV
    rw [l2]
    by_cases h1 : frank b < frank x
    · rw [if_pos h1]
      have h2 : ¬ frank x < frank b := by omega
      have h3 : (decide (rung x = 0) && decide (rung b = 0) && fneg x && !fneg b) = false := by
        cases hh : (decide (rung x = 0) && decide (rung b = 0) && fneg x && !fneg b)
        · rfl
        · exfalso
          simp at hh
          unfold frank at h1
          rw [hh.1.1.1, hh.1.1.2] at h1
          simp at h1
      rw [decide_eq_false h2, h3, if_neg (by simp)]
    · rw [if_neg h1]
      by_cases h2 : frank x < frank b
      · rw [if_pos h2, decide_eq_true h2, Bool.true_or, if_pos rfl]
      · rw [if_neg h2, decide_eq_false h2, Bool.false_or]
        have he : frank b = frank x := by omega
        have hr := frank_rung he
        by_cases h0 : rung b = 0
        · have h0x : rung x = 0 := by omega
          rw [nought_word hb h0, nought_word hx h0x]
          have wr : ∀ s : Bool, rung (Ieee.double.word s 0) = 0 ∧ fneg (Ieee.double.word s 0) = s := fun s => ⟨(word_rung s (by omega)).1, (word_rung s (by omega)).2.1⟩
          rw [(wr _).1, (wr _).1, (wr _).2, (wr _).2]
          cases fneg b <;> cases fneg x <;> rfl
        · have hbx := same_word hb hx he h0
          subst hbx
          simp
  simp only [Builtin.min_, Builtin.min2, List.foldlM_cons, List.foldlM_nil, ho]
  rw [hv]
  by_cases h1 : frank b < frank x
  · rw [if_pos h1, show compare (frank b) (frank x) = .lt by simp [compare, compareOfLessAndEq, h1]]
    rfl
  · rw [if_neg h1]
    by_cases h2 : frank x < frank b
    · rw [if_pos h2, show compare (frank b) (frank x) = .gt by simp [compare, compareOfLessAndEq, h1]; omega]
      rfl
    · rw [if_neg h2, show compare (frank b) (frank x) = .eq by rw [show frank b = frank x by omega]; simp [compare, compareOfLessAndEq]]
      simp only [decode_neg nb]
      rfl
theorem mn_nan (b x : Nat) (h : fnan b = true ∨ fnan x = true) (W : World) : ∃ y, (∀ (ts : Array TypeId) (t : TypeId), (Builtin.min_ ts t #[.float .f64 b, .float .f64 x]).run Try.prog W = .ok (.float .f64 y) (W.drewN 1)) ∧ fnan y = true ∧ y < 18446744073709551616 := by
  have ho : FloatKind.f64.format.order b x = none := order_nan (h.elim (fun h => .inl (of_decide_eq_true h)) (fun h => .inr (of_decide_eq_true h)))
  have hf : (Question.nanMinMax .f64 false b x).forced = false := rfl
  refine ⟨(Question.nanMinMax .f64 false b x).cut (W.tape W.drawn (.nanMinMax .f64 false b x)), fun ts t => ?_, cut_mm _ _ _ _⟩
  simp only [Builtin.min_, Builtin.min2, List.foldlM_cons, List.foldlM_nil, ho]
  simp [hf]
  rfl
theorem mnV_real {b x : Nat} (nb : fnan b = false) (nx : fnan x = false) : fnan (mnV b x) = false := by unfold mnV; split <;> assumption
theorem mnV_lt {b x : Nat} (hb : b < 18446744073709551616) (hx : x < 18446744073709551616) : mnV b x < 18446744073709551616 := by unfold mnV; split <;> assumption
def mxV (b x : Nat) : Nat := if aheadV b x = true then x else b
theorem mx_run (b x : Nat) (hb : b < 18446744073709551616) (hx : x < 18446744073709551616) (nb : fnan b = false) (nx : fnan x = false) (ts : Array TypeId) (t : TypeId) (W : World) : (Builtin.max_ ts t #[.float .f64 b, .float .f64 x]).run Try.prog W = .ok (.float .f64 (mxV b x)) W := by
  have ho : FloatKind.f64.format.order b x = some (compare (frank b) (frank x)) := by
    unfold fnan at nb nx
    have nb := of_decide_eq_false nb
    have nx := of_decide_eq_false nx
    exact order_eq (by omega) (by omega)
  have l1 := olt_eq nb nx
  have l2 := olt_eq nx nb
  have hv : mxV b x = if frank b < frank x then x else if frank x < frank b then b else if fneg b = true then x else b := by
    unfold mxV aheadV
    rw [l1]
    by_cases h1 : frank b < frank x
    · rw [if_pos h1, decide_eq_true h1, Bool.true_or, if_pos rfl]
    · rw [if_neg h1]
      by_cases h2 : frank x < frank b
      · rw [if_pos h2]
        have h3 : (decide (rung b = 0) && decide (rung x = 0) && fneg b && !fneg x) = false := by
          cases hh : (decide (rung b = 0) && decide (rung x = 0) && fneg b && !fneg x)
          · rfl
          · exfalso
            simp at hh
            unfold frank at h2
            rw [hh.1.1.1, hh.1.1.2] at h2
            simp at h2
        rw [decide_eq_false h1, h3, if_neg (by simp)]
      · rw [if_neg h2, decide_eq_false h1, Bool.false_or]
        have he : frank b = frank x := by omega
        have hr := frank_rung he
        by_cases h0 : rung b = 0
        · have h0x : rung x = 0 := by omega
          rw [nought_word hb h0, nought_word hx h0x]
          have wr : ∀ s : Bool, rung (Ieee.double.word s 0) = 0 ∧ fneg (Ieee.double.word s 0) = s := fun s => ⟨(word_rung s (by omega)).1, (word_rung s (by omega)).2.1⟩
          rw [(wr _).1, (wr _).1, (wr _).2, (wr _).2]
          cases fneg b <;> cases fneg x <;> rfl
        · have hbx := same_word hb hx he h0
          subst hbx
          simp
  simp only [Builtin.max_, Builtin.max2, List.foldlM_cons, List.foldlM_nil, ho]
  rw [hv]
  by_cases h1 : frank b < frank x
  · rw [if_pos h1, show compare (frank b) (frank x) = .lt by simp [compare, compareOfLessAndEq, h1]]
    rfl
  · rw [if_neg h1]
    by_cases h2 : frank x < frank b
    · rw [if_pos h2, show compare (frank b) (frank x) = .gt by simp [compare, compareOfLessAndEq, h1]; omega]
      rfl
    · rw [if_neg h2, show compare (frank b) (frank x) = .eq by rw [show frank b = frank x by omega]; simp [compare, compareOfLessAndEq]]
      simp only [decode_neg nb]
      rfl
theorem mx_nan (b x : Nat) (h : fnan b = true ∨ fnan x = true) (W : World) : ∃ y, (∀ (ts : Array TypeId) (t : TypeId), (Builtin.max_ ts t #[.float .f64 b, .float .f64 x]).run Try.prog W = .ok (.float .f64 y) (W.drewN 1)) ∧ fnan y = true ∧ y < 18446744073709551616 := by
  have ho : FloatKind.f64.format.order b x = none := order_nan (h.elim (fun h => .inl (of_decide_eq_true h)) (fun h => .inr (of_decide_eq_true h)))
  have hf : (Question.nanMinMax .f64 true b x).forced = false := rfl
  refine ⟨(Question.nanMinMax .f64 true b x).cut (W.tape W.drawn (.nanMinMax .f64 true b x)), fun ts t => ?_, cut_mm _ _ _ _⟩
  simp only [Builtin.max_, Builtin.max2, List.foldlM_cons, List.foldlM_nil, ho]
  simp [hf]
  rfl
theorem mxV_real {b x : Nat} (nb : fnan b = false) (nx : fnan x = false) : fnan (mxV b x) = false := by unfold mxV; split <;> assumption
theorem mxV_lt {b x : Nat} (hb : b < 18446744073709551616) (hx : x < 18446744073709551616) : mxV b x < 18446744073709551616 := by unfold mxV; split <;> assumption
end Go.Proofs.Ytacmbbjmcdbcnaa
