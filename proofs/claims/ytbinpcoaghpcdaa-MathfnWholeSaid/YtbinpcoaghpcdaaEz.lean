/-
  Exp of the program and of the reference, of every float: they tell one float.
-/
import Derived.Test.YtbinpcoaghpcdaaEp
namespace Go.Proofs.Ytbinpcoaghpcdaa
open Go.RowKit
theorem frank_sv {x y : Nat} : frank x ≤ frank y ↔ sv x ≤ sv y := by
  unfold frank sv mg
  have z : fmag 0 = 0 := rfl
  have p1 := @fmag_pos (rung x)
  have p2 := @fmag_pos (rung y)
  have l1 := @fmag_lt (rung x) (rung y)
  have l2 := @fmag_lt (rung y) (rung x)
  cases fneg x <;> cases fneg y <;> simp only [if_true, Bool.false_eq_true, if_false] <;> omega
theorem ord_real {x c : Nat} (hx : fnan x = false) (hc : fnan c = false) : (FloatKind.f64.format.order x c == some .gt) = decide (frank c < frank x) ∧ (FloatKind.f64.format.order x c == some .lt) = decide (frank x < frank c) ∧ (FloatKind.f64.format.order x c == some .eq) = decide (frank x = frank c) := by
  unfold fnan at hx hc
  have h1 := of_decide_eq_false hx
  have h2 := of_decide_eq_false hc
  have h := order_eq (x := x) (y := c) (by omega) (by omega)
  have h' : FloatKind.f64.format.order x c = some (compare (frank x) (frank c)) := h
  rw [h']
  exact ⟨cmp_gt _ _, cmp_lt _ _, cmp_eq _ _⟩
theorem fin_between {x lo hi : Nat} (hw : x < 18446744073709551616) (hl : Fin64 lo) (hh : Fin64 hi) (h1 : frank lo ≤ frank x) (h2 : frank x ≤ frank hi) : Fin64 x := by
  refine ⟨hw, ?_⟩
  have a := hl.2
  have b := hh.2
  unfold frank at h1 h2
  cases h : fneg x <;> rw [h] at h1 h2 <;> simp only [if_true, Bool.false_eq_true, if_false] at h1 h2
  · split at h2 <;> omega
  · split at h1 <;> omega
theorem sv_fl {N K : Nat} (h : N < 9007199254740992) (hK : K = 1074) : sv (fl N) = (N : Int) * (2 ^ K : Nat) := by
  obtain ⟨_, a, b⟩ := fl_fin h hK
  unfold sv; rw [b, a, if_neg (by simp)]; simp
theorem sv_neg {r : Nat} (h : r < 9223372036854775808) : sv (9223372036854775808 + r) = -sv r ∧ rung (9223372036854775808 + r) = r := by
  have a : rung (9223372036854775808 + r) = r := by unfold rung; omega
  have b : fneg (9223372036854775808 + r) = true := by unfold fneg; rw [show (9223372036854775808 + r) / 9223372036854775808 = 1 by omega]; rfl
  obtain ⟨p1, p2, _⟩ := pos_rung h
  refine ⟨?_, a⟩
  unfold sv mg
  rw [a, b, p1, p2, if_pos rfl, if_neg (by simp)]
theorem exp_range {x K : Nat} (hw : x < 18446744073709551616) (hK : K = 1074) (e1 : fnan x = false) (g1 : (FloatKind.f64.format.order x 4649456441864749056 == some .gt) = false) (g2 : (FloatKind.f64.format.order x 13873145138068324352 == some .lt) = false) : Fin64 x ∧ -(746 * ((2 ^ K : Nat) : Int)) ≤ sv x ∧ sv x ≤ 746 * ((2 ^ K : Nat) : Int) := by
  have f1 : fl 710 = 4649456441864749056 := by decide +kernel
  have f2 : fl 746 = 4649773101213548544 := by decide +kernel
  obtain ⟨a1, a2, a3⟩ := fl_fin (N := 710) (by omega) hK
  obtain ⟨b1, b2, b3⟩ := fl_fin (N := 746) (by omega) hK
  have c1 := sv_fl (N := 710) (by omega) hK
  have c2 := sv_fl (N := 746) (by omega) hK
  rw [f1] at a1 c1
  rw [f2] at b1 c2
  obtain ⟨d1, d2⟩ := sv_neg (r := 4649773101213548544) (by omega)
  have hb : Fin64 13873145138068324352 := ⟨by omega, by decide⟩
  have hn : sv 13873145138068324352 = -(746 * ((2 ^ K : Nat) : Int)) := by
    have : (13873145138068324352 : Nat) = 9223372036854775808 + 4649773101213548544 := by decide
    rw [this, d1, c2]
    rfl
  rw [(ord_real e1 (fnan_of a1)).1] at g1
  rw [(ord_real e1 (fnan_of hb)).2.1] at g2
  have h1 := of_decide_eq_false g1
  have h2 := of_decide_eq_false g2
  have hf := fin_between hw hb a1 (by omega) (by omega)
  have s1 := frank_sv.1 (show frank x ≤ frank 4649456441864749056 by omega)
  have s2 := frank_sv.1 (show frank 13873145138068324352 ≤ frank x by omega)
  rw [c1] at s1
  rw [hn] at s2
  refine ⟨hf, s2, ?_⟩
  have : (0 : Int) < (2 ^ K : Nat) := by have := Nat.two_pow_pos K; omega
  have e : ((710 : Nat) : Int) * (2 ^ K : Nat) ≤ 746 * (2 ^ K : Nat) := by omega
  omega
set_option maxRecDepth 100000 in
theorem fExp_nan (x : Nat) (w : World) (e1 : fnan x = true) : Calls Try.prog 11 #[.float .f64 x] w fun e w' => e = .returned (.float .f64 9221120237041090560) ∧ w = w' := by
  have C1 := Lib.hid (isNaN_any x w)
  have C2 := Lib.hid (const_any 9221120237041090560 w)
  rw [e1] at C1
  clear e1
  go_enter Try.func11, Try.ntmps11
  go_wp2_with fail
  refine C1.out.mono ?_
  rintro e w' ⟨rfl, rfl⟩
  go_wp2_with fail
  refine C2.out.mono ?_
  rintro e w' ⟨rfl, rfl⟩
  go_wp2
  go_ret
  exact ⟨rfl, rfl⟩
set_option maxRecDepth 100000 in
theorem vExp_nan (x : Nat) (w : World) (e1 : fnan x = true) : Calls Try.prog 12 #[.float .f64 x] w fun e w' => e = .returned (.float .f64 9221120237041090560) ∧ w = w' := by
  have C1 := Lib.hid (isNaN_any x w)
  have C2 := Lib.hid (vnan_any w)
  rw [e1] at C1
  clear e1
  go_enter Try.func12, Try.ntmps12
  go_wp2_with fail
  refine C1.out.mono ?_
  rintro e w' ⟨rfl, rfl⟩
  go_wp2_with fail
  refine C2.out.mono ?_
  rintro e w' ⟨rfl, rfl⟩
  go_wp2
  go_ret
  exact ⟨rfl, rfl⟩
set_option maxRecDepth 100000 in
theorem fExp_up (x : Nat) (w : World) (e1 : fnan x = false) (g1 : (FloatKind.f64.format.order x 4649456441864749056 == some .gt) = true) : Calls Try.prog 11 #[.float .f64 x] w fun e w' => e = .returned (.float .f64 9218868437227405312) ∧ w = w' := by
  have C1 := Lib.hid (isNaN_any x w)
  have C2 := Lib.hid (inf1_any w)
  rw [e1] at C1
  clear e1
  go_enter Try.func11, Try.ntmps11
  go_wp2_with fail
  refine C1.out.mono ?_
  rintro e w' ⟨rfl, rfl⟩
  go_wp2_with fail
  refine C2.out.mono ?_
  rintro e w' ⟨rfl, rfl⟩
  go_wp2
  go_ret
  exact ⟨rfl, rfl⟩
set_option maxRecDepth 100000 in
theorem fExp_low (x : Nat) (w : World) (e1 : fnan x = false) (g1 : (FloatKind.f64.format.order x 4649456441864749056 == some .gt) = false) (g2 : (FloatKind.f64.format.order x 13873145138068324352 == some .lt) = true) : Calls Try.prog 11 #[.float .f64 x] w fun e w' => e = .returned (.float .f64 0) ∧ w = w' := by
  have C1 := Lib.hid (isNaN_any x w)
  rw [e1] at C1
  clear e1
  go_enter Try.func11, Try.ntmps11
  go_wp2_with fail
  refine C1.out.mono ?_
  rintro e w' ⟨rfl, rfl⟩
  go_wp2
  go_ret
  exact ⟨rfl, rfl⟩
set_option maxRecDepth 100000 in
theorem vExp_up (x : Nat) (w : World) (e1 : fnan x = false) (g1 : (FloatKind.f64.format.order x 4649456441864749056 == some .gt) = true) : Calls Try.prog 12 #[.float .f64 x] w fun e w' => e = .returned (.float .f64 9218868437227405312) ∧ w = w' := by
  have C1 := Lib.hid (isNaN_any x w)
  have C2 := Lib.hid (inf1_any w)
  rw [e1] at C1
  clear e1
  go_enter Try.func12, Try.ntmps12
  go_wp2_with fail
  refine C1.out.mono ?_
  rintro e w' ⟨rfl, rfl⟩
  go_wp2_with fail
  refine C2.out.mono ?_
  rintro e w' ⟨rfl, rfl⟩
  go_wp2
  go_ret
  exact ⟨rfl, rfl⟩
set_option maxRecDepth 100000 in
theorem vExp_low (x : Nat) (w : World) (e1 : fnan x = false) (g1 : (FloatKind.f64.format.order x 4649456441864749056 == some .gt) = false) (g2 : (FloatKind.f64.format.order x 13873145138068324352 == some .lt) = true) : Calls Try.prog 12 #[.float .f64 x] w fun e w' => e = .returned (.float .f64 0) ∧ w = w' := by
  have C1 := Lib.hid (isNaN_any x w)
  rw [e1] at C1
  clear e1
  go_enter Try.func12, Try.ntmps12
  go_wp2_with fail
  refine C1.out.mono ?_
  rintro e w' ⟨rfl, rfl⟩
  go_wp2
  go_ret
  exact ⟨rfl, rfl⟩
/-- Both tell u. -/
def ExpIs (x u : Nat) : Prop := u < 18446744073709551616 ∧ (∀ w : World, Calls Try.prog 11 #[.float .f64 x] w fun e w' => e = .returned (.float .f64 u) ∧ w = w') ∧ (∀ w : World, Calls Try.prog 12 #[.float .f64 x] w fun e w' => e = .returned (.float .f64 u) ∧ w = w')
theorem exp_both {x : Nat} (hw : x < 18446744073709551616) : ∃ u, ExpIs x u := by
  obtain ⟨K, hK⟩ : ∃ K : Nat, K = 1074 := ⟨_, rfl⟩
  obtain ⟨J, hJ⟩ : ∃ J : Nat, J = 1071 := ⟨_, rfl⟩
  obtain ⟨g, hg⟩ : ∃ g : Nat, g = 978 := ⟨_, rfl⟩
  cases e1 : fnan x
  · cases g1 : (FloatKind.f64.format.order x 4649456441864749056 == some .gt)
    · cases g2 : (FloatKind.f64.format.order x 13873145138068324352 == some .lt)
      · obtain ⟨hf, s1, s2⟩ := exp_range hw hK e1 g1 g2
        obtain ⟨n, hn, m1, m2, f1, f2, m3, m4, m5, m6, fr, r1, r2, cv⟩ := xp_red hf hK hg ⟨s1, s2⟩
        have hKJ : 2 ^ K = 8 * 2 ^ J := by rw [show K = 3 + J by omega, Nat.pow_add]
        have hr : mg (xpR x) ≤ 4 * 2 ^ J := by
          have := sv_abs (xpR x)
          rw [hKJ] at r1 r2
          omega
        obtain ⟨hl, p1, p2, p3, p4⟩ := eS_ok fr hJ hr
        obtain ⟨P, hP⟩ : ∃ P, eS (xpR x) 14 = P := ⟨_, rfl⟩
        rw [hP] at p1 p2 p3 p4
        have hPr : rung P = P := by
          have := word_self p1.1
          rw [p2] at this
          exact this
        have hPn : 4503599627370496 ≤ P := by
          rcases Nat.lt_or_ge P 4503599627370496 with h | h
          · have h1 : mg P = P := by unfold mg; rw [hPr]; exact fmag_low (by omega)
            have h2 : 2 ^ 60 ≤ 2 ^ J := Nat.pow_le_pow_right (by omega) (by omega)
            have h3 : (2 : Nat) ^ 60 = 1152921504606846976 := by decide
            omega
          · exact h
        obtain ⟨u, hu, C9⟩ := Ld_any (b := n) hPn (by have := p1.2; rw [hPr] at this; exact this) (by omega) (by omega)
        exact ⟨u, hu, fun w => fExp_main x _ _ _ _ _ _ _ P u n w e1 g1 g2 m1 m2 f1 f2 rfl m3 m4 m5 m6 hl hP cv (Lib.hid C9), fun w => vExp_main x _ _ _ _ _ _ _ P u n w e1 g1 g2 m1 m2 f1 rfl m3 m4 m5 m6 hl hP cv (Lib.hid C9)⟩
      · exact ⟨0, by omega, fun w => fExp_low x w e1 g1 g2, fun w => vExp_low x w e1 g1 g2⟩
    · exact ⟨9218868437227405312, by omega, fun w => fExp_up x w e1 g1, fun w => vExp_up x w e1 g1⟩
  · exact ⟨9221120237041090560, by omega, fun w => fExp_nan x w e1, fun w => vExp_nan x w e1⟩
end Go.Proofs.Ytbinpcoaghpcdaa
