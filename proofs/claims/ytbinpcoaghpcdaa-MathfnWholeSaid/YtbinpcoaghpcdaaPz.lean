/-
  Pow of every two floats: the program and the reference tell one float.
-/
import Derived.Test.YtbinpcoaghpcdaaPy
namespace Go.Proofs.Ytbinpcoaghpcdaa
open Go.RowKit
/-- At least 1, or at most 1. -/
def Cls (up : Bool) (v : Nat) : Prop := if up = true then 4607182418800017408 ≤ v ∧ v ≤ 9218868437227405312 else v ≤ 4607182418800017408
theorem read_top : Ieee.double.read 9218868437227405312 = .infinity false := by decide +kernel
theorem pos_fin {v : Nat} (h : v < 9218868437227405312) : Fin64 v ∧ rung v = v ∧ fneg v = false := by
  obtain ⟨p1, p2, _⟩ := pos_rung (x := v) (by omega)
  exact ⟨⟨by omega, by rw [p1]; exact h⟩, p1, p2⟩
theorem mul_fin_pos {v w : Nat} (hv : v < 9218868437227405312) (hw : w < 9218868437227405312) {K : Nat} (hK : K = 1074) : Ieee.double.mul v w = some (mulF v w) ∧ mulF v w ≤ 9218868437227405312 ∧ Nearly (fmag v * fmag w) (2 ^ K) (mulF v w) := by
  obtain ⟨a1, a2, a3⟩ := pos_fin hv
  obtain ⟨b1, b2, b3⟩ := pos_fin hw
  obtain ⟨c1, c2, c3, c4⟩ := mulF_core a1 b1 hK
  rw [a3, b3] at c3
  have := word_self c2
  rw [c3] at this
  have h : rung (mulF v w) = mulF v w := this
  rw [h] at c4
  unfold mg at c4
  rw [a2, b2] at c4
  exact ⟨c1, nearly_inf c4, c4⟩
theorem mul_cls {up : Bool} {v w : Nat} (hv : Cls up v) (hw : Cls up w) : Ieee.double.mul v w = some (mulF v w) ∧ Cls up (mulF v w) := by
  obtain ⟨K, hK⟩ : ∃ K : Nat, K = 1074 := ⟨_, rfl⟩
  have h1 : fmag 4607182418800017408 = 2 ^ K := fmag_one hK
  unfold Cls at *
  cases up
  · simp only [Bool.false_eq_true, if_false] at *
    obtain ⟨a, b, c⟩ := mul_fin_pos (v := v) (w := w) (by omega) (by omega) hK
    refine ⟨a, nearly_le (Nat.two_pow_pos K) c ?_⟩
    have l1 : fmag v ≤ 2 ^ K := by rw [← h1]; rcases Nat.eq_or_lt_of_le hv with h | h; exact Nat.le_of_eq (congrArg fmag h); exact Nat.le_of_lt (fmag_step h)
    have l2 : fmag w ≤ 2 ^ K := by rw [← h1]; rcases Nat.eq_or_lt_of_le hw with h | h; exact Nat.le_of_eq (congrArg fmag h); exact Nat.le_of_lt (fmag_step h)
    rw [h1]
    exact Nat.mul_le_mul l1 l2
  · simp only [if_true] at *
    rcases Nat.eq_or_lt_of_le hv.2 with e1 | e1
    · have key : Ieee.double.mul v w = some 9218868437227405312 := by
        unfold Ieee.Format.mul
        rw [e1, read_top]
        rcases Nat.eq_or_lt_of_le hw.2 with e2 | e2
        · rw [e2, read_top]; decide +kernel
        · obtain ⟨m, i, b1, b2, b3⟩ := read_pos e2
          have hm : m ≠ 0 := by
            intro h
            rw [h, Nat.zero_mul] at b3
            have := fmag_pos.2 (show 0 < w by omega)
            omega
          rw [b1]
          simp only [Ieee.Datum.product]
          rw [if_neg hm]
          decide +kernel
      have e : mulF v w = 9218868437227405312 := by unfold mulF; rw [key]; rfl
      rw [e]; exact ⟨key, by omega⟩
    · rcases Nat.eq_or_lt_of_le hw.2 with e2 | e2
      · have key : Ieee.double.mul v w = some 9218868437227405312 := by
          rw [mul_turn]
          unfold Ieee.Format.mul
          rw [e2, read_top]
          obtain ⟨m, i, b1, b2, b3⟩ := read_pos e1
          have hm : m ≠ 0 := by
            intro h
            rw [h, Nat.zero_mul] at b3
            have := fmag_pos.2 (show 0 < v by omega)
            omega
          rw [b1]
          simp only [Ieee.Datum.product]
          rw [if_neg hm]
          decide +kernel
        have e : mulF v w = 9218868437227405312 := by unfold mulF; rw [key]; rfl
        rw [e]; exact ⟨key, by omega⟩
      · obtain ⟨a, b, c⟩ := mul_fin_pos e1 e2 hK
        refine ⟨a, nearly_ge c (by omega) ?_, b⟩
        have l1 : 2 ^ K ≤ fmag v := by rw [← h1]; rcases Nat.eq_or_lt_of_le hv.1 with h | h; exact Nat.le_of_eq (congrArg fmag h); exact Nat.le_of_lt (fmag_step h)
        have l2 : 2 ^ K ≤ fmag w := by rw [← h1]; rcases Nat.eq_or_lt_of_le hw.1 with h | h; exact Nat.le_of_eq (congrArg fmag h); exact Nat.le_of_lt (fmag_step h)
        rw [h1]
        exact Nat.mul_le_mul l1 l2
theorem bq_cls {up : Bool} {a : Nat} (h : Cls up a) : ∀ j, Cls up (bq a j)
  | 0 => h
  | j + 1 => (mul_cls (bq_cls h j) (bq_cls h j)).2
theorem rq_cls {up : Bool} {a : Nat} (n : Nat) (h : Cls up a) : ∀ j, Cls up (rq a n j)
  | 0 => by unfold Cls rq; cases up <;> simp
  | j + 1 => by
    show Cls up (if n / 2 ^ j % 2 = 1 then mulF (rq a n j) (bq a j) else rq a n j)
    split
    · exact (mul_cls (rq_cls n h j) (bq_cls h j)).2
    · exact rq_cls n h j
theorem cls_of {a : Nat} (h : a ≤ 9218868437227405312) : ∃ up, Cls up a := by
  rcases Nat.lt_or_ge a 4607182418800017408 with h1 | h1
  · exact ⟨false, by unfold Cls; simp; omega⟩
  · exact ⟨true, by unfold Cls; simp; omega⟩
theorem pwq_of {a : Nat} (n : Nat) (h : a ≤ 9218868437227405312) : PwQ a n ∧ ∀ j, rq a n j ≤ 9218868437227405312 := by
  obtain ⟨up, hu⟩ := cls_of h
  refine ⟨⟨fun j => (mul_cls (rq_cls n hu j) (bq_cls hu j)).1, fun j => (mul_cls (bq_cls hu j) (bq_cls hu j)).1⟩, fun j => ?_⟩
  have := rq_cls n hu j
  unfold Cls at this
  cases up <;> simp at this <;> omega
theorem div_one_some {r : Nat} (h : r ≤ 9218868437227405312) : ∃ u, Ieee.double.div 4607182418800017408 r = some u ∧ u < 18446744073709551616 := by
  obtain ⟨K, hK⟩ : ∃ K : Nat, K = 1074 := ⟨_, rfl⟩
  rcases Nat.eq_or_lt_of_le h with h1 | h1
  · exact ⟨0, by rw [h1]; decide +kernel, by omega⟩
  · rcases Nat.eq_zero_or_pos r with h2 | h2
    · exact ⟨9218868437227405312, by rw [h2]; decide +kernel, by omega⟩
    · obtain ⟨a1, a2, _⟩ := pos_fin h1
      obtain ⟨b1, b2, b3, _⟩ := div_core (one_fin hK).1 a1 (by omega) hK
      exact ⟨b1, b2, b3⟩
/-- A whole float as an int. -/
theorem conv_sv {z c K : Nat} (hz : Fin64 z) (hK : K = 1074) (hm : mg z = c * 2 ^ K) (hc : c < 9007199254740992) (W : World) : (convert 22 3 (.float .f64 z)).run Try.prog W = .ok (.int .i64 (if fneg z = true then -(c : Int) else (c : Int))) W := by
  have htr : trn (rung z) = c := by rw [trn_eq hK, show fmag (rung z) = mg z from rfl, hm, Nat.mul_div_cancel _ (Nat.two_pow_pos K)]
  have h := toInt_word (fneg z) hz.2
  rw [htr, word_self hz.1] at h
  refine run_convert_float_int W 22 3 .f64 .i64 _ _ (by kernel_rfl) (by kernel_rfl) ?_
  unfold floatToIntVal
  rw [h]
  simp only
  have m1 : IntKind.i64.min = -9223372036854775808 := rfl
  have m2 : IntKind.i64.max = 9223372036854775807 := rfl
  rw [if_pos (by rw [m1, m2]; cases fneg z <;> simp <;> omega)]
def PowIs (x y u : Nat) : Prop := u < 18446744073709551616 ∧ (∀ w : World, Calls Try.prog 30 #[.float .f64 x, .float .f64 y] w fun e w' => e = .returned (.float .f64 u) ∧ w = w') ∧ (∀ w : World, Calls Try.prog 31 #[.float .f64 x, .float .f64 y] w fun e w' => e = .returned (.float .f64 u) ∧ w = w')
def sgnd (x y r : Nat) : Nat := if (fneg x && oddb y) = true then Op.negFloat .f64 r else r
theorem neg_lt {r : Nat} (h : r < 18446744073709551616) : Op.negFloat .f64 r < 18446744073709551616 := by
  have h1 := word_self h
  have hr : rung r < 9223372036854775808 := Nat.mod_lt _ (by omega)
  rw [← h1, neg_float _ hr]
  exact (word_rung _ hr).2.2
theorem sgnd_lt {x y r : Nat} (h : r < 18446744073709551616) : sgnd x y r < 18446744073709551616 := by
  unfold sgnd
  split
  · exact neg_lt h
  · exact h
/-- The amount of a power of a finite float that is no nought. -/
def AmtIs (a y r : Nat) : Prop := ∀ w : World, Calls Try.prog 62 #[.float .f64 a, .float .f64 y] w fun e w' => e = .returned (.float .f64 r) ∧ w = w'
theorem lt_zero {x : Nat} (hx : fnan x = false) (h0 : rung x ≠ 0) : (FloatKind.f64.format.order x 0 == some .lt) = fneg x := by
  rw [ord_below, hx, decide_eq_true (show 0 < rung x by omega), Bool.and_true, Bool.not_false, Bool.true_and]
theorem fPow_sign {x y r : Nat} (hxw : x < 18446744073709551616) (nx : fnan x = false) (hF : Fin64 y) (hy0 : rung y ≠ 0) (hc : fneg x = true → finf x = false → rung x ≠ 0 → whl y = true) (CM : AmtIs (rung x) y r) (w : World) :
    Calls Try.prog 30 #[.float .f64 x, .float .f64 y] w fun e w' => e = .returned (.float .f64 (sgnd x y r)) ∧ w = w' := by
  have CA := Lib.hid (fun W => nabs_any x W hxw nx)
  have hy : (FloatKind.f64.format.order y 0 == some .eq) = false := by rw [ord_zero]; exact decide_eq_false hy0
  have ny := fnan_of hF
  have iy : finf y = false := by unfold finf; exact decide_eq_false (by have := hF.2; omega)
  have HM := Lib.hid CM
  unfold sgnd
  cases sx : fneg x
  · have lx : (FloatKind.f64.format.order x 0 == some .lt) = false := by rw [ord_below, sx]; simp
    rw [if_neg (by simp)]
    exact fPow_a_pos x y (rung x) r w CA hy nx ny hF.1 iy hxw lx HM sx
  · by_cases h0 : rung x = 0
    · have lx : (FloatKind.f64.format.order x 0 == some .lt) = false := by rw [ord_below, h0]; simp
      cases od : oddb y
      · rw [if_neg (by simp)]; exact fPow_a_even x y (rung x) r w CA hy nx ny hF.1 iy hxw hF lx HM sx od
      · rw [if_pos (by decide)]; exact fPow_a_odd x y (rung x) r w CA hy nx ny hF.1 iy hxw hF lx HM sx od
    · have lx : (FloatKind.f64.format.order x 0 == some .lt) = true := by rw [lt_zero nx h0]; exact sx
      cases ix : finf x
      · have wy := hc sx ix h0
        cases od : oddb y
        · rw [if_neg (by simp)]; exact fPow_c_even x y (rung x) r w CA hy nx ny hF.1 iy hxw hF lx ix wy HM sx od
        · rw [if_pos (by decide)]; exact fPow_c_odd x y (rung x) r w CA hy nx ny hF.1 iy hxw hF lx ix wy HM sx od
      · cases od : oddb y
        · rw [if_neg (by simp)]; exact fPow_b_even x y (rung x) r w CA hy nx ny hF.1 iy hxw hF lx ix HM sx od
        · rw [if_pos (by decide)]; exact fPow_b_odd x y (rung x) r w CA hy nx ny hF.1 iy hxw hF lx ix HM sx od
theorem vodd_all {y : Nat} (hw : y < 18446744073709551616) : ∃ b, ∀ w : World, Calls Try.prog 64 #[.float .f64 y] w fun e w' => e = .returned (.bool b) ∧ w = w' := by
  by_cases h : rung y < 9218868437227405312
  · exact ⟨oddb y, fun w => vodd_any ⟨hw, h⟩ w⟩
  · exact ⟨false, fun w => vodd_bad hw h w⟩
theorem ord1024 {y : Nat} (hy : Fin64 y) (h : (FloatKind.f64.format.order (rung y) 4652218415073722368 == some .gt) = false) : (FloatKind.f64.format.order (rung y) 4652218415073722368 == some .lt || FloatKind.f64.format.order (rung y) 4652218415073722368 == some .eq) = true ∧ rung y ≤ 4652218415073722368 := by
  obtain ⟨p1, p2, p3⟩ := pos_fin hy.2
  obtain ⟨q1, q2, q3⟩ := ord_real (fnan_of p1) (show fnan 4652218415073722368 = false by decide)
  rw [q1] at h
  have h1 := of_decide_eq_false h
  have f1 := (pos_rung (x := rung y) (by have := hy.2; omega)).2.2
  have f2 := (pos_rung (x := 4652218415073722368) (by omega)).2.2
  rw [f1, f2] at h1
  rw [q2, q3, f1, f2]
  refine ⟨?_, by omega⟩
  rcases Nat.eq_or_lt_of_le (show rung y ≤ 4652218415073722368 by omega) with h2 | h2
  · rw [h2]; simp
  · rw [decide_eq_true (show ((rung y : Nat) : Int) < ((4652218415073722368 : Nat) : Int) by omega)]; rfl
theorem ord1024' {y : Nat} (hy : Fin64 y) (h : (FloatKind.f64.format.order (rung y) 4652218415073722368 == some .gt) = true) : (FloatKind.f64.format.order (rung y) 4652218415073722368 == some .lt || FloatKind.f64.format.order (rung y) 4652218415073722368 == some .eq) = false := by
  obtain ⟨p1, p2, p3⟩ := pos_fin hy.2
  obtain ⟨q1, q2, q3⟩ := ord_real (fnan_of p1) (show fnan 4652218415073722368 = false by decide)
  rw [q1] at h
  have h1 := of_decide_eq_true h
  rw [q2, q3, decide_eq_false (by omega), decide_eq_false (by omega)]
  rfl
/-- A power to a whole float of at most 1024. -/
theorem pow_whole {y : Nat} (hF : Fin64 y) (wy : whl y = true) (hle : rung y ≤ 4652218415073722368) : ∃ n, n ≤ 1024 ∧ (∀ W : World, (convert 22 3 (.float .f64 (rung y))).run Try.prog W = .ok (.int .i64 (n : Nat)) W) := by
  obtain ⟨K, hK⟩ : ∃ K : Nat, K = 1074 := ⟨_, rfl⟩
  obtain ⟨p1, p2, p3⟩ := pos_fin hF.2
  unfold whl at wy
  have h1 := of_decide_eq_true wy
  rw [(one_fin hK).2.1] at h1
  have h2 := Nat.div_add_mod (mg y) (2 ^ K)
  rw [h1, Nat.add_zero, Nat.mul_comm] at h2
  obtain ⟨n, hn⟩ : ∃ n, mg y / 2 ^ K = n := ⟨_, rfl⟩
  rw [hn] at h2
  have hU := Nat.two_pow_pos K
  have h3 : n ≤ 1024 := by
    obtain ⟨_, f2, _⟩ := fl_fin (N := 1024) (by omega) hK
    have h4 : mg (fl 1024) = fmag 4652218415073722368 := by rw [show fl 1024 = 4652218415073722368 by decide +kernel]; unfold mg; rw [show rung 4652218415073722368 = 4652218415073722368 by decide]
    rw [f2] at h4
    have h5 : mg y ≤ fmag 4652218415073722368 := by
      unfold mg
      rcases Nat.eq_or_lt_of_le hle with h | h
      · rw [h]; exact Nat.le_refl _
      · exact Nat.le_of_lt (fmag_step h)
    rw [← h4, ← h2] at h5
    exact Nat.le_of_mul_le_mul_right h5 hU
  refine ⟨n, h3, fun W => ?_⟩
  have := conv_sv p1 hK (c := n) (by rw [h2]; unfold mg; rw [p2]) (by omega) W
  rw [p3, if_neg (by simp)] at this
  exact this
theorem pow_both {x y : Nat} (hx : x < 18446744073709551616) (hy : y < 18446744073709551616) : ∃ u, PowIs x y u := by
  have nanl : 9221120237041090560 < 18446744073709551616 := by omega
  cases ny : fnan y
  · cases zy : (FloatKind.f64.format.order y 0 == some .eq)
    · cases nx : fnan x
      · have CA := Lib.hid (fun W => nabs_any x W hx nx)
        cases iy : finf y
        · -- y is finite and no nought
          have hF : Fin64 y := ⟨hy, fin_of iy ny⟩
          have hy0 : rung y ≠ 0 := by rw [ord_zero] at zy; exact of_decide_eq_false zy
          cases ix : finf x
          · cases zx : (FloatKind.f64.format.order x 0 == some .eq)
            · have hxf : rung x < 9218868437227405312 := fin_of ix nx
              have hx0 : rung x ≠ 0 := by rw [ord_zero] at zx; exact of_decide_eq_false zx
              have lx := lt_zero nx hx0
              have ha : rung x < 18446744073709551616 := by omega
              obtain ⟨p1, p2, p3⟩ := pos_fin hxf
              have hi : finf (rung x) = false := by unfold finf; rw [p2]; exact decide_eq_false (by omega)
              have hz : (FloatKind.f64.format.order (rung x) 0 == some .eq) = false := by rw [ord_zero, p2]; exact decide_eq_false hx0
              obtain ⟨l, ⟨hl1, hl2, hl3⟩, hlB⟩ := log_fin (x := rung x) (by omega) hxf
              obtain ⟨K, hK⟩ : ∃ K : Nat, K = 1074 := ⟨_, rfl⟩
              obtain ⟨m1, m2, _⟩ := mulF_core hF hlB.fin hK
              obtain ⟨u, hu, hE1, hE2⟩ := exp_both m2
              cases wy : whl y
              · cases sx' : fneg x
                · rw [sx'] at lx
                  have CM : AmtIs (rung x) y u := fun w => famount_frac (rung x) y l _ u w ha hi hz hF wy m1 (Lib.hid hl2) (Lib.hid hE1)
                  have hv : ∀ w : World, Calls Try.prog 31 #[.float .f64 x, .float .f64 y] w fun e w' => e = .returned (.float .f64 (sgnd x y u)) ∧ w = w' := fun w => by
                    unfold sgnd
                    cases sx : fneg x
                    · rw [if_neg (by simp)]; exact vPow_frac_p x y l (mulF y l) u w hx sx ny zy nx hy iy ix zx hF lx wy m1 (Lib.hid hl3) (Lib.hid hE2)
                    · cases od : oddb y
                      · rw [if_neg (by simp)]; exact vPow_frac_e x y l (mulF y l) u w hx sx (Lib.hid (fun W => by rw [← od]; exact vodd_any hF W)) ny zy nx hy iy ix zx hF lx wy m1 (Lib.hid hl3) (Lib.hid hE2)
                      · rw [if_pos (by decide)]; exact vPow_frac_o x y l (mulF y l) u w hx sx (Lib.hid (fun W => by rw [← od]; exact vodd_any hF W)) ny zy nx hy iy ix zx hF lx wy m1 (Lib.hid hl3) (Lib.hid hE2)
                  exact ⟨_, sgnd_lt hu, fun w => fPow_sign hx nx hF hy0 (fun h => by rw [sx'] at h; cases h) CM w, hv⟩
                · rw [sx'] at lx
                  have hv : ∀ w : World, Calls Try.prog 31 #[.float .f64 x, .float .f64 y] w fun e w' => e = .returned (.float .f64 9221120237041090560) ∧ w = w' := fun w => by
                    cases od : oddb y
                    · exact vPow_root_e x y w hx sx' (Lib.hid (fun W => by rw [← od]; exact vodd_any hF W)) ny zy nx hy iy ix zx hF lx wy
                    · exact vPow_root_o x y w hx sx' (Lib.hid (fun W => by rw [← od]; exact vodd_any hF W)) ny zy nx hy iy ix zx hF lx wy
                  exact ⟨_, nanl, fun w => fPow_root x y (rung x) w CA zy nx ny hy iy hx hF lx ix wy, hv⟩
              · cases gy : (FloatKind.f64.format.order (rung y) 4652218415073722368 == some .gt)
                · obtain ⟨hle, hle2⟩ := ord1024 hF gy
                  obtain ⟨n, hn, hc⟩ := pow_whole hF wy hle2
                  obtain ⟨Q, Q2⟩ := pwq_of (a := rung x) n (by omega)
                  have CS := Lib.hid (fun W => squared_any (rung x) n hn Q W)
                  have key : ∃ r, r < 18446744073709551616 ∧ AmtIs (rung x) y r ∧ (∀ W : World, Calls Try.prog 66 #[.float .f64 (rung x), .float .f64 y] W fun e w' => e = .returned (.float .f64 r) ∧ W = w') := by
                    cases ly : (FloatKind.f64.format.order y 0 == some .lt)
                    · have sy : fneg y = false := by rw [lt_zero ny hy0] at ly; exact ly
                      have hyr : rung y = y := by have := word_self hy; rw [sy] at this; exact this
                      exact ⟨rq (rung x) n 11, Nat.lt_of_le_of_lt (Q2 11) (by decide), fun w => famount_pos (rung x) y n _ w ha hi hz hF wy gy ly (by rw [← hyr]; exact hc) CS, fun w => vpower_any (rung x) y n hn hy Q hc ly w⟩
                    · have sy : fneg y = true := by rw [lt_zero ny hy0] at ly; exact ly
                      have hg : Op.negFloat .f64 y = rung y := by
                        have h1 := word_self hy
                        rw [sy] at h1
                        have h2 := neg_float true (r := rung y) (by have := hF.2; omega)
                        rw [h1] at h2
                        exact h2
                      obtain ⟨u, hd, hu⟩ := div_one_some (Q2 11)
                      exact ⟨u, hu, fun w => famount_neg (rung x) y n _ u w ha hi hz hF wy gy ly hg hc CS hd, fun w => vpower_neg (rung x) y n u hn hy Q hc ly hd w⟩
                  obtain ⟨r, hr, CM, CP⟩ := key
                  cases lx' : (FloatKind.f64.format.order x 0 == some .lt)
                  · have hv : ∀ w : World, Calls Try.prog 31 #[.float .f64 x, .float .f64 y] w fun e w' => e = .returned (.float .f64 (sgnd x y r)) ∧ w = w' := fun w => by
                      unfold sgnd
                      cases sx : fneg x
                      · rw [if_neg (by simp)]; exact vPow_pow_f_p x y r w hx sx ny zy nx hy iy ix zx hF lx' wy hle (Lib.hid CP)
                      · cases od : oddb y
                        · rw [if_neg (by simp)]; exact vPow_pow_f_e x y r w hx sx (Lib.hid (fun W => by rw [← od]; exact vodd_any hF W)) ny zy nx hy iy ix zx hF lx' wy hle (Lib.hid CP)
                        · rw [if_pos (by decide)]; exact vPow_pow_f_o x y r w hx sx (Lib.hid (fun W => by rw [← od]; exact vodd_any hF W)) ny zy nx hy iy ix zx hF lx' wy hle (Lib.hid CP)
                    exact ⟨_, sgnd_lt hr, fun w => fPow_sign hx nx hF hy0 (fun _ _ _ => wy) CM w, hv⟩
                  · have hv : ∀ w : World, Calls Try.prog 31 #[.float .f64 x, .float .f64 y] w fun e w' => e = .returned (.float .f64 (sgnd x y r)) ∧ w = w' := fun w => by
                      unfold sgnd
                      cases sx : fneg x
                      · rw [if_neg (by simp)]; exact vPow_pow_t_p x y r w hx sx ny zy nx hy iy ix zx hF lx' wy hle (Lib.hid CP)
                      · cases od : oddb y
                        · rw [if_neg (by simp)]; exact vPow_pow_t_e x y r w hx sx (Lib.hid (fun W => by rw [← od]; exact vodd_any hF W)) ny zy nx hy iy ix zx hF lx' wy hle (Lib.hid CP)
                        · rw [if_pos (by decide)]; exact vPow_pow_t_o x y r w hx sx (Lib.hid (fun W => by rw [← od]; exact vodd_any hF W)) ny zy nx hy iy ix zx hF lx' wy hle (Lib.hid CP)
                    exact ⟨_, sgnd_lt hr, fun w => fPow_sign hx nx hF hy0 (fun _ _ _ => wy) CM w, hv⟩
                · have hle := ord1024' hF gy
                  have CM : AmtIs (rung x) y u := fun w => famount_far (rung x) y l _ u w ha hi hz hF wy gy m1 (Lib.hid hl2) (Lib.hid hE1)
                  cases lx' : (FloatKind.f64.format.order x 0 == some .lt)
                  · have hv : ∀ w : World, Calls Try.prog 31 #[.float .f64 x, .float .f64 y] w fun e w' => e = .returned (.float .f64 (sgnd x y u)) ∧ w = w' := fun w => by
                      unfold sgnd
                      cases sx : fneg x
                      · rw [if_neg (by simp)]; exact vPow_far_f_p x y l (mulF y l) u w hx sx ny zy nx hy iy ix zx hF lx' wy hle m1 (Lib.hid hl3) (Lib.hid hE2)
                      · cases od : oddb y
                        · rw [if_neg (by simp)]; exact vPow_far_f_e x y l (mulF y l) u w hx sx (Lib.hid (fun W => by rw [← od]; exact vodd_any hF W)) ny zy nx hy iy ix zx hF lx' wy hle m1 (Lib.hid hl3) (Lib.hid hE2)
                        · rw [if_pos (by decide)]; exact vPow_far_f_o x y l (mulF y l) u w hx sx (Lib.hid (fun W => by rw [← od]; exact vodd_any hF W)) ny zy nx hy iy ix zx hF lx' wy hle m1 (Lib.hid hl3) (Lib.hid hE2)
                    exact ⟨_, sgnd_lt hu, fun w => fPow_sign hx nx hF hy0 (fun _ _ _ => wy) CM w, hv⟩
                  · have hv : ∀ w : World, Calls Try.prog 31 #[.float .f64 x, .float .f64 y] w fun e w' => e = .returned (.float .f64 (sgnd x y u)) ∧ w = w' := fun w => by
                      unfold sgnd
                      cases sx : fneg x
                      · rw [if_neg (by simp)]; exact vPow_far_t_p x y l (mulF y l) u w hx sx ny zy nx hy iy ix zx hF lx' wy hle m1 (Lib.hid hl3) (Lib.hid hE2)
                      · cases od : oddb y
                        · rw [if_neg (by simp)]; exact vPow_far_t_e x y l (mulF y l) u w hx sx (Lib.hid (fun W => by rw [← od]; exact vodd_any hF W)) ny zy nx hy iy ix zx hF lx' wy hle m1 (Lib.hid hl3) (Lib.hid hE2)
                        · rw [if_pos (by decide)]; exact vPow_far_t_o x y l (mulF y l) u w hx sx (Lib.hid (fun W => by rw [← od]; exact vodd_any hF W)) ny zy nx hy iy ix zx hF lx' wy hle m1 (Lib.hid hl3) (Lib.hid hE2)
                    exact ⟨_, sgnd_lt hu, fun w => fPow_sign hx nx hF hy0 (fun _ _ _ => wy) CM w, hv⟩
            · have h0 : rung x = 0 := by rw [ord_zero] at zx; exact of_decide_eq_true zx
              have CM : AmtIs (rung x) y (endV 0 y) := fun w => by rw [h0]; exact famount_zero 0 y w (by omega) (by decide) (by decide +kernel)
              have hc : fneg x = true → finf x = false → rung x ≠ 0 → whl y = true := fun _ _ h => absurd h0 h
              have e1 : eq1 0 = false := by decide +kernel
              have e2 : gt1 0 = false := by decide +kernel
              unfold endV at CM
              rw [e1, e2, if_neg (by simp)] at CM
              cases g3 : gt0 y
              · rw [g3, if_pos (by decide)] at CM
                have hv : ∀ w : World, Calls Try.prog 31 #[.float .f64 x, .float .f64 y] w fun e w' => e = .returned (.float .f64 (sgnd x y 9218868437227405312)) ∧ w = w' := fun w => by
                  unfold sgnd
                  cases sx : fneg x
                  · rw [if_neg (by simp)]; exact vPow_xzero_f_p x y  w hx sx ny zy nx hy iy ix zx g3
                  · cases od : oddb y
                    · rw [if_neg (by simp)]; exact vPow_xzero_f_e x y  w hx sx (Lib.hid (fun W => by rw [← od]; exact vodd_any hF W)) ny zy nx hy iy ix zx g3
                    · rw [if_pos (by decide)]; exact vPow_xzero_f_o x y  w hx sx (Lib.hid (fun W => by rw [← od]; exact vodd_any hF W)) ny zy nx hy iy ix zx g3
                exact ⟨_, sgnd_lt (by omega), fun w => fPow_sign hx nx hF hy0 hc CM w, hv⟩
              · rw [g3, if_neg (by decide)] at CM
                have hv : ∀ w : World, Calls Try.prog 31 #[.float .f64 x, .float .f64 y] w fun e w' => e = .returned (.float .f64 (sgnd x y 0)) ∧ w = w' := fun w => by
                  unfold sgnd
                  cases sx : fneg x
                  · rw [if_neg (by simp)]; exact vPow_xzero_t_p x y  w hx sx ny zy nx hy iy ix zx g3
                  · cases od : oddb y
                    · rw [if_neg (by simp)]; exact vPow_xzero_t_e x y  w hx sx (Lib.hid (fun W => by rw [← od]; exact vodd_any hF W)) ny zy nx hy iy ix zx g3
                    · rw [if_pos (by decide)]; exact vPow_xzero_t_o x y  w hx sx (Lib.hid (fun W => by rw [← od]; exact vodd_any hF W)) ny zy nx hy iy ix zx g3
                exact ⟨_, sgnd_lt (by omega), fun w => fPow_sign hx nx hF hy0 hc CM w, hv⟩
          · have hr : rung x = 9218868437227405312 := by unfold finf at ix; exact of_decide_eq_true ix
            have CM : AmtIs (rung x) y (endV 9218868437227405312 y) := fun w => by rw [hr]; exact famount_inf 9218868437227405312 y w (by omega) (by decide)
            have hc : fneg x = true → finf x = false → rung x ≠ 0 → whl y = true := fun _ h _ => by rw [ix] at h; cases h
            have e1 : eq1 9218868437227405312 = false := by decide +kernel
            have e2 : gt1 9218868437227405312 = true := by decide +kernel
            unfold endV at CM
            rw [e1, e2, if_neg (by simp)] at CM
            cases g3 : gt0 y
            · rw [g3, if_neg (by decide)] at CM
              have hv : ∀ w : World, Calls Try.prog 31 #[.float .f64 x, .float .f64 y] w fun e w' => e = .returned (.float .f64 (sgnd x y 0)) ∧ w = w' := fun w => by
                unfold sgnd
                cases sx : fneg x
                · rw [if_neg (by simp)]; exact vPow_xinf_f_p x y  w hx sx ny zy nx hy iy ix g3
                · cases od : oddb y
                  · rw [if_neg (by simp)]; exact vPow_xinf_f_e x y  w hx sx (Lib.hid (fun W => by rw [← od]; exact vodd_any hF W)) ny zy nx hy iy ix g3
                  · rw [if_pos (by decide)]; exact vPow_xinf_f_o x y  w hx sx (Lib.hid (fun W => by rw [← od]; exact vodd_any hF W)) ny zy nx hy iy ix g3
              exact ⟨_, sgnd_lt (by omega), fun w => fPow_sign hx nx hF hy0 hc CM w, hv⟩
            · rw [g3, if_pos (by decide)] at CM
              have hv : ∀ w : World, Calls Try.prog 31 #[.float .f64 x, .float .f64 y] w fun e w' => e = .returned (.float .f64 (sgnd x y 9218868437227405312)) ∧ w = w' := fun w => by
                unfold sgnd
                cases sx : fneg x
                · rw [if_neg (by simp)]; exact vPow_xinf_t_p x y  w hx sx ny zy nx hy iy ix g3
                · cases od : oddb y
                  · rw [if_neg (by simp)]; exact vPow_xinf_t_e x y  w hx sx (Lib.hid (fun W => by rw [← od]; exact vodd_any hF W)) ny zy nx hy iy ix g3
                  · rw [if_pos (by decide)]; exact vPow_xinf_t_o x y  w hx sx (Lib.hid (fun W => by rw [← od]; exact vodd_any hF W)) ny zy nx hy iy ix g3
              exact ⟨_, sgnd_lt (by omega), fun w => fPow_sign hx nx hF hy0 hc CM w, hv⟩
        · have CF := fun w => fPow_yinf x y (rung x) w CA zy nx ny hy iy
          unfold endV at CF
          cases h1 : eq1 (rung x)
          · rw [h1] at CF
            simp only [Bool.false_eq_true, if_false] at CF
            cases h2 : gt1 (rung x) <;> cases h3 : gt0 y <;> rw [h2, h3] at CF
            · rw [show (if (false == false) = true then 9218868437227405312 else 0) = 9218868437227405312 by decide] at CF
              have hv : ∀ w : World, Calls Try.prog 31 #[.float .f64 x, .float .f64 y] w fun e w' => e = .returned (.float .f64 9218868437227405312) ∧ w = w' := fun w => by
                obtain ⟨b, hb⟩ := vodd_all hy
                cases sx : fneg x
                · exact vPow_yinf_ff_p x y w hx sx ny zy nx hy iy h1 h2 h3
                · cases b
                  · exact vPow_yinf_ff_e x y w hx sx (Lib.hid hb) ny zy nx hy iy h1 h2 h3
                  · exact vPow_yinf_ff_o x y w hx sx (Lib.hid hb) ny zy nx hy iy h1 h2 h3
              exact ⟨_, by omega, CF, hv⟩
            · rw [show (if (false == true) = true then 9218868437227405312 else 0) = 0 by decide] at CF
              have hv : ∀ w : World, Calls Try.prog 31 #[.float .f64 x, .float .f64 y] w fun e w' => e = .returned (.float .f64 0) ∧ w = w' := fun w => by
                obtain ⟨b, hb⟩ := vodd_all hy
                cases sx : fneg x
                · exact vPow_yinf_ft_p x y w hx sx ny zy nx hy iy h1 h2 h3
                · cases b
                  · exact vPow_yinf_ft_e x y w hx sx (Lib.hid hb) ny zy nx hy iy h1 h2 h3
                  · exact vPow_yinf_ft_o x y w hx sx (Lib.hid hb) ny zy nx hy iy h1 h2 h3
              exact ⟨_, by omega, CF, hv⟩
            · rw [show (if (true == false) = true then 9218868437227405312 else 0) = 0 by decide] at CF
              have hv : ∀ w : World, Calls Try.prog 31 #[.float .f64 x, .float .f64 y] w fun e w' => e = .returned (.float .f64 0) ∧ w = w' := fun w => by
                obtain ⟨b, hb⟩ := vodd_all hy
                cases sx : fneg x
                · exact vPow_yinf_tf_p x y w hx sx ny zy nx hy iy h1 h2 h3
                · cases b
                  · exact vPow_yinf_tf_e x y w hx sx (Lib.hid hb) ny zy nx hy iy h1 h2 h3
                  · exact vPow_yinf_tf_o x y w hx sx (Lib.hid hb) ny zy nx hy iy h1 h2 h3
              exact ⟨_, by omega, CF, hv⟩
            · rw [show (if (true == true) = true then 9218868437227405312 else 0) = 9218868437227405312 by decide] at CF
              have hv : ∀ w : World, Calls Try.prog 31 #[.float .f64 x, .float .f64 y] w fun e w' => e = .returned (.float .f64 9218868437227405312) ∧ w = w' := fun w => by
                obtain ⟨b, hb⟩ := vodd_all hy
                cases sx : fneg x
                · exact vPow_yinf_tt_p x y w hx sx ny zy nx hy iy h1 h2 h3
                · cases b
                  · exact vPow_yinf_tt_e x y w hx sx (Lib.hid hb) ny zy nx hy iy h1 h2 h3
                  · exact vPow_yinf_tt_o x y w hx sx (Lib.hid hb) ny zy nx hy iy h1 h2 h3
              exact ⟨_, by omega, CF, hv⟩
          · rw [h1] at CF
            rw [show ∀ z : Nat, (if true = true then 9221120237041090560 else z) = 9221120237041090560 from fun z => if_pos rfl] at CF
            have hv : ∀ w : World, Calls Try.prog 31 #[.float .f64 x, .float .f64 y] w fun e w' => e = .returned (.float .f64 9221120237041090560) ∧ w = w' := fun w => by
              obtain ⟨b, hb⟩ := vodd_all hy
              cases sx : fneg x
              · exact vPow_yinf1_p x y w hx sx ny zy nx hy iy h1
              · cases b
                · exact vPow_yinf1_e x y w hx sx (Lib.hid hb) ny zy nx hy iy h1
                · exact vPow_yinf1_o x y w hx sx (Lib.hid hb) ny zy nx hy iy h1
            exact ⟨_, nanl, CF, hv⟩
      · have CA := Lib.hid (fun W => nabs_nan x W hx nx)
        have hv : ∀ w : World, Calls Try.prog 31 #[.float .f64 x, .float .f64 y] w fun e w' => e = .returned (.float .f64 9221120237041090560) ∧ w = w' := fun w => by
          obtain ⟨b, hb⟩ := vodd_all hy
          cases sx : fneg x
          · exact vPow_xnan_p x y w hx sx ny zy nx
          · cases b
            · exact vPow_xnan_e x y w hx sx (Lib.hid hb) ny zy nx
            · exact vPow_xnan_o x y w hx sx (Lib.hid hb) ny zy nx
        exact ⟨_, nanl, fun w => fPow_xnan x y _ w CA zy nx, hv⟩
    · have CA : ∃ v, ∀ W : World, Calls Try.prog 51 #[.float .f64 x] W fun e w' => e = .returned (.float .f64 v) ∧ W = w' := by
        cases nx : fnan x
        · exact ⟨_, fun W => nabs_any x W hx nx⟩
        · exact ⟨_, fun W => nabs_nan x W hx nx⟩
      obtain ⟨v, hv0⟩ := CA
      have hv : ∀ w : World, Calls Try.prog 31 #[.float .f64 x, .float .f64 y] w fun e w' => e = .returned (.float .f64 4607182418800017408) ∧ w = w' := fun w => by
        obtain ⟨b, hb⟩ := vodd_all hy
        cases sx : fneg x
        · exact vPow_zero_p x y w hx sx ny zy
        · cases b
          · exact vPow_zero_e x y w hx sx (Lib.hid hb) ny zy
          · exact vPow_zero_o x y w hx sx (Lib.hid hb) ny zy
      exact ⟨_, by omega, fun w => fPow_zero x y v w (Lib.hid hv0) zy, hv⟩
  · have zy : (FloatKind.f64.format.order y 0 == some .eq) = false := by
      unfold fnan at ny
      have h1 := of_decide_eq_true ny
      have : FloatKind.f64.format.order y 0 = none := order_nan (Or.inl h1)
      rw [this]; rfl
    have hv : ∀ w : World, Calls Try.prog 31 #[.float .f64 x, .float .f64 y] w fun e w' => e = .returned (.float .f64 9221120237041090560) ∧ w = w' := fun w => by
      obtain ⟨b, hb⟩ := vodd_all hy
      cases sx : fneg x
      · exact vPow_ynan_p x y w hx sx ny
      · cases b
        · exact vPow_ynan_e x y w hx sx (Lib.hid hb) ny
        · exact vPow_ynan_o x y w hx sx (Lib.hid hb) ny
    cases nx : fnan x
    · exact ⟨_, nanl, fun w => fPow_ynan x y _ w (Lib.hid (fun W => nabs_any x W hx nx)) zy nx ny, hv⟩
    · exact ⟨_, nanl, fun w => fPow_xnan x y _ w (Lib.hid (fun W => nabs_nan x W hx nx)) zy nx, hv⟩
end Go.Proofs.Ytbinpcoaghpcdaa
