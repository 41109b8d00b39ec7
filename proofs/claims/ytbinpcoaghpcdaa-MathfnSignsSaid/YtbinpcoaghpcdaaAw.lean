/-
  Atan2, Asin and Acos of every float; the laws MathfnArcs and MathfnPoints.
-/
import Derived.Test.YtbinpcoaghpcdaaAv
namespace Go.Proofs.Ytbinpcoaghpcdaa
open Go.RowKit
/-- The angle of a point that is not below the axis. -/
def abV (a b : Nat) (l : Bool) : Nat :=
  if a = 0 then (if l = true then 4614256656552045848 else 0) else if b = 0 then 4609753056924675352 else if a = 9218868437227405312 then (if b = 9218868437227405312 then (if l = true then 4612488097114038738 else 4605249457297304856) else 4609753056924675352) else if b = 9218868437227405312 then (if l = true then 4614256656552045848 else 0) else if l = true then subF 4614256656552045848 (atU (divF a b)) else atU (divF a b)
/-- An angle of an amount: a float from 0 to 3. -/
theorem atU_amt {q : Nat} (hq : q ≤ 9218868437227405312) : Fin64 (atU q) ∧ fneg (atU q) = false ∧ rung (atU q) ≤ 4613937818241073152 := by
  obtain ⟨J, hJ⟩ : ∃ J : Nat, J = 1071 := ⟨_, rfl⟩
  obtain ⟨K, hK⟩ : ∃ K : Nat, K = 1074 := ⟨_, rfl⟩
  have hKJ : 2 ^ K = 8 * 2 ^ J := by rw [show K = 3 + J by omega, Nat.pow_add]
  obtain ⟨p1, p2, p3⟩ := pos_rung (x := q) (by omega)
  have nq : fnan q = false := by unfold fnan; rw [p1]; exact decide_eq_false (by omega)
  unfold atU
  rw [nq, p1, p2, if_neg (by simp)]
  by_cases h0 : q = 0
  · rw [if_pos h0, h0]
    exact ⟨(pos_fin (v := 0) (by omega)).1, by decide, by decide⟩
  · rw [if_neg h0]
    obtain ⟨_, v1, v2⟩ := at_q (a := q) (by omega) hq hJ
    have e : Ieee.double.word false (rung (atV q)) = rung (atV q) := rfl
    rw [e]
    obtain ⟨r1, r2, r3⟩ := pos_fin v1.2
    refine ⟨r1, r3, ?_⟩
    rw [r2]
    obtain ⟨_, t3, _⟩ := fl_fin (N := 3) (by omega) hK
    have e3 : mg (fl 3) = fmag 4613937818241073152 := by rw [show fl 3 = 4613937818241073152 by decide +kernel]; unfold mg; rw [show rung 4613937818241073152 = 4613937818241073152 by decide]
    rw [e3] at t3
    rcases Nat.lt_or_ge 4613937818241073152 (rung (atV q)) with h | h
    · have h2 := fmag_step h
      rw [t3, hKJ] at h2
      have e4 : fmag (rung (atV q)) = mg (atV q) := rfl
      omega
    · exact h
/-- What is over PI of such an angle. -/
theorem pi_less {t : Nat} (ht : Fin64 t) (hn : fneg t = false) (hr : rung t ≤ 4613937818241073152) : Ieee.double.sub 4614256656552045848 t = some (subF 4614256656552045848 t) ∧ Fin64 (subF 4614256656552045848 t) ∧ rung (subF 4614256656552045848 t) ≤ 4614256656552045848 := by
  obtain ⟨p1, p2, p3⟩ := pos_fin (v := 4614256656552045848) (by omega)
  obtain ⟨a1, a2, _, a4⟩ := subF_core p1 ht
  have s1 : sv 4614256656552045848 = (mg 4614256656552045848 : Int) := by unfold sv; rw [p3, if_neg (by simp)]
  have s2 : sv t = (mg t : Int) := by unfold sv; rw [hn, if_neg (by simp)]
  have m1 : mg 4614256656552045848 = fmag 4614256656552045848 := by unfold mg; rw [p2]
  have m2 : mg t ≤ fmag 4614256656552045848 := fmag_le (by omega)
  have h := nearly_le (R := 4614256656552045848) (by omega) a4 (by rw [s1, s2, m1]; omega)
  exact ⟨a1, ⟨a2, by omega⟩, h⟩
theorem div_amt {a b : Nat} (ha : a < 9218868437227405312) (hb : b < 9218868437227405312) (hb0 : b ≠ 0) : Ieee.double.div a b = some (divF a b) ∧ divF a b ≤ 9218868437227405312 := by
  obtain ⟨K, hK⟩ : ∃ K : Nat, K = 1074 := ⟨_, rfl⟩
  obtain ⟨p1, p2, p3⟩ := pos_fin ha
  obtain ⟨q1, q2, q3⟩ := pos_fin hb
  obtain ⟨d1, d2, d3, d4⟩ := divF_core p1 q1 (by omega) hK
  rw [p3, q3] at d3
  have h := word_self d2
  rw [d3] at h
  have h' : rung (divF a b) = divF a b := h
  rw [h'] at d4
  exact ⟨d1, nearly_inf d4⟩
theorem abV_le {a b : Nat} (l : Bool) (ha : a ≤ 9218868437227405312) (hb : b ≤ 9218868437227405312) : abV a b l < 18446744073709551616 ∧ rung (abV a b l) ≤ 4614256656552045848 := by
  have key : ∀ c, c ≤ 4614256656552045848 → c < 18446744073709551616 ∧ rung c ≤ 4614256656552045848 := fun c hc => by
    obtain ⟨p1, _⟩ := pos_rung (x := c) (by omega)
    exact ⟨by omega, by rw [p1]; exact hc⟩
  unfold abV
  by_cases h1 : a = 0
  · rw [if_pos h1]; cases l <;> exact key _ (by decide)
  · rw [if_neg h1]
    by_cases h2 : b = 0
    · rw [if_pos h2]; exact key _ (by omega)
    · rw [if_neg h2]
      by_cases h3 : a = 9218868437227405312
      · rw [if_pos h3]
        by_cases h4 : b = 9218868437227405312
        · rw [if_pos h4]; cases l <;> exact key _ (by decide)
        · rw [if_neg h4]; exact key _ (by omega)
      · rw [if_neg h3]
        by_cases h4 : b = 9218868437227405312
        · rw [if_pos h4]; cases l <;> exact key _ (by decide)
        · rw [if_neg h4]
          obtain ⟨_, d2⟩ := div_amt (a := a) (b := b) (by omega) (by omega) h2
          obtain ⟨t1, t2, t3⟩ := atU_amt d2
          cases l
          · rw [if_neg (by simp)]; exact ⟨t1.1, by omega⟩
          · rw [if_pos rfl]
            obtain ⟨_, u2, u3⟩ := pi_less t1 t2 t3
            exact ⟨u2.1, u3⟩
theorem eq0_rung {x : Nat} (hx : x ≤ 9218868437227405312) : (FloatKind.f64.format.order x 0 == some .eq) = decide (x = 0) := by rw [ord_zero, (pos_rung (x := x) (by omega)).1]
theorem finf_amt {x : Nat} (hx : x ≤ 9218868437227405312) : finf x = decide (x = 9218868437227405312) := by unfold finf; rw [(pos_rung (x := x) (by omega)).1]
theorem above_any {a b : Nat} (l : Bool) (ha : a ≤ 9218868437227405312) (hb : b ≤ 9218868437227405312) (w : World) : Calls Try.prog 57 #[.float .f64 a, .float .f64 b, .bool l] w fun e w' => e = .returned (.float .f64 (abV a b l)) ∧ w = w' := by
  have ha' : a < 18446744073709551616 := by omega
  have hb' : b < 18446744073709551616 := by omega
  have ea := eq0_rung ha
  have eb := eq0_rung hb
  have ia := finf_amt ha
  have ib := finf_amt hb
  unfold abV
  by_cases h1 : a = 0
  · rw [if_pos h1]
    rw [decide_eq_true h1] at ea
    rw [decide_eq_false (by omega)] at ia
    by_cases h4 : b = 9218868437227405312
    · rw [decide_eq_true h4] at ib
      cases l
      · exact fabove_y0_fft a b w ha' hb' ia ib ea
      · exact fabove_y0_tft a b w ha' hb' ia ib ea
    · rw [decide_eq_false h4] at ib
      cases l
      · exact fabove_y0_fff a b w ha' hb' ia ib ea
      · exact fabove_y0_tff a b w ha' hb' ia ib ea
  · rw [if_neg h1]
    rw [decide_eq_false h1] at ea
    by_cases h2 : b = 0
    · rw [if_pos h2]
      rw [decide_eq_true h2] at eb
      rw [decide_eq_false (by omega)] at ib
      by_cases h3 : a = 9218868437227405312
      · rw [decide_eq_true h3] at ia
        cases l
        · exact fabove_x0_ftf a b w ha' hb' ia ib ea eb
        · exact fabove_x0_ttf a b w ha' hb' ia ib ea eb
      · rw [decide_eq_false h3] at ia
        cases l
        · exact fabove_x0_fff a b w ha' hb' ia ib ea eb
        · exact fabove_x0_tff a b w ha' hb' ia ib ea eb
    · rw [if_neg h2]
      rw [decide_eq_false h2] at eb
      by_cases h3 : a = 9218868437227405312
      · rw [if_pos h3]
        rw [decide_eq_true h3] at ia
        by_cases h4 : b = 9218868437227405312
        · rw [if_pos h4]
          rw [decide_eq_true h4] at ib
          cases l
          · exact fabove_ftt a b w ha' hb' ia ib ea eb
          · exact fabove_ttt a b w ha' hb' ia ib ea eb
        · rw [if_neg h4]
          rw [decide_eq_false h4] at ib
          cases l
          · exact fabove_ftf a b w ha' hb' ia ib ea eb
          · exact fabove_ttf a b w ha' hb' ia ib ea eb
      · rw [if_neg h3]
        rw [decide_eq_false h3] at ia
        by_cases h4 : b = 9218868437227405312
        · rw [if_pos h4]
          rw [decide_eq_true h4] at ib
          cases l
          · exact fabove_fft a b w ha' hb' ia ib ea eb
          · exact fabove_tft a b w ha' hb' ia ib ea eb
        · rw [if_neg h4]
          rw [decide_eq_false h4] at ib
          obtain ⟨d1, d2⟩ := div_amt (a := a) (b := b) (by omega) (by omega) h2
          obtain ⟨t1, t2, t3⟩ := atU_amt d2
          have CT := Lib.hid (fun W => fAtan_any (x := divF a b) (by omega) W)
          cases l
          · rw [if_neg (by simp)]
            exact fabove_fff a b _ _ w ha' hb' ia ib ea eb d1 CT
          · rw [if_pos rfl]
            exact fabove_tff a b _ _ _ w ha' hb' ia ib ea eb d1 CT (pi_less t1 t2 t3).1
def a2U (y x : Nat) : Nat := if fnan y = true ∨ fnan x = true then 9221120237041090560 else Ieee.double.word (fneg y) (rung (abV (rung y) (rung x) (fneg x)))
theorem fAtan2_any {y x : Nat} (hy : y < 18446744073709551616) (hx : x < 18446744073709551616) (w : World) : Calls Try.prog 28 #[.float .f64 y, .float .f64 x] w fun e w' => e = .returned (.float .f64 (a2U y x)) ∧ w = w' := by
  unfold a2U
  cases ny : fnan y
  · cases nx : fnan x
    · rw [if_neg (by simp)]
      exact fAtan2_main y x _ w hy hx (abV_le _ (rung_real ny) (rung_real nx)).1 ny nx (Lib.hid (fun W => above_any (fneg x) (rung_real ny) (rung_real nx) W))
    · rw [if_pos (by simp)]; exact fAtan2_xnan y x w ny nx
  · rw [if_pos (by simp)]; exact fAtan2_ynan y x w ny
theorem vAtan2_any {y x : Nat} (hy : y < 18446744073709551616) (hx : x < 18446744073709551616) (w : World) : Calls Try.prog 29 #[.float .f64 y, .float .f64 x] w fun e w' => e = .returned (.float .f64 (a2U y x)) ∧ w = w' := by
  unfold a2U
  cases nx : fnan x
  · cases ny : fnan y
    · rw [if_neg (by simp)]
      have ey := ord_zero y
      have ex := ord_zero x
      have iy : finf y = decide (rung y = 9218868437227405312) := rfl
      have ix : finf x = decide (rung x = 9218868437227405312) := rfl
      have ry := rung_real ny
      have rx := rung_real nx
      unfold abV
      by_cases h1 : rung y = 0
      · rw [if_pos h1]
        rw [decide_eq_true h1] at ey
        cases sx : fneg x
        · exact vAtan2_y0_f y x w hy hx nx ny sx ey
        · exact vAtan2_y0_t y x w hy hx nx ny sx ey
      · rw [if_neg h1]
        rw [decide_eq_false h1] at ey
        by_cases h2 : rung x = 0
        · rw [if_pos h2]
          rw [decide_eq_true h2] at ex
          cases sx : fneg x
          · exact vAtan2_x0_f y x w hy hx nx ny sx ey ex
          · exact vAtan2_x0_t y x w hy hx nx ny sx ey ex
        · rw [if_neg h2]
          rw [decide_eq_false h2] at ex
          by_cases h3 : rung y = 9218868437227405312
          · rw [if_pos h3]
            rw [decide_eq_true h3] at iy
            by_cases h4 : rung x = 9218868437227405312
            · rw [if_pos h4]
              rw [decide_eq_true h4] at ix
              cases sx : fneg x
              · exact vAtan2_both_f y x w hy hx nx ny sx ey ex ix iy
              · exact vAtan2_both_t y x w hy hx nx ny sx ey ex ix iy
            · rw [if_neg h4]
              rw [decide_eq_false h4] at ix
              cases sx : fneg x
              · exact vAtan2_yinf_f y x w hy hx nx ny sx ey ex ix iy
              · exact vAtan2_yinf_t y x w hy hx nx ny sx ey ex ix iy
          · rw [if_neg h3]
            rw [decide_eq_false h3] at iy
            by_cases h4 : rung x = 9218868437227405312
            · rw [if_pos h4]
              rw [decide_eq_true h4] at ix
              cases sx : fneg x
              · exact vAtan2_xinf_f y x w hy hx nx ny sx ey ex ix iy
              · exact vAtan2_xinf_t y x w hy hx nx ny sx ey ex ix iy
            · rw [if_neg h4]
              rw [decide_eq_false h4] at ix
              obtain ⟨d1, d2⟩ := div_amt (a := rung y) (b := rung x) (by omega) (by omega) h2
              obtain ⟨t1, t2, t3⟩ := atU_amt d2
              have CT := Lib.hid (fun W => vAtan_any (x := divF (rung y) (rung x)) (by omega) W)
              cases sx : fneg x
              · rw [if_neg (by simp)]
                exact vAtan2_fin_f y x _ _ w hy hx nx ny sx ey ex ix iy t1.1 d1 CT
              · rw [if_pos rfl]
                obtain ⟨u1, u2, _⟩ := pi_less t1 t2 t3
                exact vAtan2_fin_t y x _ _ _ w hy hx nx ny sx ey ex ix iy u2.1 d1 CT u1
    · rw [if_pos (by simp)]; exact vAtan2_ynan y x w nx ny
  · rw [if_pos (by simp)]; exact vAtan2_xnan y x w nx
theorem a2U_lt {y x : Nat} : a2U y x < 18446744073709551616 := by
  unfold a2U
  split
  · omega
  · exact (word_rung _ (Nat.mod_lt _ (by omega))).2.2
/-- A root of a finite float that isn't below 0. -/
theorem sqrt_some {s : Nat} (hs : Fin64 s) (hn : fneg s = false) : ∃ r, Ieee.double.sqrt s = some r ∧ fnan r = false ∧ r < 18446744073709551616 := by
  obtain ⟨m, e, h1, _⟩ := read_fin64 hs
  rw [hn] at h1
  have key : ∃ d, Ieee.Datum.root (Ieee.double.fractionBits + 2) (.number false m e) = some d ∧ ∃ m' e', d = .number false m' e' := by
    unfold Ieee.Datum.root
    dsimp only
    by_cases h : m = 0
    · rw [if_pos h]; exact ⟨_, rfl, _, _, rfl⟩
    · rw [if_neg h, if_neg (by simp)]; exact ⟨_, rfl, _, _, rfl⟩
  obtain ⟨d, k1, m', e', rfl⟩ := key
  have k2 := near_real false m' e'
  exact ⟨_, by unfold Ieee.Format.sqrt; rw [h1, k1]; rfl, k2.1, k2.2⟩
theorem mSqrt_real {s r : Nat} (h : Ieee.double.sqrt s = some r) (w : World) : Calls Try.prog 78 #[.float .f64 s] w fun e w' => e = .returned (.float .f64 r) ∧ w = w' := by
  have h1 : (callFunc 93 #[.float .f64 s]).run Try.prog w = .ok (.value (.float .f64 r)) w := by
    have e1 : Extern.MathSqrt.sqrt #[.float .f64 s] = (match Ieee.double.sqrt s with
      | some r => pure (Value.float .f64 r)
      | none => do pure (Value.float .f64 (← choose (.nanBits .f64 s s)))) := rfl
    rw [run_callFunc_extern (e := Extern.MathSqrt.sqrt) Try.func93 (by kernel_rfl) (by kernel_rfl) (by kernel_rfl) (by kernel_rfl), e1, h]
    rfl
  clear h
  go_enter Try.func78, Try.ntmps78
  go_wp2
  go_ret
  exact ⟨rfl, rfl⟩
theorem nSqrt_real {s r : Nat} (h : Ieee.double.sqrt s = some r) (nr : fnan r = false) (w : World) : Calls Try.prog 77 #[.float .f64 s] w fun e w' => e = .returned (.float .f64 r) ∧ w = w' := by
  have C1 := Lib.hid (fun W => mSqrt_real h W)
  have C2 := Lib.hid (fun W => told_any r W)
  rw [show cn r = r from by unfold cn; rw [nr]; rfl] at C2
  clear h nr
  go_enter Try.func77, Try.ntmps77
  go_wp2_with fail
  refine (C1.out _).mono ?_
  rintro e w' ⟨rfl, rfl⟩
  go_wp2_with fail
  refine (C2.out _).mono ?_
  rintro e w' ⟨rfl, rfl⟩
  go_wp2
  go_ret
  exact ⟨rfl, rfl⟩
structure LegQ (x d a s r : Nat) : Prop where
  m1 : Ieee.double.sub 4607182418800017408 x = some d
  m2 : Ieee.double.add 4607182418800017408 x = some a
  m3 : Ieee.double.mul d a = some s
  m4 : Ieee.double.sqrt s = some r
  nr : fnan r = false
  lt : r < 18446744073709551616
theorem leg_q {x : Nat} (hx : Fin64 x) (h : rung x ≤ 4607182418800017408) : ∃ d a s r, LegQ x d a s r := by
  obtain ⟨K, hK⟩ : ∃ K : Nat, K = 1074 := ⟨_, rfl⟩
  obtain ⟨o1, o2, o3, o4⟩ := one_fin hK
  have hone : fmag 4607182418800017408 = 2 ^ K := fmag_one hK
  have hm : mg x ≤ 2 ^ K := by rw [← hone]; exact fmag_le h
  have hs := sv_abs x
  obtain ⟨a1, a2, a3, a4⟩ := subF_core o1 hx
  obtain ⟨b1, b2, b3, b4⟩ := addF_core o1 hx
  rw [o4] at a3 a4 b3 b4
  have bx : Bd 1074 x := by rw [← hK]; exact Bd.mk' hx hm (by omega)
  obtain ⟨_, a5⟩ := subF_B one_bd bx (by omega)
  obtain ⟨_, b5⟩ := addF_B one_bd bx (by omega)
  have fa : fneg (subF 4607182418800017408 x) = false := by
    rw [a3]
    split
    · rw [o3]; rfl
    · exact decide_eq_false (by omega)
  have fb : fneg (addF 4607182418800017408 x) = false := by
    rw [b3]
    split
    · rw [o3]; rfl
    · exact decide_eq_false (by omega)
  obtain ⟨c1, c5⟩ := mulF_B (c := 1076) a5 b5 (by omega) (by omega)
  obtain ⟨_, _, c3, _⟩ := mulF_core a5.fin b5.fin hK
  rw [fa, fb] at c3
  obtain ⟨r, r1, r2, r3⟩ := sqrt_some c5.fin c3
  exact ⟨_, _, _, r, a1, b1, c1, r1, r2, r3⟩
theorem leg_any {x d a s r : Nat} (Q : LegQ x d a s r) (w : World) : Calls Try.prog 55 #[.float .f64 x] w fun e w' => e = .returned (.float .f64 r) ∧ w = w' := by
  obtain ⟨m1, m2, m3, m4, nr, _⟩ := Q
  have w1 := wSub m1
  have w2 := wAdd m2
  have C1 := Lib.hid (fun W => times_any m3 W)
  have C2 := Lib.hid (fun W => nSqrt_real m4 nr W)
  clear m1 m2 m3 m4 nr
  go_enter Try.func55, Try.ntmps55
  go_wp2_with fail
  refine (C1.out _).mono ?_
  rintro e w' ⟨rfl, rfl⟩
  go_wp2_with fail
  refine (C2.out _).mono ?_
  rintro e w' ⟨rfl, rfl⟩
  go_wp2
  go_ret
  exact ⟨rfl, rfl⟩
theorem side_any {x d a s r : Nat} (Q : LegQ x d a s r) (w : World) : Calls Try.prog 56 #[.float .f64 x] w fun e w' => e = .returned (.float .f64 r) ∧ w = w' := by
  obtain ⟨m1, m2, m3, m4, nr, _⟩ := Q
  have w1 := wSub m1
  have w2 := wAdd m2
  have w3 := wMul m3
  have C2 := Lib.hid (fun W => mSqrt_real m4 W)
  clear m1 m2 m3 m4 nr
  go_enter Try.func56, Try.ntmps56
  go_wp2_with fail
  refine (C2.out _).mono ?_
  rintro e w' ⟨rfl, rfl⟩
  go_wp2
  go_ret
  exact ⟨rfl, rfl⟩
set_option maxRecDepth 100000 in
theorem fAsin_nan (w : World) {x : Nat} (nx : fnan x = true) : Calls Try.prog 24 #[.float .f64 x] w fun e w' => e = .returned (.float .f64 9221120237041090560) ∧ w = w' := by
  have CX := Lib.hid (fun W => isNaN_any x W)
  rw [nx] at CX
  have CQ := Lib.hid (fun W => const_any 9221120237041090560 W)
  clear nx
  go_enter Try.func24, Try.ntmps24
  go_wp2_with fail
  refine (CX.out _).mono ?_
  rintro e w' ⟨rfl, rfl⟩
  go_wp2_with fail
  refine (CQ.out _).mono ?_
  rintro e w' ⟨rfl, rfl⟩
  go_wp2
  go_ret
  exact ⟨rfl, rfl⟩
set_option maxRecDepth 100000 in
theorem fAsin_far (w : World) {x : Nat} (hx : x < 18446744073709551616) (nx : fnan x = false) (g : (FloatKind.f64.format.order (rung x) 4607182418800017408 == some .gt) = true) : Calls Try.prog 24 #[.float .f64 x] w fun e w' => e = .returned (.float .f64 9221120237041090560) ∧ w = w' := by
  have CX := Lib.hid (fun W => isNaN_any x W)
  rw [nx] at CX
  have CA := Lib.hid (fun W => nabs_any x W hx nx)
  obtain ⟨b, hb⟩ : ∃ b, rung x = b := ⟨_, rfl⟩
  rw [hb] at CA g
  have CQ := Lib.hid (fun W => const_any 9221120237041090560 W)
  clear hx nx hb
  go_enter Try.func24, Try.ntmps24
  go_wp2_with fail
  refine (CX.out _).mono ?_
  rintro e w' ⟨rfl, rfl⟩
  go_wp2_with fail
  refine (CA.out _).mono ?_
  rintro e w' ⟨rfl, rfl⟩
  go_wp2_with fail
  refine (CQ.out _).mono ?_
  rintro e w' ⟨rfl, rfl⟩
  go_wp2
  go_ret
  exact ⟨rfl, rfl⟩
set_option maxRecDepth 100000 in
theorem fAsin_zero (w : World) {x : Nat} (hx : x < 18446744073709551616) (nx : fnan x = false) (g : (FloatKind.f64.format.order (rung x) 4607182418800017408 == some .gt) = false) (z : (FloatKind.f64.format.order x 0 == some .eq) = true) : Calls Try.prog 24 #[.float .f64 x] w fun e w' => e = .returned (.float .f64 x) ∧ w = w' := by
  have CX := Lib.hid (fun W => isNaN_any x W)
  rw [nx] at CX
  have CA := Lib.hid (fun W => nabs_any x W hx nx)
  obtain ⟨b, hb⟩ : ∃ b, rung x = b := ⟨_, rfl⟩
  rw [hb] at CA g
  clear hx nx hb
  go_enter Try.func24, Try.ntmps24
  go_wp2_with fail
  refine (CX.out _).mono ?_
  rintro e w' ⟨rfl, rfl⟩
  go_wp2_with fail
  refine (CA.out _).mono ?_
  rintro e w' ⟨rfl, rfl⟩
  go_wp2
  go_ret
  exact ⟨rfl, rfl⟩
set_option maxRecDepth 100000 in
theorem fAsin_main (w : World) {x d a s r : Nat} (hx : x < 18446744073709551616) (nx : fnan x = false) (g : (FloatKind.f64.format.order (rung x) 4607182418800017408 == some .gt) = false) (z : (FloatKind.f64.format.order x 0 == some .eq) = false) (Q : LegQ x d a s r) : Calls Try.prog 24 #[.float .f64 x] w fun e w' => e = .returned (.float .f64 (a2U x r)) ∧ w = w' := by
  have CX := Lib.hid (fun W => isNaN_any x W)
  rw [nx] at CX
  have CA := Lib.hid (fun W => nabs_any x W hx nx)
  obtain ⟨b, hb⟩ : ∃ b, rung x = b := ⟨_, rfl⟩
  rw [hb] at CA g
  have CL := Lib.hid (fun W => leg_any Q W)
  have CT := Lib.hid (fun W => fAtan2_any hx Q.lt W)
  obtain ⟨R, hR⟩ : ∃ R, a2U x r = R := ⟨_, rfl⟩
  rw [hR] at CT ⊢
  clear hx nx hb Q hR
  go_enter Try.func24, Try.ntmps24
  go_wp2_with fail
  refine (CX.out _).mono ?_
  rintro e w' ⟨rfl, rfl⟩
  go_wp2_with fail
  refine (CA.out _).mono ?_
  rintro e w' ⟨rfl, rfl⟩
  go_wp2_with fail
  refine (CL.out _).mono ?_
  rintro e w' ⟨rfl, rfl⟩
  go_wp2_with fail
  refine (CT.out _).mono ?_
  rintro e w' ⟨rfl, rfl⟩
  go_wp2
  go_ret
  exact ⟨rfl, rfl⟩
set_option maxRecDepth 100000 in
theorem vAsin_nan (w : World) {x : Nat} (nx : fnan x = true) : Calls Try.prog 25 #[.float .f64 x] w fun e w' => e = .returned (.float .f64 9221120237041090560) ∧ w = w' := by
  have CX := Lib.hid (fun W => isNaN_any x W)
  rw [nx] at CX
  have CQ := Lib.hid (fun W => vnan_any W)
  clear nx
  go_enter Try.func25, Try.ntmps25
  go_wp2_with fail
  refine (CX.out _).mono ?_
  rintro e w' ⟨rfl, rfl⟩
  go_wp2_with fail
  refine (CQ.out _).mono ?_
  rintro e w' ⟨rfl, rfl⟩
  go_wp2
  go_ret
  exact ⟨rfl, rfl⟩
set_option maxRecDepth 100000 in
theorem vAsin_far (w : World) {x : Nat} (hx : x < 18446744073709551616) (nx : fnan x = false) (g : (FloatKind.f64.format.order (rung x) 4607182418800017408 == some .gt) = true) : Calls Try.prog 25 #[.float .f64 x] w fun e w' => e = .returned (.float .f64 9221120237041090560) ∧ w = w' := by
  have CX := Lib.hid (fun W => isNaN_any x W)
  rw [nx] at CX
  have CA := Lib.hid (fun W => abs_any x W hx)
  obtain ⟨b, hb⟩ : ∃ b, rung x = b := ⟨_, rfl⟩
  rw [hb] at CA g
  have CQ := Lib.hid (fun W => vnan_any W)
  clear hx nx hb
  go_enter Try.func25, Try.ntmps25
  go_wp2_with fail
  refine (CX.out _).mono ?_
  rintro e w' ⟨rfl, rfl⟩
  go_wp2_with fail
  refine (CA.out _).mono ?_
  rintro e w' ⟨rfl, rfl⟩
  go_wp2_with fail
  refine (CQ.out _).mono ?_
  rintro e w' ⟨rfl, rfl⟩
  go_wp2
  go_ret
  exact ⟨rfl, rfl⟩
set_option maxRecDepth 100000 in
theorem vAsin_zero (w : World) {x : Nat} (hx : x < 18446744073709551616) (nx : fnan x = false) (g : (FloatKind.f64.format.order (rung x) 4607182418800017408 == some .gt) = false) (z : (FloatKind.f64.format.order x 0 == some .eq) = true) : Calls Try.prog 25 #[.float .f64 x] w fun e w' => e = .returned (.float .f64 x) ∧ w = w' := by
  have CX := Lib.hid (fun W => isNaN_any x W)
  rw [nx] at CX
  have CA := Lib.hid (fun W => abs_any x W hx)
  obtain ⟨b, hb⟩ : ∃ b, rung x = b := ⟨_, rfl⟩
  rw [hb] at CA g
  clear hx nx hb
  go_enter Try.func25, Try.ntmps25
  go_wp2_with fail
  refine (CX.out _).mono ?_
  rintro e w' ⟨rfl, rfl⟩
  go_wp2_with fail
  refine (CA.out _).mono ?_
  rintro e w' ⟨rfl, rfl⟩
  go_wp2
  go_ret
  exact ⟨rfl, rfl⟩
set_option maxRecDepth 100000 in
theorem vAsin_main (w : World) {x d a s r : Nat} (hx : x < 18446744073709551616) (nx : fnan x = false) (g : (FloatKind.f64.format.order (rung x) 4607182418800017408 == some .gt) = false) (z : (FloatKind.f64.format.order x 0 == some .eq) = false) (Q : LegQ x d a s r) : Calls Try.prog 25 #[.float .f64 x] w fun e w' => e = .returned (.float .f64 (a2U x r)) ∧ w = w' := by
  have CX := Lib.hid (fun W => isNaN_any x W)
  rw [nx] at CX
  have CA := Lib.hid (fun W => abs_any x W hx)
  obtain ⟨b, hb⟩ : ∃ b, rung x = b := ⟨_, rfl⟩
  rw [hb] at CA g
  have CL := Lib.hid (fun W => side_any Q W)
  have CT := Lib.hid (fun W => vAtan2_any hx Q.lt W)
  obtain ⟨R, hR⟩ : ∃ R, a2U x r = R := ⟨_, rfl⟩
  rw [hR] at CT ⊢
  clear hx nx hb Q hR
  go_enter Try.func25, Try.ntmps25
  go_wp2_with fail
  refine (CX.out _).mono ?_
  rintro e w' ⟨rfl, rfl⟩
  go_wp2_with fail
  refine (CA.out _).mono ?_
  rintro e w' ⟨rfl, rfl⟩
  go_wp2_with fail
  refine (CL.out _).mono ?_
  rintro e w' ⟨rfl, rfl⟩
  go_wp2_with fail
  refine (CT.out _).mono ?_
  rintro e w' ⟨rfl, rfl⟩
  go_wp2
  go_ret
  exact ⟨rfl, rfl⟩
set_option maxRecDepth 100000 in
theorem fAcos_nan (w : World) {x : Nat} (nx : fnan x = true) : Calls Try.prog 26 #[.float .f64 x] w fun e w' => e = .returned (.float .f64 9221120237041090560) ∧ w = w' := by
  have CX := Lib.hid (fun W => isNaN_any x W)
  rw [nx] at CX
  have CQ := Lib.hid (fun W => const_any 9221120237041090560 W)
  clear nx
  go_enter Try.func26, Try.ntmps26
  go_wp2_with fail
  refine (CX.out _).mono ?_
  rintro e w' ⟨rfl, rfl⟩
  go_wp2_with fail
  refine (CQ.out _).mono ?_
  rintro e w' ⟨rfl, rfl⟩
  go_wp2
  go_ret
  exact ⟨rfl, rfl⟩
set_option maxRecDepth 100000 in
theorem fAcos_far (w : World) {x : Nat} (hx : x < 18446744073709551616) (nx : fnan x = false) (g : (FloatKind.f64.format.order (rung x) 4607182418800017408 == some .gt) = true) : Calls Try.prog 26 #[.float .f64 x] w fun e w' => e = .returned (.float .f64 9221120237041090560) ∧ w = w' := by
  have CX := Lib.hid (fun W => isNaN_any x W)
  rw [nx] at CX
  have CA := Lib.hid (fun W => nabs_any x W hx nx)
  obtain ⟨b, hb⟩ : ∃ b, rung x = b := ⟨_, rfl⟩
  rw [hb] at CA g
  have CQ := Lib.hid (fun W => const_any 9221120237041090560 W)
  clear hx nx hb
  go_enter Try.func26, Try.ntmps26
  go_wp2_with fail
  refine (CX.out _).mono ?_
  rintro e w' ⟨rfl, rfl⟩
  go_wp2_with fail
  refine (CA.out _).mono ?_
  rintro e w' ⟨rfl, rfl⟩
  go_wp2_with fail
  refine (CQ.out _).mono ?_
  rintro e w' ⟨rfl, rfl⟩
  go_wp2
  go_ret
  exact ⟨rfl, rfl⟩
set_option maxRecDepth 100000 in
theorem fAcos_main (w : World) {x d a s r : Nat} (hx : x < 18446744073709551616) (nx : fnan x = false) (g : (FloatKind.f64.format.order (rung x) 4607182418800017408 == some .gt) = false) (Q : LegQ x d a s r) : Calls Try.prog 26 #[.float .f64 x] w fun e w' => e = .returned (.float .f64 (a2U r x)) ∧ w = w' := by
  have CX := Lib.hid (fun W => isNaN_any x W)
  rw [nx] at CX
  have CA := Lib.hid (fun W => nabs_any x W hx nx)
  obtain ⟨b, hb⟩ : ∃ b, rung x = b := ⟨_, rfl⟩
  rw [hb] at CA g
  have CL := Lib.hid (fun W => leg_any Q W)
  have CT := Lib.hid (fun W => fAtan2_any Q.lt hx W)
  obtain ⟨R, hR⟩ : ∃ R, a2U r x = R := ⟨_, rfl⟩
  rw [hR] at CT ⊢
  clear hx nx hb Q hR
  go_enter Try.func26, Try.ntmps26
  go_wp2_with fail
  refine (CX.out _).mono ?_
  rintro e w' ⟨rfl, rfl⟩
  go_wp2_with fail
  refine (CA.out _).mono ?_
  rintro e w' ⟨rfl, rfl⟩
  go_wp2_with fail
  refine (CL.out _).mono ?_
  rintro e w' ⟨rfl, rfl⟩
  go_wp2_with fail
  refine (CT.out _).mono ?_
  rintro e w' ⟨rfl, rfl⟩
  go_wp2
  go_ret
  exact ⟨rfl, rfl⟩
set_option maxRecDepth 100000 in
theorem vAcos_nan (w : World) {x : Nat} (nx : fnan x = true) : Calls Try.prog 27 #[.float .f64 x] w fun e w' => e = .returned (.float .f64 9221120237041090560) ∧ w = w' := by
  have CX := Lib.hid (fun W => isNaN_any x W)
  rw [nx] at CX
  have CQ := Lib.hid (fun W => vnan_any W)
  clear nx
  go_enter Try.func27, Try.ntmps27
  go_wp2_with fail
  refine (CX.out _).mono ?_
  rintro e w' ⟨rfl, rfl⟩
  go_wp2_with fail
  refine (CQ.out _).mono ?_
  rintro e w' ⟨rfl, rfl⟩
  go_wp2
  go_ret
  exact ⟨rfl, rfl⟩
set_option maxRecDepth 100000 in
theorem vAcos_far (w : World) {x : Nat} (hx : x < 18446744073709551616) (nx : fnan x = false) (g : (FloatKind.f64.format.order (rung x) 4607182418800017408 == some .gt) = true) : Calls Try.prog 27 #[.float .f64 x] w fun e w' => e = .returned (.float .f64 9221120237041090560) ∧ w = w' := by
  have CX := Lib.hid (fun W => isNaN_any x W)
  rw [nx] at CX
  have CA := Lib.hid (fun W => abs_any x W hx)
  obtain ⟨b, hb⟩ : ∃ b, rung x = b := ⟨_, rfl⟩
  rw [hb] at CA g
  have CQ := Lib.hid (fun W => vnan_any W)
  clear hx nx hb
  go_enter Try.func27, Try.ntmps27
  go_wp2_with fail
  refine (CX.out _).mono ?_
  rintro e w' ⟨rfl, rfl⟩
  go_wp2_with fail
  refine (CA.out _).mono ?_
  rintro e w' ⟨rfl, rfl⟩
  go_wp2_with fail
  refine (CQ.out _).mono ?_
  rintro e w' ⟨rfl, rfl⟩
  go_wp2
  go_ret
  exact ⟨rfl, rfl⟩
set_option maxRecDepth 100000 in
theorem vAcos_main (w : World) {x d a s r : Nat} (hx : x < 18446744073709551616) (nx : fnan x = false) (g : (FloatKind.f64.format.order (rung x) 4607182418800017408 == some .gt) = false) (Q : LegQ x d a s r) : Calls Try.prog 27 #[.float .f64 x] w fun e w' => e = .returned (.float .f64 (a2U r x)) ∧ w = w' := by
  have CX := Lib.hid (fun W => isNaN_any x W)
  rw [nx] at CX
  have CA := Lib.hid (fun W => abs_any x W hx)
  obtain ⟨b, hb⟩ : ∃ b, rung x = b := ⟨_, rfl⟩
  rw [hb] at CA g
  have CL := Lib.hid (fun W => side_any Q W)
  have CT := Lib.hid (fun W => vAtan2_any Q.lt hx W)
  obtain ⟨R, hR⟩ : ∃ R, a2U r x = R := ⟨_, rfl⟩
  rw [hR] at CT ⊢
  clear hx nx hb Q hR
  go_enter Try.func27, Try.ntmps27
  go_wp2_with fail
  refine (CX.out _).mono ?_
  rintro e w' ⟨rfl, rfl⟩
  go_wp2_with fail
  refine (CA.out _).mono ?_
  rintro e w' ⟨rfl, rfl⟩
  go_wp2_with fail
  refine (CL.out _).mono ?_
  rintro e w' ⟨rfl, rfl⟩
  go_wp2_with fail
  refine (CT.out _).mono ?_
  rintro e w' ⟨rfl, rfl⟩
  go_wp2
  go_ret
  exact ⟨rfl, rfl⟩
theorem gt_one {x : Nat} (nx : fnan x = false) (g : (FloatKind.f64.format.order (rung x) 4607182418800017408 == some .gt) = false) : rung x ≤ 4607182418800017408 := by
  rw [gt_frank (rung_real nx) (by omega)] at g
  have := of_decide_eq_false g
  omega
def PairTell (f v x u : Nat) : Prop := (∀ w : World, Calls Try.prog f #[.float .f64 x] w fun e w' => e = .returned (.float .f64 u) ∧ w = w') ∧ (∀ w : World, Calls Try.prog v #[.float .f64 x] w fun e w' => e = .returned (.float .f64 u) ∧ w = w')
theorem asin_both {x : Nat} (hx : x < 18446744073709551616) : ∃ u, PairTell 24 25 x u := by
  cases nx : fnan x
  · cases g : (FloatKind.f64.format.order (rung x) 4607182418800017408 == some .gt)
    · cases z : (FloatKind.f64.format.order x 0 == some .eq)
      · have h := gt_one nx g
        obtain ⟨d, a, s, r, Q⟩ := leg_q (x := x) ⟨hx, by omega⟩ h
        exact ⟨_, fun w => fAsin_main w hx nx g z Q, fun w => vAsin_main w hx nx g z Q⟩
      · exact ⟨x, fun w => fAsin_zero w hx nx g z, fun w => vAsin_zero w hx nx g z⟩
    · exact ⟨_, fun w => fAsin_far w hx nx g, fun w => vAsin_far w hx nx g⟩
  · exact ⟨_, fun w => fAsin_nan w nx, fun w => vAsin_nan w nx⟩
theorem acos_both {x : Nat} (hx : x < 18446744073709551616) : ∃ u, PairTell 26 27 x u := by
  cases nx : fnan x
  · cases g : (FloatKind.f64.format.order (rung x) 4607182418800017408 == some .gt)
    · have h := gt_one nx g
      obtain ⟨d, a, s, r, Q⟩ := leg_q (x := x) ⟨hx, by omega⟩ h
      exact ⟨_, fun w => fAcos_main w hx nx g Q, fun w => vAcos_main w hx nx g Q⟩
    · exact ⟨_, fun w => fAcos_far w hx nx g, fun w => vAcos_far w hx nx g⟩
  · exact ⟨_, fun w => fAcos_nan w nx, fun w => vAcos_nan w nx⟩
theorem arcs_any (x : Nat) (w : World) (hx : x < 18446744073709551616) : Calls Try.prog 5 #[.float .f64 x] w fun e w' => e = .returned (.bool true) ∧ Below w.heap.size w w' := by
  obtain ⟨v, hv1, hv2⟩ := asin_both hx
  obtain ⟨t, ht1, ht2⟩ := acos_both hx
  have D1 := Lib.hid (fun W => fAtan_any hx W)
  have D2 := Lib.hid (fun W => vAtan_any hx W)
  obtain ⟨u, hu⟩ : ∃ u, atU x = u := ⟨_, rfl⟩
  rw [hu] at D1 D2
  have C5 := Lib.hid (fun x W => same_any x W)
  have C6 := Lib.hid (fun W => awake_any W)
  have D3 := Lib.hid hv1
  have D4 := Lib.hid hv2
  have D5 := Lib.hid ht1
  have D6 := Lib.hid ht2
  have B := Below.refl w.heap.size w
  clear hv1 hv2 ht1 ht2 hx hu
  go_enter Try.func5, Try.ntmps5
  go_wp2_with fail
  refine (D1.out _).mono ?_
  rintro e w' ⟨rfl, rfl⟩
  go_wp2_with fail
  refine (D2.out _).mono ?_
  rintro e w' ⟨rfl, rfl⟩
  go_wp2_with fail
  refine (C5.out _ _).mono ?_
  rintro e w' ⟨rfl, rfl⟩
  go_wp2_with fail
  refine (D3.out _).mono ?_
  rintro e w' ⟨rfl, rfl⟩
  go_wp2_with fail
  refine (D4.out _).mono ?_
  rintro e w' ⟨rfl, rfl⟩
  go_wp2_with fail
  refine (C5.out _ _).mono ?_
  rintro e w' ⟨rfl, rfl⟩
  go_wp2_with fail
  refine (D5.out _).mono ?_
  rintro e w' ⟨rfl, rfl⟩
  go_wp2_with fail
  refine (D6.out _).mono ?_
  rintro e w' ⟨rfl, rfl⟩
  go_wp2_with fail
  refine (C5.out _ _).mono ?_
  rintro e w' ⟨rfl, rfl⟩
  go_wp2_with fail
  refine (C6.out _).mono ?_
  rintro e w' ⟨rfl, rfl⟩
  go_wp2
  go_ret
  exact ⟨rfl, B⟩
theorem points_any (y x : Nat) (w : World) (hy : y < 18446744073709551616) (hx : x < 18446744073709551616) : Calls Try.prog 6 #[.float .f64 y, .float .f64 x] w fun e w' => e = .returned (.bool true) ∧ Below w.heap.size w w' := by
  have D1 := Lib.hid (fun W => fAtan2_any hy hx W)
  have D2 := Lib.hid (fun W => vAtan2_any hy hx W)
  obtain ⟨u, hu⟩ : ∃ u, a2U y x = u := ⟨_, rfl⟩
  rw [hu] at D1 D2
  have C5 := Lib.hid (fun x W => same_any x W)
  have C6 := Lib.hid (fun W => awake_any W)
  have B := Below.refl w.heap.size w
  clear hx hy hu
  go_enter Try.func6, Try.ntmps6
  go_wp2_with fail
  refine (D1.out _).mono ?_
  rintro e w' ⟨rfl, rfl⟩
  go_wp2_with fail
  refine (D2.out _).mono ?_
  rintro e w' ⟨rfl, rfl⟩
  go_wp2_with fail
  refine (C5.out _ _).mono ?_
  rintro e w' ⟨rfl, rfl⟩
  go_wp2_with fail
  refine (C6.out _).mono ?_
  rintro e w' ⟨rfl, rfl⟩
  go_wp2
  go_ret
  exact ⟨rfl, B⟩
end Go.Proofs.Ytbinpcoaghpcdaa
